/- appendCuts of the program: walked. -/
import Derived.Test.YtndffcogddefiaaDfGrow
import Derived.Lib.SlBuf
namespace Go.Proofs.Ytndffcogddefiaa
open Go.RowKit Go.Deep
theorem ba_inj {a b : ByteArray} (h : a.toList = b.toList) : a = b := by
  rw [ByteArray.toList_eq, ByteArray.toList_eq] at h
  obtain ⟨⟨l⟩⟩ := a
  obtain ⟨⟨m⟩⟩ := b
  simpa using h
theorem pos_more {α : Type} {cnt : α → Nat} {xs : List α} (h1 : ∀ x ∈ xs, 1 ≤ cnt x) : ∀ k i, i + k ≤ xs.length → pos cnt xs i + k ≤ pos cnt xs (i + k) := by
  intro k
  induction k with
  | zero => intro i _; exact Nat.le_refl _
  | succ k ih =>
    intro i hi
    have h := ih i (by omega)
    have h2 := h1 (xs[i + k]'(by omega)) (List.getElem_mem _)
    rw [show i + (k + 1) = (i + k) + 1 from rfl, pos_succ (show i + k < xs.length by omega)]
    omega
theorem renJ_len (a b : TD) (p : List Int) : (renJ a b p).length ≤ 1 := by unfold renJ; split <;> simp
theorem cutJ_len {n : Nat} (ih : ∀ (a b : TD) (p : List Int), (cutsD n a b p).length ≤ cntTree (n + 1) a) (a b : TD) (p : List Int) : ∀ j, j ≤ (kidsOf a).length → (cutJ (cutsD n) a b p j).length ≤ pos (cntTree (n + 1)) (kidsOf a) j := by
  intro j
  induction j with
  | zero => intro _; rw [cutJ_zero, pos_zero]; exact Nat.le_refl _
  | succ j ihj =>
    intro hj
    rw [cutJ_succ, List.length_append, pos_succ (by omega), nth_get (show j < (kidsOf a).length by omega)]
    have h1 := ihj (by omega)
    have h2 := ih (kidsOf a)[j] (nth (kidsOf b) j) (p ++ [(j : Int)])
    omega
theorem cut_room {n : Nat} (a b : TD) {j : Nat} (hj : j ≤ min (kidsOf a).length (kidsOf b).length) : pos (cntTree (n + 1)) (kidsOf a) j + ((kidsOf a).length - (kidsOf b).length) ≤ cntL (cntTree (n + 1)) (kidsOf a) := by
  have h1 := pos_le (cnt := cntTree (n + 1)) (xs := kidsOf a) hj (Nat.min_le_left _ _)
  have h2 := pos_more (cnt := cntTree (n + 1)) (xs := kidsOf a) (fun x _ => cntTree_pos n x) ((kidsOf a).length - (kidsOf b).length) (min (kidsOf a).length (kidsOf b).length) (by omega)
  have h3 : min (kidsOf a).length (kidsOf b).length + ((kidsOf a).length - (kidsOf b).length) = (kidsOf a).length := by omega
  rw [h3] at h2
  unfold cntL
  omega
theorem cutsD_len : ∀ (n : Nat) (a b : TD) (p : List Int), (cutsD n a b p).length ≤ cntTree (n + 1) a := by
  intro n
  induction n with
  | zero => intro a b p; exact Nat.zero_le _
  | succ n ih =>
    intro a b p
    show (renJ a b p ++ delJ p _ _ ++ cutJ (cutsD n) a b p _).length ≤ 1 + cntL (cntTree (n + 1)) (kidsOf a)
    have h1 := cutJ_len ih a b p _ (Nat.min_le_left (kidsOf a).length (kidsOf b).length)
    have h2 := cut_room (n := n) a b (Nat.le_refl (min (kidsOf a).length (kidsOf b).length))
    have h3 := renJ_len a b p
    rw [List.length_append, List.length_append, delJ_len]
    omega
def CuI (w0 : World) (lo base m : Nat) (n : Nat) : Prop := ∀ (w wg : World) (ta ka tb kb kp vout : Value) (a b : TD) (p : List Int) (fp : List Nat) (xs : List EditD) (bss : List (List Nat)) (css : List (List Value)), TreeAt w0 lo n ta ka a → TreeAt w0 lo n tb kb b → RightT a → RightT b → Below w0.heap.size w0 w → w0.heap.size ≤ base → base ≤ wg.heap.size → n ≤ m →
    GrowOwn 29 5 (EditO m) base wg vout xs bss css → Below wg.heap.size wg w → SeqOwn 1 IntOwn w kp p fp → (∀ x ∈ fp, wg.heap.size ≤ x) → p.length + cntTree (n + 1) a ≤ 100000 → xs.length + cntTree (n + 1) a ≤ 100000 →
    Calls Try.prog 44 #[vout, kp, .agg #[ta, ka], .agg #[tb, kb]] w fun e w' => DfAns base m w w' vout e (xs ++ cutsD n a b p)
set_option maxRecDepth 100000 in
set_option maxHeartbeats 8000000 in
theorem cuI_step {w0 : World} {lo base m : Nat} (n : Nat) (ih0 : CuI w0 lo base m n) : CuI w0 lo base m (n + 1) := by
  intro w wg ta ka tb kb kp vout a b p fp xs bss css hta htb hRa hRb hB0 hbase hbg hnm hgr hbw hp hlo hpl hxl
  obtain ⟨rfl, _⟩ := hta.tag
  obtain ⟨_, aA, cA, rfl⟩ := hta.form
  obtain ⟨rfl, htg0⟩ := htb.tag
  obtain ⟨_, aB, cB, rfl⟩ := htb.form
  have htg : Hid ((strT b).size ≤ maxLen) := htg0
  have ih : Hid (CuI w0 lo base m n) := ih0
  have hta0 : Hid (TreeAt w0 lo (n + 1) (.string (strT a)) (.slice aA (kidsOf a).length cA) a) := hta
  have htb0 : Hid (TreeAt w0 lo (n + 1) (.string (strT b)) (.slice aB (kidsOf b).length cB) b) := htb
  have hRa' : Hid (RightT a) := hRa
  have hRb' : Hid (RightT b) := hRb
  have hfewa : (kidsOf a).length ≤ 30 := hRa.few
  have hfewb : (kidsOf b).length ≤ 30 := hRb.few
  have hvlt : Hid (∀ g, vout.ownBlock = some g → base ≤ g ∧ g < wg.heap.size) := fun g e => ⟨own_block2 hgr.2.2.2.1 g e, row_lt hgr.2.2.2.1 g e⟩
  have hwgw := hbw.size
  have hz0 := hB0.size
  have hcT : Hid (cntTree (n + 1 + 1) a = 1 + cntL (cntTree (n + 1)) (kidsOf a)) := rfl
  obtain ⟨iT, hiT0, heT0, heT1, heT2⟩ := info_parts infoEdF
  have hiT : Hid (Try.prog.info? 29 = some iT) := hiT0
  have heT : Hid (iT.zero = some (.agg #[.int .i64 0, .slice none 0 0, .string ByteArray.empty, .string ByteArray.empty, .slice none 0 0]) ∧ iT.size = 5 ∧ iT.bytes = 88) := ⟨heT0, heT1, heT2⟩
  clear hiT0 heT0 heT1 heT2
  have hpl1 : p.length ≤ 100000 := by omega
  obtain ⟨av, capv, rfl⟩ := hgr.len
  obtain ⟨apk, capk, rfl⟩ := hp.form
  have hv9 : Hid (∀ g, (Value.slice av xs.length capv).ownBlock = some g → w0.heap.size ≤ g ∧ g < w.heap.size ∧ ∀ x ∈ fp, x ≠ g) := fun g e => ⟨by have := (hvlt.out g e).1; omega, by have := (hvlt.out g e).2; omega, fun x hx => by have := (hvlt.out g e).2; have := hlo x hx; omega⟩
  have hfp9 : Hid (∀ x ∈ fp, x < w.heap.size) := hp.lt intOwn_lt
  have hb2 : Below w.heap.size w ((w.alloc (.cells #[.string (strT a), .slice aA (kidsOf a).length cA] 26)).alloc (.cells #[.string (strT b), .slice aB (kidsOf b).length cB] 26)) := ((Below.refl _ _).alloc (Nat.le_refl _) _).alloc (by simp) _
  have hgs0 : Hid (Gs 29 base m w0 w ((w.alloc (.cells #[.string (strT a), .slice aA (kidsOf a).length cA] 26)).alloc (.cells #[.string (strT b), .slice aB (kidsOf b).length cB] 26)) (.slice av xs.length capv) (.slice av xs.length capv) xs [.string (strT a), .slice aA (kidsOf a).length cA] [.string (strT b), .slice aB (kidsOf b).length cB] 26 (.slice apk p.length capk) p fp) := ⟨⟨bss, css, hgr.below (EditO_stays m) (hbw.trans (hb2.mono hwgw))⟩, grown_ofB hb2, Or.inl rfl, (Box.new w [.string (strT a), .slice aA (kidsOf a).length cA] 26).alloc _, (by have q := Box.new (w.alloc (.cells #[.string (strT a), .slice aA (kidsOf a).length cA] 26)) [.string (strT b), .slice aB (kidsOf b).length cB] 26; simpa only [World.size_alloc] using q), hp.stays intOwn_stays (fun x hx => hb2.block x (hp.lt intOwn_lt x hx)), hB0.trans (hb2.mono hz0)⟩
  have s2 : Hid (((w.alloc (.cells #[.string (strT a), .slice aA (kidsOf a).length cA] 26)).alloc (.cells #[.string (strT b), .slice aB (kidsOf b).length cB] 26)).heap.size = w.heap.size + 2) := by simp [Hid]
  have hbw2 : base ≤ w.heap.size := by omega
  clear ih0 hta htb hRa hRb hB0 hgr hbw hp hlo hb2
  have c0 := hgs0.out.2.2.2.1.cell 0 rfl
  have c1 := hgs0.out.2.2.2.1.cell 1 rfl
  have d0 := hgs0.out.2.2.2.2.1.cell 0 rfl
  have d1 := hgs0.out.2.2.2.2.1.cell 1 rfl
  go_enter Try.func44, Try.ntmps44
  go_upto_if 15 with fail
  generalize hWR : ((w.alloc (.cells #[.string (strT a), .slice aA (kidsOf a).length cA] 26)).alloc (.cells #[.string (strT b), .slice aB (kidsOf b).length cB] 26)) = wr at hgs0 s2 c0 c1 d0 d1 ⊢
  clear hWR c0 d0 c1 d1
  go_cut [0] from 11 (fun v wx => ∃ (avj : Option Addr) (capj : Nat) (ys : List EditD), v = .slice avj ys.length capj ∧ Hid (ys = xs ++ renJ a b p) ∧ Hid (Gs 29 base m w0 w wx (.slice av xs.length capv) (.slice avj ys.length capj) ys [.string (strT a), .slice aA (kidsOf a).length cA] [.string (strT b), .slice aB (kidsOf b).length cB] 26 (.slice apk p.length capk) p fp) ∧ w.heap.size + 2 ≤ wx.heap.size)
  case first =>
    have hs2' := s2.out
    by_cases htq : strT a = strT b
    · have hq1 : (!((strT a).toList == (strT b).toList)) = false := by rw [htq]; simp
      rw [hq1]
      go_wp2_with fail
      go_meet
      exact ⟨av, capv, xs, rfl, (by show _ = _; unfold renJ; rw [if_pos htq, List.append_nil]), hgs0, by omega⟩
    · have hq0 : (strT a).toList ≠ (strT b).toList := fun e => htq (ba_inj e)
      have hq1 : (!((strT a).toList == (strT b).toList)) = true := by simpa using hq0
      rw [hq1]
      clear hq0
      have d0 := hgs0.out.2.2.2.2.1.cell 0 rfl
      go_wp2_with fail
      refine (editRen_n (lo := 0) (path := p) (tag := strT b) (hgs0.out.2.2.2.2.2.1.at intOwn_at (fun _ _ => Nat.zero_le _)) (by omega) htg.out).mono ?_
      rintro e1 w6 ⟨cs9, fs9, rfl, ho9, lo9, hb6⟩
      have hb6h : Hid (Below wr.heap.size wr w6) := hb6
      clear hb6 d0
      obtain ⟨p9, d9, a9, c9, rfl, _, _, _⟩ := (EditO_at (lo := 0) ho9 (fun _ _ => Nat.zero_le _)).form
      have ho9h : Hid (EditO 1 w6 [.int .i64 (renE p (strT b)).vKind, .slice p9 (renE p (strT b)).vPath.length d9, .string (renE p (strT b)).vTag, .string (strT (renE p (strT b)).vTree), .slice a9 (kidsOf (renE p (strT b)).vTree).length c9] (renE p (strT b)) fs9) := ho9
      have lo9h : Hid (∀ x ∈ fs9, wr.heap.size ≤ x) := lo9
      have hgs6 : Hid (Gs 29 base m w0 w w6 (.slice av xs.length capv) (.slice av xs.length capv) xs [.string (strT a), .slice aA (kidsOf a).length cA] [.string (strT b), .slice aB (kidsOf b).length cB] 26 (.slice apk p.length capk) p fp) := hgs0.out.below hb6h.out
      have b57 : Hid (Below wr.heap.size wr (w6.alloc (.cells #[.int .i64 (renE p (strT b)).vKind, .slice p9 (renE p (strT b)).vPath.length d9, .string (renE p (strT b)).vTag, .string (strT (renE p (strT b)).vTree), .slice a9 (kidsOf (renE p (strT b)).vTree).length c9] 29))) := hb6h.out.alloc hb6h.out.size _
      have hnw : Hid (∀ i u, ([.int .i64 (renE p (strT b)).vKind, .slice p9 (renE p (strT b)).vPath.length d9, .string (renE p (strT b)).vTag, .string (strT (renE p (strT b)).vTree), .slice a9 (kidsOf (renE p (strT b)).vTree).length c9] : List Value)[i]? = some u → (w6.alloc (.cells #[.int .i64 (renE p (strT b)).vKind, .slice p9 (renE p (strT b)).vPath.length d9, .string (renE p (strT b)).vTag, .string (strT (renE p (strT b)).vTree), .slice a9 (kidsOf (renE p (strT b)).vTree).length c9] 29)).cell? ((⟨w6.heap.size, 0, none⟩ : Addr).add i) = some u) := fun i u hu => by rw [add_lit, Nat.zero_add]; exact (Box.new w6 [.int .i64 (renE p (strT b)).vKind, .slice p9 (renE p (strT b)).vPath.length d9, .string (renE p (strT b)).vTag, .string (strT (renE p (strT b)).vTree), .slice a9 (kidsOf (renE p (strT b)).vTree).length c9] 29).cell i hu
      have hone : Hid (∀ u ∈ ([.int .i64 (renE p (strT b)).vKind, .slice p9 (renE p (strT b)).vPath.length d9, .string (renE p (strT b)).vTag, .string (strT (renE p (strT b)).vTree), .slice a9 (kidsOf (renE p (strT b)).vTree).length c9] : List Value), u.oneCell' = true) := by intro u hu; simp only [List.mem_cons, List.not_mem_nil, or_false] at hu; rcases hu with rfl | rfl | rfl | rfl | rfl <;> rfl
      have hr7 : Hid (EditO m (w6.alloc (.cells #[.int .i64 (renE p (strT b)).vKind, .slice p9 (renE p (strT b)).vPath.length d9, .string (renE p (strT b)).vTag, .string (strT (renE p (strT b)).vTree), .slice a9 (kidsOf (renE p (strT b)).vTree).length c9] 29)) [.int .i64 (renE p (strT b)).vKind, .slice p9 (renE p (strT b)).vPath.length d9, .string (renE p (strT b)).vTag, .string (strT (renE p (strT b)).vTree), .slice a9 (kidsOf (renE p (strT b)).vTree).length c9] (renE p (strT b)) fs9) := EditO_mono (by omega) (EditO_stays 1 _ _ _ _ _ (fun x hx => Below.heap_alloc _ _ _ (EditO_lt _ _ _ _ _ ho9h.out x hx)) ho9h.out)
      obtain ⟨⟨bs5, cs5, hg5⟩, _⟩ := hgs0.out
      clear ho9 lo9
      go_wp2_with (at_builtin; refine wpList_append_grow2 (EditO_stays m) rfl _ _ 44 rfl base iT _ 88 Try.underlying44 hiT.out heT.out.1 heT.out.2.1 heT.out.2.2 rfl (by decide) (w := wr) (w2 := (w6.alloc (.cells #[.int .i64 (renE p (strT b)).vKind, .slice p9 (renE p (strT b)).vPath.length d9, .string (renE p (strT b)).vTag, .string (strT (renE p (strT b)).vTree), .slice a9 (kidsOf (renE p (strT b)).vTree).length c9] 29))) (v := .slice av xs.length capv) (xs := xs) rfl hg5 b57.out (by omega) ⟨w6.heap.size, 0, none⟩ 1 (cs := [.int .i64 (renE p (strT b)).vKind, .slice p9 (renE p (strT b)).vPath.length d9, .string (renE p (strT b)).vTag, .string (strT (renE p (strT b)).vTree), .slice a9 (kidsOf (renE p (strT b)).vTree).length c9]) (y := (renE p (strT b))) (fs := fs9) rfl rfl hnw.out hone.out hr7.out (EditO_nodup hr7.out) lo9h.out (EditO_lt _ _ _ _ _ hr7.out) (by unfold maxLen; omega) (by omega) ?_; intro g8 cap8 w8 hg8 hgr8 _ hat8; have hx8 : Hid (∃ bss css, GrowOwn 29 5 (EditO m) base w8 (.slice (some ⟨g8, 0, none⟩) (xs.length + 1) cap8) (xs ++ [(renE p (strT b))]) bss css) := ⟨_, _, hg8⟩; have hgs8 : Hid (Gs 29 base m w0 w w8 (.slice av xs.length capv) (.slice (some ⟨g8, 0, none⟩) (xs.length + 1) cap8) (xs ++ [(renE p (strT b))]) [.string (strT a), .slice aA (kidsOf a).length cA] [.string (strT b), .slice aB (kidsOf b).length cB] 26 (.slice apk p.length capk) p fp) := (hgs6.out.below ((Below.refl _ _).alloc (Nat.le_refl _) _)).grow hv9.out hfp9.out hz0 (by have h2 := hb6h.out.size; simp only [World.size_alloc]; omega) hgr8 hx8.out (by rcases hat8 with q | q; (exact Or.inl q.symm); (exact Or.inr ⟨g8, rfl, by omega⟩)); have hs8 : w.heap.size + 2 ≤ w8.heap.size := (by have h1 := hgr8.size; have h2 := hb6h.out.size; simp only [World.size_alloc] at h1; omega); clear hg8 hgr8 hat8 hg5 hx8 b57 hnw hone hr7)
      go_wp2_with fail
      go_meet
      exact ⟨some ⟨g8, 0, none⟩, cap8, xs ++ [renE p (strT b)], by rw [List.length_append, List.length_singleton], (by show _ = _; unfold renJ; rw [if_neg htq]), (by have q := hgs8.out; show Gs _ _ _ _ _ _ _ _ _ _ _ _ _ _ _; rw [List.length_append, List.length_singleton]; exact q), by omega⟩
  case rest =>
    obtain ⟨av1, cap1, ys1, rfl, hys1, hgs1, hsz1⟩ := hcut
    have c1 := hgs1.out.2.2.2.1.cell 1 rfl
    have d1 := hgs1.out.2.2.2.2.1.cell 1 rfl
    have hwl : IntKind.i64.wrap (((kidsOf a).length : Int) - 1) = ((kidsOf a).length : Int) - 1 := by rw [IntKind.wrap_i64]; omega
    have hren := renJ_len a b p
    clear hgs0 s2
    go_wp2_with fail
    clear c1 d1 hwl
    go_loopw [0, 9] (fun v i wr => ∃ (j : Nat) (avj : Option Addr) (capj : Nat) (ys : List EditD), j ≤ (kidsOf a).length - (kidsOf b).length ∧ i = .int .i64 (((kidsOf a).length : Int) - 1 - (j : Int)) ∧ v = .slice avj ys.length capj ∧ Hid (ys = xs ++ renJ a b p ++ delJ p (kidsOf a).length j) ∧ Hid (Gs 29 base m w0 w wr (.slice av xs.length capv) (.slice avj ys.length capj) ys [.string (strT a), .slice aA (kidsOf a).length cA] [.string (strT b), .slice aB (kidsOf b).length cB] 26 (.slice apk p.length capk) p fp) ∧ w.heap.size + 2 ≤ wr.heap.size) (fun _ i _ => (intOf i + 1).toNat)
    case atStart => exact ⟨0, av1, cap1, ys1, Nat.zero_le _, by simp, rfl, (by show _ = _; rw [delJ_zero, List.append_nil]; exact hys1.out), hgs1, hsz1⟩
    case round =>
      obtain ⟨j, avj, capj, ys, hj, rfl, rfl, hys, hgs, hsz⟩ := hrel
      have d1 := hgs.out.2.2.2.2.1.cell 1 rfl
      by_cases hlt : j < (kidsOf a).length - (kidsOf b).length
      · obtain ⟨q, hq⟩ : ∃ q : Nat, (kidsOf a).length - 1 - j = q := ⟨_, rfl⟩
        have hqI : ((kidsOf a).length : Int) - 1 - (j : Int) = (q : Int) := by omega
        have hge : (((kidsOf b).length : Int) ≤ (q : Int)) := by omega
        have hw1 : IntKind.i64.wrap ((q : Int) - 1) = (q : Int) - 1 := by rw [IntKind.wrap_i64]; omega
        obtain ⟨pj, hpj⟩ : ∃ pj : List Int, p ++ [(q : Int)] = pj := ⟨_, rfl⟩
        have hpjl : pj.length ≤ 1048576 := by rw [← hpj]; simp; omega
        have hpjh : Hid (p ++ [(q : Int)] = pj) := hpj
        have hDJ : Hid (delJ p (kidsOf a).length (j + 1) = delJ p (kidsOf a).length j ++ [delE pj]) := by show _ = _; rw [← hpj, ← hq]; exact delJ_succ _ _ _
        have hyl : ys.length ≤ 100000 := by rw [hys.out, List.length_append, List.length_append, delJ_len]; have := cut_room (n := n) a b (j := 0) (Nat.zero_le _); have := hcT.out; omega
        have hrl : Hid (∀ g, (Value.slice avj ys.length capj).ownBlock = some g → g < wr.heap.size) := by obtain ⟨_, _, hgw⟩ := hgs.out.1; exact row_lt hgw.2.2.2.1
        clear hpj hq
        rw [hqI]
        go_wp2_with fail
        refine (pathTo_any (lo := 0) (p := p) (hgs.out.2.2.2.2.2.1.at intOwn_at (fun _ _ => Nat.zero_le _)) (by omega) (by unfold InI; omega)).mono ?_
        rintro e1 w5 ⟨⟨v5, rfl, f5, o5, n5, l5⟩, hb5⟩
        rw [hpjh.out] at o5
        obtain ⟨a5, c5, rfl⟩ := o5.form
        have hb5h : Hid (Below wr.heap.size wr w5) := hb5
        have o5h : Hid (SeqOwn 1 IntOwn w5 (.slice a5 pj.length c5) pj f5) := o5
        have hgs5 : Hid (Gs 29 base m w0 w w5 (.slice av xs.length capv) (.slice avj ys.length capj) ys [.string (strT a), .slice aA (kidsOf a).length cA] [.string (strT b), .slice aB (kidsOf b).length cB] 26 (.slice apk p.length capk) p fp) := hgs.out.below hb5h.out
        have hs5 := hb5.size
        clear o5 n5 l5 hb5 d1
        go_wp2_with fail
        refine (editDel_n (lo := 0) (path := pj) (o5h.out.at intOwn_at (fun _ _ => Nat.zero_le _)) hpjl).mono ?_
        rintro e1 w6 ⟨cs9, fs9, rfl, ho9, lo9, hb6⟩
        have hb6h : Hid (Below w5.heap.size w5 w6) := hb6
        clear hb6
        obtain ⟨p9, d9, a9, c9, rfl, _, _, _⟩ := (EditO_at (lo := 0) ho9 (fun _ _ => Nat.zero_le _)).form
        have ho9h : Hid (EditO 1 w6 [.int .i64 (delE pj).vKind, .slice p9 (delE pj).vPath.length d9, .string (delE pj).vTag, .string (strT (delE pj).vTree), .slice a9 (kidsOf (delE pj).vTree).length c9] (delE pj) fs9) := ho9
        have lo9h : Hid (∀ x ∈ fs9, w5.heap.size ≤ x) := lo9
        have hgs6 : Hid (Gs 29 base m w0 w w6 (.slice av xs.length capv) (.slice avj ys.length capj) ys [.string (strT a), .slice aA (kidsOf a).length cA] [.string (strT b), .slice aB (kidsOf b).length cB] 26 (.slice apk p.length capk) p fp) := hgs5.out.below hb6h.out
        have b57 : Hid (Below w5.heap.size w5 (w6.alloc (.cells #[.int .i64 (delE pj).vKind, .slice p9 (delE pj).vPath.length d9, .string (delE pj).vTag, .string (strT (delE pj).vTree), .slice a9 (kidsOf (delE pj).vTree).length c9] 29))) := hb6h.out.alloc hb6h.out.size _
        have hnw : Hid (∀ i u, ([.int .i64 (delE pj).vKind, .slice p9 (delE pj).vPath.length d9, .string (delE pj).vTag, .string (strT (delE pj).vTree), .slice a9 (kidsOf (delE pj).vTree).length c9] : List Value)[i]? = some u → (w6.alloc (.cells #[.int .i64 (delE pj).vKind, .slice p9 (delE pj).vPath.length d9, .string (delE pj).vTag, .string (strT (delE pj).vTree), .slice a9 (kidsOf (delE pj).vTree).length c9] 29)).cell? ((⟨w6.heap.size, 0, none⟩ : Addr).add i) = some u) := fun i u hu => by rw [add_lit, Nat.zero_add]; exact (Box.new w6 [.int .i64 (delE pj).vKind, .slice p9 (delE pj).vPath.length d9, .string (delE pj).vTag, .string (strT (delE pj).vTree), .slice a9 (kidsOf (delE pj).vTree).length c9] 29).cell i hu
        have hone : Hid (∀ u ∈ ([.int .i64 (delE pj).vKind, .slice p9 (delE pj).vPath.length d9, .string (delE pj).vTag, .string (strT (delE pj).vTree), .slice a9 (kidsOf (delE pj).vTree).length c9] : List Value), u.oneCell' = true) := by intro u hu; simp only [List.mem_cons, List.not_mem_nil, or_false] at hu; rcases hu with rfl | rfl | rfl | rfl | rfl <;> rfl
        have hr7 : Hid (EditO m (w6.alloc (.cells #[.int .i64 (delE pj).vKind, .slice p9 (delE pj).vPath.length d9, .string (delE pj).vTag, .string (strT (delE pj).vTree), .slice a9 (kidsOf (delE pj).vTree).length c9] 29)) [.int .i64 (delE pj).vKind, .slice p9 (delE pj).vPath.length d9, .string (delE pj).vTag, .string (strT (delE pj).vTree), .slice a9 (kidsOf (delE pj).vTree).length c9] (delE pj) fs9) := EditO_mono (by omega) (EditO_stays 1 _ _ _ _ _ (fun x hx => Below.heap_alloc _ _ _ (EditO_lt _ _ _ _ _ ho9h.out x hx)) ho9h.out)
        obtain ⟨⟨bs5, cs5, hg5⟩, _⟩ := hgs5.out
        clear ho9 lo9
        go_wp2_with (at_builtin; refine wpList_append_grow2 (EditO_stays m) rfl _ _ 44 rfl base iT _ 88 Try.underlying44 hiT.out heT.out.1 heT.out.2.1 heT.out.2.2 rfl (by decide) (w := w5) (w2 := (w6.alloc (.cells #[.int .i64 (delE pj).vKind, .slice p9 (delE pj).vPath.length d9, .string (delE pj).vTag, .string (strT (delE pj).vTree), .slice a9 (kidsOf (delE pj).vTree).length c9] 29))) (v := .slice avj ys.length capj) (xs := ys) rfl hg5 b57.out (by omega) ⟨w6.heap.size, 0, none⟩ 1 (cs := [.int .i64 (delE pj).vKind, .slice p9 (delE pj).vPath.length d9, .string (delE pj).vTag, .string (strT (delE pj).vTree), .slice a9 (kidsOf (delE pj).vTree).length c9]) (y := (delE pj)) (fs := fs9) rfl rfl hnw.out hone.out hr7.out (EditO_nodup hr7.out) lo9h.out (EditO_lt _ _ _ _ _ hr7.out) (by unfold maxLen; omega) (by omega) ?_; intro g8 cap8 w8 hg8 hgr8 _ hat8; have hx8 : Hid (∃ bss css, GrowOwn 29 5 (EditO m) base w8 (.slice (some ⟨g8, 0, none⟩) (ys.length + 1) cap8) (ys ++ [(delE pj)]) bss css) := ⟨_, _, hg8⟩; have hgs8 : Hid (Gs 29 base m w0 w w8 (.slice av xs.length capv) (.slice (some ⟨g8, 0, none⟩) (ys.length + 1) cap8) (ys ++ [(delE pj)]) [.string (strT a), .slice aA (kidsOf a).length cA] [.string (strT b), .slice aB (kidsOf b).length cB] 26 (.slice apk p.length capk) p fp) := (hgs6.out.below ((Below.refl _ _).alloc (Nat.le_refl _) _)).grow hv9.out hfp9.out hz0 (by have h2 := hb6h.out.size; simp only [World.size_alloc]; omega) hgr8 hx8.out (by rcases hat8 with q | q; (exact Or.inl q.symm); (exact Or.inr ⟨g8, rfl, by omega⟩)); have hs8 : w.heap.size + 2 ≤ w8.heap.size := (by have h1 := hgr8.size; have h2 := hb6h.out.size; simp only [World.size_alloc] at h1; omega); clear hg8 hgr8 hat8 hg5 hx8 b57 hnw hone hr7)
        go_wp2_with fail
        go_roundw
        case rel =>
          refine ⟨j + 1, some ⟨g8, 0, none⟩, cap8, ys ++ [delE pj], by omega, ?_, by rw [List.length_append, List.length_singleton], ?_, ?_, by omega⟩
          · rw [show ((kidsOf a).length : Int) - 1 - ((j + 1 : Nat) : Int) = (q : Int) - 1 by omega]
          · show _ = _; rw [hDJ.out, hys.out]; simp only [List.append_assoc]
          · have q := hgs8.out; show Gs _ _ _ _ _ _ _ _ _ _ _ _ _ _ _; rw [List.length_append, List.length_singleton]; exact q
        case measure => simp [intOf]
      · obtain rfl : j = (kidsOf a).length - (kidsOf b).length := by omega
        have hnge : ¬ (((kidsOf b).length : Int) ≤ ((kidsOf a).length : Int) - 1 - (((kidsOf a).length - (kidsOf b).length : Nat) : Int)) := by omega
        have c1 := hgs.out.2.2.2.1.cell 1 rfl
        go_wp2_with fail
        clear c1 d1
        go_loopw [0, 50] (fun v i wr => ∃ (j : Nat) (avj : Option Addr) (capj : Nat) (ys : List EditD), j ≤ min (kidsOf a).length (kidsOf b).length ∧ i = .int .i64 j ∧ v = .slice avj ys.length capj ∧ Hid (ys = xs ++ renJ a b p ++ delJ p (kidsOf a).length ((kidsOf a).length - (kidsOf b).length) ++ cutJ (cutsD n) a b p j) ∧ Hid (Gs 29 base m w0 w wr (.slice av xs.length capv) (.slice avj ys.length capj) ys [.string (strT a), .slice aA (kidsOf a).length cA] [.string (strT b), .slice aB (kidsOf b).length cB] 26 (.slice apk p.length capk) p fp) ∧ w.heap.size + 2 ≤ wr.heap.size) (fun _ i _ => min (kidsOf a).length (kidsOf b).length - (intOf i).toNat)
        case atStart => exact ⟨0, avj, capj, ys, Nat.zero_le _, rfl, rfl, (by show _ = _; rw [cutJ_zero, List.append_nil]; exact hys.out), hgs, hsz⟩
        case round =>
          obtain ⟨j, avj, capj, ys, hj, rfl, rfl, hys, hgs, hsz⟩ := hrel
          by_cases hlt : j < min (kidsOf a).length (kidsOf b).length
          · have hla : j < (kidsOf a).length := by omega
            have hlb : j < (kidsOf b).length := by omega
            have hlaI : (j : Int) < ((kidsOf a).length : Int) := by omega
            have hlbI : (j : Int) < ((kidsOf b).length : Int) := by omega
            have hj0 : (0 : Int) ≤ (j : Int) := by omega
            obtain ⟨ba, oa, t2, k2, rfl, hba0, ka0', ka1', htx⟩ := hta0.out.kid (p := j) hla
            obtain ⟨rfl, _⟩ := htx.tag
            obtain ⟨_, aX, cX, rfl⟩ := htx.form
            obtain ⟨bb, ob, t3, k3, rfl, hbb0, kb0', kb1', hty⟩ := htb0.out.kid (p := j) hlb
            obtain ⟨rfl, _⟩ := hty.tag
            obtain ⟨_, aY, cY, rfl⟩ := hty.form
            obtain ⟨pj, hpj⟩ : ∃ pj : List Int, p ++ [(j : Int)] = pj := ⟨_, rfl⟩
            have hpjl : pj.length ≤ 1048576 := by rw [← hpj]; simp; omega
            have hpjh : Hid (p ++ [(j : Int)] = pj) := hpj
            have hCJ : Hid (cutJ (cutsD n) a b p (j + 1) = cutJ (cutsD n) a b p j ++ cutsD n (nth (kidsOf a) j) (nth (kidsOf b) j) pj) := by show _ = _; rw [← hpj]; exact cutJ_succ _ _ _ _ _
            have hRX : Hid (RightT (nth (kidsOf a) j)) := hRa'.out.nth hla
            have hRY : Hid (RightT (nth (kidsOf b) j)) := hRb'.out.nth hlb
            have hX0 : Hid (TreeAt w0 lo n (.string (strT (nth (kidsOf a) j))) (.slice aX (kidsOf (nth (kidsOf a) j)).length cX) (nth (kidsOf a) j)) := htx
            have hY0 : Hid (TreeAt w0 lo n (.string (strT (nth (kidsOf b) j))) (.slice aY (kidsOf (nth (kidsOf b) j)).length cY) (nth (kidsOf b) j)) := hty
            have hba : Hid (ba < w0.heap.size) := hba0
            have hbb : Hid (bb < w0.heap.size) := hbb0
            have ka0 : Hid (w0.cell? ⟨ba, oa + j * 2, none⟩ = some (.string (strT (nth (kidsOf a) j)))) := ka0'
            have ka1 : Hid (w0.cell? ⟨ba, oa + j * 2 + 1, none⟩ = some (.slice aX (kidsOf (nth (kidsOf a) j)).length cX)) := ka1'
            have kb0 : Hid (w0.cell? ⟨bb, ob + j * 2, none⟩ = some (.string (strT (nth (kidsOf b) j)))) := kb0'
            have kb1 : Hid (w0.cell? ⟨bb, ob + j * 2 + 1, none⟩ = some (.slice aY (kidsOf (nth (kidsOf b) j)).length cY)) := kb1'
            have hcnt : Hid (ys.length + cntTree (n + 1) (nth (kidsOf a) j) ≤ 100000 ∧ pj.length + cntTree (n + 1) (nth (kidsOf a) j) ≤ 100000) := by
              have h1 := cutJ_len (cutsD_len n) a b p j (by omega)
              have h2 := cut_room (n := n) a b (show j + 1 ≤ min (kidsOf a).length (kidsOf b).length from hlt)
              rw [pos_succ hla] at h2
              have h3 := hcT.out
              rw [nth_get hla]
              refine ⟨?_, ?_⟩
              · rw [hys.out, List.length_append, List.length_append, List.length_append, delJ_len]; omega
              · rw [← hpj, List.length_append, List.length_singleton]; omega
            have hrl : Hid (∀ g, (Value.slice avj ys.length capj).ownBlock = some g → g < wr.heap.size) := by obtain ⟨_, _, hgw⟩ := hgs.out.1; exact row_lt hgw.2.2.2.1
            generalize nth (kidsOf a) j = X at hCJ hRX hX0 ka0 ka1 hcnt
            generalize nth (kidsOf b) j = Y at hCJ hRY hY0 kb0 kb1
            clear hpj hba0 hbb0 ka0' ka1' kb0' kb1' htx hty
            go_wp2_with fail
            have x0 := hgs.out.2.2.2.1.cell 1 rfl; have x1 := hgs.out.2.2.2.2.1.cell 1 rfl; have x2 := (hgs.out.2.2.2.2.2.2.cell (p := ⟨ba, oa + j * 2, none⟩) hba.out).trans ka0.out; have x3 := (hgs.out.2.2.2.2.2.2.cell (p := ⟨ba, oa + j * 2 + 1, none⟩) hba.out).trans ka1.out; have x4 := (hgs.out.2.2.2.2.2.2.cell (p := ⟨bb, ob + j * 2, none⟩) hbb.out).trans kb0.out; have x5 := (hgs.out.2.2.2.2.2.2.cell (p := ⟨bb, ob + j * 2 + 1, none⟩) hbb.out).trans kb1.out
            go_region_held3 (fun w' => w'.cell? ⟨w.heap.size, 1, none⟩ = some (.slice (some ⟨ba, oa, none⟩) (kidsOf a).length cA) ∧ w'.cell? ⟨w.heap.size + 1, 1, none⟩ = some (.slice (some ⟨bb, ob, none⟩) (kidsOf b).length cB) ∧ w'.cell? ⟨ba, oa + j * 2, none⟩ = some (.string (strT X)) ∧ w'.cell? ⟨ba, oa + j * 2 + 1, none⟩ = some (.slice aX (kidsOf X).length cX) ∧ w'.cell? ⟨bb, ob + j * 2, none⟩ = some (.string (strT Y)) ∧ w'.cell? ⟨bb, ob + j * 2 + 1, none⟩ = some (.slice aY (kidsOf Y).length cY)) (go_keep) (first | (go_at_call 61; refine (pathTo_any (lo := 0) (p := p) (by exact SeqAt.below intAt_stays (hgs.out.2.2.2.2.2.1.at intOwn_at (fun _ _ => Nat.zero_le _)) (Below.drew (Below.refl _ _))) (by omega) (by unfold InI; omega)).mono ?_; rintro e1 w5 ⟨⟨v5, rfl, f5, o5, n5, l5⟩, hb5⟩; rw [hpjh.out] at o5; have hb5h : Hid (Below wr.heap.size wr w5) := undrew hb5; obtain ⟨a5, c5, rfl⟩ := o5.form; have o5h : Hid (SeqOwn 1 IntOwn w5 (.slice a5 pj.length c5) pj f5) := o5; have l5h : Hid (∀ x ∈ f5, wr.heap.size ≤ x) := l5; have hgs5 : Hid (Gs 29 base m w0 w w5 (.slice av xs.length capv) (.slice avj ys.length capj) ys [.string (strT a), .slice (some ⟨ba, oa, none⟩) (kidsOf a).length cA] [.string (strT b), .slice (some ⟨bb, ob, none⟩) (kidsOf b).length cB] 26 (.slice apk p.length capk) p fp) := hgs.out.below hb5h.out; have y0 := hgs5.out.2.2.2.1.cell 1 rfl; have y1 := hgs5.out.2.2.2.2.1.cell 1 rfl; have y2 := (hgs5.out.2.2.2.2.2.2.cell (p := ⟨ba, oa + j * 2, none⟩) hba.out).trans ka0.out; have y3 := (hgs5.out.2.2.2.2.2.2.cell (p := ⟨ba, oa + j * 2 + 1, none⟩) hba.out).trans ka1.out; have y4 := (hgs5.out.2.2.2.2.2.2.cell (p := ⟨bb, ob + j * 2, none⟩) hbb.out).trans kb0.out; have y5 := (hgs5.out.2.2.2.2.2.2.cell (p := ⟨bb, ob + j * 2 + 1, none⟩) hbb.out).trans kb1.out; clear o5 l5 n5 hb5) | (go_at_call 44; obtain ⟨⟨bsV, csV, hgV⟩, _⟩ := hgs.out; obtain ⟨zs, hzs⟩ : ∃ zs, ys ++ cutsD n X Y pj = zs := ⟨_, rfl⟩; have hzsh : Hid (ys ++ cutsD n X Y pj = zs) := hzs; clear hzs; refine (ih.out w5 wr _ _ _ _ _ _ X Y pj f5 ys bsV csV hX0.out hY0.out hRX.out hRY.out hgs5.out.2.2.2.2.2.2 hbase (by omega) (by omega) hgV hb5h.out o5h.out l5h.out hcnt.out.2 hcnt.out.1).mono ?_; rw [hzsh.out]; rintro e w6 ⟨v6, bs6, cs6, rfl, hg6, hgr6, hat6⟩; obtain ⟨a6, c6, rfl⟩ := hg6.len; have hz56 := hb5h.out.size; have hgs6 : Hid (Gs 29 base m w0 w w6 (.slice av xs.length capv) (.slice a6 zs.length c6) zs [.string (strT a), .slice (some ⟨ba, oa, none⟩) (kidsOf a).length cA] [.string (strT b), .slice (some ⟨bb, ob, none⟩) (kidsOf b).length cB] 26 (.slice apk p.length capk) p fp) := hgs5.out.grow hv9.out hfp9.out hz0 (by omega) hgr6 ⟨bs6, cs6, hg6⟩ hat6; have z0 := hgs6.out.2.2.2.1.cell 1 rfl; have z1 := hgs6.out.2.2.2.2.1.cell 1 rfl; have z2 := (hgs6.out.2.2.2.2.2.2.cell (p := ⟨ba, oa + j * 2, none⟩) hba.out).trans ka0.out; have z3 := (hgs6.out.2.2.2.2.2.2.cell (p := ⟨ba, oa + j * 2 + 1, none⟩) hba.out).trans ka1.out; have z4 := (hgs6.out.2.2.2.2.2.2.cell (p := ⟨bb, ob + j * 2, none⟩) hbb.out).trans kb0.out; have z5 := (hgs6.out.2.2.2.2.2.2.cell (p := ⟨bb, ob + j * 2 + 1, none⟩) hbb.out).trans kb1.out; have hs6 := hgr6.size; clear hg6 hgr6 hat6 hgV))
            go_wp2_with fail
            go_roundw
            case rel => exact ⟨j + 1, a6, c6, zs, by omega, by go_num, rfl, (by show _ = _; rw [← hzsh.out, hys.out, hCJ.out]; simp only [List.append_assoc]), hgs6, by omega⟩
            case measure => simp [intOf]; omega
          · obtain rfl : j = min (kidsOf a).length (kidsOf b).length := by omega
            go_wp2_with fail
            go_ret
            obtain ⟨⟨bs9, cs9, hg⟩, h2, h3, _⟩ := hgs.out
            have e9 : ys = xs ++ cutsD (n + 1) a b p := by rw [hys.out]; show _ = xs ++ (renJ a b p ++ _ ++ _); simp only [List.append_assoc]
            subst e9
            exact ⟨_, bs9, cs9, rfl, hg, h2, h3.imp id (fun ⟨g, e, q⟩ => ⟨g, e, by omega⟩)⟩
theorem cuI_all {w0 : World} {lo base m : Nat} : ∀ n, CuI w0 lo base m n := by
  intro n
  induction n with
  | zero => intro w wg ta ka tb kb kp vout a b p fp xs bss css h; exact h.elim
  | succ n ih => exact cuI_step n ih
end Go.Proofs.Ytndffcogddefiaa
