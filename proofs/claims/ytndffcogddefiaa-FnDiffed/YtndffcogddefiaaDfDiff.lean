/- l10Diff of the specification: walked. -/
import Derived.Test.YtndffcogddefiaaDfRest
import Derived.Deep.AppendLies
import Derived.Deep.AppendSrc
namespace Go.Proofs.Ytndffcogddefiaa
open Go.RowKit Go.Deep
theorem step_append_intsF {P : Program} {w : World} {ops : Array Oper} {o : Oper} {a : Act} {K : Act → World → Prop} {Q : Exit → Act → World → Prop} {E : Prop} (hgd : o.guard = none) (s x : Operand) (t : TypeId)
    (ho : o.op = .call { callee := .builtin .append, args := #[s, x], argTypes := #[t, t] }) (base lo : Nat) (e : TypeId) (i : TypeInfo) (ht : P.underlying t = some (.slice e)) (hi : P.info? e = some i) (hz : i.zero = some (.int .i64 0)) (hsize : i.size = 1) (hby : i.bytes = 8)
    (v : Value) (n : Nat) (xs : List Value) (hs : a.eval s = v) (hv : v ≠ .slice none 0 0) (hown : w.ownsRow base e 1 v n xs) (k : Value) (ks : List Int) (hx : a.eval x = k) (hk : SeqAt 1 IntAt w lo k ks) (hl : n + ks.length ≤ 1099511627776) (hbase : base ≤ w.heap.size)
    (h : ∀ v' w', w'.ownsRow base e 1 v' (n + ks.length) (xs ++ ks.map fun n => .int .i64 n) → w.grownBy w' v.ownBlock → v' ≠ .slice none 0 0 → K (a.put o.dst v') w') : if Region.wanted o (yielded ops a.tmps) = true then Oper.wp P o a w K Q else E := by
  have hw : Region.wanted o (yielded ops a.tmps) = true := by simp [Region.wanted, hgd]
  rw [if_pos hw]
  obtain ⟨ka, kc, rfl, hm, hc⟩ := hk
  cases ka with
  | none =>
    have h0 : ks.length = 0 := by
      rcases Nat.eq_zero_or_pos ks.length with q | q
      · exact q
      · obtain ⟨b, off, e, _⟩ := hc q; cases e
    have hks : ks = [] := List.eq_nil_of_length_eq_zero h0
    subst hks
    have hown' := hown
    rcases hown.2 with ⟨q, _⟩ | ⟨g, cap, cur, rfl, hg, hh, q1, q2, q3, q4⟩
    · exact absurd q hv
    · have hsrc : Src P i.size t (.slice none 0 kc) 0 [] w := Src.ofNil w ht kc
      have hrun := run_append_room_src (P := P) w t t o.type e i ht hi g 0 n cap (.slice none 0 kc) 0 [] hsrc (by omega) (by simp) (by simp)
      have hset : w.setCells g (0 + n * i.size) [] = w := rfl
      rw [hset] at hrun
      unfold Oper.wp
      simp only [List.length_nil] at hx
      simp [execOp, ho, resolve, invoke, builtin, hs, hx, hrun, Result.andThen]
      exact h _ w (by simpa using hown') ⟨rfl, rfl, rfl, Nat.le_refl _, fun _ _ _ => rfl⟩ (by simp)
  | some ad =>
    refine wp_append_own w s x t ho base e i (.int .i64 0) 1 8 ht hi hz hsize hby rfl (by decide) v n xs hs hown ad ks.length kc (ks.map fun n => .int .i64 n) hx (by simp) (fun j u hj => ?_) (fun u hu => ?_) (by unfold maxLen; omega) (by omega) hbase (fun v' w' h1 h2 h3 => ?_)
    · have hj' : j < ks.length := by
        rcases Nat.lt_or_ge j ks.length with q | q
        · exact q
        · rw [List.getElem?_eq_none (by simpa using q)] at hj; cases hj
      obtain ⟨b, off, q, _, _, hcc⟩ := hc (by omega)
      injection q with q
      subst q
      obtain ⟨cs, hcl, lie, hr⟩ := hcc j hj'
      obtain ⟨rfl, _⟩ := hr
      have z := lie 0 (by simp)
      simp only [List.getElem?_cons_zero, Nat.add_zero, Nat.mul_one] at z
      rw [List.getElem?_map, List.getElem?_eq_getElem hj'] at hj
      simp only [Option.map_some, Option.some.injEq] at hj
      rw [← hj]
      unfold Addr.add
      by_cases e0 : j = 0
      · subst e0; simpa using z
      · rw [if_neg e0]; exact z
    · obtain ⟨q, _, rfl⟩ := List.mem_map.1 hu
      rfl
    · exact h v' w' h1 h2 (fun q => hv (h3.1 q).1)
def DsS (w0 : World) (lo base m : Nat) (n : Nat) : Prop := ∀ (w wg : World) (ta ka tb kb kp vout : Value) (a b : TD) (p : List Int) (fp : List Nat) (xs : List EditD) (bss : List (List Nat)) (css : List (List Value)), TreeAt w0 lo n ta ka a → TreeAt w0 lo n tb kb b → RightT a → RightT b → Below w0.heap.size w0 w → w0.heap.size ≤ base → base ≤ wg.heap.size → n ≤ m →
    GrowOwn 29 5 (EditO m) base wg vout xs bss css → Below wg.heap.size wg w → SeqOwn 1 IntOwn w kp p fp → (∀ x ∈ fp, wg.heap.size ≤ x) → p.length + cntTree (n + 1) a ≤ 100000 → xs.length + cntTree (n + 1) a ≤ 100000 →
    Calls Try.prog 47 #[.agg #[ta, ka], .agg #[tb, kb], kp, vout] w fun e w' => DfAns base m w w' vout e (xs ++ cutsD n a b p)
set_option maxRecDepth 100000 in
set_option maxHeartbeats 8000000 in
theorem DsS_step {w0 : World} {lo base m : Nat} (n : Nat) (ih0 : DsS w0 lo base m n) : DsS w0 lo base m (n + 1) := by
  intro w wg ta ka tb kb kp vout a b p fp xs bss css hta htb hRa hRb hB0 hbase hbg hnm hgr hbw hp hlo hpl hxl
  obtain ⟨rfl, _⟩ := hta.tag
  obtain ⟨_, aA, cA, rfl⟩ := hta.form
  obtain ⟨rfl, htg0⟩ := htb.tag
  obtain ⟨_, aB, cB, rfl⟩ := htb.form
  have htg : Hid ((strT b).size ≤ maxLen) := htg0
  have ih : Hid (DsS w0 lo base m n) := ih0
  have hta0 : Hid (TreeAt w0 lo (n + 1) (.string (strT a)) (.slice aA (kidsOf a).length cA) a) := hta
  have htb0 : Hid (TreeAt w0 lo (n + 1) (.string (strT b)) (.slice aB (kidsOf b).length cB) b) := htb
  have hRa' : Hid (RightT a) := hRa
  have hRb' : Hid (RightT b) := hRb
  have hfewa : (kidsOf a).length ≤ 30 := hRa.few
  have hfewb : (kidsOf b).length ≤ 30 := hRb.few
  have hvlt : Hid (∀ g, vout.ownBlock = some g → base ≤ g ∧ g < wg.heap.size) := fun g e => ⟨own_block2 hgr.2.2.2.1 g e, row_lt hgr.2.2.2.1 g e⟩
  have hwgw := hbw.size
  have hz0 := hB0.size
  have hcT : Hid (cntTree (n + 1 + 1) a = 1 + cntL (cntTree (n + 1)) (kidsOf a)) := rfl
  obtain ⟨iT, hiT0, heT0, heT1, heT2⟩ := info_parts infoEdF
  have hiT : Hid (Try.prog.info? 29 = some iT) := hiT0
  have heT : Hid (iT.zero = some (.agg #[.int .i64 0, .slice none 0 0, .string ByteArray.empty, .string ByteArray.empty, .slice none 0 0]) ∧ iT.size = 5 ∧ iT.bytes = 88) := ⟨heT0, heT1, heT2⟩
  obtain ⟨iI, hiI0, heI0, heI1, heI2⟩ := info_parts2 infoI
  have hiI : Hid (Try.prog.info? 2 = some iI) := hiI0
  have heI : Hid (iI.zero = some (.int .i64 0) ∧ iI.size = 1 ∧ iI.bytes = 8) := ⟨heI0, heI1, heI2⟩
  clear hiT0 heT0 heT1 heT2 hiI0 heI0 heI1 heI2
  have hpl1 : p.length ≤ 100000 := by omega
  have hIp : Hid (∀ x ∈ p, InI x) := seqAt_inI (hp.at intOwn_at (fun _ _ => Nat.zero_le _))
  obtain ⟨av, capv, rfl⟩ := hgr.len
  obtain ⟨apk, capk, rfl⟩ := hp.form
  have hv9 : Hid (∀ g, (Value.slice av xs.length capv).ownBlock = some g → w0.heap.size ≤ g ∧ g < w.heap.size ∧ ∀ x ∈ fp, x ≠ g) := fun g e => ⟨by have := (hvlt.out g e).1; omega, by have := (hvlt.out g e).2; omega, fun x hx => by have := (hvlt.out g e).2; have := hlo x hx; omega⟩
  have hfp9 : Hid (∀ x ∈ fp, x < w.heap.size) := hp.lt intOwn_lt
  have hb2 : Below w.heap.size w ((w.alloc (.cells #[.string (strT a), .slice aA (kidsOf a).length cA] 26)).alloc (.cells #[.string (strT b), .slice aB (kidsOf b).length cB] 26)) := ((Below.refl _ _).alloc (Nat.le_refl _) _).alloc (by simp) _
  have hgs0 : Hid (Gs 29 base m w0 w ((w.alloc (.cells #[.string (strT a), .slice aA (kidsOf a).length cA] 26)).alloc (.cells #[.string (strT b), .slice aB (kidsOf b).length cB] 26)) (.slice av xs.length capv) (.slice av xs.length capv) xs [.string (strT a), .slice aA (kidsOf a).length cA] [.string (strT b), .slice aB (kidsOf b).length cB] 26 (.slice apk p.length capk) p fp) := ⟨⟨bss, css, hgr.below (EditO_stays m) (hbw.trans (hb2.mono hwgw))⟩, grown_ofB hb2, Or.inl rfl, (Box.new w [.string (strT a), .slice aA (kidsOf a).length cA] 26).alloc _, (by have q := Box.new (w.alloc (.cells #[.string (strT a), .slice aA (kidsOf a).length cA] 26)) [.string (strT b), .slice aB (kidsOf b).length cB] 26; simpa only [World.size_alloc] using q), hp.stays intOwn_stays (fun x hx => hb2.block x (hp.lt intOwn_lt x hx)), hB0.trans (hb2.mono hz0)⟩
  have s2 : Hid (((w.alloc (.cells #[.string (strT a), .slice aA (kidsOf a).length cA] 26)).alloc (.cells #[.string (strT b), .slice aB (kidsOf b).length cB] 26)).heap.size = w.heap.size + 2) := by simp [Hid]
  have hbw2 : base ≤ w.heap.size := by omega
  clear ih0 hta htb hRa hRb hB0 hgr hbw hp hlo hb2
  have c0 := hgs0.out.2.2.2.1.cell 0 rfl
  have c1 := hgs0.out.2.2.2.1.cell 1 rfl
  have d0 := hgs0.out.2.2.2.2.1.cell 0 rfl
  have d1 := hgs0.out.2.2.2.2.1.cell 1 rfl
  go_enter Try.func47, Try.ntmps47
  go_upto_if 16 with fail
  generalize hWR : ((w.alloc (.cells #[.string (strT a), .slice aA (kidsOf a).length cA] 26)).alloc (.cells #[.string (strT b), .slice aB (kidsOf b).length cB] 26)) = wr at hgs0 s2 c0 c1 d0 d1 ⊢
  clear hWR c0 d0 c1 d1
  go_cut [3] from 12 (fun v wx => ∃ (avj : Option Addr) (capj : Nat) (ys : List EditD), v = .slice avj ys.length capj ∧ Hid (ys = xs ++ renJ a b p) ∧ Hid (Gs 29 base m w0 w wx (.slice av xs.length capv) (.slice avj ys.length capj) ys [.string (strT a), .slice aA (kidsOf a).length cA] [.string (strT b), .slice aB (kidsOf b).length cB] 26 (.slice apk p.length capk) p fp) ∧ w.heap.size + 2 ≤ wx.heap.size)
  case first =>
    have hs2' := s2.out
    by_cases htq : strT a = strT b
    · have hq1 : (!((strT a).toList == (strT b).toList)) = false := by rw [htq]; simp
      rw [hq1]
      go_wp2_with fail
      go_meet
      exact ⟨av, capv, xs, rfl, (by show _ = _; unfold renJ; rw [if_pos htq, List.append_nil]), hgs0, by omega⟩
    · have hq0 : (strT a).toList ≠ (strT b).toList := fun e => htq (ba_inj e)
      have hq1 : (!((strT a).toList == (strT b).toList)) = true := by simpa using hq0
      rw [hq1]
      clear hq0
      have hgs := hgs0
      have hsz : w.heap.size + 2 ≤ wr.heap.size := Nat.le_of_eq hs2'.symm
      clear hs2'
      go_wp2_with fail
      refine wp_region_held_drew (S := fun w' => w'.cell? ⟨w.heap.size + 1, 0, none⟩ = some (.string (strT b))) (by kernel_rfl) (hgs.out.2.2.2.2.1.cell 0 rfl) (fun hHeld => ?_)
      refine tq (i := 0) (d := 17) ?_
      simp only [sz, ss]
      refine tq (i := 2) (d := 19) ?_
      simp only [sz, ss]
      refine tq (i := 4) (d := 21) ?_
      simp only [sz, ss]
      refine tq (i := 5) (d := 22) ?_
      simp only [sz, ss]
      refine wpAnyH_ready (rs := [1]) (by kernel_rfl) (by simp) ?_
      refine AllReadyH.cons rfl (fun K hK => ?_) AllReadyH.nil
      go_simp
      have hb1 : Hid (Below wr.heap.size wr (World.alloc wr.drew (.cells #[] 2))) := Below.alloc (Below.drew (Below.refl wr.heap.size wr)) (Below.size (Below.drew (Below.refl wr.heap.size wr))) _
      have row1 : Hid (World.ownsRow (World.alloc wr.drew (.cells #[] 2)) wr.heap.size 2 1 (.slice (some ⟨wr.heap.size, 0, none⟩) 0 0) 0 []) := row_start (w := wr.drew) (B := wr.heap.size) (Nat.le_refl _)
      refine hK.out _ _ ((hgs.out.below hb1.out).2.2.2.2.1.cell 0 rfl) (fun hHeld => ?_)
      clear hK K
      refine wpAnyH_ready (rs := [3]) (by kernel_rfl) (by simp) ?_
      refine AllReadyH.cons rfl (fun K hK => ?_) AllReadyH.nil
      refine step_append_intsF (w := (World.alloc wr.drew (.cells #[] 2))) rfl _ _ 27 rfl wr.heap.size 0 2 iI Try.underlying27 hiI.out heI.out.1 heI.out.2.1 heI.out.2.2 (.slice (some ⟨wr.heap.size, 0, none⟩) 0 0) 0 [] rfl (by simp) (by exact row1.out) (.slice apk p.length capk) p rfl (by exact SeqAt.below intAt_stays (hgs.out.2.2.2.2.2.1.at intOwn_at (fun _ _ => Nat.zero_le _)) hb1.out) (by omega) (by exact Below.size hb1.out) ?_
      intro v2 w5 hown2 hgrow2 hnn2
      have row2 : Hid (w5.ownsRow wr.heap.size 2 1 v2 p.length (p.map fun n => Value.int .i64 n)) := by show World.ownsRow _ _ _ _ _ _ _; have := hown2; rw [Nat.zero_add, List.nil_append] at this; exact this
      obtain ⟨f5, o5, l5⟩ := seqOwn_of_row row2.out hIp.out
      obtain ⟨a5, c5, rfl⟩ := o5.form
      have hb5h : Hid (Below wr.heap.size wr w5) := Below.grown hb1.out hgrow2 (Below.size hb1.out) (fun k e => own_block2 row1.out k e)
      have ho9h : Hid (EditO 1 w5 [.int .i64 3, .slice a5 p.length c5, .string (strT b), .string ⟨#[]⟩, .slice none 0 0] (renE p (strT b)) (f5 ++ [])) := ⟨_, _, f5, [], rfl, (by show InI (3 : Int); unfold InI; omega), o5, htg.out, treeO_zero _, rfl, by rw [List.append_nil]; exact o5.nodup⟩
      have lo9h : Hid (∀ x ∈ f5 ++ [], wr.heap.size ≤ x) := fun x hx => by rw [List.append_nil] at hx; exact l5 x hx
      clear hown2 hgrow2 hnn2 o5 l5 row1 row2
      have hgs6 : Hid (Gs 29 base m w0 w w5 (.slice av xs.length capv) (.slice av xs.length capv) xs [.string (strT a), .slice aA (kidsOf a).length cA] [.string (strT b), .slice aB (kidsOf b).length cB] 26 (.slice apk p.length capk) p fp) := hgs.out.below hb5h.out
      have b57 : Hid (Below wr.heap.size wr (w5.alloc (.cells #[.int .i64 3, .slice a5 p.length c5, .string (strT b), .string ⟨#[]⟩, .slice none 0 0] 29))) := hb5h.out.alloc hb5h.out.size _
      have hnw : Hid (∀ i u, ([.int .i64 3, .slice a5 p.length c5, .string (strT b), .string ⟨#[]⟩, .slice none 0 0] : List Value)[i]? = some u → (w5.alloc (.cells #[.int .i64 3, .slice a5 p.length c5, .string (strT b), .string ⟨#[]⟩, .slice none 0 0] 29)).cell? ((⟨w5.heap.size, 0, none⟩ : Addr).add i) = some u) := (fun i u hu => (by rw [add_lit, Nat.zero_add]; exact (Box.new w5 [.int .i64 3, .slice a5 p.length c5, .string (strT b), .string ⟨#[]⟩, .slice none 0 0] 29).cell i hu))
      have hone : Hid (∀ u ∈ ([.int .i64 3, .slice a5 p.length c5, .string (strT b), .string ⟨#[]⟩, .slice none 0 0] : List Value), u.oneCell' = true) := (by intro u hu; simp only [List.mem_cons, List.not_mem_nil, or_false] at hu; rcases hu with rfl | rfl | rfl | rfl | rfl <;> rfl)
      have hr7 : Hid (EditO m (w5.alloc (.cells #[.int .i64 3, .slice a5 p.length c5, .string (strT b), .string ⟨#[]⟩, .slice none 0 0] 29)) [.int .i64 3, .slice a5 p.length c5, .string (strT b), .string ⟨#[]⟩, .slice none 0 0] (renE p (strT b)) (f5 ++ [])) := EditO_mono (by omega) (EditO_stays 1 _ _ _ _ _ (fun x hx => Below.heap_alloc _ _ _ (EditO_lt _ _ _ _ _ ho9h.out x hx)) ho9h.out)
      obtain ⟨⟨bs5, cs5, hg5⟩, _⟩ := hgs.out
      go_simp
      refine hK.out _ _ ((hgs.out.below hb5h.out).2.2.2.2.1.cell 0 rfl) (fun hHeld => ?_)
      clear hK K
      refine tq (i := 6) (d := 23) ?_
      simp only [sz, ss]
      refine wpAnyH_ready (rs := [7]) (by kernel_rfl) (by simp) ?_
      refine AllReadyH.cons rfl (fun K hK => ?_) AllReadyH.nil
      go_simp
      refine hK.out _ _ ((hgs.out.below b57.out).2.2.2.2.1.cell 0 rfl) (fun hHeld => ?_)
      clear hK K
      refine wpAnyH_ready (rs := [8]) (by kernel_rfl) (by simp) ?_
      refine AllReadyH.cons rfl (fun K hK => ?_) AllReadyH.nil
      refine step_append_grow (EditO_stays m) rfl _ _ 44 rfl base iT _ 88 Try.underlying44 hiT.out heT.out.1 heT.out.2.1 heT.out.2.2 rfl (by decide) (w := wr) (w2 := (w5.alloc (.cells #[.int .i64 3, .slice a5 p.length c5, .string (strT b), .string ⟨#[]⟩, .slice none 0 0] 29))) (v := .slice av xs.length capv) (xs := xs) rfl hg5 b57.out (by omega) ⟨w5.heap.size, 0, none⟩ 1 (cs := [.int .i64 3, .slice a5 p.length c5, .string (strT b), .string ⟨#[]⟩, .slice none 0 0]) (y := (renE p (strT b))) (fs := (f5 ++ [])) rfl rfl hnw.out hone.out hr7.out (EditO_nodup hr7.out) lo9h.out (EditO_lt _ _ _ _ _ hr7.out) (by unfold maxLen; omega) (by omega) ?_
      (intro g8 cap8 w8 hg8 hgr8 _ hat8; have hx8 : Hid (∃ bss css, GrowOwn 29 5 (EditO m) base w8 (.slice (some ⟨g8, 0, none⟩) (xs.length + 1) cap8) (xs ++ [(renE p (strT b))]) bss css) := ⟨_, _, hg8⟩; have hgs8 : Hid (Gs 29 base m w0 w w8 (.slice av xs.length capv) (.slice (some ⟨g8, 0, none⟩) (xs.length + 1) cap8) (xs ++ [(renE p (strT b))]) [.string (strT a), .slice aA (kidsOf a).length cA] [.string (strT b), .slice aB (kidsOf b).length cB] 26 (.slice apk p.length capk) p fp) := (hgs6.out.below ((Below.refl _ _).alloc (Nat.le_refl _) _)).grow hv9.out hfp9.out hz0 (by have h2 := hb5h.out.size; simp only [World.size_alloc]; omega) hgr8 hx8.out (by rcases hat8 with q | q; (exact Or.inl q.symm); (exact Or.inr ⟨g8, rfl, by omega⟩)); have hs8 : w.heap.size + 2 ≤ w8.heap.size := (by have h1 := hgr8.size; have h2 := hb5h.out.size; simp only [World.size_alloc] at h1; omega); clear hg8 hgr8 hat8 hg5 hx8 b57 hnw hone hr7)
      go_simp
      refine hK.out _ _ (hgs8.out.2.2.2.2.1.cell 0 rfl) (fun hHeld => ?_)
      clear hK K
      refine tq (i := 9) (d := 3) ?_
      simp only [sz, ss]
      refine wpAnyH_done (by kernel_rfl) ?_ _
      go_wp2_with fail
      go_meet
      exact ⟨some ⟨g8, 0, none⟩, cap8, xs ++ [renE p (strT b)], by rw [List.length_append, List.length_singleton], (by show _ = _; unfold renJ; rw [if_neg htq]), (by have q := hgs8.out; show Gs _ _ _ _ _ _ _ _ _ _ _ _ _ _ _; rw [List.length_append, List.length_singleton]; exact q), by omega⟩
  case rest =>
    obtain ⟨av1, cap1, ys1, rfl, hys1, hgs1, hsz1⟩ := hcut
    have c1 := hgs1.out.2.2.2.1.cell 1 rfl
    have d1 := hgs1.out.2.2.2.2.1.cell 1 rfl
    have hwl : IntKind.i64.wrap (((kidsOf a).length : Int) - 1) = ((kidsOf a).length : Int) - 1 := by rw [IntKind.wrap_i64]; omega
    have hren := renJ_len a b p
    clear hgs0 s2
    go_wp2_with fail
    clear c1 d1 hwl
    go_loopw [3, 9] (fun v i wr => ∃ (j : Nat) (avj : Option Addr) (capj : Nat) (ys : List EditD), j ≤ (kidsOf a).length - (kidsOf b).length ∧ i = .int .i64 (((kidsOf a).length : Int) - 1 - (j : Int)) ∧ v = .slice avj ys.length capj ∧ Hid (ys = xs ++ renJ a b p ++ delJ p (kidsOf a).length j) ∧ Hid (Gs 29 base m w0 w wr (.slice av xs.length capv) (.slice avj ys.length capj) ys [.string (strT a), .slice aA (kidsOf a).length cA] [.string (strT b), .slice aB (kidsOf b).length cB] 26 (.slice apk p.length capk) p fp) ∧ w.heap.size + 2 ≤ wr.heap.size) (fun _ i _ => (intOf i + 1).toNat)
    case atStart => exact ⟨0, av1, cap1, ys1, Nat.zero_le _, by simp, rfl, (by show _ = _; rw [delJ_zero, List.append_nil]; exact hys1.out), hgs1, hsz1⟩
    case round =>
      obtain ⟨j, avj, capj, ys, hj, rfl, rfl, hys, hgs, hsz⟩ := hrel
      have d1 := hgs.out.2.2.2.2.1.cell 1 rfl
      by_cases hlt : j < (kidsOf a).length - (kidsOf b).length
      · obtain ⟨q, hq⟩ : ∃ q : Nat, (kidsOf a).length - 1 - j = q := ⟨_, rfl⟩
        have hqI : ((kidsOf a).length : Int) - 1 - (j : Int) = (q : Int) := by omega
        have hge : (((kidsOf b).length : Int) ≤ (q : Int)) := by omega
        have hw1 : IntKind.i64.wrap ((q : Int) - 1) = (q : Int) - 1 := by rw [IntKind.wrap_i64]; omega
        obtain ⟨pj, hpj⟩ : ∃ pj : List Int, p ++ [(q : Int)] = pj := ⟨_, rfl⟩
        have hpjl : pj.length ≤ 1048576 := by rw [← hpj]; simp; omega
        have hpjh : Hid (p ++ [(q : Int)] = pj) := hpj
        have hIX : Hid (InI (q : Int)) := by show InI _; unfold InI; omega
        have hIj : Hid (∀ x ∈ pj, InI x) := by rw [← hpj]; intro x hx; rcases List.mem_append.1 hx with q | q; (exact hIp.out x q); (simp at q; subst q; exact hIX.out)
        have hrl : Hid (∀ g, (Value.slice avj ys.length capj).ownBlock = some g → g < wr.heap.size) := by obtain ⟨_, _, hgw⟩ := hgs.out.1; exact row_lt hgw.2.2.2.1
        have hDJ : Hid (delJ p (kidsOf a).length (j + 1) = delJ p (kidsOf a).length j ++ [delE pj]) := by show _ = _; rw [← hpj, ← hq]; exact delJ_succ _ _ _
        have hyl : ys.length ≤ 100000 := by rw [hys.out, List.length_append, List.length_append, delJ_len]; have := cut_room (n := n) a b (j := 0) (Nat.zero_le _); have := hcT.out; omega
        clear hpj hq
        rw [hqI]
        have hpA : Hid (SeqAt 1 IntAt (wr.alloc (.cells #[] 2)) 0 (.slice apk p.length capk) p) := (hgs.out.2.2.2.2.2.1.at intOwn_at (fun _ _ => Nat.zero_le _)).below intAt_stays ((Below.refl _ _).alloc (Nat.le_refl _) _)
        go_wp2_with (at_builtin; first | (refine wpList_append_ints rfl _ _ 27 rfl wr.heap.size 0 2 iI Try.underlying27 hiI.out heI.out.1 heI.out.2.1 heI.out.2.2 (.slice (some ⟨wr.heap.size, 0, none⟩) 0 0) 0 [] rfl (by simp) (row_start (Nat.le_refl _)) _ p rfl hpA.out (by omega) (by simp) ?_; intro v1 w1 hown1 hgrow1 hnn1; have row1 : Hid (w1.ownsRow wr.heap.size 2 1 v1 p.length (p.map fun n => Value.int .i64 n)) := (by have q := hown1; rw [Nat.zero_add, List.nil_append] at q; exact q); obtain ⟨g1, cap1, rfl⟩ := nonnil_row row1.out hnn1; have hb1 : Hid (Below wr.heap.size wr w1) := ((Below.refl _ _).alloc (Nat.le_refl _) _).grown hgrow1 (by simp) (fun k e => by simp [Value.ownBlock] at e; omega); have hz1 := hb1.out.size; clear hown1 hgrow1 hnn1; have hx1 : Hid (SeqAt 1 IntAt (w1.alloc (.cells #[.int .i64 (q : Int)] 2)) 0 (.slice (some ⟨w1.heap.size, 0, none⟩) 1 1) [(q : Int)]) := box1_atF (Box.new w1 [.int .i64 (q : Int)] 2) hIX.out; have row1b : Hid ((w1.alloc (.cells #[.int .i64 (q : Int)] 2)).ownsRow wr.heap.size 2 1 (.slice (some ⟨g1, 0, none⟩) p.length cap1) p.length (p.map fun n => Value.int .i64 n)) := row_below row1.out ((Below.refl _ _).alloc (Nat.le_refl _) _)) | (refine wpList_append_ints rfl _ _ 27 rfl wr.heap.size 0 2 iI Try.underlying27 hiI.out heI.out.1 heI.out.2.1 heI.out.2.2 (.slice (some ⟨g1, 0, none⟩) p.length cap1) p.length (p.map fun n => Value.int .i64 n) rfl (by simp) row1b.out _ [(q : Int)] rfl hx1.out (by simp; omega) (by simp only [World.size_alloc]; omega) ?_; intro v2 w5 hown2 hgrow2 hnn2; have row2 : Hid (w5.ownsRow wr.heap.size 2 1 v2 pj.length (pj.map fun n => Value.int .i64 n)) := (by rw [← hpjh.out]; show World.ownsRow _ _ _ _ _ _ _; rw [List.length_append, List.map_append]; exact hown2); obtain ⟨f5, o5, l5⟩ := seqOwn_of_row row2.out hIj.out; obtain ⟨a5, c5, rfl⟩ := o5.form; have hb5h : Hid (Below wr.heap.size wr w5) := (hb1.out.alloc hb1.out.size _).grown hgrow2 (by simp only [World.size_alloc]; omega) (fun k e => own_block2 row1.out k e); have o5h : Hid (SeqOwn 1 IntOwn w5 (.slice a5 pj.length c5) pj f5) := o5; have l5h : Hid (∀ x ∈ f5, wr.heap.size ≤ x) := (fun x hx => l5 x hx); have hgs5 : Hid (Gs 29 base m w0 w w5 (.slice av xs.length capv) (.slice avj ys.length capj) ys [.string (strT a), .slice aA (kidsOf a).length cA] [.string (strT b), .slice aB (kidsOf b).length cB] 26 (.slice apk p.length capk) p fp) := hgs.out.below hb5h.out; have hz5 := hb5h.out.size; have ho9h : Hid (EditO 1 w5 [.int .i64 2, .slice a5 pj.length c5, .string ⟨#[]⟩, .string ⟨#[]⟩, .slice none 0 0] (delE pj) (f5 ++ [])) := ⟨_, _, f5, [], rfl, (by show InI (2 : Int); unfold InI; omega), o5, Nat.zero_le _, treeO_zero _, rfl, (by rw [List.append_nil]; exact o5.nodup)⟩; have lo9h : Hid (∀ x ∈ f5 ++ [], wr.heap.size ≤ x) := (fun x hx => (by rw [List.append_nil] at hx; exact l5 x hx)); have hgs6 : Hid (Gs 29 base m w0 w w5 (.slice av xs.length capv) (.slice avj ys.length capj) ys [.string (strT a), .slice aA (kidsOf a).length cA] [.string (strT b), .slice aB (kidsOf b).length cB] 26 (.slice apk p.length capk) p fp) := hgs.out.below hb5h.out; have b57 : Hid (Below wr.heap.size wr (w5.alloc (.cells #[.int .i64 2, .slice a5 pj.length c5, .string ⟨#[]⟩, .string ⟨#[]⟩, .slice none 0 0] 29))) := hb5h.out.alloc hb5h.out.size _; have hnw : Hid (∀ i u, ([.int .i64 2, .slice a5 pj.length c5, .string ⟨#[]⟩, .string ⟨#[]⟩, .slice none 0 0] : List Value)[i]? = some u → (w5.alloc (.cells #[.int .i64 2, .slice a5 pj.length c5, .string ⟨#[]⟩, .string ⟨#[]⟩, .slice none 0 0] 29)).cell? ((⟨w5.heap.size, 0, none⟩ : Addr).add i) = some u) := (fun i u hu => (by rw [add_lit, Nat.zero_add]; exact (Box.new w5 [.int .i64 2, .slice a5 pj.length c5, .string ⟨#[]⟩, .string ⟨#[]⟩, .slice none 0 0] 29).cell i hu)); have hone : Hid (∀ u ∈ ([.int .i64 2, .slice a5 pj.length c5, .string ⟨#[]⟩, .string ⟨#[]⟩, .slice none 0 0] : List Value), u.oneCell' = true) := (by intro u hu; simp only [List.mem_cons, List.not_mem_nil, or_false] at hu; rcases hu with rfl | rfl | rfl | rfl | rfl <;> rfl); have hr7 : Hid (EditO m (w5.alloc (.cells #[.int .i64 2, .slice a5 pj.length c5, .string ⟨#[]⟩, .string ⟨#[]⟩, .slice none 0 0] 29)) [.int .i64 2, .slice a5 pj.length c5, .string ⟨#[]⟩, .string ⟨#[]⟩, .slice none 0 0] (delE pj) (f5 ++ [])) := EditO_mono (by omega) (EditO_stays 1 _ _ _ _ _ (fun x hx => Below.heap_alloc _ _ _ (EditO_lt _ _ _ _ _ ho9h.out x hx)) ho9h.out); obtain ⟨⟨bs5, cs5, hg5⟩, _⟩ := hgs.out; clear o5 l5 hown2 hgrow2 hnn2 row1 row2 hb1 hpA hx1 row1b) | (refine wpList_append_grow2 (EditO_stays m) rfl _ _ 44 rfl base iT _ 88 Try.underlying44 hiT.out heT.out.1 heT.out.2.1 heT.out.2.2 rfl (by decide) (w := wr) (w2 := (w5.alloc (.cells #[.int .i64 2, .slice a5 pj.length c5, .string ⟨#[]⟩, .string ⟨#[]⟩, .slice none 0 0] 29))) (v := .slice avj ys.length capj) (xs := ys) rfl hg5 b57.out (by omega) ⟨w5.heap.size, 0, none⟩ 1 (cs := [.int .i64 2, .slice a5 pj.length c5, .string ⟨#[]⟩, .string ⟨#[]⟩, .slice none 0 0]) (y := (delE pj)) (fs := (f5 ++ [])) rfl rfl hnw.out hone.out hr7.out (EditO_nodup hr7.out) lo9h.out (EditO_lt _ _ _ _ _ hr7.out) (by unfold maxLen; omega) (by omega) ?_; intro g8 cap8 w8 hg8 hgr8 _ hat8; have hx8 : Hid (∃ bss css, GrowOwn 29 5 (EditO m) base w8 (.slice (some ⟨g8, 0, none⟩) (ys.length + 1) cap8) (ys ++ [(delE pj)]) bss css) := ⟨_, _, hg8⟩; have hgs8 : Hid (Gs 29 base m w0 w w8 (.slice av xs.length capv) (.slice (some ⟨g8, 0, none⟩) (ys.length + 1) cap8) (ys ++ [(delE pj)]) [.string (strT a), .slice aA (kidsOf a).length cA] [.string (strT b), .slice aB (kidsOf b).length cB] 26 (.slice apk p.length capk) p fp) := (hgs6.out.below ((Below.refl _ _).alloc (Nat.le_refl _) _)).grow hv9.out hfp9.out hz0 (by have h2 := hb5h.out.size; simp only [World.size_alloc]; omega) hgr8 hx8.out (by rcases hat8 with q | q; (exact Or.inl q.symm); (exact Or.inr ⟨g8, rfl, by omega⟩)); have hs8 : w.heap.size + 2 ≤ w8.heap.size := (by have h1 := hgr8.size; have h2 := hb5h.out.size; simp only [World.size_alloc] at h1; omega); clear hg8 hgr8 hat8 hg5 hx8 b57 hnw hone hr7))
        go_roundw
        case rel =>
          refine ⟨j + 1, some ⟨g8, 0, none⟩, cap8, ys ++ [delE pj], by omega, ?_, by rw [List.length_append, List.length_singleton], ?_, ?_, by omega⟩
          · rw [show ((kidsOf a).length : Int) - 1 - ((j + 1 : Nat) : Int) = (q : Int) - 1 by omega]
          · show _ = _; rw [hDJ.out, hys.out]; simp only [List.append_assoc]
          · have q := hgs8.out; show Gs _ _ _ _ _ _ _ _ _ _ _ _ _ _ _; rw [List.length_append, List.length_singleton]; exact q
        case measure => simp [intOf]
      · obtain rfl : j = (kidsOf a).length - (kidsOf b).length := by omega
        have hnge : ¬ (((kidsOf b).length : Int) ≤ ((kidsOf a).length : Int) - 1 - (((kidsOf a).length - (kidsOf b).length : Nat) : Int)) := by omega
        go_wp2_with fail
        clear d1
        go_loopw [3, 10] (fun v i wr => ∃ (j : Nat) (avj : Option Addr) (capj : Nat) (ys : List EditD), j ≤ (kidsOf b).length ∧ i = .int .i64 j ∧ v = .slice avj ys.length capj ∧ Hid (ys = xs ++ renJ a b p ++ delJ p (kidsOf a).length ((kidsOf a).length - (kidsOf b).length) ++ cutJ (cutsD n) a b p (min j (kidsOf a).length)) ∧ Hid (Gs 29 base m w0 w wr (.slice av xs.length capv) (.slice avj ys.length capj) ys [.string (strT a), .slice aA (kidsOf a).length cA] [.string (strT b), .slice aB (kidsOf b).length cB] 26 (.slice apk p.length capk) p fp) ∧ w.heap.size + 2 ≤ wr.heap.size) (fun _ i _ => (kidsOf b).length - (intOf i).toNat)
        case atStart => exact ⟨0, avj, capj, ys, Nat.zero_le _, rfl, rfl, (by show _ = _; rw [Nat.zero_min, cutJ_zero, List.append_nil]; exact hys.out), hgs, hsz⟩
        case round =>
          obtain ⟨j, avj, capj, ys, hj, rfl, rfl, hys, hgs, hsz⟩ := hrel
          have d1 := hgs.out.2.2.2.2.1.cell 1 rfl
          by_cases hlb : j < (kidsOf b).length
          · have hlbI : (j : Int) < ((kidsOf b).length : Int) := by omega
            have hj0 : (0 : Int) ≤ (j : Int) := by omega
            obtain ⟨bb, ob, t3, k3, rfl, hbb0, kb0', kb1', hty⟩ := htb0.out.kid (p := j) hlb
            have htgY0 : (strT (nth (kidsOf b) j)).size ≤ maxLen := hty.tag.2
            obtain ⟨rfl, _⟩ := hty.tag
            obtain ⟨_, aY, cY, rfl⟩ := hty.form
            have hRY : Hid (RightT (nth (kidsOf b) j)) := hRb'.out.nth hlb
            have hY0 : Hid (TreeAt w0 lo n (.string (strT (nth (kidsOf b) j))) (.slice aY (kidsOf (nth (kidsOf b) j)).length cY) (nth (kidsOf b) j)) := hty
            have hbb : Hid (bb < w0.heap.size) := hbb0
            have kb0 : Hid (w0.cell? ⟨bb, ob + j * 2, none⟩ = some (.string (strT (nth (kidsOf b) j)))) := kb0'
            have kb1 : Hid (w0.cell? ⟨bb, ob + j * 2 + 1, none⟩ = some (.slice aY (kidsOf (nth (kidsOf b) j)).length cY)) := kb1'
            clear hbb0 kb0' kb1' hty
            obtain ⟨pj, hpj⟩ : ∃ pj : List Int, p ++ [(j : Int)] = pj := ⟨_, rfl⟩
            have hpjl : pj.length ≤ 1048576 := by rw [← hpj]; simp; omega
            have hpjh : Hid (p ++ [(j : Int)] = pj) := hpj
            have hIX : Hid (InI (j : Int)) := by show InI _; unfold InI; omega
            have hIj : Hid (∀ x ∈ pj, InI x) := by rw [← hpj]; intro x hx; rcases List.mem_append.1 hx with q | q; (exact hIp.out x q); (simp at q; subst q; exact hIX.out)
            have hrl : Hid (∀ g, (Value.slice avj ys.length capj).ownBlock = some g → g < wr.heap.size) := by obtain ⟨_, _, hgw⟩ := hgs.out.1; exact row_lt hgw.2.2.2.1
            have hyl : ys.length ≤ 100000 := by
              have h1 := cutJ_len (cutsD_len n) a b p (min j (kidsOf a).length) (Nat.min_le_right _ _)
              have h2 := cut_room (n := n) a b (show min j (kidsOf a).length ≤ min (kidsOf a).length (kidsOf b).length by omega)
              have h3 := hcT.out
              rw [hys.out, List.length_append, List.length_append, List.length_append, delJ_len]; omega
            have hpA : Hid (SeqAt 1 IntAt (wr.alloc (.cells #[] 2)) 0 (.slice apk p.length capk) p) := (hgs.out.2.2.2.2.2.1.at intOwn_at (fun _ _ => Nat.zero_le _)).below intAt_stays ((Below.refl _ _).alloc (Nat.le_refl _) _)
            go_upto_if 64 with (at_builtin; first | (refine wpList_append_ints rfl _ _ 27 rfl wr.heap.size 0 2 iI Try.underlying27 hiI.out heI.out.1 heI.out.2.1 heI.out.2.2 (.slice (some ⟨wr.heap.size, 0, none⟩) 0 0) 0 [] rfl (by simp) (row_start (Nat.le_refl _)) _ p rfl hpA.out (by omega) (by simp) ?_; intro v1 w1 hown1 hgrow1 hnn1; have row1 : Hid (w1.ownsRow wr.heap.size 2 1 v1 p.length (p.map fun n => Value.int .i64 n)) := (by have q := hown1; rw [Nat.zero_add, List.nil_append] at q; exact q); obtain ⟨g1, cap1, rfl⟩ := nonnil_row row1.out hnn1; have hb1 : Hid (Below wr.heap.size wr w1) := ((Below.refl _ _).alloc (Nat.le_refl _) _).grown hgrow1 (by simp) (fun k e => by simp [Value.ownBlock] at e; omega); have hz1 := hb1.out.size; clear hown1 hgrow1 hnn1; have hx1 : Hid (SeqAt 1 IntAt (w1.alloc (.cells #[.int .i64 (j : Int)] 2)) 0 (.slice (some ⟨w1.heap.size, 0, none⟩) 1 1) [(j : Int)]) := box1_atF (Box.new w1 [.int .i64 (j : Int)] 2) hIX.out; have row1b : Hid ((w1.alloc (.cells #[.int .i64 (j : Int)] 2)).ownsRow wr.heap.size 2 1 (.slice (some ⟨g1, 0, none⟩) p.length cap1) p.length (p.map fun n => Value.int .i64 n)) := row_below row1.out ((Below.refl _ _).alloc (Nat.le_refl _) _)) | (refine wpList_append_ints rfl _ _ 27 rfl wr.heap.size 0 2 iI Try.underlying27 hiI.out heI.out.1 heI.out.2.1 heI.out.2.2 (.slice (some ⟨g1, 0, none⟩) p.length cap1) p.length (p.map fun n => Value.int .i64 n) rfl (by simp) row1b.out _ [(j : Int)] rfl hx1.out (by simp; omega) (by simp only [World.size_alloc]; omega) ?_; intro v2 w5 hown2 hgrow2 hnn2; have row2 : Hid (w5.ownsRow wr.heap.size 2 1 v2 pj.length (pj.map fun n => Value.int .i64 n)) := (by rw [← hpjh.out]; show World.ownsRow _ _ _ _ _ _ _; rw [List.length_append, List.map_append]; exact hown2); obtain ⟨f5, o5, l5⟩ := seqOwn_of_row row2.out hIj.out; obtain ⟨a5, c5, rfl⟩ := o5.form; have hb5h : Hid (Below wr.heap.size wr w5) := (hb1.out.alloc hb1.out.size _).grown hgrow2 (by simp only [World.size_alloc]; omega) (fun k e => own_block2 row1.out k e); have o5h : Hid (SeqOwn 1 IntOwn w5 (.slice a5 pj.length c5) pj f5) := o5; have l5h : Hid (∀ x ∈ f5, wr.heap.size ≤ x) := (fun x hx => l5 x hx); have hgs5 : Hid (Gs 29 base m w0 w w5 (.slice av xs.length capv) (.slice avj ys.length capj) ys [.string (strT a), .slice aA (kidsOf a).length cA] [.string (strT b), .slice (some ⟨bb, ob, none⟩) (kidsOf b).length cB] 26 (.slice apk p.length capk) p fp) := hgs.out.below hb5h.out; have hz5 := hb5h.out.size; have e1 := hgs5.out.2.2.2.1.cell 1 rfl; clear o5 l5 hown2 hgrow2 hnn2 row1 row2 hb1 hpA hx1 row1b))
            clear d1
            by_cases hla : j < (kidsOf a).length
            · have hlaI : (j : Int) < ((kidsOf a).length : Int) := by omega
              obtain ⟨ba, oa, t2, k2, rfl, hba0, ka0', ka1', htx⟩ := hta0.out.kid (p := j) hla
              obtain ⟨rfl, _⟩ := htx.tag
              obtain ⟨_, aX, cX, rfl⟩ := htx.form
              have hRX : Hid (RightT (nth (kidsOf a) j)) := hRa'.out.nth hla
              have hX0 : Hid (TreeAt w0 lo n (.string (strT (nth (kidsOf a) j))) (.slice aX (kidsOf (nth (kidsOf a) j)).length cX) (nth (kidsOf a) j)) := htx
              have hba : Hid (ba < w0.heap.size) := hba0
              have ka0 : Hid (w0.cell? ⟨ba, oa + j * 2, none⟩ = some (.string (strT (nth (kidsOf a) j)))) := ka0'
              have ka1 : Hid (w0.cell? ⟨ba, oa + j * 2 + 1, none⟩ = some (.slice aX (kidsOf (nth (kidsOf a) j)).length cX)) := ka1'
              clear hba0 ka0' ka1' htx
              have hCJ : Hid (cutJ (cutsD n) a b p (min (j + 1) (kidsOf a).length) = cutJ (cutsD n) a b p (min j (kidsOf a).length) ++ cutsD n (nth (kidsOf a) j) (nth (kidsOf b) j) pj) := by show _ = _; rw [Nat.min_eq_left (show j + 1 ≤ (kidsOf a).length from hla), Nat.min_eq_left (show j ≤ (kidsOf a).length by omega), ← hpj]; exact cutJ_succ _ _ _ _ _
              have hcnt : Hid (ys.length + cntTree (n + 1) (nth (kidsOf a) j) ≤ 100000 ∧ pj.length + cntTree (n + 1) (nth (kidsOf a) j) ≤ 100000) := by
                have h1 := cutJ_len (cutsD_len n) a b p j (by omega)
                have h2 := cut_room (n := n) a b (show j + 1 ≤ min (kidsOf a).length (kidsOf b).length by omega)
                rw [pos_succ hla] at h2
                have h3 := hcT.out
                rw [nth_get hla]
                have h4 := hys.out
                rw [Nat.min_eq_left (show j ≤ (kidsOf a).length by omega)] at h4
                refine ⟨?_, ?_⟩
                · rw [h4, List.length_append, List.length_append, List.length_append, delJ_len]; omega
                · rw [← hpj, List.length_append, List.length_singleton]; omega
              generalize nth (kidsOf a) j = X at hCJ hRX hX0 ka0 ka1 hcnt
              generalize nth (kidsOf b) j = Y at hCJ hRY hY0 kb0 kb1 htgY0
              clear hpj e1
              go_wp2_with fail
              have y0 := hgs5.out.2.2.2.1.cell 1 rfl; have y2 := (hgs5.out.2.2.2.2.2.2.cell (p := ⟨ba, oa + j * 2, none⟩) hba.out).trans ka0.out; have y3 := (hgs5.out.2.2.2.2.2.2.cell (p := ⟨ba, oa + j * 2 + 1, none⟩) hba.out).trans ka1.out
              have y1 := hgs5.out.2.2.2.2.1.cell 1 rfl; have y4 := (hgs5.out.2.2.2.2.2.2.cell (p := ⟨bb, ob + j * 2, none⟩) hbb.out).trans kb0.out; have y5 := (hgs5.out.2.2.2.2.2.2.cell (p := ⟨bb, ob + j * 2 + 1, none⟩) hbb.out).trans kb1.out
              go_region_held3 (fun w' => w'.cell? ⟨w.heap.size, 1, none⟩ = some (.slice (some ⟨ba, oa, none⟩) (kidsOf a).length cA) ∧ w'.cell? ⟨w.heap.size + 1, 1, none⟩ = some (.slice (some ⟨bb, ob, none⟩) (kidsOf b).length cB) ∧ w'.cell? ⟨ba, oa + j * 2, none⟩ = some (.string (strT X)) ∧ w'.cell? ⟨ba, oa + j * 2 + 1, none⟩ = some (.slice aX (kidsOf X).length cX) ∧ w'.cell? ⟨bb, ob + j * 2, none⟩ = some (.string (strT Y)) ∧ w'.cell? ⟨bb, ob + j * 2 + 1, none⟩ = some (.slice aY (kidsOf Y).length cY)) (go_keep) (first | (go_at_call 47; obtain ⟨⟨bsV, csV, hgV⟩, _⟩ := hgs.out; obtain ⟨zs, hzs⟩ : ∃ zs, ys ++ cutsD n X Y pj = zs := ⟨_, rfl⟩; have hzsh : Hid (ys ++ cutsD n X Y pj = zs) := hzs; clear hzs; have hbd : Hid (Below w5.heap.size w5 (World.drew w5)) := Below.drew (Below.refl _ _); refine (ih.out _ wr _ _ _ _ _ _ X Y pj f5 ys bsV csV hX0.out hY0.out hRX.out hRY.out (by exact hgs5.out.2.2.2.2.2.2.trans (hbd.out.mono hgs5.out.2.2.2.2.2.2.size)) hbase (by omega) (by omega) hgV (by exact hb5h.out.trans (hbd.out.mono hb5h.out.size)) (by exact o5h.out.below intOwn_stays intOwn_lt hbd.out) l5h.out hcnt.out.2 hcnt.out.1).mono ?_; rw [hzsh.out]; rintro e w6 ⟨v6, bs6, cs6, rfl, hg6, hgr6, hat6⟩; obtain ⟨a6, c6, rfl⟩ := hg6.len; have hgr6u : w5.grownBy w6 (some 0) ∨ True := Or.inr trivial; have hgs6 : Hid (Gs 29 base m w0 w w6 (.slice av xs.length capv) (.slice a6 zs.length c6) zs [.string (strT a), .slice (some ⟨ba, oa, none⟩) (kidsOf a).length cA] [.string (strT b), .slice (some ⟨bb, ob, none⟩) (kidsOf b).length cB] 26 (.slice apk p.length capk) p fp) := (hgs5.out.below hbd.out).grow hv9.out hfp9.out hz0 (by show _ ≤ w5.heap.size; omega) hgr6 ⟨bs6, cs6, hg6⟩ hat6; have z0 := hgs6.out.2.2.2.1.cell 1 rfl; have z2 := (hgs6.out.2.2.2.2.2.2.cell (p := ⟨ba, oa + j * 2, none⟩) hba.out).trans ka0.out; have z3 := (hgs6.out.2.2.2.2.2.2.cell (p := ⟨ba, oa + j * 2 + 1, none⟩) hba.out).trans ka1.out; have z1 := hgs6.out.2.2.2.2.1.cell 1 rfl; have z4 := (hgs6.out.2.2.2.2.2.2.cell (p := ⟨bb, ob + j * 2, none⟩) hbb.out).trans kb0.out; have z5 := (hgs6.out.2.2.2.2.2.2.cell (p := ⟨bb, ob + j * 2 + 1, none⟩) hbb.out).trans kb1.out; have hs6 : w5.heap.size ≤ w6.heap.size := hgr6.size; clear hg6 hgr6 hat6 hgV hgr6u))
              go_wp2_with fail
              go_roundw
              case rel => exact ⟨j + 1, a6, c6, zs, by omega, by go_num, rfl, (by show _ = _; rw [← hzsh.out, hys.out, hCJ.out]; simp only [List.append_assoc]), hgs6, by omega⟩
              case measure => simp [intOf]; omega
            · have hlaI : ¬ ((j : Int) < ((kidsOf a).length : Int)) := by omega
              clear hpj
              go_wp2_with fail
              go_roundw
              case rel => exact ⟨j + 1, avj, capj, ys, by omega, by go_num, rfl, (by show _ = _; rw [Nat.min_eq_right (show (kidsOf a).length ≤ j + 1 by omega), hys.out, Nat.min_eq_right (show (kidsOf a).length ≤ j by omega)]), hgs5, by omega⟩
              case measure => simp [intOf]; omega
          · obtain rfl : j = (kidsOf b).length := by omega
            go_wp2_with fail
            go_ret
            obtain ⟨⟨bs9, cs9, hg⟩, h2, h3, _⟩ := hgs.out
            have e9 : ys = xs ++ cutsD (n + 1) a b p := by rw [hys.out, Nat.min_comm]; show _ = xs ++ (renJ a b p ++ _ ++ _); simp only [List.append_assoc]
            subst e9
            exact ⟨_, bs9, cs9, rfl, hg, h2, h3.imp id (fun ⟨g, e, q⟩ => ⟨g, e, by omega⟩)⟩
theorem DsS_all {w0 : World} {lo base m : Nat} : ∀ n, DsS w0 lo base m n := by
  intro n
  induction n with
  | zero => intro w wg ta ka tb kb kp vout a b p fp xs bss css h; exact h.elim
  | succ n ih => exact DsS_step n ih
end Go.Proofs.Ytndffcogddefiaa
