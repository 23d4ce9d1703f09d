/- All paths of a tree: plain facts. -/
import Derived.Test.YtndffcogddefiaaCntNine
import Derived.Test.YtndffcogddefiaaGrowOwn
import Derived.WalkKit
import Derived.Test.YtndffcogddefiaaGrowAppB
import Derived.Test.YtndffcogddefiaaPathTo
import Derived.Test.YtndffcogddefiaaOkWalks
import Derived.Test.YtndffcogddefiaaTakeLit
import Derived.Deep.RegionHeld3
import Derived.Test.YtndffcogddefiaaAppendRows
import Derived.Deep.AppendLies
import Derived.Deep.AppendSrc
import Derived.Test.YtndffcogddefiaaDrawsNum
namespace Go.Proofs.Ytndffcogddefiaa
/-- the paths to a tree that stands at a path, and to all below it -/
def pathsD : Nat → TD → List Int → List (List Int)
  | 0, _, _ => []
  | n + 1, d, p => p :: (List.range (kidsOf d).length).flatMap fun i => pathsD n (nth (kidsOf d) i) (p ++ [(i : Int)])
/-- those through the first j kids -/
def pathsJ (n : Nat) (d : TD) (p : List Int) (j : Nat) : List (List Int) := (List.range j).flatMap fun i => pathsD n (nth (kidsOf d) i) (p ++ [(i : Int)])
theorem pathsD_succ (n : Nat) (d : TD) (p : List Int) : pathsD (n + 1) d p = p :: pathsJ n d p (kidsOf d).length := rfl
theorem pathsJ_zero (n : Nat) (d : TD) (p : List Int) : pathsJ n d p 0 = [] := rfl
theorem pathsJ_succ (n : Nat) (d : TD) (p : List Int) (j : Nat) : pathsJ n d p (j + 1) = pathsJ n d p j ++ pathsD n (nth (kidsOf d) j) (p ++ [(j : Int)]) := by
  unfold pathsJ
  rw [List.range_succ, List.flatMap_append]; simp
theorem pathsJ_le (n : Nat) (d : TD) (p : List Int) {i j : Nat} (h : i ≤ j) : (pathsJ n d p i).length ≤ (pathsJ n d p j).length := by
  induction h with
  | refl => exact Nat.le_refl _
  | step _ ih => rw [pathsJ_succ, List.length_append]; omega
theorem pathsJ_len {n : Nat} (ih : ∀ (d : TD) (p : List Int), (pathsD n d p).length = cntTree n d) (d : TD) (p : List Int) : ∀ j, j ≤ (kidsOf d).length → (pathsJ n d p j).length = pos (cntTree n) (kidsOf d) j := by
  intro j
  induction j with
  | zero => intro _; rw [pathsJ_zero, pos_zero]; rfl
  | succ j ihj =>
    intro hj
    rw [pathsJ_succ, List.length_append, ihj (by omega), ih, pos_succ (by omega)]
    have e : nth (kidsOf d) j = (kidsOf d)[j] := by simp [nth, List.getD, List.getElem?_eq_getElem (show j < (kidsOf d).length by omega)]
    rw [e]
theorem pathsD_len : ∀ (n : Nat) (d : TD) (p : List Int), (pathsD n d p).length = cntTree n d := by
  intro n
  induction n with
  | zero => intro d p; rfl
  | succ n ih =>
    intro d p
    rw [pathsD_succ, List.length_cons, pathsJ_len ih d p _ (Nat.le_refl _)]
    simp only [cntTree, cntL]
    omega
theorem RightT.cntT {d : TD} (h : RightT d) (L : Nat) : cntTree L d ≤ 30 := by
  obtain ⟨n, room, m, e, hr⟩ := h
  have h1 := szD_cnt n d room m e L
  have h2 := szD_range _ _ _ _ e
  omega
/-- what PathsOf tells -/
def pathsOfD (ok : Bool) (n : Nat) (d : TD) : List (List Int) := if ok = true then pathsD n d [] else []
theorem pathsOfD_no {ok : Bool} {n : Nat} {d : TD} (h : ok = false) : pathsOfD ok n d = [] := by simp [pathsOfD, h]
theorem pathsOfD_yes {ok : Bool} {n : Nat} {d : TD} (h : ok = true) : pathsOfD ok n d = pathsD n d [] := by simp [pathsOfD, h]
/-- no path is longer than there are levels -/
theorem pathsD_deep : ∀ (n : Nat) (d : TD) (p q : List Int), q ∈ pathsD n d p → q.length ≤ p.length + n := by
  intro n
  induction n with
  | zero => intro d p q h; cases h
  | succ n ih =>
    intro d p q h
    rw [pathsD_succ] at h
    rcases List.mem_cons.1 h with e | e
    · rw [e]; omega
    · obtain ⟨i, _, hi⟩ := List.mem_flatMap.1 e
      have := ih _ _ _ hi
      simp at this
      omega
end Go.Proofs.Ytndffcogddefiaa
namespace Go.Proofs.Ytndffcogddefiaa
open Go.RowKit
def IntsOwn (w : World) (cs : List Value) (xs : List Int) (fs : List Nat) : Prop := ∃ k, cs = [k] ∧ SeqOwn 1 IntOwn w k xs fs
def IntsAt (w : World) (lo : Nat) (cs : List Value) (xs : List Int) : Prop := ∃ k, cs = [k] ∧ SeqAt 1 IntAt w lo k xs
theorem IntsOwn_stays : OwnStays IntsOwn := fun _ _ _ _ _ q h => by obtain ⟨k, e, h⟩ := h; exact ⟨k, e, h.stays intOwn_stays q⟩
theorem IntsOwn_lt : OwnLt IntsOwn := fun _ _ _ _ h => by obtain ⟨k, e, h⟩ := h; exact h.lt intOwn_lt
theorem IntsAt_stays : Stays IntsAt := fun _ _ _ _ _ _ q h => by obtain ⟨k, e, h⟩ := h; exact ⟨k, e, h.keep intAt_stays q⟩
theorem IntsOwn_at {lo : Nat} (w : World) (cs : List Value) (x : List Int) (fs : List Nat) (h : IntsOwn w cs x fs) (q : ∀ b ∈ fs, lo ≤ b) : IntsAt w lo cs x := by obtain ⟨k, e, h⟩ := h; exact ⟨k, e, h.at intOwn_at q⟩
end Go.Proofs.Ytndffcogddefiaa
namespace Go.Proofs.Ytndffcogddefiaa
open Go.RowKit
theorem infoIS : ((Try.prog.info? 27).map fun i => (i.zero, i.size, i.bytes)) = some (some (.slice none 0 0), 1, 24) := by kernel_rfl
/-- what stands in memory behind a call that told some paths more -/
def PathsAns (base : Nat) (w w' : World) (vout : Value) (e : Ending) (ys : List (List Int)) : Prop := ∃ (v : Value) (bss : List (List Nat)) (css : List (List Value)), e = .returned v ∧ GrowOwn 27 1 IntsOwn base w' v ys bss css ∧ w.grownBy w' vout.ownBlock ∧ (v.ownBlock = vout.ownBlock ∨ ∃ g, v.ownBlock = some g ∧ w.heap.size ≤ g)
end Go.Proofs.Ytndffcogddefiaa
namespace Go.Proofs.Ytndffcogddefiaa
open Go.RowKit
theorem step_append_ints {P : Program} {w : World} {ops : Array Oper} {o : Oper} {a : Act} {K : Act → World → Prop} {Q : Exit → Act → World → Prop} {E : Prop} (hgd : o.guard = none) (s x : Operand) (t : TypeId)
    (ho : o.op = .call { callee := .builtin .append, args := #[s, x], argTypes := #[t, t] }) (base lo : Nat) (e : TypeId) (i : TypeInfo) (ht : P.underlying t = some (.slice e)) (hi : P.info? e = some i) (hz : i.zero = some (.int .i64 0)) (hsize : i.size = 1) (hby : i.bytes = 8)
    (v : Value) (n : Nat) (xs : List Value) (hs : a.eval s = v) (hv : v ≠ .slice none 0 0) (hown : w.ownsRow base e 1 v n xs) (k : Value) (ks : List Int) (hx : a.eval x = k) (hk : SeqAt 1 IntAt w lo k ks) (hl : n + ks.length ≤ 1099511627776) (hbase : base ≤ w.heap.size)
    (h : ∀ v' w', w'.ownsRow base e 1 v' (n + ks.length) (xs ++ ks.map fun n => .int .i64 n) → w.grownBy w' v.ownBlock → v' ≠ .slice none 0 0 → K (a.put o.dst v') w') : if Region.wanted o (yielded ops a.tmps) = true then Oper.wp P o a w K Q else E := by
  have hw : Region.wanted o (yielded ops a.tmps) = true := by simp [Region.wanted, hgd]
  rw [if_pos hw]
  obtain ⟨ka, kc, rfl, hm, hc⟩ := hk
  cases ka with
  | none =>
    have h0 : ks.length = 0 := by
      rcases Nat.eq_zero_or_pos ks.length with q | q
      · exact q
      · obtain ⟨b, off, e, _⟩ := hc q; cases e
    have hks : ks = [] := List.eq_nil_of_length_eq_zero h0
    subst hks
    have hown' := hown
    rcases hown.2 with ⟨q, _⟩ | ⟨g, cap, cur, rfl, hg, hh, q1, q2, q3, q4⟩
    · exact absurd q hv
    · have hsrc : Src P i.size t (.slice none 0 kc) 0 [] w := Src.ofNil w ht kc
      have hrun := run_append_room_src (P := P) w t t o.type e i ht hi g 0 n cap (.slice none 0 kc) 0 [] hsrc (by omega) (by simp) (by simp)
      have hset : w.setCells g (0 + n * i.size) [] = w := rfl
      rw [hset] at hrun
      unfold Oper.wp
      simp only [List.length_nil] at hx
      simp [execOp, ho, resolve, invoke, builtin, hs, hx, hrun, Result.andThen]
      exact h _ w (by simpa using hown') ⟨rfl, rfl, rfl, Nat.le_refl _, fun _ _ _ => rfl⟩ (by simp)
  | some ad =>
    refine wp_append_own w s x t ho base e i (.int .i64 0) 1 8 ht hi hz hsize hby rfl (by decide) v n xs hs hown ad ks.length kc (ks.map fun n => .int .i64 n) hx (by simp) (fun j u hj => ?_) (fun u hu => ?_) (by unfold maxLen; omega) (by omega) hbase (fun v' w' h1 h2 h3 => ?_)
    · have hj' : j < ks.length := by
        rcases Nat.lt_or_ge j ks.length with q | q
        · exact q
        · rw [List.getElem?_eq_none (by simpa using q)] at hj; cases hj
      obtain ⟨b, off, q, _, _, hcc⟩ := hc (by omega)
      injection q with q
      subst q
      obtain ⟨cs, hcl, lie, hr⟩ := hcc j hj'
      obtain ⟨rfl, _⟩ := hr
      have z := lie 0 (by simp)
      simp only [List.getElem?_cons_zero, Nat.add_zero, Nat.mul_one] at z
      rw [List.getElem?_map, List.getElem?_eq_getElem hj'] at hj
      simp only [Option.map_some, Option.some.injEq] at hj
      rw [← hj]
      unfold Addr.add
      by_cases e0 : j = 0
      · subst e0; simpa using z
      · rw [if_neg e0]; exact z
    · obtain ⟨q, _, rfl⟩ := List.mem_map.1 hu
      rfl
    · exact h v' w' h1 h2 (fun q => hv (h3.1 q).1)
def PaS (w0 : World) (lo base : Nat) (n : Nat) : Prop := ∀ (w : World) (t k kp vout : Value) (d : TD) (p : List Int) (fp : List Nat) (xs : List (List Int)) (bss : List (List Nat)) (css : List (List Value)), TreeAt w0 lo n t k d → RightT d → Below w0.heap.size w0 w → w0.heap.size ≤ base → base ≤ w.heap.size →
    GrowOwn 27 1 IntsOwn base w vout xs bss css → SeqOwn 1 IntOwn w kp p fp → (∀ b ∈ fp, vout.ownBlock ≠ some b) → p.length + cntTree n d ≤ 100000 → xs.length + cntTree n d ≤ 100000 →
    Calls Try.prog 77 #[.agg #[t, k], kp, vout] w fun e w' => PathsAns base w w' vout e (xs ++ pathsD n d p)
set_option maxRecDepth 100000 in
set_option maxHeartbeats 16000000 in
theorem paS_step {w0 : World} {lo base : Nat} (n : Nat) (ih0 : PaS w0 lo base n) : PaS w0 lo base (n + 1) := by
  intro w t k kp vout d p fp xs bss css ht hR hB0 hbase hbg hgr hp hnf hpl hxl
  obtain ⟨rfl, hsz⟩ := ht.tag
  obtain ⟨_, a0, cap0, rfl⟩ := ht.form
  have ih : Hid (PaS w0 lo base n) := ih0
  have ht0 : Hid (TreeAt w0 lo (n + 1) _ _ d) := ht
  have hR' : Hid (RightT d) := hR
  have hfew : (kidsOf d).length ≤ 30 := hR.few
  have hB0' : Hid (Below w0.heap.size w0 w) := hB0
  have hgr' : Hid (GrowOwn 27 1 IntsOwn base w vout xs bss css) := hgr
  have hp' : Hid (SeqOwn 1 IntOwn w kp p fp) := hp
  have hfp : Hid (∀ b ∈ fp, b < w.heap.size) := hp.lt intOwn_lt
  have hnf' : Hid (∀ b ∈ fp, vout.ownBlock ≠ some b) := hnf
  have hvlt : Hid (∀ g, vout.ownBlock = some g → base ≤ g ∧ g < w.heap.size) := fun g e => ⟨own_block2 hgr.2.2.2.1 g e, row_lt hgr.2.2.2.1 g e⟩
  have hz0 := hB0.size
  have hcT : Hid (cntTree (n + 1) d = 1 + cntL (cntTree n) (kidsOf d)) := rfl
  have hpl1 : p.length ≤ 100000 := by omega
  have hxl1 : xs.length < 100000 := by have := hcT.out; omega
  have hIp : Hid (∀ x ∈ p, InI x) := fun x hx => by
    obtain ⟨i, hi, rfl⟩ := List.getElem_of_mem hx
    have hpat := hp.at (lo := 0) intOwn_at (fun _ _ => Nat.zero_le _)
    obtain ⟨a, cap, _, _, hpx⟩ := hpat
    obtain ⟨b, off, _, _, _, hc⟩ := hpx (by omega)
    obtain ⟨cs, _, _, hr⟩ := hc i hi
    exact hr.2
  obtain ⟨av, capv, rfl⟩ := hgr.len
  obtain ⟨apk, capk, rfl⟩ := hp.form
  obtain ⟨iT, hiT0, heT0, heT1, heT2⟩ := info_parts2 infoIS
  have hiT : Hid (Try.prog.info? 27 = some iT) := hiT0
  have heT : Hid (iT.zero = some (.slice none 0 0) ∧ iT.size = 1 ∧ iT.bytes = 24) := ⟨heT0, heT1, heT2⟩
  obtain ⟨iI, hiI0, heI0, heI1, heI2⟩ := info_parts2 infoI
  have hiI : Hid (Try.prog.info? 2 = some iI) := hiI0
  have heI : Hid (iI.zero = some (.int .i64 0) ∧ iI.size = 1 ∧ iI.bytes = 8) := ⟨heI0, heI1, heI2⟩
  clear ih0 ht hR hsz hB0 hgr hp hnf hiT0 heT0 heT1 heT2 hiI0 heI0 heI1 heI2
  have hb2 : Hid (Below w.heap.size w ((w.alloc (.cells #[.string (strT d), .slice a0 (kidsOf d).length cap0] 26)).alloc (.cells #[] 2))) := ((Below.refl _ _).alloc (Nat.le_refl _) _).alloc (by simp) _
  have hz2 : ((w.alloc (.cells #[.string (strT d), .slice a0 (kidsOf d).length cap0] 26)).alloc (.cells #[] 2)).heap.size = w.heap.size + 2 := by simp
  have bA0 : Hid (Box ((w.alloc (.cells #[.string (strT d), .slice a0 (kidsOf d).length cap0] 26)).alloc (.cells #[] 2)) w.heap.size [.string (strT d), .slice a0 (kidsOf d).length cap0] 26) := (Box.new w _ _).alloc _
  have hpA2 : Hid (SeqAt 1 IntAt ((w.alloc (.cells #[.string (strT d), .slice a0 (kidsOf d).length cap0] 26)).alloc (.cells #[] 2)) 0 (.slice apk p.length capk) p) := SeqAt.below intAt_stays (hp'.out.at (lo := 0) intOwn_at (fun _ _ => Nat.zero_le _)) hb2.out
  have hp2 : Hid (SeqOwn 1 IntOwn ((w.alloc (.cells #[.string (strT d), .slice a0 (kidsOf d).length cap0] 26)).alloc (.cells #[] 2)) (.slice apk p.length capk) p fp) := hp'.out.below intOwn_stays intOwn_lt hb2.out
  have row2 : Hid (((w.alloc (.cells #[.string (strT d), .slice a0 (kidsOf d).length cap0] 26)).alloc (.cells #[] 2)).ownsRow (w.heap.size + 1) 2 1 (.slice (some ⟨w.heap.size + 1, 0, none⟩) 0 0) 0 []) := by
    have := row_start (w := (w.alloc (.cells #[.string (strT d), .slice a0 (kidsOf d).length cap0] 26))) (B := w.heap.size + 1) (by simp)
    simpa only [World.size_alloc, Hid] using this
  have hbA0 : Hid ((Value.slice av xs.length capv).ownBlock ≠ some w.heap.size) := fun e => by have := hvlt.out _ e; omega
  go_enter Try.func77, Try.ntmps77
  go_wp2_with (first | (at_builtin; refine wpList_append_ints rfl _ _ 27 rfl (w.heap.size + 1) 0 2 iI Try.underlying27 hiI.out heI.out.1 heI.out.2.1 heI.out.2.2 (.slice (some ⟨w.heap.size + 1, 0, none⟩) 0 0) 0 [] rfl (by simp) row2.out _ p rfl hpA2.out (by omega) (by simp) ?_; intro v1 w2 hown1 hgrow1 hnn1; have row1 : Hid (w2.ownsRow (w.heap.size + 1) 2 1 v1 p.length (p.map fun n => Value.int .i64 n)) := (by show World.ownsRow _ _ _ _ _ _ _; have := hown1; rw [Nat.zero_add, List.nil_append] at this; exact this); obtain ⟨g1, cap1, rfl⟩ := nonnil_row row1.out hnn1; have hgrow1' : Hid (World.grownBy ((w.alloc (.cells #[.string (strT d), .slice a0 (kidsOf d).length cap0] 26)).alloc (.cells #[] 2)) w2 (some (w.heap.size + 1))) := hgrow1; have hb2w : Hid (Below w.heap.size w w2) := Below.grown hb2.out hgrow1 (by rw [hz2]; omega) (fun k e => by simp only [Value.ownBlock, Option.some.injEq] at e; omega); have sq1 : Hid (∃ f1, SeqOwn 1 IntOwn w2 (.slice (some ⟨g1, 0, none⟩) p.length cap1) p f1 ∧ ∀ b ∈ f1, w.heap.size + 1 ≤ b) := seqOwn_of_row row1.out hIp.out; obtain ⟨f1, sqa, sqb⟩ := sq1.out; have sqa' : Hid (SeqOwn 1 IntOwn w2 (.slice (some ⟨g1, 0, none⟩) p.length cap1) p f1) := sqa; have sqb' : Hid (∀ b ∈ f1, w.heap.size + 1 ≤ b) := sqb; have hzw2 : w.heap.size + 2 ≤ w2.heap.size := (by have := hgrow1.size; rw [hz2] at this; exact this); clear hown1 hgrow1 hnn1 sq1 sqa sqb) | (at_builtin; refine wpList_append_grow2 IntsOwn_stays rfl _ _ 97 rfl base iT _ 24 Try.underlying97 hiT.out heT.out.1 heT.out.2.1 heT.out.2.2 rfl (by decide) rfl hgr'.out (hb2w.out.alloc hb2w.out.size _) hbg ⟨w2.heap.size, 0, none⟩ 1 (cs := [.slice (some ⟨g1, 0, none⟩) p.length cap1]) (y := p) (fs := f1) rfl rfl (by intro i u hu; match i, hu with | 0, hu => (simp at hu; subst hu; simp [Addr.add]) | i + 1, hu => simp at hu) (by intro u hu; simp at hu; subst hu; rfl) ⟨_, rfl, sqa'.out.below intOwn_stays intOwn_lt ((Below.refl _ _).alloc (Nat.le_refl _) _)⟩ sqa'.out.nodup (fun b q => by have := sqb'.out b q; omega) (fun b q => by have := sqa'.out.lt intOwn_lt b q; simp; omega) (by unfold maxLen; omega) (by omega) ?_; intro g capg w3 hgr3 hgrow3 hbel3 hat3))
  have hgrow3' : Hid (w.grownBy w3 (Value.slice av xs.length capv).ownBlock) := grown_trans2 (grown_ofB (hb2w.out.alloc hb2w.out.size _)) hgrow3 (fun _ e _ => e)
  have hat3' : Hid ((Value.slice av xs.length capv).ownBlock = some g ∨ w.heap.size + 2 ≤ g) := Or.elim hat3 Or.inl (fun e => Or.inr (by simp only [World.size_alloc] at e; omega))
  have bA3 : Hid (Box w3 w.heap.size [.string (strT d), .slice a0 (kidsOf d).length cap0] 26) := box_grown ((box_grown bA0.out hgrow1'.out (fun e => by injection e with e; omega)).alloc _) hgrow3 hbA0.out
  have hp3 : Hid (SeqOwn 1 IntOwn w3 (.slice apk p.length capk) p fp) := seqOwn_grown intOwn_stays intOwn_lt (SeqOwn.below intOwn_stays intOwn_lt (seqOwn_grown intOwn_stays intOwn_lt hp2.out hgrow1'.out (fun b q e => by injection e with e; have := hfp.out b q; omega)) ((Below.refl _ _).alloc (Nat.le_refl _) _)) hgrow3 hnf'.out
  have hgr3' : Hid (GrowOwn 27 1 IntsOwn base w3 (.slice (some ⟨g, 0, none⟩) (xs.length + 1) capg) (xs ++ [p]) (bss ++ [f1]) (css ++ [[.slice (some ⟨g1, 0, none⟩) p.length cap1]])) := hgr3
  have hB3 : Hid (Below w0.heap.size w0 w3) := hB0'.out.trans ((below_of_grown hgrow3'.out hz0 (fun q e => by have := hvlt.out q e; omega)))
  have hz3 : w.heap.size + 2 ≤ w3.heap.size := by have := hgrow3.size; simp only [World.size_alloc] at this; omega
  clear hgr3 hgrow3 hbel3 hat3 bA0 hp2 hb2 hgr' hpA2 row2 row1 hgrow1' hb2w sqa' sqb'
  go_loopw [2, 7] (fun v i wr => ∃ (j gv capj : Nat) (bsj : List (List Nat)) (csj : List (List Value)), j ≤ (kidsOf d).length ∧ i = .int .i64 j ∧ v = (.slice (some ⟨gv, 0, none⟩) (xs.length + 1 + (pathsJ n d p j).length) capj) ∧ Hid (GrowOwn 27 1 IntsOwn base wr (.slice (some ⟨gv, 0, none⟩) (xs.length + 1 + (pathsJ n d p j).length) capj) (xs ++ [p] ++ pathsJ n d p j) bsj csj) ∧ Hid (w.grownBy wr (Value.slice av xs.length capv).ownBlock) ∧ Hid ((Value.slice av xs.length capv).ownBlock = some gv ∨ w.heap.size + 2 ≤ gv) ∧
      Hid (Box wr w.heap.size [.string (strT d), .slice a0 (kidsOf d).length cap0] 26) ∧ Hid (SeqOwn 1 IntOwn wr (.slice apk p.length capk) p fp) ∧ Hid (Below w0.heap.size w0 wr) ∧ w.heap.size + 2 ≤ wr.heap.size) (fun _ i _ => (kidsOf d).length - (intOf i).toNat)
  case atStart => exact ⟨0, g, capg, _, _, by omega, rfl, by rw [pathsJ_zero]; rfl, by rw [pathsJ_zero, List.append_nil]; exact hgr3', hgrow3', hat3', bA3, hp3, hB3, hz3⟩
  case round =>
    obtain ⟨j, gv, capj, bsj, csj, hj, rfl, rfl, hgrj, hgroj, hatj, bAj, hpj, hBj, hzr2⟩ := hrel
    have hlenx : Hid ((xs ++ [p] ++ pathsJ n d p j).length = xs.length + 1 + (pathsJ n d p j).length) := by show _ = _; simp; omega
    have cA1 := bAj.out.cell 1 rfl
    by_cases hlt : j < (kidsOf d).length
    · obtain ⟨bk, ok, t', k', rfl, hbk, k0, k1, htk⟩ := ht0.out.kid (p := j) hlt
      have hRK0 : Hid (RightT (nth (kidsOf d) j)) := hR'.out.nth hlt
      have hPJ : Hid (pathsJ n d p (j + 1) = pathsJ n d p j ++ pathsD n (nth (kidsOf d) j) (p ++ [(j : Int)])) := pathsJ_succ n d p j
      have hcnt : Hid ((pathsJ n d p j).length + cntTree n (nth (kidsOf d) j) ≤ cntL (cntTree n) (kidsOf d)) := by
        show _ ≤ _
        have e1 := pathsJ_le n d p (show j + 1 ≤ (kidsOf d).length from hlt)
        have e2 := pathsJ_len (pathsD_len n) d p _ (Nat.le_refl (kidsOf d).length)
        rw [hPJ.out, List.length_append, pathsD_len] at e1
        unfold cntL
        omega
      obtain ⟨rfl, _⟩ := htk.tag
      obtain ⟨_, a2, cap2, rfl⟩ := htk.form
      have htK0 : Hid (TreeAt w0 lo n (.string (strT (nth (kidsOf d) j))) (.slice a2 (kidsOf (nth (kidsOf d) j)).length cap2) (nth (kidsOf d) j)) := htk
      have z0 : wr.cell? ⟨bk, ok + j * 2, none⟩ = some _ := (hBj.out.cell (p := ⟨bk, ok + j * 2, none⟩) hbk).trans k0
      have z1 : wr.cell? ⟨bk, ok + j * 2 + 1, none⟩ = some _ := (hBj.out.cell (p := ⟨bk, ok + j * 2 + 1, none⟩) hbk).trans k1
      generalize hY : nth (kidsOf d) j = Y at hRK0 htK0 z0 z1 hPJ hcnt
      have hRY : Hid (RightT Y) := hRK0
      have htY : Hid (TreeAt w0 lo n (.string (strT Y)) (.slice a2 (kidsOf Y).length cap2) Y) := htK0
      have hlt' : (j : Int) < ((kidsOf d).length : Int) := by omega
      have hj0 : (0 : Int) ≤ (j : Int) := by omega
      clear k0 k1 htk hY hRK0 htK0
      have hzr : w.heap.size + 1 ≤ wr.heap.size := bAj.out.lt
      have hglt : gv < wr.heap.size := row_lt hgrj.out.2.2.2.1 gv rfl
      have hpA : Hid (SeqAt 1 IntAt wr 0 (.slice apk p.length capk) p) := hpj.out.at (lo := 0) intOwn_at (fun _ _ => Nat.zero_le _)
      have hgnA : Hid ((some gv : Option Nat) ≠ some w.heap.size) := fun e => by
        injection e with e
        rcases hatj.out with h | h
        · have := hvlt.out _ h; omega
        · omega
      have hgnF : Hid (∀ b ∈ fp, (some gv : Option Nat) ≠ some b) := fun b q e => by
        injection e with e
        subst e
        rcases hatj.out with h | h
        · exact hnf'.out _ q h
        · have := hfp.out _ q; omega
      go_wp2_with fail
      refine wp_region_held_drew (S := fun w' => w'.cell? ⟨w.heap.size, 1, none⟩ = some (.slice (some ⟨bk, ok, none⟩) (kidsOf d).length cap0) ∧ w'.cell? ⟨bk, ok + j * 2, none⟩ = some (.string (strT Y)) ∧ w'.cell? ⟨bk, ok + j * 2 + 1, none⟩ = some (.slice a2 (kidsOf Y).length cap2)) (by kernel_rfl) ⟨cA1, z0, z1⟩ (fun hHeld => ?_)
      refine tq (i := 0) (d := 21) ?_
      simp only [sz, ss]
      refine tq (i := 1) (d := 22) ?_
      simp only [sz, ss]
      refine tq (i := 2) (d := 23) ?_
      simp only [sz, ss]
      refine tq (i := 3) (d := 24) ?_
      simp only [sz, ss]
      refine tq (i := 4) (d := 25) ?_
      simp only [sz, ss]
      refine tq (i := 6) (d := 27) ?_
      simp only [sz, ss]
      refine tq (i := 8) (d := 29) ?_
      simp only [sz, ss]
      refine tq (i := 11) (d := 32) ?_
      simp only [sz, ss]
      refine wpAnyH_ready (rs := [5, 9]) (by kernel_rfl) (by simp) ?_
      refine (AllReadyH.cons rfl (fun K hK => ?_) (AllReadyH.cons rfl (fun K hK => ?_) AllReadyH.nil))
      · have hb5 : Hid (Below wr.heap.size wr (wr.drew.alloc (.cells #[] 2))) := Below.alloc (Below.drew (Below.refl wr.heap.size wr)) (Below.size (Below.drew (Below.refl wr.heap.size wr))) _
        have row5 : Hid ((wr.drew.alloc (.cells #[] 2)).ownsRow wr.heap.size 2 1 (.slice (some ⟨wr.heap.size, 0, none⟩) 0 0) 0 []) := by have := row_start (w := wr.drew) (B := wr.heap.size) (Below.size (Below.drew (Below.refl wr.heap.size wr))); exact this
        have hg5 : wr.heap.size ≤ wr.heap.size := by omega
        go_simp
        refine hK.out _ _ ⟨cell_on ((Below.refl _ _).alloc (Nat.le_refl _) _) hHeld.1, cell_on ((Below.refl _ _).alloc (Nat.le_refl _) _) hHeld.2.1, cell_on ((Below.refl _ _).alloc (Nat.le_refl _) _) hHeld.2.2⟩ (fun hHeld => ?_)
        clear hK K
        refine wpAnyH_ready (rs := [7, 9]) (by kernel_rfl) (by simp) ?_
        refine (AllReadyH.cons rfl (fun K hK => ?_) (AllReadyH.cons rfl (fun K hK => ?_) AllReadyH.nil))
        · refine step_append_ints (w := (wr.drew.alloc (.cells #[] 2))) rfl _ _ 27 rfl wr.heap.size 0 2 iI Try.underlying27 hiI.out heI.out.1 heI.out.2.1 heI.out.2.2 (.slice (some ⟨wr.heap.size, 0, none⟩) 0 0) 0 [] rfl (by simp) (by exact row5.out) (.slice apk p.length capk) p rfl (by exact SeqAt.below intAt_stays hpA.out hb5.out) (by omega) (by exact Below.size hb5.out) ?_
          intro v7 w7 hown7 hgrow7 hnn7
          have row7 : Hid (w7.ownsRow wr.heap.size 2 1 v7 p.length (p.map fun n => Value.int .i64 n)) := by show World.ownsRow _ _ _ _ _ _ _; have := hown7; rw [Nat.zero_add, List.nil_append] at this; exact this
          obtain ⟨g7, cap7, rfl⟩ := nonnil_row row7.out hnn7
          have hb7 : Hid (Below wr.heap.size wr w7) := Below.grown hb5.out hgrow7 (Below.size hb5.out) (fun k e => own_block2 row5.out k e)
          have hbb7 : Below wr.heap.size (wr.drew.alloc (.cells #[] 2)) w7 := below_of_grown hgrow7 (Below.size hb5.out) (fun k e => own_block2 row5.out k e)
          go_simp
          refine hK.out _ _ ⟨(hbb7.cell (p := ⟨w.heap.size, 1, none⟩) (by show w.heap.size < _; omega)).trans hHeld.1, (hbb7.cell (p := ⟨bk, ok + j * 2, none⟩) (by show bk < _; omega)).trans hHeld.2.1, (hbb7.cell (p := ⟨bk, ok + j * 2 + 1, none⟩) (by show bk < _; omega)).trans hHeld.2.2⟩ (fun hHeld => ?_)
          clear hK K
          refine wpAnyH_ready (rs := [9]) (by kernel_rfl) (by simp) ?_
          refine AllReadyH.cons rfl (fun K hK => ?_) AllReadyH.nil
          have hb9 : Hid (Below wr.heap.size wr (w7.alloc (.cells #[.int .i64 (j : Int)] 2))) := Below.alloc hb7.out (Below.size hb7.out) _
          have bx9 : Hid (Box (w7.alloc (.cells #[.int .i64 (j : Int)] 2)) (w7.heap.size) [.int .i64 (j : Int)] 2) := by have := Box.new w7 [.int .i64 (j : Int)] 2; exact this
          have row9 : Hid ((w7.alloc (.cells #[.int .i64 (j : Int)] 2)).ownsRow wr.heap.size 2 1 (.slice (some ⟨g7, 0, none⟩) p.length cap7) p.length (p.map fun n => Value.int .i64 n)) := row_below row7.out ((Below.refl _ _).alloc (Nat.le_refl _) _)
          go_simp
          refine hK.out _ _ ⟨cell_on ((Below.refl _ _).alloc (Nat.le_refl _) _) hHeld.1, cell_on ((Below.refl _ _).alloc (Nat.le_refl _) _) hHeld.2.1, cell_on ((Below.refl _ _).alloc (Nat.le_refl _) _) hHeld.2.2⟩ (fun hHeld => ?_)
          clear hK K
          refine wpAnyH_ready (rs := [10]) (by kernel_rfl) (by simp) ?_
          refine AllReadyH.cons rfl (fun K hK => ?_) AllReadyH.nil
          refine step_append_lies (w7.alloc (.cells #[.int .i64 (j : Int)] 2)) rfl _ _ 27 rfl wr.heap.size 2 iI _ 1 8 Try.underlying27 hiI.out heI.out.1 heI.out.2.1 heI.out.2.2 rfl (by decide) (.slice (some ⟨g7, 0, none⟩) p.length cap7) p.length (p.map fun n => Value.int .i64 n) rfl row9.out ⟨w7.heap.size, 0, none⟩ 1 1 [.int .i64 (j : Int)] rfl rfl (by intro i u hu; match i, hu with | 0, hu => (simp at hu; subst hu; exact bx9.out.cell 0 rfl) | i + 1, hu => simp at hu) (by intro u hu; simp at hu; subst hu; rfl) (by omega) (by unfold maxLen; omega) (by omega) (by exact Below.size hb9.out) _ rfl ?_
          intro g10 cap10 w10 hown10 hgrow10 hat10 hlt10
          have hb10 : Hid (Below wr.heap.size wr w10) := Below.grown hb9.out hgrow10 (Below.size hb9.out) (fun k e => own_block2 row9.out k e)
          have hbb10 : Below wr.heap.size (w7.alloc (.cells #[.int .i64 (j : Int)] 2)) w10 := below_of_grown hgrow10 (Below.size hb9.out) (fun k e => own_block2 row9.out k e)
          have row10 : Hid (w10.ownsRow wr.heap.size 2 1 (.slice (some ⟨g10, 0, none⟩) (p.length + 1) cap10) (p ++ [(j : Int)]).length ((p ++ [(j : Int)]).map fun n => Value.int .i64 n)) := by show World.ownsRow _ _ _ _ _ _ _; rw [List.length_append, List.map_append]; exact hown10
          go_simp
          refine hK.out _ _ ⟨(hbb10.cell (p := ⟨w.heap.size, 1, none⟩) (by show w.heap.size < _; omega)).trans hHeld.1, (hbb10.cell (p := ⟨bk, ok + j * 2, none⟩) (by show bk < _; omega)).trans hHeld.2.1, (hbb10.cell (p := ⟨bk, ok + j * 2 + 1, none⟩) (by show bk < _; omega)).trans hHeld.2.2⟩ (fun hHeld => ?_)
          clear hK K
          refine wpAnyH_ready (rs := [12]) (by kernel_rfl) (by simp) ?_
          refine AllReadyH.cons rfl (fun K hK => ?_) AllReadyH.nil
          go_simp
          obtain ⟨f10, o10, l10⟩ := seqOwn_of_row row10.out (fun x hx => by rcases List.mem_append.1 hx with q | q; (exact hIp.out x q); (simp at q; subst q; unfold InI; omega))
          refine (ih.out w10 _ _ _ _ Y (p ++ [(j : Int)]) f10 (xs ++ [p] ++ pathsJ n d p j) bsj csj htY.out hRY.out (by exact hBj.out.trans (hb10.out.mono hBj.out.size)) hbase (by have := hb10.out.size; omega) (by exact hgrj.out.below IntsOwn_stays hb10.out) o10 (fun b q e => by have h1 := l10 b q; simp only [Value.ownBlock, Option.some.injEq] at e; omega) (by have := hcnt.out; have := hcT.out; simp; omega) (by have := hcnt.out; have := hcT.out; rw [hlenx.out]; omega)).mono ?_
          rintro e w6 ⟨v6, bs6, cs6, rfl, hg6, hgr6, hat6⟩
          have hg6' : Hid (GrowOwn 27 1 IntsOwn base w6 v6 (xs ++ [p] ++ pathsJ n d p j ++ pathsD n Y (p ++ [(j : Int)])) bs6 cs6) := hg6
          have hgr6' : Hid (w10.grownBy w6 (some gv)) := hgr6
          have hat6' : Hid (v6.ownBlock = some gv ∨ ∃ g, v6.ownBlock = some g ∧ w10.heap.size ≤ g) := hat6
          have bA6 : Hid (Box w6 w.heap.size [.string (strT d), .slice (some ⟨bk, ok, none⟩) (kidsOf d).length cap0] 26) := box_grown (bAj.out.below hb10.out bAj.out.lt) hgr6'.out hgnA.out
          have hbb6 : Below w0.heap.size w10 w6 := below_of_grown hgr6'.out (by have := hb10.out.size; omega) (fun q e => by injection e with e; subst e; have := own_block2 hgrj.out.2.2.2.1 gv rfl; omega)
          clear hg6 hgr6 hat6 o10 l10
          refine hK.out _ _ ⟨bA6.out.cell 1 rfl, (hbb6.cell (p := ⟨bk, ok + j * 2, none⟩) (by show bk < _; omega)).trans hHeld.2.1, (hbb6.cell (p := ⟨bk, ok + j * 2 + 1, none⟩) (by show bk < _; omega)).trans hHeld.2.2⟩ (fun hHeld => ?_)
          clear hK K
          refine tq (i := 13) (d := 2) ?_
          simp only [sz, ss]
          refine wpAnyH_done (by kernel_rfl) ?_ _
          have hlen6 : Hid ((xs ++ [p] ++ pathsJ n d p j ++ pathsD n Y (p ++ [(j : Int)])).length = xs.length + 1 + (pathsJ n d p (j + 1)).length) := by show _ = _; rw [hPJ.out]; simp; omega
          obtain ⟨g6, cap6, rfl⟩ : ∃ g6 cap6, v6 = .slice (some ⟨g6, 0, none⟩) (xs.length + 1 + (pathsJ n d p (j + 1)).length) cap6 := by
            have ho := hg6'.out.2.2.2.1
            rw [hlen6.out] at ho
            rcases ho.2 with ⟨_, hn⟩ | ⟨g6, cap6, cur, e6, _⟩
            · omega
            · exact ⟨g6, cap6, e6⟩
          have hz10 := hb10.out.size
          go_wp2_with fail
          go_roundw
          case rel =>
            refine ⟨j + 1, g6, cap6, bs6, cs6, by omega, by go_num, rfl, ?_, ?_, ?_, bA6, ?_, ?_, by have := hgr6'.out.size; omega⟩
            · show GrowOwn _ _ _ _ _ _ _ _ _
              rw [hPJ.out, ← List.append_assoc]
              have := hg6'.out
              rw [hPJ.out] at this
              exact this
            · exact grown_trans2 (grown_trans2 hgroj.out (grown_ofB (r := none) hb10.out) (fun _ e _ => by cases e)) hgr6'.out (fun q e hq => by injection e with e; subst e; rcases hatj.out with h | h; (exact h); omega)
            · show _ ∨ _
              rcases hat6'.out with h | ⟨q, h, hq⟩
              · simp only [Value.ownBlock, Option.some.injEq] at h
                rw [h]
                exact hatj.out
              · simp only [Value.ownBlock, Option.some.injEq] at h
                right
                omega
            · exact seqOwn_grown intOwn_stays intOwn_lt (hpj.out.below intOwn_stays intOwn_lt hb10.out) hgr6'.out (fun b q => hgnF.out b q)
            · have h5 : Below w0.heap.size w0 w10 := hBj.out.trans (hb10.out.mono hBj.out.size)
              exact h5.trans (below_of_grown hgr6'.out h5.size (fun q e => by injection e with e; subst e; have := own_block2 hgrj.out.2.2.2.1 gv rfl; omega))
          case measure => simp [intOf]; omega
        · have hb9 : Hid (Below wr.heap.size wr ((wr.drew.alloc (.cells #[] 2)).alloc (.cells #[.int .i64 (j : Int)] 2))) := Below.alloc hb5.out (Below.size hb5.out) _
          have bx9 : Hid (Box ((wr.drew.alloc (.cells #[] 2)).alloc (.cells #[.int .i64 (j : Int)] 2)) (wr.heap.size + 1) [.int .i64 (j : Int)] 2) := by have := Box.new (wr.drew.alloc (.cells #[] 2)) [.int .i64 (j : Int)] 2; rw [World.size_alloc] at this; exact this
          have row9 : Hid (((wr.drew.alloc (.cells #[] 2)).alloc (.cells #[.int .i64 (j : Int)] 2)).ownsRow wr.heap.size 2 1 (.slice (some ⟨wr.heap.size, 0, none⟩) 0 0) 0 []) := row_below row5.out ((Below.refl _ _).alloc (Nat.le_refl _) _)
          have hne59 : wr.heap.size < wr.heap.size + 1 := by omega
          go_simp
          refine hK.out _ _ ⟨cell_on ((Below.refl _ _).alloc (Nat.le_refl _) _) hHeld.1, cell_on ((Below.refl _ _).alloc (Nat.le_refl _) _) hHeld.2.1, cell_on ((Below.refl _ _).alloc (Nat.le_refl _) _) hHeld.2.2⟩ (fun hHeld => ?_)
          clear hK K
          refine wpAnyH_ready (rs := [7]) (by kernel_rfl) (by simp) ?_
          refine AllReadyH.cons rfl (fun K hK => ?_) AllReadyH.nil
          refine step_append_ints (w := ((wr.drew.alloc (.cells #[] 2)).alloc (.cells #[.int .i64 (j : Int)] 2))) rfl _ _ 27 rfl wr.heap.size 0 2 iI Try.underlying27 hiI.out heI.out.1 heI.out.2.1 heI.out.2.2 (.slice (some ⟨wr.heap.size, 0, none⟩) 0 0) 0 [] rfl (by simp) (by exact row9.out) (.slice apk p.length capk) p rfl (by exact SeqAt.below intAt_stays hpA.out hb9.out) (by omega) (by exact Below.size hb9.out) ?_
          intro v7 w7 hown7 hgrow7 hnn7
          have row7 : Hid (w7.ownsRow wr.heap.size 2 1 v7 p.length (p.map fun n => Value.int .i64 n)) := by show World.ownsRow _ _ _ _ _ _ _; have := hown7; rw [Nat.zero_add, List.nil_append] at this; exact this
          obtain ⟨g7, cap7, rfl⟩ := nonnil_row row7.out hnn7
          have hb7 : Hid (Below wr.heap.size wr w7) := Below.grown hb9.out hgrow7 (Below.size hb9.out) (fun k e => own_block2 row9.out k e)
          have hbb7 : Below wr.heap.size ((wr.drew.alloc (.cells #[] 2)).alloc (.cells #[.int .i64 (j : Int)] 2)) w7 := below_of_grown hgrow7 (Below.size hb9.out) (fun k e => own_block2 row9.out k e)
          have bx7 : Hid (Box w7 (wr.heap.size + 1) [.int .i64 (j : Int)] 2) := box_grown bx9.out hgrow7 (fun e => by simp only [Value.ownBlock, Option.some.injEq] at e; omega)
          go_simp
          refine hK.out _ _ ⟨(hbb7.cell (p := ⟨w.heap.size, 1, none⟩) (by show w.heap.size < _; omega)).trans hHeld.1, (hbb7.cell (p := ⟨bk, ok + j * 2, none⟩) (by show bk < _; omega)).trans hHeld.2.1, (hbb7.cell (p := ⟨bk, ok + j * 2 + 1, none⟩) (by show bk < _; omega)).trans hHeld.2.2⟩ (fun hHeld => ?_)
          clear hK K
          refine wpAnyH_ready (rs := [10]) (by kernel_rfl) (by simp) ?_
          refine AllReadyH.cons rfl (fun K hK => ?_) AllReadyH.nil
          refine step_append_lies w7 rfl _ _ 27 rfl wr.heap.size 2 iI _ 1 8 Try.underlying27 hiI.out heI.out.1 heI.out.2.1 heI.out.2.2 rfl (by decide) (.slice (some ⟨g7, 0, none⟩) p.length cap7) p.length (p.map fun n => Value.int .i64 n) rfl row7.out ⟨wr.heap.size + 1, 0, none⟩ 1 1 [.int .i64 (j : Int)] rfl rfl (by intro i u hu; match i, hu with | 0, hu => (simp at hu; subst hu; exact bx7.out.cell 0 rfl) | i + 1, hu => simp at hu) (by intro u hu; simp at hu; subst hu; rfl) (by omega) (by unfold maxLen; omega) (by omega) (by exact Below.size hb7.out) _ rfl ?_
          intro g10 cap10 w10 hown10 hgrow10 hat10 hlt10
          have hb10 : Hid (Below wr.heap.size wr w10) := Below.grown hb7.out hgrow10 (Below.size hb7.out) (fun k e => own_block2 row7.out k e)
          have hbb10 : Below wr.heap.size w7 w10 := below_of_grown hgrow10 (Below.size hb7.out) (fun k e => own_block2 row7.out k e)
          have row10 : Hid (w10.ownsRow wr.heap.size 2 1 (.slice (some ⟨g10, 0, none⟩) (p.length + 1) cap10) (p ++ [(j : Int)]).length ((p ++ [(j : Int)]).map fun n => Value.int .i64 n)) := by show World.ownsRow _ _ _ _ _ _ _; rw [List.length_append, List.map_append]; exact hown10
          go_simp
          refine hK.out _ _ ⟨(hbb10.cell (p := ⟨w.heap.size, 1, none⟩) (by show w.heap.size < _; omega)).trans hHeld.1, (hbb10.cell (p := ⟨bk, ok + j * 2, none⟩) (by show bk < _; omega)).trans hHeld.2.1, (hbb10.cell (p := ⟨bk, ok + j * 2 + 1, none⟩) (by show bk < _; omega)).trans hHeld.2.2⟩ (fun hHeld => ?_)
          clear hK K
          refine wpAnyH_ready (rs := [12]) (by kernel_rfl) (by simp) ?_
          refine AllReadyH.cons rfl (fun K hK => ?_) AllReadyH.nil
          go_simp
          obtain ⟨f10, o10, l10⟩ := seqOwn_of_row row10.out (fun x hx => by rcases List.mem_append.1 hx with q | q; (exact hIp.out x q); (simp at q; subst q; unfold InI; omega))
          refine (ih.out w10 _ _ _ _ Y (p ++ [(j : Int)]) f10 (xs ++ [p] ++ pathsJ n d p j) bsj csj htY.out hRY.out (by exact hBj.out.trans (hb10.out.mono hBj.out.size)) hbase (by have := hb10.out.size; omega) (by exact hgrj.out.below IntsOwn_stays hb10.out) o10 (fun b q e => by have h1 := l10 b q; simp only [Value.ownBlock, Option.some.injEq] at e; omega) (by have := hcnt.out; have := hcT.out; simp; omega) (by have := hcnt.out; have := hcT.out; rw [hlenx.out]; omega)).mono ?_
          rintro e w6 ⟨v6, bs6, cs6, rfl, hg6, hgr6, hat6⟩
          have hg6' : Hid (GrowOwn 27 1 IntsOwn base w6 v6 (xs ++ [p] ++ pathsJ n d p j ++ pathsD n Y (p ++ [(j : Int)])) bs6 cs6) := hg6
          have hgr6' : Hid (w10.grownBy w6 (some gv)) := hgr6
          have hat6' : Hid (v6.ownBlock = some gv ∨ ∃ g, v6.ownBlock = some g ∧ w10.heap.size ≤ g) := hat6
          have bA6 : Hid (Box w6 w.heap.size [.string (strT d), .slice (some ⟨bk, ok, none⟩) (kidsOf d).length cap0] 26) := box_grown (bAj.out.below hb10.out bAj.out.lt) hgr6'.out hgnA.out
          have hbb6 : Below w0.heap.size w10 w6 := below_of_grown hgr6'.out (by have := hb10.out.size; omega) (fun q e => by injection e with e; subst e; have := own_block2 hgrj.out.2.2.2.1 gv rfl; omega)
          clear hg6 hgr6 hat6 o10 l10
          refine hK.out _ _ ⟨bA6.out.cell 1 rfl, (hbb6.cell (p := ⟨bk, ok + j * 2, none⟩) (by show bk < _; omega)).trans hHeld.2.1, (hbb6.cell (p := ⟨bk, ok + j * 2 + 1, none⟩) (by show bk < _; omega)).trans hHeld.2.2⟩ (fun hHeld => ?_)
          clear hK K
          refine tq (i := 13) (d := 2) ?_
          simp only [sz, ss]
          refine wpAnyH_done (by kernel_rfl) ?_ _
          have hlen6 : Hid ((xs ++ [p] ++ pathsJ n d p j ++ pathsD n Y (p ++ [(j : Int)])).length = xs.length + 1 + (pathsJ n d p (j + 1)).length) := by show _ = _; rw [hPJ.out]; simp; omega
          obtain ⟨g6, cap6, rfl⟩ : ∃ g6 cap6, v6 = .slice (some ⟨g6, 0, none⟩) (xs.length + 1 + (pathsJ n d p (j + 1)).length) cap6 := by
            have ho := hg6'.out.2.2.2.1
            rw [hlen6.out] at ho
            rcases ho.2 with ⟨_, hn⟩ | ⟨g6, cap6, cur, e6, _⟩
            · omega
            · exact ⟨g6, cap6, e6⟩
          have hz10 := hb10.out.size
          go_wp2_with fail
          go_roundw
          case rel =>
            refine ⟨j + 1, g6, cap6, bs6, cs6, by omega, by go_num, rfl, ?_, ?_, ?_, bA6, ?_, ?_, by have := hgr6'.out.size; omega⟩
            · show GrowOwn _ _ _ _ _ _ _ _ _
              rw [hPJ.out, ← List.append_assoc]
              have := hg6'.out
              rw [hPJ.out] at this
              exact this
            · exact grown_trans2 (grown_trans2 hgroj.out (grown_ofB (r := none) hb10.out) (fun _ e _ => by cases e)) hgr6'.out (fun q e hq => by injection e with e; subst e; rcases hatj.out with h | h; (exact h); omega)
            · show _ ∨ _
              rcases hat6'.out with h | ⟨q, h, hq⟩
              · simp only [Value.ownBlock, Option.some.injEq] at h
                rw [h]
                exact hatj.out
              · simp only [Value.ownBlock, Option.some.injEq] at h
                right
                omega
            · exact seqOwn_grown intOwn_stays intOwn_lt (hpj.out.below intOwn_stays intOwn_lt hb10.out) hgr6'.out (fun b q => hgnF.out b q)
            · have h5 : Below w0.heap.size w0 w10 := hBj.out.trans (hb10.out.mono hBj.out.size)
              exact h5.trans (below_of_grown hgr6'.out h5.size (fun q e => by injection e with e; subst e; have := own_block2 hgrj.out.2.2.2.1 gv rfl; omega))
          case measure => simp [intOf]; omega
      · have hb9 : Hid (Below wr.heap.size wr (wr.drew.alloc (.cells #[.int .i64 (j : Int)] 2))) := Below.alloc (Below.drew (Below.refl wr.heap.size wr)) (Below.size (Below.drew (Below.refl wr.heap.size wr))) _
        have bx9 : Hid (Box (wr.drew.alloc (.cells #[.int .i64 (j : Int)] 2)) (wr.heap.size) [.int .i64 (j : Int)] 2) := by have := Box.new wr.drew [.int .i64 (j : Int)] 2; exact this
        go_simp
        refine hK.out _ _ ⟨cell_on ((Below.refl _ _).alloc (Nat.le_refl _) _) hHeld.1, cell_on ((Below.refl _ _).alloc (Nat.le_refl _) _) hHeld.2.1, cell_on ((Below.refl _ _).alloc (Nat.le_refl _) _) hHeld.2.2⟩ (fun hHeld => ?_)
        clear hK K
        refine wpAnyH_ready (rs := [5]) (by kernel_rfl) (by simp) ?_
        refine AllReadyH.cons rfl (fun K hK => ?_) AllReadyH.nil
        have hb5 : Hid (Below wr.heap.size wr ((wr.drew.alloc (.cells #[.int .i64 (j : Int)] 2)).alloc (.cells #[] 2))) := Below.alloc hb9.out (Below.size hb9.out) _
        have row5 : Hid (((wr.drew.alloc (.cells #[.int .i64 (j : Int)] 2)).alloc (.cells #[] 2)).ownsRow wr.heap.size 2 1 (.slice (some ⟨wr.heap.size + 1, 0, none⟩) 0 0) 0 []) := by have := row_start (w := (wr.drew.alloc (.cells #[.int .i64 (j : Int)] 2))) (B := wr.heap.size) (Below.size hb9.out); rw [World.size_alloc] at this; exact this
        have hg5 : wr.heap.size ≤ wr.heap.size + 1 := by omega
        have bx5 : Hid (Box ((wr.drew.alloc (.cells #[.int .i64 (j : Int)] 2)).alloc (.cells #[] 2)) (wr.heap.size) [.int .i64 (j : Int)] 2) := bx9.out.alloc _
        have hne59 : wr.heap.size < wr.heap.size + 1 := by omega
        go_simp
        refine hK.out _ _ ⟨cell_on ((Below.refl _ _).alloc (Nat.le_refl _) _) hHeld.1, cell_on ((Below.refl _ _).alloc (Nat.le_refl _) _) hHeld.2.1, cell_on ((Below.refl _ _).alloc (Nat.le_refl _) _) hHeld.2.2⟩ (fun hHeld => ?_)
        clear hK K
        refine wpAnyH_ready (rs := [7]) (by kernel_rfl) (by simp) ?_
        refine AllReadyH.cons rfl (fun K hK => ?_) AllReadyH.nil
        refine step_append_ints (w := ((wr.drew.alloc (.cells #[.int .i64 (j : Int)] 2)).alloc (.cells #[] 2))) rfl _ _ 27 rfl wr.heap.size 0 2 iI Try.underlying27 hiI.out heI.out.1 heI.out.2.1 heI.out.2.2 (.slice (some ⟨wr.heap.size + 1, 0, none⟩) 0 0) 0 [] rfl (by simp) (by exact row5.out) (.slice apk p.length capk) p rfl (by exact SeqAt.below intAt_stays hpA.out hb5.out) (by omega) (by exact Below.size hb5.out) ?_
        intro v7 w7 hown7 hgrow7 hnn7
        have row7 : Hid (w7.ownsRow wr.heap.size 2 1 v7 p.length (p.map fun n => Value.int .i64 n)) := by show World.ownsRow _ _ _ _ _ _ _; have := hown7; rw [Nat.zero_add, List.nil_append] at this; exact this
        obtain ⟨g7, cap7, rfl⟩ := nonnil_row row7.out hnn7
        have hb7 : Hid (Below wr.heap.size wr w7) := Below.grown hb5.out hgrow7 (Below.size hb5.out) (fun k e => own_block2 row5.out k e)
        have hbb7 : Below wr.heap.size ((wr.drew.alloc (.cells #[.int .i64 (j : Int)] 2)).alloc (.cells #[] 2)) w7 := below_of_grown hgrow7 (Below.size hb5.out) (fun k e => own_block2 row5.out k e)
        have bx7 : Hid (Box w7 (wr.heap.size) [.int .i64 (j : Int)] 2) := box_grown bx5.out hgrow7 (fun e => by simp only [Value.ownBlock, Option.some.injEq] at e; omega)
        go_simp
        refine hK.out _ _ ⟨(hbb7.cell (p := ⟨w.heap.size, 1, none⟩) (by show w.heap.size < _; omega)).trans hHeld.1, (hbb7.cell (p := ⟨bk, ok + j * 2, none⟩) (by show bk < _; omega)).trans hHeld.2.1, (hbb7.cell (p := ⟨bk, ok + j * 2 + 1, none⟩) (by show bk < _; omega)).trans hHeld.2.2⟩ (fun hHeld => ?_)
        clear hK K
        refine wpAnyH_ready (rs := [10]) (by kernel_rfl) (by simp) ?_
        refine AllReadyH.cons rfl (fun K hK => ?_) AllReadyH.nil
        refine step_append_lies w7 rfl _ _ 27 rfl wr.heap.size 2 iI _ 1 8 Try.underlying27 hiI.out heI.out.1 heI.out.2.1 heI.out.2.2 rfl (by decide) (.slice (some ⟨g7, 0, none⟩) p.length cap7) p.length (p.map fun n => Value.int .i64 n) rfl row7.out ⟨wr.heap.size, 0, none⟩ 1 1 [.int .i64 (j : Int)] rfl rfl (by intro i u hu; match i, hu with | 0, hu => (simp at hu; subst hu; exact bx7.out.cell 0 rfl) | i + 1, hu => simp at hu) (by intro u hu; simp at hu; subst hu; rfl) (by omega) (by unfold maxLen; omega) (by omega) (by exact Below.size hb7.out) _ rfl ?_
        intro g10 cap10 w10 hown10 hgrow10 hat10 hlt10
        have hb10 : Hid (Below wr.heap.size wr w10) := Below.grown hb7.out hgrow10 (Below.size hb7.out) (fun k e => own_block2 row7.out k e)
        have hbb10 : Below wr.heap.size w7 w10 := below_of_grown hgrow10 (Below.size hb7.out) (fun k e => own_block2 row7.out k e)
        have row10 : Hid (w10.ownsRow wr.heap.size 2 1 (.slice (some ⟨g10, 0, none⟩) (p.length + 1) cap10) (p ++ [(j : Int)]).length ((p ++ [(j : Int)]).map fun n => Value.int .i64 n)) := by show World.ownsRow _ _ _ _ _ _ _; rw [List.length_append, List.map_append]; exact hown10
        go_simp
        refine hK.out _ _ ⟨(hbb10.cell (p := ⟨w.heap.size, 1, none⟩) (by show w.heap.size < _; omega)).trans hHeld.1, (hbb10.cell (p := ⟨bk, ok + j * 2, none⟩) (by show bk < _; omega)).trans hHeld.2.1, (hbb10.cell (p := ⟨bk, ok + j * 2 + 1, none⟩) (by show bk < _; omega)).trans hHeld.2.2⟩ (fun hHeld => ?_)
        clear hK K
        refine wpAnyH_ready (rs := [12]) (by kernel_rfl) (by simp) ?_
        refine AllReadyH.cons rfl (fun K hK => ?_) AllReadyH.nil
        go_simp
        obtain ⟨f10, o10, l10⟩ := seqOwn_of_row row10.out (fun x hx => by rcases List.mem_append.1 hx with q | q; (exact hIp.out x q); (simp at q; subst q; unfold InI; omega))
        refine (ih.out w10 _ _ _ _ Y (p ++ [(j : Int)]) f10 (xs ++ [p] ++ pathsJ n d p j) bsj csj htY.out hRY.out (by exact hBj.out.trans (hb10.out.mono hBj.out.size)) hbase (by have := hb10.out.size; omega) (by exact hgrj.out.below IntsOwn_stays hb10.out) o10 (fun b q e => by have h1 := l10 b q; simp only [Value.ownBlock, Option.some.injEq] at e; omega) (by have := hcnt.out; have := hcT.out; simp; omega) (by have := hcnt.out; have := hcT.out; rw [hlenx.out]; omega)).mono ?_
        rintro e w6 ⟨v6, bs6, cs6, rfl, hg6, hgr6, hat6⟩
        have hg6' : Hid (GrowOwn 27 1 IntsOwn base w6 v6 (xs ++ [p] ++ pathsJ n d p j ++ pathsD n Y (p ++ [(j : Int)])) bs6 cs6) := hg6
        have hgr6' : Hid (w10.grownBy w6 (some gv)) := hgr6
        have hat6' : Hid (v6.ownBlock = some gv ∨ ∃ g, v6.ownBlock = some g ∧ w10.heap.size ≤ g) := hat6
        have bA6 : Hid (Box w6 w.heap.size [.string (strT d), .slice (some ⟨bk, ok, none⟩) (kidsOf d).length cap0] 26) := box_grown (bAj.out.below hb10.out bAj.out.lt) hgr6'.out hgnA.out
        have hbb6 : Below w0.heap.size w10 w6 := below_of_grown hgr6'.out (by have := hb10.out.size; omega) (fun q e => by injection e with e; subst e; have := own_block2 hgrj.out.2.2.2.1 gv rfl; omega)
        clear hg6 hgr6 hat6 o10 l10
        refine hK.out _ _ ⟨bA6.out.cell 1 rfl, (hbb6.cell (p := ⟨bk, ok + j * 2, none⟩) (by show bk < _; omega)).trans hHeld.2.1, (hbb6.cell (p := ⟨bk, ok + j * 2 + 1, none⟩) (by show bk < _; omega)).trans hHeld.2.2⟩ (fun hHeld => ?_)
        clear hK K
        refine tq (i := 13) (d := 2) ?_
        simp only [sz, ss]
        refine wpAnyH_done (by kernel_rfl) ?_ _
        have hlen6 : Hid ((xs ++ [p] ++ pathsJ n d p j ++ pathsD n Y (p ++ [(j : Int)])).length = xs.length + 1 + (pathsJ n d p (j + 1)).length) := by show _ = _; rw [hPJ.out]; simp; omega
        obtain ⟨g6, cap6, rfl⟩ : ∃ g6 cap6, v6 = .slice (some ⟨g6, 0, none⟩) (xs.length + 1 + (pathsJ n d p (j + 1)).length) cap6 := by
          have ho := hg6'.out.2.2.2.1
          rw [hlen6.out] at ho
          rcases ho.2 with ⟨_, hn⟩ | ⟨g6, cap6, cur, e6, _⟩
          · omega
          · exact ⟨g6, cap6, e6⟩
        have hz10 := hb10.out.size
        go_wp2_with fail
        go_roundw
        case rel =>
          refine ⟨j + 1, g6, cap6, bs6, cs6, by omega, by go_num, rfl, ?_, ?_, ?_, bA6, ?_, ?_, by have := hgr6'.out.size; omega⟩
          · show GrowOwn _ _ _ _ _ _ _ _ _
            rw [hPJ.out, ← List.append_assoc]
            have := hg6'.out
            rw [hPJ.out] at this
            exact this
          · exact grown_trans2 (grown_trans2 hgroj.out (grown_ofB (r := none) hb10.out) (fun _ e _ => by cases e)) hgr6'.out (fun q e hq => by injection e with e; subst e; rcases hatj.out with h | h; (exact h); omega)
          · show _ ∨ _
            rcases hat6'.out with h | ⟨q, h, hq⟩
            · simp only [Value.ownBlock, Option.some.injEq] at h
              rw [h]
              exact hatj.out
            · simp only [Value.ownBlock, Option.some.injEq] at h
              right
              omega
          · exact seqOwn_grown intOwn_stays intOwn_lt (hpj.out.below intOwn_stays intOwn_lt hb10.out) hgr6'.out (fun b q => hgnF.out b q)
          · have h5 : Below w0.heap.size w0 w10 := hBj.out.trans (hb10.out.mono hBj.out.size)
            exact h5.trans (below_of_grown hgr6'.out h5.size (fun q e => by injection e with e; subst e; have := own_block2 hgrj.out.2.2.2.1 gv rfl; omega))
        case measure => simp [intOf]; omega
    · obtain rfl : j = (kidsOf d).length := by omega
      go_wp2_with fail
      go_ret
      refine ⟨_, bsj, csj, rfl, ?_, hgroj.out, ?_⟩
      · rw [pathsD_succ]
        have := hgrj.out
        rw [List.append_assoc] at this
        exact this
      · rcases hatj.out with h | h
        · exact Or.inl h.symm
        · exact Or.inr ⟨gv, rfl, by omega⟩
theorem paS_all {w0 : World} {lo base : Nat} : ∀ n, PaS w0 lo base n := by
  intro n
  induction n with
  | zero => intro w t k kp vout d p fp xs bss css h; exact h.elim
  | succ n ih => exact paS_step n ih
end Go.Proofs.Ytndffcogddefiaa
namespace Go.Proofs.Ytndffcogddefiaa
open Go.RowKit
theorem right_of_ok2 {n : Nat} {d : TD} (h : okB (szD n d 30) = true) : RightT d := by
  cases e : szD n d 30 with
  | none => rw [e] at h; cases h
  | some m => exact ⟨n, 30, m, e, Int.le_refl _⟩
/-- what a call that makes lists of numbers tells -/
def AnsP (w w' : World) (xs : List (List Int)) (e : Ending) : Prop := ∃ (v : Value) (fs : List Nat), e = .returned v ∧ SeqOwn 1 IntsOwn w' v xs fs ∧ fs.Nodup ∧ ∀ b ∈ fs, w.heap.size ≤ b
set_option maxHeartbeats 2000000 in
theorem specPathsOf_any {n : Nat} {w : World} {lo : Nat} {t k : Value} {d : TD} (ht : TreeAt w lo n t k d) :
    Calls Try.prog 70 #[.agg #[t, k]] w fun e w' => AnsP w w' (pathsOfD (okB (szD n d 30)) n d) e ∧ Below w.heap.size w w' := by
  obtain ⟨rfl, _⟩ := ht.tag
  obtain ⟨_, a0, cap0, rfl⟩ := ht.form
  have ht0 : Hid (TreeAt w lo n _ _ d) := ht
  clear ht
  have hb0 : Hid (Below w.heap.size w (w.alloc (.cells #[.string (strT d), .slice a0 (kidsOf d).length cap0] 26))) := (Below.refl _ _).alloc (Nat.le_refl _) _
  have bx0 : Hid (Box (w.alloc (.cells #[.string (strT d), .slice a0 (kidsOf d).length cap0] 26)) w.heap.size [.string (strT d), .slice a0 (kidsOf d).length cap0] 26) := Box.new w _ _
  go_enter Try.func70, Try.ntmps70
  go_wp2_with fail
  refine (specTreeOk_any (ht0.out.below hb0.out)).mono ?_
  rintro e w1 ⟨rfl, hb1⟩
  have hB1 : Hid (Below w.heap.size w w1) := hb0.out.trans (hb1.mono hb0.out.size)
  have bx1 : Hid (Box w1 w.heap.size [.string (strT d), .slice a0 (kidsOf d).length cap0] 26) := bx0.out.below hb1 bx0.out.lt
  clear hb1 bx0 hb0
  have hok2 : okB (szD n d 30) = false ∨ okB (szD n d 30) = true := by cases okB (szD n d 30) <;> simp
  rcases hok2 with hok | hok
  · have H : Hid (pathsOfD (okB (szD n d 30)) n d = []) := pathsOfD_no hok
    rw [hok]
    clear hok
    go_wp2_with fail
    go_ret
    rw [H.out]
    refine ⟨⟨_, [], rfl, ?_, List.nodup_nil, by simp⟩, hB1.out.alloc hB1.out.size _⟩
    exact ⟨_, _, rfl, ⟨Nat.zero_le _, Nat.zero_le _⟩, Or.inl ⟨rfl, rfl⟩⟩
  have H : Hid (pathsOfD (okB (szD n d 30)) n d = pathsD n d []) := pathsOfD_yes hok
  have hR : Hid (RightT d) := right_of_ok2 hok
  rw [hok]
  clear hok
  have c0 := bx1.out.cell 0 rfl
  have c1 := bx1.out.cell 1 rfl
  go_wp2_with fail
  refine (paS_all (w0 := w1) (lo := lo) (base := w1.heap.size) n w1 _ _ _ _ d [] [] [] [] [] (ht0.out.below hB1.out) hR.out (Below.refl _ _) (Nat.le_refl _) (Nat.le_refl _) GrowOwn.nil (seqOwn_none _) (by simp) (by have := hR.out.cntT n; simp; omega) (by have := hR.out.cntT n; simp; omega)).mono ?_
  rintro e w2 ⟨v, bss, css, rfl, hg, hgr, _⟩
  have hg' : Hid (GrowOwn 27 1 IntsOwn w1.heap.size w2 v (pathsD n d []) bss css) := hg
  have hb2 : Hid (Below w1.heap.size w1 w2) := below_of_grown hgr (Nat.le_refl _) (fun g e => by cases e)
  clear hg hgr
  go_wp2_with fail
  go_ret
  obtain ⟨fs, hs, hlo⟩ := hg'.out.done
  rw [H.out]
  exact ⟨⟨_, fs, rfl, hs, hs.nodup, fun b q => Nat.le_trans hB1.out.size (hlo b q)⟩, hB1.out.trans (hb2.out.mono hB1.out.size)⟩
theorem pathsD_short : ∀ (n : Nat) (d : TD) (p q : List Int), q ∈ pathsD n d p → q.length + 1 ≤ p.length + cntTree n d := by
  intro n
  induction n with
  | zero => intro d p q h; cases h
  | succ n ih =>
    intro d p q h
    rw [pathsD_succ] at h
    rcases List.mem_cons.1 h with e | e
    · rw [e]; simp only [cntTree]; omega
    · obtain ⟨i, hi0, hi⟩ := List.mem_flatMap.1 e
      have hi1 : i < (kidsOf d).length := List.mem_range.1 hi0
      have h1 := ih _ _ _ hi
      have h2 := pos_succ (cnt := cntTree n) hi1
      have h3 : pos (cntTree n) (kidsOf d) (i + 1) ≤ cntL (cntTree n) (kidsOf d) := pos_le (by omega) (Nat.le_refl _)
      have e3 : nth (kidsOf d) i = (kidsOf d)[i] := by simp [nth, List.getD, List.getElem?_eq_getElem hi1]
      rw [e3] at h1
      simp only [List.length_append, List.length_cons, List.length_nil, cntTree] at h1 ⊢
      omega
end Go.Proofs.Ytndffcogddefiaa
namespace Go.Proofs.Ytndffcogddefiaa
open Go.RowKit
theorem one_int {w : World} {v : Int} (hv : InI v) {lo : Nat} (hlo : lo ≤ w.heap.size) : SeqAt 1 IntAt (w.alloc (.cells #[.int .i64 v] 2)) lo (.slice (some ⟨w.heap.size, 0, none⟩) 1 1) [v] := by
  have hb : Box (w.alloc (.cells #[.int .i64 v] 2)) w.heap.size [.int .i64 v] 2 := Box.new w _ _
  refine ⟨_, _, rfl, ⟨by simp [maxLen], by simp⟩, fun _ => ⟨_, _, rfl, hlo, hb.lt, fun i hi => ⟨[.int .i64 v], rfl, fun m hm => ?_, ?_⟩⟩⟩
  · have hi0 : i = 0 := by simpa using hi
    have hm0 : m = 0 := by simpa using hm
    subst hi0 hm0
    exact hb.cell 0 rfl
  · have hi0 : i = 0 := by simpa using hi
    subst hi0
    exact ⟨rfl, hv⟩
/-- what is drawn: some list of numbers, not long -/
def PathAns (w w' : World) (n : Nat) (e : Ending) : Prop := ∃ (v : Value) (p : List Int), e = .returned v ∧ SeqAt 1 IntAt w' w.heap.size v p ∧ p.length ≤ n + 1
set_option maxHeartbeats 2000000 in
theorem path_any {w : World} {g : Nat} {a : Option Addr} {nn cap n lo : Nat} {t k : Value} {d : TD} (h : RdAt w g a nn cap) (ht : TreeAt w lo n t k d) :
    Calls Try.prog 57 #[.pointer (some ⟨g, 0, none⟩), .agg #[t, k]] w fun e w' => PathAns w w' n e ∧ RdAt w' g a nn cap ∧ w.grownBy w' (some g) := by
  have h' : Hid (RdAt w g a nn cap) := h
  have ht' : Hid (TreeAt w lo n t k d) := ht
  have hlt := h.lt
  clear h
  obtain ⟨⟨s, rfl⟩, a0, cap0, rfl⟩ := ht.form
  clear ht
  have hb0 : Hid (Below w.heap.size w (w.alloc (.cells #[.string s, .slice a0 (kidsOf d).length cap0] 26))) := (Below.refl _ _).alloc (Nat.le_refl _) _
  go_enter Try.func57, Try.ntmps57
  go_wp2_with fail
  refine (specPathsOf_any (n := n) (by exact ht'.out.below hb0.out)).mono ?_
  rintro e w1 ⟨⟨vq, fs, rfl, hs, _, hfs⟩, hb1⟩
  have hB1 : Hid (Below w.heap.size w w1) := hb0.out.trans (hb1.mono hb0.out.size)
  have hs' : Hid (SeqOwn 1 IntsOwn w1 vq (pathsOfD (okB (szD n d 30)) n d) fs) := hs
  have hfs' : Hid (∀ b ∈ fs, w.heap.size ≤ b) := fun b q => Nat.le_trans hb0.out.size (hfs b q)
  have hr1 : Hid (RdAt w1 g a nn cap) := h'.out.below hB1.out
  have hg1 : Hid (w.grownBy w1 (some g)) := grown_of_below hB1.out _
  have hL : (pathsOfD (okB (szD n d 30)) n d).length ≤ 30 := by
    rcases (by cases okB (szD n d 30) <;> simp : okB (szD n d 30) = false ∨ okB (szD n d 30) = true) with q | q
    · rw [pathsOfD_no q]; simp
    · rw [pathsOfD_yes q, pathsD_len]; exact (right_of_ok2 q).cntT n
  have hdeep : Hid (∀ q ∈ pathsOfD (okB (szD n d 30)) n d, q.length ≤ n + 1) := fun q hq => by
    rcases (by cases okB (szD n d 30) <;> simp : okB (szD n d 30) = false ∨ okB (szD n d 30) = true) with z | z
    · rw [pathsOfD_no z] at hq; cases hq
    · rw [pathsOfD_yes z] at hq; have := pathsD_deep n d [] q hq; simp at this; omega
  generalize pathsOfD (okB (szD n d 30)) n d = PO at hs' hL hdeep
  obtain ⟨aq, cq, rfl⟩ := hs'.out.form
  clear hs hfs hb1 hb0 h' ht'
  have hz1 := hB1.out.size
  by_cases hL0 : PO.length = 0
  · have hL0' : ((PO.length : Int) == 0) = true := by simp [hL0]
    have hL0'' : (PO.length : Int) = 0 := by omega
    go_wp2_with fail
    refine (off_any hr1.out 0 2 (by omega) (by omega) (by omega) (by omega)).mono ?_
    rintro e w2 ⟨v, rfl, hv, hr2, hg2⟩
    have hr2' : Hid (RdAt w2 g a nn cap) := hr2
    have hg2' : Hid (w.grownBy w2 (some g)) := grown_on hg1.out hg2
    have hz2 := hg2'.out.size
    clear hr2 hg2
    go_wp2_with fail
    go_ret
    exact ⟨⟨_, [v], rfl, one_int hv hz2, by simp⟩, hr2'.out.below ((Below.refl _ _).alloc (Nat.le_refl _) _), grown_on hg2'.out (grown_of_below ((Below.refl _ _).alloc (Nat.le_refl _) _) _)⟩
  · have hL1 : ¬ (PO.length : Int) = 0 := by omega
    go_wp2_with fail
    refine (once_any hr1.out 10 (by omega) (by omega)).mono ?_
    rintro e w2 ⟨b, rfl, hr2, hg2⟩
    have hr2' : Hid (RdAt w2 g a nn cap) := hr2
    have hg2' : Hid (w.grownBy w2 (some g)) := grown_on hg1.out hg2
    have hs2 : Hid (SeqOwn 1 IntsOwn w2 (.slice aq PO.length cq) PO fs) := hs'.out.stays IntsOwn_stays (fun b q => hg2.block b (hs'.out.lt IntsOwn_lt b q) (fun e => by injection e with e; have := hfs'.out b q; omega))
    clear hr2 hg2 hs'
    cases b with
    | true =>
      go_wp2_with fail
      refine (off_any hr2'.out 0 2 (by omega) (by omega) (by omega) (by omega)).mono ?_
      rintro e w3 ⟨v, rfl, hv, hr3, hg3⟩
      have hr3' : Hid (RdAt w3 g a nn cap) := hr3
      have hg3' : Hid (w.grownBy w3 (some g)) := grown_on hg2'.out hg3
      have hz3 := hg3'.out.size
      clear hr3 hg3
      go_wp2_with fail
      go_ret
      exact ⟨⟨_, [v], rfl, one_int hv hz3, by simp⟩, hr3'.out.below ((Below.refl _ _).alloc (Nat.le_refl _) _), grown_on hg3'.out (grown_of_below ((Below.refl _ _).alloc (Nat.le_refl _) _) _)⟩
    | false =>
      go_wp2_with fail
      refine (below_any hr2'.out PO.length (by omega) (by omega)).mono ?_
      rintro e w3 ⟨v, rfl, v0, v1, hr3, hg3⟩
      have hr3' : Hid (RdAt w3 g a nn cap) := hr3
      have hg3' : Hid (w.grownBy w3 (some g)) := grown_on hg2'.out hg3
      have hs3 : SeqOwn 1 IntsOwn w3 (.slice aq PO.length cq) PO fs := hs2.out.stays IntsOwn_stays (fun b q => hg3.block b (hs2.out.lt IntsOwn_lt b q) (fun e => by injection e with e; have := hfs'.out b q; omega))
      obtain ⟨i, rfl⟩ : ∃ i : Nat, v = i := ⟨v.toNat, by omega⟩
      have hi : i < PO.length := by omega
      have hsat : SeqAt 1 IntsAt w3 w.heap.size (.slice aq PO.length cq) PO := hs3.at IntsOwn_at hfs'.out
      obtain ⟨a', cap', e, hm, hx⟩ := hsat
      injection e with e1 _ e3
      subst e1 e3
      obtain ⟨bb, off, rfl, _, _, hc⟩ := hx (by omega)
      obtain ⟨cs, _, lie, kk, rfl, hkk⟩ := hc i hi
      have z0 := lie 0 (by simp)
      simp only [List.getElem?_cons_zero, Nat.add_zero, Nat.mul_one] at z0
      have hq := hdeep.out PO[i] (List.getElem_mem hi)
      have hkk' : Hid (SeqAt 1 IntAt w3 w.heap.size kk PO[i]) := hkk
      clear hr3 hg3 lie hc hx hkk hs3 hs2
      go_wp2_with fail
      go_ret
      exact ⟨⟨_, PO[i], rfl, hkk'.out, hq⟩, hr3'.out, hg3'.out⟩
end Go.Proofs.Ytndffcogddefiaa
