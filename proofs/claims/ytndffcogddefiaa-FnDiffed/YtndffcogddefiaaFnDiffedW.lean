/- The walk of FnDiffed. -/
import Derived.Test.YtndffcogddefiaaDDiff
import Derived.Test.YtndffcogddefiaaDfTop
import Derived.Test.YtndffcogddefiaaDfLead
import Derived.Test.YtndffcogddefiaaTextWalks
import Derived.Deep.RegionHeld3
namespace Go.Proofs.Ytndffcogddefiaa.fnDiffed
open Go.RowKit Go.Deep
theorem big_any {a : Option Addr} {n cap : Nat} (w : World) : Calls Try.prog 8 #[.slice a n cap] w fun e w' => e = .returned (.bool (decide ((1048576 : Int) < (n : Int)))) ∧ w' = w := by
  go_enter Try.func8, Try.ntmps8
  go_wp2
  go_ret
  exact ⟨rfl, rfl⟩
theorem sizeB_range {x : TD} (h : treeB x = true) : 1 ≤ sizeB x ∧ sizeB x ≤ 30 := by
  unfold treeB at h
  unfold sizeB
  cases e : szD 31 x 30 with
  | none => rw [e] at h; cases h
  | some m => exact szD_range _ _ _ _ e
theorem okB_of {n : Nat} {w : World} {lo : Nat} {t k : Value} {d : TD} (ht : TreeAt w lo n t k d) (h : treeB d = true) : okB (szD n d 30) = true := by rw [tree_fuel ht]; exact h
/-- what Edited tells, in one form -/
theorem EdR.all {w w' : World} {o : Option TD} {e : Ending} (h : EdR w w' o e) : ∃ (a : Option Addr) (c n : Nat), e = .returned (.tuple #[.agg #[.string (strT (resTd o)), .slice a (kidsOf (resTd o)).length c], .bool o.isSome]) ∧ TreeAt w' 0 n (.string (strT (resTd o))) (.slice a (kidsOf (resTd o)).length c) (resTd o) ∧ Below w.heap.size w w' := by
  obtain ⟨cs, fs, n, rfl, ho, _, _, hb⟩ := h
  obtain ⟨k, rfl, hs, _⟩ := ho.opened
  obtain ⟨a, c, rfl⟩ := hs.form
  exact ⟨a, c, n, rfl, treeO_ta ho, hb⟩
def resL (o : Option (List EditD)) : List EditD := o.getD []
/-- what Diffed tells, in one form: a row of edits -/
theorem DfR.seq {n : Nat} {w w' : World} {o : Option (List EditD)} {e : Ending} (h : DfR n w w' o e) : ∃ (a : Option Addr) (c : Nat), e = .returned (.tuple #[.slice a (resL o).length c, .bool o.isSome]) ∧ SeqAt 5 (EditAt n) w' 0 (.slice a (resL o).length c) (resL o) ∧ Below w.heap.size w w' := by
  rcases h with ⟨rfl, rfl, hb⟩ | ⟨ys, v, fs, rfl, rfl, hs, hn, hl, hb⟩
  · exact ⟨none, 0, rfl, ⟨_, _, rfl, ⟨Nat.zero_le _, Nat.zero_le _⟩, fun q => absurd q (by simp [resL])⟩, hb⟩
  · obtain ⟨a, c, rfl⟩ := hs.form
    exact ⟨a, c, rfl, hs.at (fun _ _ _ _ ho hl => (EditO_at ho hl).at) (fun _ _ => Nat.zero_le _), hb⟩
theorem DfR.empty {n : Nat} {w w' : World} {e : Ending} (h : DfR n w w' (some []) e) : ∃ (a : Option Addr) (c : Nat), e = .returned (.tuple #[.slice a 0 c, .bool true]) ∧ Below w.heap.size w w' := by
  obtain ⟨a, c, e, _, hb⟩ := DfR.seq h
  exact ⟨a, c, e, hb⟩
theorem sim_more : ∀ (n : Nat) {v b : TD}, Good n b → Sim n v b → ∀ m, Sim m v b := by
  intro n
  induction n with
  | zero => intro v b h; obtain ⟨k, e⟩ := good_pos h; omega
  | succ n ih =>
    intro v b hb h m
    cases m with
    | zero => trivial
    | succ m => exact ⟨h.1, h.2.1, fun i hi => ih (good_nth hb (by have := h.2.1; omega)) (h.2.2 i hi) m⟩
theorem diff_some {n : Nat} {a b : TD} (h : (diffD n a b).isSome = true) : treeB a = true ∧ treeB b = true ∧ diffD n a b = some (cutsD n a b [] ++ growD n a b []) := by
  unfold diffD at h ⊢
  split at h
  · next hh => exact ⟨hh.1, hh.2, by rw [if_pos hh]⟩
  · cases h
theorem diff_self {n : Nat} {a : TD} (h : treeB a = true) : diffD n a a = some [] := by unfold diffD; rw [if_pos ⟨h, h⟩, cuts_self, grow_self]; rfl
theorem diff_few {n : Nat} {a b : TD} (ha : Good n a ∧ cntTree n a ≤ 30) (hb : Good n b ∧ cntTree n b ≤ 30) : (cutsD n a b [] ++ growD n a b []).length ≤ 100 := by
  have h1 := cutsD_len n a b []
  have h2 := growD_len n a b []
  have h3 : ∀ {x : TD}, Good n x → cntTree (n + 1) x = cntTree n x := fun {x} h => by
    obtain ⟨r, m, h⟩ := h
    have e1 := szD_cntE _ _ _ _ h
    have e2 := szD_cntE _ _ _ _ (szD_moreE _ _ _ _ h)
    omega
  rw [List.length_append]
  have := h3 ha.1
  have := h3 hb.1
  omega
theorem okB_at {n : Nat} {w : World} {lo : Nat} {t k : Value} {d : TD} (ht : TreeAt w lo n t k d) (h : treeB d = true) : okB (szD n d 30) = true := by rw [tree_fuel ht]; exact h
/-- what EditedAll tells of a row that leads there -/
theorem EdR.oneS {w w' : World} {u : TD} {e : Ending} (h : EdR w w' (some u) e) : ∃ (a : Option Addr) (c n : Nat), e = .returned (.tuple #[.agg #[.string (strT u), .slice a (kidsOf u).length c], .bool true]) ∧ TreeAt w' 0 n (.string (strT u)) (.slice a (kidsOf u).length c) u ∧ Below w.heap.size w w' := EdR.all h
set_option maxRecDepth 100000 in
set_option maxHeartbeats 16000000 in
theorem walk {a : Option Addr} {n cap : Nat} (w : World) (hlen : n ≤ maxLen) (hcode : n ≤ 1048576 → CodeAt w a n) :
    Calls Try.prog 5 #[.slice a n cap] w fun e w' => e = .returned (.bool true) ∧ Below w.heap.size w w' := by
  unfold maxLen at hlen
  by_cases hbig : (1048576 : Int) < (n : Int)
  · clear hcode
    go_enter Try.func5, Try.ntmps5
    go_wp2_with (go_at_call 8; refine (big_any _).mono ?_; rintro e w' ⟨rfl, rfl⟩; rw [decide_eq_true hbig])
    go_ret
    exact ⟨rfl, Below.refl _ _⟩
  have hc' : Hid (CodeAt w a n) := hcode (by omega)
  have hbe : Hid (decide ((1048576 : Int) < (n : Int)) = false) := decide_eq_false hbig
  clear hcode hbig hlen
  go_enter Try.func5, Try.ntmps5
  go_wp2_with (go_at_call 8; refine (big_any _).mono ?_; rintro e w' ⟨rfl, e9⟩; have e10 := e9.symm; clear e9; subst e10; rw [hbe.out])
  refine (drawDiffed_any hc'.out).mono ?_
  rintro e w2 ⟨⟨lv, t, k, t2, k2, d, x, rfl, hta, htb⟩, hb2⟩
  obtain ⟨rfl, _⟩ := hta.tag
  obtain ⟨_, aA, cA, rfl⟩ := hta.form
  obtain ⟨rfl, _⟩ := htb.tag
  obtain ⟨_, aB, cB, rfl⟩ := htb.form
  have hB0 : Hid (Below w.heap.size w w2) := hb2
  have tA_0 : Hid (TreeAt w2 0 lv (.string (strT d)) (.slice aA (kidsOf d).length cA) d) := hta
  have tB_0 : Hid (TreeAt w2 0 lv (.string (strT x)) (.slice aB (kidsOf x).length cB) x) := htb
  clear hta htb hb2 hc' hbe
  have hal : Below w2.heap.size w2 ((w2.alloc (.cells #[.string (strT d), .slice aA (kidsOf d).length cA] 26)).alloc (.cells #[.string (strT x), .slice aB (kidsOf x).length cB] 26)) := ((Below.refl _ _).alloc (Nat.le_refl _) _).alloc (by simp) _
  have tA_1 : Hid (TreeAt ((w2.alloc (.cells #[.string (strT d), .slice aA (kidsOf d).length cA] 26)).alloc (.cells #[.string (strT x), .slice aB (kidsOf x).length cB] 26)) 0 lv (.string (strT d)) (.slice aA (kidsOf d).length cA) d) := TreeAt.below tA_0.out hal
  have tB_1 : Hid (TreeAt ((w2.alloc (.cells #[.string (strT d), .slice aA (kidsOf d).length cA] 26)).alloc (.cells #[.string (strT x), .slice aB (kidsOf x).length cB] 26)) 0 lv (.string (strT x)) (.slice aB (kidsOf x).length cB) x) := TreeAt.below tB_0.out hal
  clear tA_0 tB_0
  have hB1 : Hid (Below w.heap.size w ((w2.alloc (.cells #[.string (strT d), .slice aA (kidsOf d).length cA] 26)).alloc (.cells #[.string (strT x), .slice aB (kidsOf x).length cB] 26))) := hB0.out.trans (Below.mono hal (Below.size hB0.out))
  clear hB0
  have bA_1 : Hid (Box ((w2.alloc (.cells #[.string (strT d), .slice aA (kidsOf d).length cA] 26)).alloc (.cells #[.string (strT x), .slice aB (kidsOf x).length cB] 26)) w2.heap.size [.string (strT d), .slice aA (kidsOf d).length cA] 26) := (Box.new w2 [.string (strT d), .slice aA (kidsOf d).length cA] 26).alloc _
  have bB_1 : Hid (Box ((w2.alloc (.cells #[.string (strT d), .slice aA (kidsOf d).length cA] 26)).alloc (.cells #[.string (strT x), .slice aB (kidsOf x).length cB] 26)) (w2.heap.size + 1) [.string (strT x), .slice aB (kidsOf x).length cB] 26) := by have q := Box.new (w2.alloc (.cells #[.string (strT d), .slice aA (kidsOf d).length cA] 26)) [.string (strT x), .slice aB (kidsOf x).length cB] 26; rw [World.size_alloc] at q; exact q
  clear hal
  have c1_bA_0 := bA_1.out.cell 0 rfl
  have c1_bA_1 := bA_1.out.cell 1 rfl
  have c1_bB_0 := bB_1.out.cell 0 rfl
  have c1_bB_1 := bB_1.out.cell 1 rfl
  go_wp2_with fail
  obtain ⟨o, ho⟩ : ∃ o, diffD lv d x = o := ⟨_, rfl⟩
  have hoh : Hid (diffD lv d x = o) := ho
  clear ho
  refine (implDiffed_any tA_1.out tB_1.out).mono ?_
  rw [hoh.out]
  rintro e w3 hR
  obtain ⟨aU, cU, rfl, hTU, hbU⟩ := DfR.seq hR
  clear hR
  have hTUh : Hid (SeqAt 5 (EditAt lv) w3 0 (.slice aU (resL o).length cU) (resL o)) := hTU
  clear hTU
  have tA_2 : Hid (TreeAt w3 0 lv (.string (strT d)) (.slice aA (kidsOf d).length cA) d) := TreeAt.below tA_1.out hbU
  have tB_2 : Hid (TreeAt w3 0 lv (.string (strT x)) (.slice aB (kidsOf x).length cB) x) := TreeAt.below tB_1.out hbU
  have bA_2 : Hid (Box w3 w2.heap.size [.string (strT d), .slice aA (kidsOf d).length cA] 26) := Box.below bA_1.out hbU (Box.lt bA_1.out)
  have bB_2 : Hid (Box w3 (w2.heap.size + 1) [.string (strT x), .slice aB (kidsOf x).length cB] 26) := Box.below bB_1.out hbU (Box.lt bB_1.out)
  clear tA_1 tB_1 bA_1 bB_1
  have hB2 : Hid (Below w.heap.size w w3) := hB1.out.trans (Below.mono hbU (Below.size hB1.out))
  clear hB1
  clear c1_bA_0 c1_bA_1 c1_bB_0 c1_bB_1
  have c2_bA_0 := bA_2.out.cell 0 rfl
  have c2_bA_1 := bA_2.out.cell 1 rfl
  have c2_bB_0 := bB_2.out.cell 0 rfl
  have c2_bB_1 := bB_2.out.cell 1 rfl
  have lU_2 : Hid (SeqAt 5 (EditAt lv) w3 0 (.slice aU (resL o).length cU) (resL o)) := hTUh
  clear hTUh hbU
  clear c2_bA_0 c2_bA_1 c2_bB_0 c2_bB_1
  have c2_bA_0 := bA_2.out.cell 0 rfl
  have c2_bA_1 := bA_2.out.cell 1 rfl
  have c2_bB_0 := bB_2.out.cell 0 rfl
  have c2_bB_1 := bB_2.out.cell 1 rfl
  go_wp2_with fail
  refine (specDiffed_any tA_2.out tB_2.out).mono ?_
  rw [hoh.out]
  rintro e w4 hR
  obtain ⟨aV, cV, rfl, hTV, hbV⟩ := DfR.seq hR
  clear hR
  have hTVh : Hid (SeqAt 5 (EditAt lv) w4 0 (.slice aV (resL o).length cV) (resL o)) := hTV
  clear hTV
  have tA_3 : Hid (TreeAt w4 0 lv (.string (strT d)) (.slice aA (kidsOf d).length cA) d) := TreeAt.below tA_2.out hbV
  have tB_3 : Hid (TreeAt w4 0 lv (.string (strT x)) (.slice aB (kidsOf x).length cB) x) := TreeAt.below tB_2.out hbV
  have bA_3 : Hid (Box w4 w2.heap.size [.string (strT d), .slice aA (kidsOf d).length cA] 26) := Box.below bA_2.out hbV (Box.lt bA_2.out)
  have bB_3 : Hid (Box w4 (w2.heap.size + 1) [.string (strT x), .slice aB (kidsOf x).length cB] 26) := Box.below bB_2.out hbV (Box.lt bB_2.out)
  have lU_3 : Hid (SeqAt 5 (EditAt lv) w4 0 (.slice aU (resL o).length cU) (resL o)) := SeqAt.below EditAt.stays lU_2.out hbV
  clear tA_2 tB_2 bA_2 bB_2 lU_2
  have hB3 : Hid (Below w.heap.size w w4) := hB2.out.trans (Below.mono hbV (Below.size hB2.out))
  clear hB2
  clear c2_bA_0 c2_bA_1 c2_bB_0 c2_bB_1
  have c3_bA_0 := bA_3.out.cell 0 rfl
  have c3_bA_1 := bA_3.out.cell 1 rfl
  have c3_bB_0 := bB_3.out.cell 0 rfl
  have c3_bB_1 := bB_3.out.cell 1 rfl
  have lV_3 : Hid (SeqAt 5 (EditAt lv) w4 0 (.slice aV (resL o).length cV) (resL o)) := hTVh
  clear hTVh hbV
  clear c3_bA_0 c3_bA_1 c3_bB_0 c3_bB_1
  have c3_bA_0 := bA_3.out.cell 0 rfl
  have c3_bA_1 := bA_3.out.cell 1 rfl
  have c3_bB_0 := bB_3.out.cell 0 rfl
  have c3_bB_1 := bB_3.out.cell 1 rfl
  rcases (by cases o.isSome <;> simp : o.isSome = false ∨ o.isSome = true) with hsb | hsb
  · rw [hsb]
    go_wp2_with fail
    go_ret
    exact ⟨rfl, hB3.out⟩
  rw [hsb]
  obtain ⟨hda, hdb, hdd⟩ := diff_some (show (diffD lv d x).isSome = true by rw [hoh.out]; exact hsb)
  have hga := okB_at tA_3.out hda
  have hgb := okB_at tB_3.out hdb
  obtain ⟨v, hv0, hsim0⟩ := diff_lead hga hgb
  have hsim : Hid (∀ n, Sim n v x) := sim_more lv (good_of hgb).1 hsim0
  have hv : Hid (allD d (resL o) = some v) := by show allD d (resL o) = some v; rw [← hoh.out, hdd]; unfold allD; rw [if_pos ⟨diff_few (good_of hga) (good_of hgb), hda⟩]; exact hv0
  have hself : Hid (diffD lv d d = some []) := diff_self hda
  clear hda hdb hdd hga hgb hv0 hsim0 hsb hoh lV_3
  generalize resL o = lU at lU_3 hv ⊢
  go_wp2_with fail
  refine (implEditedAll_any tA_3.out lU_3.out).mono ?_
  rw [hv.out]
  rintro e w5 hR
  obtain ⟨aC, cC, nC, rfl, hTC, hbC⟩ := EdR.oneS hR
  clear hR
  have hTCh : Hid (TreeAt w5 0 nC (.string (strT v)) (.slice aC (kidsOf v).length cC) v) := hTC
  clear hTC
  have tA_4 : Hid (TreeAt w5 0 lv (.string (strT d)) (.slice aA (kidsOf d).length cA) d) := TreeAt.below tA_3.out hbC
  have tB_4 : Hid (TreeAt w5 0 lv (.string (strT x)) (.slice aB (kidsOf x).length cB) x) := TreeAt.below tB_3.out hbC
  have bA_4 : Hid (Box w5 w2.heap.size [.string (strT d), .slice aA (kidsOf d).length cA] 26) := Box.below bA_3.out hbC (Box.lt bA_3.out)
  have bB_4 : Hid (Box w5 (w2.heap.size + 1) [.string (strT x), .slice aB (kidsOf x).length cB] 26) := Box.below bB_3.out hbC (Box.lt bB_3.out)
  have lU_4 : Hid (SeqAt 5 (EditAt lv) w5 0 (.slice aU lU.length cU) lU) := SeqAt.below EditAt.stays lU_3.out hbC
  clear tA_3 tB_3 bA_3 bB_3 lU_3
  have hB4 : Hid (Below w.heap.size w w5) := hB3.out.trans (Below.mono hbC (Below.size hB3.out))
  clear hB3
  clear c3_bA_0 c3_bA_1 c3_bB_0 c3_bB_1
  have c4_bA_0 := bA_4.out.cell 0 rfl
  have c4_bA_1 := bA_4.out.cell 1 rfl
  have c4_bB_0 := bB_4.out.cell 0 rfl
  have c4_bB_1 := bB_4.out.cell 1 rfl
  have tC_4 : Hid (TreeAt w5 0 nC (.string (strT v)) (.slice aC (kidsOf v).length cC) v) := hTCh
  clear hTCh hbC
  have halC : Below w5.heap.size w5 (w5.alloc (.cells #[.string (strT v), .slice aC (kidsOf v).length cC] 26)) := (Below.refl _ _).alloc (Nat.le_refl _) _
  have tA_5 : Hid (TreeAt (w5.alloc (.cells #[.string (strT v), .slice aC (kidsOf v).length cC] 26)) 0 lv (.string (strT d)) (.slice aA (kidsOf d).length cA) d) := TreeAt.below tA_4.out halC
  have tB_5 : Hid (TreeAt (w5.alloc (.cells #[.string (strT v), .slice aC (kidsOf v).length cC] 26)) 0 lv (.string (strT x)) (.slice aB (kidsOf x).length cB) x) := TreeAt.below tB_4.out halC
  have bA_5 : Hid (Box (w5.alloc (.cells #[.string (strT v), .slice aC (kidsOf v).length cC] 26)) w2.heap.size [.string (strT d), .slice aA (kidsOf d).length cA] 26) := Box.below bA_4.out halC (Box.lt bA_4.out)
  have bB_5 : Hid (Box (w5.alloc (.cells #[.string (strT v), .slice aC (kidsOf v).length cC] 26)) (w2.heap.size + 1) [.string (strT x), .slice aB (kidsOf x).length cB] 26) := Box.below bB_4.out halC (Box.lt bB_4.out)
  have lU_5 : Hid (SeqAt 5 (EditAt lv) (w5.alloc (.cells #[.string (strT v), .slice aC (kidsOf v).length cC] 26)) 0 (.slice aU lU.length cU) lU) := SeqAt.below EditAt.stays lU_4.out halC
  have tC_5 : Hid (TreeAt (w5.alloc (.cells #[.string (strT v), .slice aC (kidsOf v).length cC] 26)) 0 nC (.string (strT v)) (.slice aC (kidsOf v).length cC) v) := TreeAt.below tC_4.out halC
  clear tA_4 tB_4 bA_4 bB_4 lU_4 tC_4
  have hB5 : Hid (Below w.heap.size w (w5.alloc (.cells #[.string (strT v), .slice aC (kidsOf v).length cC] 26))) := hB4.out.trans (Below.mono halC (Below.size hB4.out))
  clear hB4
  clear c4_bA_0 c4_bA_1 c4_bB_0 c4_bB_1
  have c5_bA_0 := bA_5.out.cell 0 rfl
  have c5_bA_1 := bA_5.out.cell 1 rfl
  have c5_bB_0 := bB_5.out.cell 0 rfl
  have c5_bB_1 := bB_5.out.cell 1 rfl
  have bC_5 : Hid (Box (w5.alloc (.cells #[.string (strT v), .slice aC (kidsOf v).length cC] 26)) w5.heap.size [.string (strT v), .slice aC (kidsOf v).length cC] 26) := Box.new w5 _ _
  clear halC
  clear c5_bA_0 c5_bA_1 c5_bB_0 c5_bB_1
  have c5_bA_0 := bA_5.out.cell 0 rfl
  have c5_bA_1 := bA_5.out.cell 1 rfl
  have c5_bB_0 := bB_5.out.cell 0 rfl
  have c5_bB_1 := bB_5.out.cell 1 rfl
  have c5_bC_0 := bC_5.out.cell 0 rfl
  have c5_bC_1 := bC_5.out.cell 1 rfl
  go_wp2_with fail
  refine (implDiffed_any tA_5.out tA_5.out).mono ?_
  rw [hself.out]
  rintro e w6 hR
  obtain ⟨aS, cS, rfl, hbS⟩ := DfR.empty hR
  clear hR
  have tA_6 : Hid (TreeAt w6 0 lv (.string (strT d)) (.slice aA (kidsOf d).length cA) d) := TreeAt.below tA_5.out hbS
  have tB_6 : Hid (TreeAt w6 0 lv (.string (strT x)) (.slice aB (kidsOf x).length cB) x) := TreeAt.below tB_5.out hbS
  have bA_6 : Hid (Box w6 w2.heap.size [.string (strT d), .slice aA (kidsOf d).length cA] 26) := Box.below bA_5.out hbS (Box.lt bA_5.out)
  have bB_6 : Hid (Box w6 (w2.heap.size + 1) [.string (strT x), .slice aB (kidsOf x).length cB] 26) := Box.below bB_5.out hbS (Box.lt bB_5.out)
  have lU_6 : Hid (SeqAt 5 (EditAt lv) w6 0 (.slice aU lU.length cU) lU) := SeqAt.below EditAt.stays lU_5.out hbS
  have tC_6 : Hid (TreeAt w6 0 nC (.string (strT v)) (.slice aC (kidsOf v).length cC) v) := TreeAt.below tC_5.out hbS
  have bC_6 : Hid (Box w6 w5.heap.size [.string (strT v), .slice aC (kidsOf v).length cC] 26) := Box.below bC_5.out hbS (Box.lt bC_5.out)
  clear tA_5 tB_5 bA_5 bB_5 lU_5 tC_5 bC_5
  have hB6 : Hid (Below w.heap.size w w6) := hB5.out.trans (Below.mono hbS (Below.size hB5.out))
  clear hB5
  clear c5_bA_0 c5_bA_1 c5_bB_0 c5_bB_1 c5_bC_0 c5_bC_1
  have c6_bA_0 := bA_6.out.cell 0 rfl
  have c6_bA_1 := bA_6.out.cell 1 rfl
  have c6_bB_0 := bB_6.out.cell 0 rfl
  have c6_bB_1 := bB_6.out.cell 1 rfl
  have c6_bC_0 := bC_6.out.cell 0 rfl
  have c6_bC_1 := bC_6.out.cell 1 rfl
  clear hbS
  obtain ⟨L, hL1, hL2⟩ : ∃ L, nC ≤ L ∧ lv ≤ L := ⟨nC + lv, by omega, by omega⟩
  go_upto_region 10 with fail
  have hk0 : Hid (Below (World.heap w6).size w6 (World.drew w6)) := Below.drew (Below.refl _ _)
  refine wp_region_held_drew (S := fun w' => w'.cell? ⟨w2.heap.size + 1, 0, none⟩ = some (.string (strT x)) ∧ w'.cell? ⟨w2.heap.size + 1, 1, none⟩ = some (.slice aB (kidsOf x).length cB) ∧ w'.cell? ⟨w5.heap.size, 0, none⟩ = some (.string (strT v)) ∧ w'.cell? ⟨w5.heap.size, 1, none⟩ = some (.slice aC (kidsOf v).length cC)) (by kernel_rfl) ⟨bB_6.out.cell 0 rfl, bB_6.out.cell 1 rfl, bC_6.out.cell 0 rfl, bC_6.out.cell 1 rfl⟩ (fun hHeld => ?_)
  refine tq (i := 0) (d := 68) ?_
  simp only [sz, ss]
  refine tq (i := 1) (d := 69) ?_
  simp only [sz, ss]
  refine tq (i := 2) (d := 70) ?_
  simp only [sz, ss]
  refine tq (i := 4) (d := 72) ?_
  simp only [sz, ss]
  refine wpAnyH_ready (rs := [3]) (by kernel_rfl) (by simp) ?_
  refine AllReadyH.cons rfl (fun K hK => ?_) AllReadyH.nil
  go_simp
  refine (implTreeText_any (TreeAt.mono hL1 (by exact TreeAt.below tC_6.out hk0.out))).mono ?_
  rw [sim_textR (hsim.out L)]
  rintro e s1 ⟨rfl, hb1⟩
  have hk1 : Hid (Below (World.heap w6).size w6 s1) := hk0.out.trans (Below.mono hb1 (Below.size hk0.out))
  refine hK.out _ _ ⟨cell_on hb1 hHeld.1, cell_on hb1 hHeld.2.1, cell_on hb1 hHeld.2.2.1, cell_on hb1 hHeld.2.2.2⟩ (fun hHeld => ?_)
  clear hK K
  refine wpAnyH_ready (rs := [5]) (by kernel_rfl) (by simp) ?_
  refine AllReadyH.cons rfl (fun K hK => ?_) AllReadyH.nil
  go_simp
  refine (implTreeText_any (TreeAt.mono hL2 (by exact TreeAt.below tB_6.out hk1.out))).mono ?_
  rintro e s2 ⟨rfl, hb1⟩
  have hk2 : Hid (Below (World.heap w6).size w6 s2) := hk1.out.trans (Below.mono hb1 (Below.size hk1.out))
  refine hK.out _ _ ⟨cell_on hb1 hHeld.1, cell_on hb1 hHeld.2.1, cell_on hb1 hHeld.2.2.1, cell_on hb1 hHeld.2.2.2⟩ (fun hHeld => ?_)
  clear hK K
  refine take_lit (i := 6) (d := 74) (v := .bool true) rfl rfl (by kernel_rfl) (by kernel_rfl) (by kernel_rfl) (fun _ _ _ h => h) (Or.inl ⟨by rfl, ?_⟩) (by assumption) ?_
  · intro w9 _; go_simp
  simp only [sz, ss]
  refine tq (i := 7) (d := 75) ?_
  simp only [sz, ss]
  refine tq (i := 8) (d := 76) ?_
  simp only [sz, ss]
  refine tq (i := 9) (d := 77) ?_
  simp only [sz, ss]
  refine tq (i := 10) (d := 78) ?_
  simp only [sz, ss]
  refine take_lit (i := 11) (d := 79) (v := .bool true) rfl rfl (by kernel_rfl) (by kernel_rfl) (by kernel_rfl) (fun _ _ _ h => h) (Or.inl ⟨by rfl, ?_⟩) (by assumption) ?_
  · intro w9 _; go_simp
  simp only [sz, ss]
  refine tq (i := 12) (d := 80) ?_
  simp only [sz, ss]
  refine tq (i := 13) (d := 2) ?_
  simp only [sz, ss]
  refine wpAnyH_done (by kernel_rfl) ?_ _
  clear hHeld hb1
  have hbo := hk2.out
  clear hk0 hk1 hk2
  have tA_7 : Hid (TreeAt s2 0 lv (.string (strT d)) (.slice aA (kidsOf d).length cA) d) := TreeAt.below tA_6.out hbo
  have tB_7 : Hid (TreeAt s2 0 lv (.string (strT x)) (.slice aB (kidsOf x).length cB) x) := TreeAt.below tB_6.out hbo
  have bA_7 : Hid (Box s2 w2.heap.size [.string (strT d), .slice aA (kidsOf d).length cA] 26) := Box.below bA_6.out hbo (Box.lt bA_6.out)
  have bB_7 : Hid (Box s2 (w2.heap.size + 1) [.string (strT x), .slice aB (kidsOf x).length cB] 26) := Box.below bB_6.out hbo (Box.lt bB_6.out)
  have lU_7 : Hid (SeqAt 5 (EditAt lv) s2 0 (.slice aU lU.length cU) lU) := SeqAt.below EditAt.stays lU_6.out hbo
  have tC_7 : Hid (TreeAt s2 0 nC (.string (strT v)) (.slice aC (kidsOf v).length cC) v) := TreeAt.below tC_6.out hbo
  have bC_7 : Hid (Box s2 w5.heap.size [.string (strT v), .slice aC (kidsOf v).length cC] 26) := Box.below bC_6.out hbo (Box.lt bC_6.out)
  clear tA_6 tB_6 bA_6 bB_6 lU_6 tC_6 bC_6
  have hB7 : Hid (Below w.heap.size w s2) := hB6.out.trans (Below.mono hbo (Below.size hB6.out))
  clear hB6
  clear c6_bA_0 c6_bA_1 c6_bB_0 c6_bB_1 c6_bC_0 c6_bC_1
  have c7_bA_0 := bA_7.out.cell 0 rfl
  have c7_bA_1 := bA_7.out.cell 1 rfl
  have c7_bB_0 := bB_7.out.cell 0 rfl
  have c7_bB_1 := bB_7.out.cell 1 rfl
  have c7_bC_0 := bC_7.out.cell 0 rfl
  have c7_bC_1 := bC_7.out.cell 1 rfl
  clear hbo
  go_wp2_with fail
  go_ret
  exact ⟨rfl, hB7.out⟩
end Go.Proofs.Ytndffcogddefiaa.fnDiffed
