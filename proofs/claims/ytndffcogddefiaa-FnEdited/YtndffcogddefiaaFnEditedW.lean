/- The walk of FnEdited. -/
import Derived.Test.YtndffcogddefiaaEdDraws
import Derived.Test.YtndffcogddefiaaEdSizes
import Derived.Test.YtndffcogddefiaaEdTop
import Derived.Test.YtndffcogddefiaaSizeOfI
import Derived.Test.YtndffcogddefiaaTextWalks
import Derived.Deep.RegionHeld3
namespace Go.Proofs.Ytndffcogddefiaa.fnEdited
open Go.RowKit Go.Deep
theorem big_any {a : Option Addr} {n cap : Nat} (w : World) : Calls Try.prog 8 #[.slice a n cap] w fun e w' => e = .returned (.bool (decide ((1048576 : Int) < (n : Int)))) ∧ w' = w := by
  go_enter Try.func8, Try.ntmps8
  go_wp2
  go_ret
  exact ⟨rfl, rfl⟩
theorem size_any {n : Nat} {w : World} {lo : Nat} {t k : Value} {d : TD} (ht : TreeAt w lo n t k d) : Calls Try.prog 14 #[.agg #[t, k]] w fun e w' => e = .returned (.int .i64 (sizeB d)) ∧ Below w.heap.size w w' :=
  (implSizeOf_any ht).mono fun _ _ h => ⟨by rw [h.1, tree_fuel ht]; rfl, h.2⟩
theorem sizeB_range {x : TD} (h : treeB x = true) : 1 ≤ sizeB x ∧ sizeB x ≤ 30 := by
  unfold treeB at h
  unfold sizeB
  cases e : szD 31 x 30 with
  | none => rw [e] at h; cases h
  | some m => exact szD_range _ _ _ _ e
theorem okB_of {n : Nat} {w : World} {lo : Nat} {t k : Value} {d : TD} (ht : TreeAt w lo n t k d) (h : treeB d = true) : okB (szD n d 30) = true := by rw [tree_fuel ht]; exact h
/-- what Edited tells, in one form -/
theorem EdR.all {w w' : World} {o : Option TD} {e : Ending} (h : EdR w w' o e) : ∃ (a : Option Addr) (c n : Nat), e = .returned (.tuple #[.agg #[.string (strT (resTd o)), .slice a (kidsOf (resTd o)).length c], .bool o.isSome]) ∧ TreeAt w' 0 n (.string (strT (resTd o))) (.slice a (kidsOf (resTd o)).length c) (resTd o) ∧ Below w.heap.size w w' := by
  obtain ⟨cs, fs, n, rfl, ho, _, _, hb⟩ := h
  obtain ⟨k, rfl, hs, _⟩ := ho.opened
  obtain ⟨a, c, rfl⟩ := hs.form
  exact ⟨a, c, n, rfl, treeO_ta ho, hb⟩
theorem AtAns.all {w w' : World} {n : Nat} {r : TD × Bool} {e : Ending} (h : AtAns w w' n r e) : ∃ (a : Option Addr) (c : Nat), e = .returned (.tuple #[.agg #[.string (strT r.1), .slice a (kidsOf r.1).length c], .bool r.2]) ∧ TreeAt w' 0 n (.string (strT r.1)) (.slice a (kidsOf r.1).length c) r.1 := by
  obtain ⟨cs, fs, rfl, ho, _, _⟩ := h
  obtain ⟨k, rfl, hs, _⟩ := ho.opened
  obtain ⟨a, c, rfl⟩ := hs.form
  exact ⟨a, c, rfl, treeO_ta ho⟩
theorem EditAt.seq {n : Nat} {w : World} {lo : Nat} {K kp tg t k : Value} {y : EditD} (h : EditAt n w lo [K, kp, tg, t, k] y) : SeqAt 1 IntAt w lo kp y.vPath := by
  obtain ⟨kp', t', k', e, h1, h2, h3, h4⟩ := h
  simp only [List.cons.injEq] at e
  obtain ⟨_, rfl, _⟩ := e
  exact h2
theorem EditAt.tree {n : Nat} {w : World} {lo : Nat} {K kp tg t k : Value} {y : EditD} (h : EditAt n w lo [K, kp, tg, t, k] y) : TreeAt w lo n t k y.vTree := by
  obtain ⟨kp', t', k', e, h1, h2, h3, h4⟩ := h
  simp only [List.cons.injEq] at e
  obtain ⟨_, _, _, rfl, rfl, _⟩ := e
  exact h4
set_option maxRecDepth 100000 in
set_option maxHeartbeats 16000000 in
theorem walk {a : Option Addr} {n cap : Nat} (w : World) (hlen : n ≤ maxLen) (hcode : n ≤ 1048576 → CodeAt w a n) :
    Calls Try.prog 3 #[.slice a n cap] w fun e w' => e = .returned (.bool true) ∧ Below w.heap.size w w' := by
  unfold maxLen at hlen
  by_cases hbig : (1048576 : Int) < (n : Int)
  · clear hcode
    go_enter Try.func3, Try.ntmps3
    go_wp2_with (go_at_call 8; refine (big_any _).mono ?_; rintro e w' ⟨rfl, rfl⟩; rw [decide_eq_true hbig])
    go_ret
    exact ⟨rfl, Below.refl _ _⟩
  have hc' : Hid (CodeAt w a n) := hcode (by omega)
  have hbe : Hid (decide ((1048576 : Int) < (n : Int)) = false) := decide_eq_false hbig
  clear hcode hbig hlen
  go_enter Try.func3, Try.ntmps3
  go_wp2_with (go_at_call 8; refine (big_any _).mono ?_; rintro e w' ⟨rfl, e9⟩; have e10 := e9.symm; clear e9; subst e10; rw [hbe.out])
  refine (drawEdited_any hc'.out).mono ?_
  rintro e w2 ⟨⟨t, k, cs, d, y, rfl, hS, hl⟩, hb2⟩
  have htq := hS.here.1
  have heq := hS.here.2
  obtain ⟨rfl, _⟩ := htq.tag
  obtain ⟨_, aT, cT, rfl⟩ := htq.form
  obtain ⟨ap, cp, aE, cE, rfl, _, _, _⟩ := heq.form
  have hl' : Hid (y.vPath.length ≤ 1048576) := by show _ ≤ _; omega
  have hB0 : Hid (Below w.heap.size w w2) := hb2
  have ht2 : Hid (TreeAt w2 0 4 (.string (strT d)) (.slice aT (kidsOf d).length cT) d) := htq
  have he2 : Hid (EditAt 4 w2 0 [.int .i64 y.vKind, .slice ap y.vPath.length cp, .string y.vTag, .string (strT y.vTree), .slice aE (kidsOf y.vTree).length cE] y) := heq
  clear hS hl hb2 htq heq hc' hbe
  have tD_0 : Hid (TreeAt w2 0 4 (.string (strT d)) (.slice aT (kidsOf d).length cT) d) := ht2
  have eY_0 : Hid (EditAt 4 w2 0 [.int .i64 y.vKind, .slice ap y.vPath.length cp, .string y.vTag, .string (strT y.vTree), .slice aE (kidsOf y.vTree).length cE] y) := he2
  clear ht2 he2
  have hal : Below w2.heap.size w2 ((w2.alloc (.cells #[.string (strT d), .slice aT (kidsOf d).length cT] 26)).alloc (.cells #[.int .i64 y.vKind, .slice ap y.vPath.length cp, .string y.vTag, .string (strT y.vTree), .slice aE (kidsOf y.vTree).length cE] 29)) := ((Below.refl _ _).alloc (Nat.le_refl _) _).alloc (by simp) _
  have tD_1 : Hid (TreeAt ((w2.alloc (.cells #[.string (strT d), .slice aT (kidsOf d).length cT] 26)).alloc (.cells #[.int .i64 y.vKind, .slice ap y.vPath.length cp, .string y.vTag, .string (strT y.vTree), .slice aE (kidsOf y.vTree).length cE] 29)) 0 4 (.string (strT d)) (.slice aT (kidsOf d).length cT) d) := TreeAt.below tD_0.out hal
  have eY_1 : Hid (EditAt 4 ((w2.alloc (.cells #[.string (strT d), .slice aT (kidsOf d).length cT] 26)).alloc (.cells #[.int .i64 y.vKind, .slice ap y.vPath.length cp, .string y.vTag, .string (strT y.vTree), .slice aE (kidsOf y.vTree).length cE] 29)) 0 [.int .i64 y.vKind, .slice ap y.vPath.length cp, .string y.vTag, .string (strT y.vTree), .slice aE (kidsOf y.vTree).length cE] y) := EditAt.stays _ _ _ _ _ _ (.of_below hal) eY_0.out
  clear tD_0 eY_0
  have hB1 : Hid (Below w.heap.size w ((w2.alloc (.cells #[.string (strT d), .slice aT (kidsOf d).length cT] 26)).alloc (.cells #[.int .i64 y.vKind, .slice ap y.vPath.length cp, .string y.vTag, .string (strT y.vTree), .slice aE (kidsOf y.vTree).length cE] 29))) := hB0.out.trans (Below.mono hal (Below.size hB0.out))
  clear hB0
  have b3_1 : Hid (Box ((w2.alloc (.cells #[.string (strT d), .slice aT (kidsOf d).length cT] 26)).alloc (.cells #[.int .i64 y.vKind, .slice ap y.vPath.length cp, .string y.vTag, .string (strT y.vTree), .slice aE (kidsOf y.vTree).length cE] 29)) w2.heap.size [.string (strT d), .slice aT (kidsOf d).length cT] 26) := (Box.new w2 [.string (strT d), .slice aT (kidsOf d).length cT] 26).alloc _
  have b4_1 : Hid (Box ((w2.alloc (.cells #[.string (strT d), .slice aT (kidsOf d).length cT] 26)).alloc (.cells #[.int .i64 y.vKind, .slice ap y.vPath.length cp, .string y.vTag, .string (strT y.vTree), .slice aE (kidsOf y.vTree).length cE] 29)) (w2.heap.size + 1) [.int .i64 y.vKind, .slice ap y.vPath.length cp, .string y.vTag, .string (strT y.vTree), .slice aE (kidsOf y.vTree).length cE] 29) := by have q := Box.new (w2.alloc (.cells #[.string (strT d), .slice aT (kidsOf d).length cT] 26)) [.int .i64 y.vKind, .slice ap y.vPath.length cp, .string y.vTag, .string (strT y.vTree), .slice aE (kidsOf y.vTree).length cE] 29; rw [World.size_alloc] at q; exact q
  clear hal
  have c1_b3_0 := b3_1.out.cell 0 rfl
  have c1_b3_1 := b3_1.out.cell 1 rfl
  have c1_b4_0 := b4_1.out.cell 0 rfl
  have c1_b4_1 := b4_1.out.cell 1 rfl
  have c1_b4_2 := b4_1.out.cell 2 rfl
  have c1_b4_3 := b4_1.out.cell 3 rfl
  have c1_b4_4 := b4_1.out.cell 4 rfl
  go_wp2_with fail
  obtain ⟨o, ho⟩ : ∃ o, editedD d y = o := ⟨_, rfl⟩
  have hoh : Hid (editedD d y = o) := ho
  clear ho
  refine (implEdited_any tD_1.out eY_1.out).mono ?_
  rw [hoh.out]
  rintro e w3 hR
  obtain ⟨aU, cU, nU, rfl, hTU, hbU⟩ := EdR.all hR
  clear hR
  have hTUh : Hid (TreeAt w3 0 nU (.string (strT (resTd o))) (.slice aU (kidsOf (resTd o)).length cU) (resTd o)) := hTU
  clear hTU
  have tD_2 : Hid (TreeAt w3 0 4 (.string (strT d)) (.slice aT (kidsOf d).length cT) d) := TreeAt.below tD_1.out hbU
  have eY_2 : Hid (EditAt 4 w3 0 [.int .i64 y.vKind, .slice ap y.vPath.length cp, .string y.vTag, .string (strT y.vTree), .slice aE (kidsOf y.vTree).length cE] y) := EditAt.stays _ _ _ _ _ _ (.of_below hbU) eY_1.out
  have b3_2 : Hid (Box w3 w2.heap.size [.string (strT d), .slice aT (kidsOf d).length cT] 26) := Box.below b3_1.out hbU (Box.lt b3_1.out)
  have b4_2 : Hid (Box w3 (w2.heap.size + 1) [.int .i64 y.vKind, .slice ap y.vPath.length cp, .string y.vTag, .string (strT y.vTree), .slice aE (kidsOf y.vTree).length cE] 29) := Box.below b4_1.out hbU (Box.lt b4_1.out)
  clear tD_1 eY_1 b3_1 b4_1
  have hB2 : Hid (Below w.heap.size w w3) := hB1.out.trans (Below.mono hbU (Below.size hB1.out))
  clear hB1
  clear c1_b3_0 c1_b3_1 c1_b4_0 c1_b4_1 c1_b4_2 c1_b4_3 c1_b4_4
  have c2_b3_0 := b3_2.out.cell 0 rfl
  have c2_b3_1 := b3_2.out.cell 1 rfl
  have c2_b4_0 := b4_2.out.cell 0 rfl
  have c2_b4_1 := b4_2.out.cell 1 rfl
  have c2_b4_2 := b4_2.out.cell 2 rfl
  have c2_b4_3 := b4_2.out.cell 3 rfl
  have c2_b4_4 := b4_2.out.cell 4 rfl
  have tU_2 : Hid (TreeAt w3 0 nU (.string (strT (resTd o))) (.slice aU (kidsOf (resTd o)).length cU) (resTd o)) := hTUh
  clear hTUh hbU
  have halU : Below w3.heap.size w3 (w3.alloc (.cells #[.string (strT (resTd o)), .slice aU (kidsOf (resTd o)).length cU] 26)) := (Below.refl _ _).alloc (Nat.le_refl _) _
  have tD_3 : Hid (TreeAt (w3.alloc (.cells #[.string (strT (resTd o)), .slice aU (kidsOf (resTd o)).length cU] 26)) 0 4 (.string (strT d)) (.slice aT (kidsOf d).length cT) d) := TreeAt.below tD_2.out halU
  have eY_3 : Hid (EditAt 4 (w3.alloc (.cells #[.string (strT (resTd o)), .slice aU (kidsOf (resTd o)).length cU] 26)) 0 [.int .i64 y.vKind, .slice ap y.vPath.length cp, .string y.vTag, .string (strT y.vTree), .slice aE (kidsOf y.vTree).length cE] y) := EditAt.stays _ _ _ _ _ _ (.of_below halU) eY_2.out
  have b3_3 : Hid (Box (w3.alloc (.cells #[.string (strT (resTd o)), .slice aU (kidsOf (resTd o)).length cU] 26)) w2.heap.size [.string (strT d), .slice aT (kidsOf d).length cT] 26) := Box.below b3_2.out halU (Box.lt b3_2.out)
  have b4_3 : Hid (Box (w3.alloc (.cells #[.string (strT (resTd o)), .slice aU (kidsOf (resTd o)).length cU] 26)) (w2.heap.size + 1) [.int .i64 y.vKind, .slice ap y.vPath.length cp, .string y.vTag, .string (strT y.vTree), .slice aE (kidsOf y.vTree).length cE] 29) := Box.below b4_2.out halU (Box.lt b4_2.out)
  have tU_3 : Hid (TreeAt (w3.alloc (.cells #[.string (strT (resTd o)), .slice aU (kidsOf (resTd o)).length cU] 26)) 0 nU (.string (strT (resTd o))) (.slice aU (kidsOf (resTd o)).length cU) (resTd o)) := TreeAt.below tU_2.out halU
  clear tD_2 eY_2 b3_2 b4_2 tU_2
  have hB3 : Hid (Below w.heap.size w (w3.alloc (.cells #[.string (strT (resTd o)), .slice aU (kidsOf (resTd o)).length cU] 26))) := hB2.out.trans (Below.mono halU (Below.size hB2.out))
  clear hB2
  clear c2_b3_0 c2_b3_1 c2_b4_0 c2_b4_1 c2_b4_2 c2_b4_3 c2_b4_4
  have c3_b3_0 := b3_3.out.cell 0 rfl
  have c3_b3_1 := b3_3.out.cell 1 rfl
  have c3_b4_0 := b4_3.out.cell 0 rfl
  have c3_b4_1 := b4_3.out.cell 1 rfl
  have c3_b4_2 := b4_3.out.cell 2 rfl
  have c3_b4_3 := b4_3.out.cell 3 rfl
  have c3_b4_4 := b4_3.out.cell 4 rfl
  have bU_3 : Hid (Box (w3.alloc (.cells #[.string (strT (resTd o)), .slice aU (kidsOf (resTd o)).length cU] 26)) w3.heap.size [.string (strT (resTd o)), .slice aU (kidsOf (resTd o)).length cU] 26) := Box.new w3 _ _
  clear halU
  clear c3_b3_0 c3_b3_1 c3_b4_0 c3_b4_1 c3_b4_2 c3_b4_3 c3_b4_4
  have c3_b3_0 := b3_3.out.cell 0 rfl
  have c3_b3_1 := b3_3.out.cell 1 rfl
  have c3_b4_0 := b4_3.out.cell 0 rfl
  have c3_b4_1 := b4_3.out.cell 1 rfl
  have c3_b4_2 := b4_3.out.cell 2 rfl
  have c3_b4_3 := b4_3.out.cell 3 rfl
  have c3_b4_4 := b4_3.out.cell 4 rfl
  have c3_bU_0 := bU_3.out.cell 0 rfl
  have c3_bU_1 := bU_3.out.cell 1 rfl
  go_wp2_with fail
  refine (specEdited_any tD_3.out eY_3.out).mono ?_
  rw [hoh.out]
  rintro e w4 hR
  obtain ⟨aV, cV, nV, rfl, hTV, hbV⟩ := EdR.all hR
  clear hR
  have hTVh : Hid (TreeAt w4 0 nV (.string (strT (resTd o))) (.slice aV (kidsOf (resTd o)).length cV) (resTd o)) := hTV
  clear hTV
  have tD_4 : Hid (TreeAt w4 0 4 (.string (strT d)) (.slice aT (kidsOf d).length cT) d) := TreeAt.below tD_3.out hbV
  have eY_4 : Hid (EditAt 4 w4 0 [.int .i64 y.vKind, .slice ap y.vPath.length cp, .string y.vTag, .string (strT y.vTree), .slice aE (kidsOf y.vTree).length cE] y) := EditAt.stays _ _ _ _ _ _ (.of_below hbV) eY_3.out
  have b3_4 : Hid (Box w4 w2.heap.size [.string (strT d), .slice aT (kidsOf d).length cT] 26) := Box.below b3_3.out hbV (Box.lt b3_3.out)
  have b4_4 : Hid (Box w4 (w2.heap.size + 1) [.int .i64 y.vKind, .slice ap y.vPath.length cp, .string y.vTag, .string (strT y.vTree), .slice aE (kidsOf y.vTree).length cE] 29) := Box.below b4_3.out hbV (Box.lt b4_3.out)
  have tU_4 : Hid (TreeAt w4 0 nU (.string (strT (resTd o))) (.slice aU (kidsOf (resTd o)).length cU) (resTd o)) := TreeAt.below tU_3.out hbV
  have bU_4 : Hid (Box w4 w3.heap.size [.string (strT (resTd o)), .slice aU (kidsOf (resTd o)).length cU] 26) := Box.below bU_3.out hbV (Box.lt bU_3.out)
  clear tD_3 eY_3 b3_3 b4_3 tU_3 bU_3
  have hB4 : Hid (Below w.heap.size w w4) := hB3.out.trans (Below.mono hbV (Below.size hB3.out))
  clear hB3
  clear c3_b3_0 c3_b3_1 c3_b4_0 c3_b4_1 c3_b4_2 c3_b4_3 c3_b4_4 c3_bU_0 c3_bU_1
  have c4_b3_0 := b3_4.out.cell 0 rfl
  have c4_b3_1 := b3_4.out.cell 1 rfl
  have c4_b4_0 := b4_4.out.cell 0 rfl
  have c4_b4_1 := b4_4.out.cell 1 rfl
  have c4_b4_2 := b4_4.out.cell 2 rfl
  have c4_b4_3 := b4_4.out.cell 3 rfl
  have c4_b4_4 := b4_4.out.cell 4 rfl
  have c4_bU_0 := bU_4.out.cell 0 rfl
  have c4_bU_1 := bU_4.out.cell 1 rfl
  have tV_4 : Hid (TreeAt w4 0 nV (.string (strT (resTd o))) (.slice aV (kidsOf (resTd o)).length cV) (resTd o)) := hTVh
  clear hTVh hbV
  have halV : Below w4.heap.size w4 (w4.alloc (.cells #[.string (strT (resTd o)), .slice aV (kidsOf (resTd o)).length cV] 26)) := (Below.refl _ _).alloc (Nat.le_refl _) _
  have tD_5 : Hid (TreeAt (w4.alloc (.cells #[.string (strT (resTd o)), .slice aV (kidsOf (resTd o)).length cV] 26)) 0 4 (.string (strT d)) (.slice aT (kidsOf d).length cT) d) := TreeAt.below tD_4.out halV
  have eY_5 : Hid (EditAt 4 (w4.alloc (.cells #[.string (strT (resTd o)), .slice aV (kidsOf (resTd o)).length cV] 26)) 0 [.int .i64 y.vKind, .slice ap y.vPath.length cp, .string y.vTag, .string (strT y.vTree), .slice aE (kidsOf y.vTree).length cE] y) := EditAt.stays _ _ _ _ _ _ (.of_below halV) eY_4.out
  have b3_5 : Hid (Box (w4.alloc (.cells #[.string (strT (resTd o)), .slice aV (kidsOf (resTd o)).length cV] 26)) w2.heap.size [.string (strT d), .slice aT (kidsOf d).length cT] 26) := Box.below b3_4.out halV (Box.lt b3_4.out)
  have b4_5 : Hid (Box (w4.alloc (.cells #[.string (strT (resTd o)), .slice aV (kidsOf (resTd o)).length cV] 26)) (w2.heap.size + 1) [.int .i64 y.vKind, .slice ap y.vPath.length cp, .string y.vTag, .string (strT y.vTree), .slice aE (kidsOf y.vTree).length cE] 29) := Box.below b4_4.out halV (Box.lt b4_4.out)
  have tU_5 : Hid (TreeAt (w4.alloc (.cells #[.string (strT (resTd o)), .slice aV (kidsOf (resTd o)).length cV] 26)) 0 nU (.string (strT (resTd o))) (.slice aU (kidsOf (resTd o)).length cU) (resTd o)) := TreeAt.below tU_4.out halV
  have bU_5 : Hid (Box (w4.alloc (.cells #[.string (strT (resTd o)), .slice aV (kidsOf (resTd o)).length cV] 26)) w3.heap.size [.string (strT (resTd o)), .slice aU (kidsOf (resTd o)).length cU] 26) := Box.below bU_4.out halV (Box.lt bU_4.out)
  have tV_5 : Hid (TreeAt (w4.alloc (.cells #[.string (strT (resTd o)), .slice aV (kidsOf (resTd o)).length cV] 26)) 0 nV (.string (strT (resTd o))) (.slice aV (kidsOf (resTd o)).length cV) (resTd o)) := TreeAt.below tV_4.out halV
  clear tD_4 eY_4 b3_4 b4_4 tU_4 bU_4 tV_4
  have hB5 : Hid (Below w.heap.size w (w4.alloc (.cells #[.string (strT (resTd o)), .slice aV (kidsOf (resTd o)).length cV] 26))) := hB4.out.trans (Below.mono halV (Below.size hB4.out))
  clear hB4
  clear c4_b3_0 c4_b3_1 c4_b4_0 c4_b4_1 c4_b4_2 c4_b4_3 c4_b4_4 c4_bU_0 c4_bU_1
  have c5_b3_0 := b3_5.out.cell 0 rfl
  have c5_b3_1 := b3_5.out.cell 1 rfl
  have c5_b4_0 := b4_5.out.cell 0 rfl
  have c5_b4_1 := b4_5.out.cell 1 rfl
  have c5_b4_2 := b4_5.out.cell 2 rfl
  have c5_b4_3 := b4_5.out.cell 3 rfl
  have c5_b4_4 := b4_5.out.cell 4 rfl
  have c5_bU_0 := bU_5.out.cell 0 rfl
  have c5_bU_1 := bU_5.out.cell 1 rfl
  have bV_5 : Hid (Box (w4.alloc (.cells #[.string (strT (resTd o)), .slice aV (kidsOf (resTd o)).length cV] 26)) w4.heap.size [.string (strT (resTd o)), .slice aV (kidsOf (resTd o)).length cV] 26) := Box.new w4 _ _
  clear halV
  clear c5_b3_0 c5_b3_1 c5_b4_0 c5_b4_1 c5_b4_2 c5_b4_3 c5_b4_4 c5_bU_0 c5_bU_1
  have c5_b3_0 := b3_5.out.cell 0 rfl
  have c5_b3_1 := b3_5.out.cell 1 rfl
  have c5_b4_0 := b4_5.out.cell 0 rfl
  have c5_b4_1 := b4_5.out.cell 1 rfl
  have c5_b4_2 := b4_5.out.cell 2 rfl
  have c5_b4_3 := b4_5.out.cell 3 rfl
  have c5_b4_4 := b4_5.out.cell 4 rfl
  have c5_bU_0 := bU_5.out.cell 0 rfl
  have c5_bU_1 := bU_5.out.cell 1 rfl
  have c5_bV_0 := bV_5.out.cell 0 rfl
  have c5_bV_1 := bV_5.out.cell 1 rfl
  obtain ⟨L, hL1, hL2, hL3⟩ : ∃ L, nU ≤ L ∧ nV ≤ L ∧ 4 ≤ L := ⟨nU + nV + 4, by omega, by omega, by omega⟩
  have lU_5 : Hid (TreeAt (w4.alloc (.cells #[.string (strT (resTd o)), .slice aV (kidsOf (resTd o)).length cV] 26)) 0 L (.string (strT (resTd o))) (.slice aU (kidsOf (resTd o)).length cU) (resTd o)) := TreeAt.mono hL1 tU_5.out
  have lV_5 : Hid (TreeAt (w4.alloc (.cells #[.string (strT (resTd o)), .slice aV (kidsOf (resTd o)).length cV] 26)) 0 L (.string (strT (resTd o))) (.slice aV (kidsOf (resTd o)).length cV) (resTd o)) := TreeAt.mono hL2 tV_5.out
  clear tU_5 tV_5 hL1 hL2
  rcases (by cases o.isSome <;> simp : o.isSome = false ∨ o.isSome = true) with hsb | hsb
  · rw [hsb]
    go_upto_region 6 with fail
    have hk0 : Hid (Below (World.heap (w4.alloc (.cells #[.string (strT (resTd o)), .slice aV (kidsOf (resTd o)).length cV] 26))).size (w4.alloc (.cells #[.string (strT (resTd o)), .slice aV (kidsOf (resTd o)).length cV] 26)) (World.drew (w4.alloc (.cells #[.string (strT (resTd o)), .slice aV (kidsOf (resTd o)).length cV] 26)))) := Below.drew (Below.refl _ _)
    refine wp_region_held_drew (S := fun w' => w'.cell? ⟨w2.heap.size, 0, none⟩ = some (.string (strT d)) ∧ w'.cell? ⟨w2.heap.size, 1, none⟩ = some (.slice aT (kidsOf d).length cT) ∧ w'.cell? ⟨w2.heap.size + 1, 0, none⟩ = some (.int .i64 y.vKind) ∧ w'.cell? ⟨w2.heap.size + 1, 1, none⟩ = some (.slice ap y.vPath.length cp) ∧ w'.cell? ⟨w2.heap.size + 1, 2, none⟩ = some (.string y.vTag) ∧ w'.cell? ⟨w2.heap.size + 1, 3, none⟩ = some (.string (strT y.vTree)) ∧ w'.cell? ⟨w2.heap.size + 1, 4, none⟩ = some (.slice aE (kidsOf y.vTree).length cE) ∧ w'.cell? ⟨w3.heap.size, 0, none⟩ = some (.string (strT (resTd o))) ∧ w'.cell? ⟨w3.heap.size, 1, none⟩ = some (.slice aU (kidsOf (resTd o)).length cU) ∧ w'.cell? ⟨w4.heap.size, 0, none⟩ = some (.string (strT (resTd o))) ∧ w'.cell? ⟨w4.heap.size, 1, none⟩ = some (.slice aV (kidsOf (resTd o)).length cV)) (by kernel_rfl) ⟨b3_5.out.cell 0 rfl, b3_5.out.cell 1 rfl, b4_5.out.cell 0 rfl, b4_5.out.cell 1 rfl, b4_5.out.cell 2 rfl, b4_5.out.cell 3 rfl, b4_5.out.cell 4 rfl, bU_5.out.cell 0 rfl, bU_5.out.cell 1 rfl, bV_5.out.cell 0 rfl, bV_5.out.cell 1 rfl⟩ (fun hHeld => ?_)
    refine tq (i := 0) (d := 33) ?_
    simp only [sz, ss]
    refine tq (i := 1) (d := 34) ?_
    simp only [sz, ss]
    refine take_lit (i := 2) (d := 35) (v := .bool false) rfl rfl (by kernel_rfl) (by kernel_rfl) (by kernel_rfl) (fun _ _ _ h => h) (Or.inl ⟨by rfl, ?_⟩) (by assumption) ?_
    · intro w9 _; go_simp
    simp only [sz, ss]
    refine tq (i := 3) (d := 36) ?_
    simp only [sz, ss]
    refine tq (i := 4) (d := 37) ?_
    simp only [sz, ss]
    refine tq (i := 6) (d := 39) ?_
    simp only [sz, ss]
    refine wpAnyH_ready (rs := [5]) (by kernel_rfl) (by simp) ?_
    refine AllReadyH.cons rfl (fun K hK => ?_) AllReadyH.nil
    go_simp
    refine (implTreeText_any (by exact TreeAt.below lU_5.out hk0.out)).mono ?_
    rintro e p1 ⟨rfl, hb1⟩
    have hk1 : Hid (Below (World.heap (w4.alloc (.cells #[.string (strT (resTd o)), .slice aV (kidsOf (resTd o)).length cV] 26))).size (w4.alloc (.cells #[.string (strT (resTd o)), .slice aV (kidsOf (resTd o)).length cV] 26)) p1) := hk0.out.trans (Below.mono hb1 (Below.size hk0.out))
    refine hK.out _ _ ⟨cell_on hb1 hHeld.1, cell_on hb1 hHeld.2.1, cell_on hb1 hHeld.2.2.1, cell_on hb1 hHeld.2.2.2.1, cell_on hb1 hHeld.2.2.2.2.1, cell_on hb1 hHeld.2.2.2.2.2.1, cell_on hb1 hHeld.2.2.2.2.2.2.1, cell_on hb1 hHeld.2.2.2.2.2.2.2.1, cell_on hb1 hHeld.2.2.2.2.2.2.2.2.1, cell_on hb1 hHeld.2.2.2.2.2.2.2.2.2.1, cell_on hb1 hHeld.2.2.2.2.2.2.2.2.2.2⟩ (fun hHeld => ?_)
    clear hK K
    refine wpAnyH_ready (rs := [7]) (by kernel_rfl) (by simp) ?_
    refine AllReadyH.cons rfl (fun K hK => ?_) AllReadyH.nil
    go_simp
    refine (implTreeText_any (by exact TreeAt.below lV_5.out hk1.out)).mono ?_
    rintro e p2 ⟨rfl, hb1⟩
    have hk2 : Hid (Below (World.heap (w4.alloc (.cells #[.string (strT (resTd o)), .slice aV (kidsOf (resTd o)).length cV] 26))).size (w4.alloc (.cells #[.string (strT (resTd o)), .slice aV (kidsOf (resTd o)).length cV] 26)) p2) := hk1.out.trans (Below.mono hb1 (Below.size hk1.out))
    refine hK.out _ _ ⟨cell_on hb1 hHeld.1, cell_on hb1 hHeld.2.1, cell_on hb1 hHeld.2.2.1, cell_on hb1 hHeld.2.2.2.1, cell_on hb1 hHeld.2.2.2.2.1, cell_on hb1 hHeld.2.2.2.2.2.1, cell_on hb1 hHeld.2.2.2.2.2.2.1, cell_on hb1 hHeld.2.2.2.2.2.2.2.1, cell_on hb1 hHeld.2.2.2.2.2.2.2.2.1, cell_on hb1 hHeld.2.2.2.2.2.2.2.2.2.1, cell_on hb1 hHeld.2.2.2.2.2.2.2.2.2.2⟩ (fun hHeld => ?_)
    clear hK K
    refine take_lit (i := 8) (d := 41) (v := .bool false) rfl rfl (by kernel_rfl) (by kernel_rfl) (by kernel_rfl) (fun _ _ _ h => h) (Or.inl ⟨by rfl, ?_⟩) (by assumption) ?_
    · intro w9 _; go_simp
    simp only [sz, ss]
    refine tq (i := 9) (d := 42) ?_
    simp only [sz, ss]
    refine tq (i := 10) (d := 43) ?_
    simp only [sz, ss]
    refine tq (i := 11) (d := 44) ?_
    simp only [sz, ss]
    refine tq (i := 12) (d := 45) ?_
    simp only [sz, ss]
    refine tq (i := 14) (d := 47) ?_
    simp only [sz, ss]
    refine wpAnyH_ready (rs := [13]) (by kernel_rfl) (by simp) ?_
    refine AllReadyH.cons rfl (fun K hK => ?_) AllReadyH.nil
    go_simp
    refine (implEditOk_any (by exact TreeAt.below tD_5.out hk2.out) (by exact EditAt.stays _ _ _ _ _ _ (.of_below hk2.out) eY_5.out)).mono ?_
    rw [hoh.out, hsb]
    rintro e p3 ⟨rfl, hb1⟩
    have hk3 : Hid (Below (World.heap (w4.alloc (.cells #[.string (strT (resTd o)), .slice aV (kidsOf (resTd o)).length cV] 26))).size (w4.alloc (.cells #[.string (strT (resTd o)), .slice aV (kidsOf (resTd o)).length cV] 26)) p3) := hk2.out.trans (Below.mono hb1 (Below.size hk2.out))
    refine hK.out _ _ ⟨cell_on hb1 hHeld.1, cell_on hb1 hHeld.2.1, cell_on hb1 hHeld.2.2.1, cell_on hb1 hHeld.2.2.2.1, cell_on hb1 hHeld.2.2.2.2.1, cell_on hb1 hHeld.2.2.2.2.2.1, cell_on hb1 hHeld.2.2.2.2.2.2.1, cell_on hb1 hHeld.2.2.2.2.2.2.2.1, cell_on hb1 hHeld.2.2.2.2.2.2.2.2.1, cell_on hb1 hHeld.2.2.2.2.2.2.2.2.2.1, cell_on hb1 hHeld.2.2.2.2.2.2.2.2.2.2⟩ (fun hHeld => ?_)
    clear hK K
    refine tq (i := 15) (d := 48) ?_
    simp only [sz, ss]
    refine tq (i := 16) (d := 49) ?_
    simp only [sz, ss]
    refine tq (i := 17) (d := 50) ?_
    simp only [sz, ss]
    refine tq (i := 18) (d := 51) ?_
    simp only [sz, ss]
    refine tq (i := 19) (d := 52) ?_
    simp only [sz, ss]
    refine tq (i := 20) (d := 53) ?_
    simp only [sz, ss]
    refine wpAnyH_done (by kernel_rfl) ?_ _
    clear hHeld hb1
    have hbo := hk3.out
    clear hk0 hk1 hk2 hk3
    have tD_6 : Hid (TreeAt p3 0 4 (.string (strT d)) (.slice aT (kidsOf d).length cT) d) := TreeAt.below tD_5.out hbo
    have eY_6 : Hid (EditAt 4 p3 0 [.int .i64 y.vKind, .slice ap y.vPath.length cp, .string y.vTag, .string (strT y.vTree), .slice aE (kidsOf y.vTree).length cE] y) := EditAt.stays _ _ _ _ _ _ (.of_below hbo) eY_5.out
    have b3_6 : Hid (Box p3 w2.heap.size [.string (strT d), .slice aT (kidsOf d).length cT] 26) := Box.below b3_5.out hbo (Box.lt b3_5.out)
    have b4_6 : Hid (Box p3 (w2.heap.size + 1) [.int .i64 y.vKind, .slice ap y.vPath.length cp, .string y.vTag, .string (strT y.vTree), .slice aE (kidsOf y.vTree).length cE] 29) := Box.below b4_5.out hbo (Box.lt b4_5.out)
    have bU_6 : Hid (Box p3 w3.heap.size [.string (strT (resTd o)), .slice aU (kidsOf (resTd o)).length cU] 26) := Box.below bU_5.out hbo (Box.lt bU_5.out)
    have bV_6 : Hid (Box p3 w4.heap.size [.string (strT (resTd o)), .slice aV (kidsOf (resTd o)).length cV] 26) := Box.below bV_5.out hbo (Box.lt bV_5.out)
    have lU_6 : Hid (TreeAt p3 0 L (.string (strT (resTd o))) (.slice aU (kidsOf (resTd o)).length cU) (resTd o)) := TreeAt.below lU_5.out hbo
    have lV_6 : Hid (TreeAt p3 0 L (.string (strT (resTd o))) (.slice aV (kidsOf (resTd o)).length cV) (resTd o)) := TreeAt.below lV_5.out hbo
    clear tD_5 eY_5 b3_5 b4_5 bU_5 bV_5 lU_5 lV_5
    have hB6 : Hid (Below w.heap.size w p3) := hB5.out.trans (Below.mono hbo (Below.size hB5.out))
    clear hB5
    clear c5_b3_0 c5_b3_1 c5_b4_0 c5_b4_1 c5_b4_2 c5_b4_3 c5_b4_4 c5_bU_0 c5_bU_1 c5_bV_0 c5_bV_1
    have c6_b3_0 := b3_6.out.cell 0 rfl
    have c6_b3_1 := b3_6.out.cell 1 rfl
    have c6_b4_0 := b4_6.out.cell 0 rfl
    have c6_b4_1 := b4_6.out.cell 1 rfl
    have c6_b4_2 := b4_6.out.cell 2 rfl
    have c6_b4_3 := b4_6.out.cell 3 rfl
    have c6_b4_4 := b4_6.out.cell 4 rfl
    have c6_bU_0 := bU_6.out.cell 0 rfl
    have c6_bU_1 := bU_6.out.cell 1 rfl
    have c6_bV_0 := bV_6.out.cell 0 rfl
    have c6_bV_1 := bV_6.out.cell 1 rfl
    clear hbo
    go_wp2_with fail
    refine (implEditOk_any tD_6.out eY_6.out).mono ?_
    rw [hoh.out, hsb]
    rintro e p4 ⟨rfl, hbc⟩
    have tD_7 : Hid (TreeAt p4 0 4 (.string (strT d)) (.slice aT (kidsOf d).length cT) d) := TreeAt.below tD_6.out hbc
    have eY_7 : Hid (EditAt 4 p4 0 [.int .i64 y.vKind, .slice ap y.vPath.length cp, .string y.vTag, .string (strT y.vTree), .slice aE (kidsOf y.vTree).length cE] y) := EditAt.stays _ _ _ _ _ _ (.of_below hbc) eY_6.out
    have b3_7 : Hid (Box p4 w2.heap.size [.string (strT d), .slice aT (kidsOf d).length cT] 26) := Box.below b3_6.out hbc (Box.lt b3_6.out)
    have b4_7 : Hid (Box p4 (w2.heap.size + 1) [.int .i64 y.vKind, .slice ap y.vPath.length cp, .string y.vTag, .string (strT y.vTree), .slice aE (kidsOf y.vTree).length cE] 29) := Box.below b4_6.out hbc (Box.lt b4_6.out)
    have bU_7 : Hid (Box p4 w3.heap.size [.string (strT (resTd o)), .slice aU (kidsOf (resTd o)).length cU] 26) := Box.below bU_6.out hbc (Box.lt bU_6.out)
    have bV_7 : Hid (Box p4 w4.heap.size [.string (strT (resTd o)), .slice aV (kidsOf (resTd o)).length cV] 26) := Box.below bV_6.out hbc (Box.lt bV_6.out)
    have lU_7 : Hid (TreeAt p4 0 L (.string (strT (resTd o))) (.slice aU (kidsOf (resTd o)).length cU) (resTd o)) := TreeAt.below lU_6.out hbc
    have lV_7 : Hid (TreeAt p4 0 L (.string (strT (resTd o))) (.slice aV (kidsOf (resTd o)).length cV) (resTd o)) := TreeAt.below lV_6.out hbc
    clear tD_6 eY_6 b3_6 b4_6 bU_6 bV_6 lU_6 lV_6
    have hB7 : Hid (Below w.heap.size w p4) := hB6.out.trans (Below.mono hbc (Below.size hB6.out))
    clear hB6
    clear c6_b3_0 c6_b3_1 c6_b4_0 c6_b4_1 c6_b4_2 c6_b4_3 c6_b4_4 c6_bU_0 c6_bU_1 c6_bV_0 c6_bV_1
    have c7_b3_0 := b3_7.out.cell 0 rfl
    have c7_b3_1 := b3_7.out.cell 1 rfl
    have c7_b4_0 := b4_7.out.cell 0 rfl
    have c7_b4_1 := b4_7.out.cell 1 rfl
    have c7_b4_2 := b4_7.out.cell 2 rfl
    have c7_b4_3 := b4_7.out.cell 3 rfl
    have c7_b4_4 := b4_7.out.cell 4 rfl
    have c7_bU_0 := bU_7.out.cell 0 rfl
    have c7_bU_1 := bU_7.out.cell 1 rfl
    have c7_bV_0 := bV_7.out.cell 0 rfl
    have c7_bV_1 := bV_7.out.cell 1 rfl
    clear hbc
    go_wp2_with fail
    go_ret
    exact ⟨rfl, hB7.out⟩
  · rw [hsb]
    go_upto_region 6 with fail
    have hk0 : Hid (Below (World.heap (w4.alloc (.cells #[.string (strT (resTd o)), .slice aV (kidsOf (resTd o)).length cV] 26))).size (w4.alloc (.cells #[.string (strT (resTd o)), .slice aV (kidsOf (resTd o)).length cV] 26)) (World.drew (w4.alloc (.cells #[.string (strT (resTd o)), .slice aV (kidsOf (resTd o)).length cV] 26)))) := Below.drew (Below.refl _ _)
    refine wp_region_held_drew (S := fun w' => w'.cell? ⟨w2.heap.size, 0, none⟩ = some (.string (strT d)) ∧ w'.cell? ⟨w2.heap.size, 1, none⟩ = some (.slice aT (kidsOf d).length cT) ∧ w'.cell? ⟨w2.heap.size + 1, 0, none⟩ = some (.int .i64 y.vKind) ∧ w'.cell? ⟨w2.heap.size + 1, 1, none⟩ = some (.slice ap y.vPath.length cp) ∧ w'.cell? ⟨w2.heap.size + 1, 2, none⟩ = some (.string y.vTag) ∧ w'.cell? ⟨w2.heap.size + 1, 3, none⟩ = some (.string (strT y.vTree)) ∧ w'.cell? ⟨w2.heap.size + 1, 4, none⟩ = some (.slice aE (kidsOf y.vTree).length cE) ∧ w'.cell? ⟨w3.heap.size, 0, none⟩ = some (.string (strT (resTd o))) ∧ w'.cell? ⟨w3.heap.size, 1, none⟩ = some (.slice aU (kidsOf (resTd o)).length cU) ∧ w'.cell? ⟨w4.heap.size, 0, none⟩ = some (.string (strT (resTd o))) ∧ w'.cell? ⟨w4.heap.size, 1, none⟩ = some (.slice aV (kidsOf (resTd o)).length cV)) (by kernel_rfl) ⟨b3_5.out.cell 0 rfl, b3_5.out.cell 1 rfl, b4_5.out.cell 0 rfl, b4_5.out.cell 1 rfl, b4_5.out.cell 2 rfl, b4_5.out.cell 3 rfl, b4_5.out.cell 4 rfl, bU_5.out.cell 0 rfl, bU_5.out.cell 1 rfl, bV_5.out.cell 0 rfl, bV_5.out.cell 1 rfl⟩ (fun hHeld => ?_)
    refine tq (i := 0) (d := 33) ?_
    simp only [sz, ss]
    refine tq (i := 1) (d := 34) ?_
    simp only [sz, ss]
    refine take_lit (i := 2) (d := 35) (v := .bool false) rfl rfl (by kernel_rfl) (by kernel_rfl) (by kernel_rfl) (fun _ _ _ h => h) (Or.inl ⟨by rfl, ?_⟩) (by assumption) ?_
    · intro w9 _; go_simp
    simp only [sz, ss]
    refine tq (i := 3) (d := 36) ?_
    simp only [sz, ss]
    refine tq (i := 4) (d := 37) ?_
    simp only [sz, ss]
    refine tq (i := 6) (d := 39) ?_
    simp only [sz, ss]
    refine wpAnyH_ready (rs := [5]) (by kernel_rfl) (by simp) ?_
    refine AllReadyH.cons rfl (fun K hK => ?_) AllReadyH.nil
    go_simp
    refine (implTreeText_any (by exact TreeAt.below lU_5.out hk0.out)).mono ?_
    rintro e p1 ⟨rfl, hb1⟩
    have hk1 : Hid (Below (World.heap (w4.alloc (.cells #[.string (strT (resTd o)), .slice aV (kidsOf (resTd o)).length cV] 26))).size (w4.alloc (.cells #[.string (strT (resTd o)), .slice aV (kidsOf (resTd o)).length cV] 26)) p1) := hk0.out.trans (Below.mono hb1 (Below.size hk0.out))
    refine hK.out _ _ ⟨cell_on hb1 hHeld.1, cell_on hb1 hHeld.2.1, cell_on hb1 hHeld.2.2.1, cell_on hb1 hHeld.2.2.2.1, cell_on hb1 hHeld.2.2.2.2.1, cell_on hb1 hHeld.2.2.2.2.2.1, cell_on hb1 hHeld.2.2.2.2.2.2.1, cell_on hb1 hHeld.2.2.2.2.2.2.2.1, cell_on hb1 hHeld.2.2.2.2.2.2.2.2.1, cell_on hb1 hHeld.2.2.2.2.2.2.2.2.2.1, cell_on hb1 hHeld.2.2.2.2.2.2.2.2.2.2⟩ (fun hHeld => ?_)
    clear hK K
    refine wpAnyH_ready (rs := [7]) (by kernel_rfl) (by simp) ?_
    refine AllReadyH.cons rfl (fun K hK => ?_) AllReadyH.nil
    go_simp
    refine (implTreeText_any (by exact TreeAt.below lV_5.out hk1.out)).mono ?_
    rintro e p2 ⟨rfl, hb1⟩
    have hk2 : Hid (Below (World.heap (w4.alloc (.cells #[.string (strT (resTd o)), .slice aV (kidsOf (resTd o)).length cV] 26))).size (w4.alloc (.cells #[.string (strT (resTd o)), .slice aV (kidsOf (resTd o)).length cV] 26)) p2) := hk1.out.trans (Below.mono hb1 (Below.size hk1.out))
    refine hK.out _ _ ⟨cell_on hb1 hHeld.1, cell_on hb1 hHeld.2.1, cell_on hb1 hHeld.2.2.1, cell_on hb1 hHeld.2.2.2.1, cell_on hb1 hHeld.2.2.2.2.1, cell_on hb1 hHeld.2.2.2.2.2.1, cell_on hb1 hHeld.2.2.2.2.2.2.1, cell_on hb1 hHeld.2.2.2.2.2.2.2.1, cell_on hb1 hHeld.2.2.2.2.2.2.2.2.1, cell_on hb1 hHeld.2.2.2.2.2.2.2.2.2.1, cell_on hb1 hHeld.2.2.2.2.2.2.2.2.2.2⟩ (fun hHeld => ?_)
    clear hK K
    refine take_lit (i := 8) (d := 41) (v := .bool false) rfl rfl (by kernel_rfl) (by kernel_rfl) (by kernel_rfl) (fun _ _ _ h => h) (Or.inl ⟨by rfl, ?_⟩) (by assumption) ?_
    · intro w9 _; go_simp
    simp only [sz, ss]
    refine tq (i := 9) (d := 42) ?_
    simp only [sz, ss]
    refine tq (i := 10) (d := 43) ?_
    simp only [sz, ss]
    refine tq (i := 11) (d := 44) ?_
    simp only [sz, ss]
    refine tq (i := 12) (d := 45) ?_
    simp only [sz, ss]
    refine tq (i := 14) (d := 47) ?_
    simp only [sz, ss]
    refine wpAnyH_ready (rs := [13]) (by kernel_rfl) (by simp) ?_
    refine AllReadyH.cons rfl (fun K hK => ?_) AllReadyH.nil
    go_simp
    refine (implEditOk_any (by exact TreeAt.below tD_5.out hk2.out) (by exact EditAt.stays _ _ _ _ _ _ (.of_below hk2.out) eY_5.out)).mono ?_
    rw [hoh.out, hsb]
    rintro e p3 ⟨rfl, hb1⟩
    have hk3 : Hid (Below (World.heap (w4.alloc (.cells #[.string (strT (resTd o)), .slice aV (kidsOf (resTd o)).length cV] 26))).size (w4.alloc (.cells #[.string (strT (resTd o)), .slice aV (kidsOf (resTd o)).length cV] 26)) p3) := hk2.out.trans (Below.mono hb1 (Below.size hk2.out))
    refine hK.out _ _ ⟨cell_on hb1 hHeld.1, cell_on hb1 hHeld.2.1, cell_on hb1 hHeld.2.2.1, cell_on hb1 hHeld.2.2.2.1, cell_on hb1 hHeld.2.2.2.2.1, cell_on hb1 hHeld.2.2.2.2.2.1, cell_on hb1 hHeld.2.2.2.2.2.2.1, cell_on hb1 hHeld.2.2.2.2.2.2.2.1, cell_on hb1 hHeld.2.2.2.2.2.2.2.2.1, cell_on hb1 hHeld.2.2.2.2.2.2.2.2.2.1, cell_on hb1 hHeld.2.2.2.2.2.2.2.2.2.2⟩ (fun hHeld => ?_)
    clear hK K
    refine tq (i := 15) (d := 48) ?_
    simp only [sz, ss]
    refine tq (i := 16) (d := 49) ?_
    simp only [sz, ss]
    refine tq (i := 17) (d := 50) ?_
    simp only [sz, ss]
    refine tq (i := 18) (d := 51) ?_
    simp only [sz, ss]
    refine tq (i := 19) (d := 52) ?_
    simp only [sz, ss]
    refine tq (i := 20) (d := 53) ?_
    simp only [sz, ss]
    refine wpAnyH_done (by kernel_rfl) ?_ _
    clear hHeld hb1
    have hbo := hk3.out
    clear hk0 hk1 hk2 hk3
    have tD_6 : Hid (TreeAt p3 0 4 (.string (strT d)) (.slice aT (kidsOf d).length cT) d) := TreeAt.below tD_5.out hbo
    have eY_6 : Hid (EditAt 4 p3 0 [.int .i64 y.vKind, .slice ap y.vPath.length cp, .string y.vTag, .string (strT y.vTree), .slice aE (kidsOf y.vTree).length cE] y) := EditAt.stays _ _ _ _ _ _ (.of_below hbo) eY_5.out
    have b3_6 : Hid (Box p3 w2.heap.size [.string (strT d), .slice aT (kidsOf d).length cT] 26) := Box.below b3_5.out hbo (Box.lt b3_5.out)
    have b4_6 : Hid (Box p3 (w2.heap.size + 1) [.int .i64 y.vKind, .slice ap y.vPath.length cp, .string y.vTag, .string (strT y.vTree), .slice aE (kidsOf y.vTree).length cE] 29) := Box.below b4_5.out hbo (Box.lt b4_5.out)
    have bU_6 : Hid (Box p3 w3.heap.size [.string (strT (resTd o)), .slice aU (kidsOf (resTd o)).length cU] 26) := Box.below bU_5.out hbo (Box.lt bU_5.out)
    have bV_6 : Hid (Box p3 w4.heap.size [.string (strT (resTd o)), .slice aV (kidsOf (resTd o)).length cV] 26) := Box.below bV_5.out hbo (Box.lt bV_5.out)
    have lU_6 : Hid (TreeAt p3 0 L (.string (strT (resTd o))) (.slice aU (kidsOf (resTd o)).length cU) (resTd o)) := TreeAt.below lU_5.out hbo
    have lV_6 : Hid (TreeAt p3 0 L (.string (strT (resTd o))) (.slice aV (kidsOf (resTd o)).length cV) (resTd o)) := TreeAt.below lV_5.out hbo
    clear tD_5 eY_5 b3_5 b4_5 bU_5 bV_5 lU_5 lV_5
    have hB6 : Hid (Below w.heap.size w p3) := hB5.out.trans (Below.mono hbo (Below.size hB5.out))
    clear hB5
    clear c5_b3_0 c5_b3_1 c5_b4_0 c5_b4_1 c5_b4_2 c5_b4_3 c5_b4_4 c5_bU_0 c5_bU_1 c5_bV_0 c5_bV_1
    have c6_b3_0 := b3_6.out.cell 0 rfl
    have c6_b3_1 := b3_6.out.cell 1 rfl
    have c6_b4_0 := b4_6.out.cell 0 rfl
    have c6_b4_1 := b4_6.out.cell 1 rfl
    have c6_b4_2 := b4_6.out.cell 2 rfl
    have c6_b4_3 := b4_6.out.cell 3 rfl
    have c6_b4_4 := b4_6.out.cell 4 rfl
    have c6_bU_0 := bU_6.out.cell 0 rfl
    have c6_bU_1 := bU_6.out.cell 1 rfl
    have c6_bV_0 := bV_6.out.cell 0 rfl
    have c6_bV_1 := bV_6.out.cell 1 rfl
    clear hbo
    obtain ⟨u, hu⟩ := Option.isSome_iff_exists.1 hsb
    have hru : resTd o = u := by rw [hu]; rfl
    have hfu := edited_facts (hoh.out.trans hu)
    rw [← hru] at hfu
    obtain ⟨htd, htu, hcase⟩ := hfu
    have hcs : Hid _ := hcase
    clear hcase hru hu hsb
    have r1 := sizeB_range htu
    have r2 := sizeB_range htd
    have okU : okB (szD L (resTd o) 30) = true := okB_of lU_6.out htu
    have okD : okB (szD 4 d 30) = true := okB_of tD_6.out htd
    have htuh : Hid (treeB (resTd o) = true) := htu
    have hwz : IntKind.i64.wrap (sizeB (resTd o) - sizeB d) = sizeB (resTd o) - sizeB d := by rw [IntKind.wrap_i64]; omega
    clear htd htu
    go_upto_region 8 with fail
    have hk0 : Hid (Below (World.heap p3).size p3 (World.drew p3)) := Below.drew (Below.refl _ _)
    refine wp_region_held_drew (S := fun w' => w'.cell? ⟨w2.heap.size, 0, none⟩ = some (.string (strT d)) ∧ w'.cell? ⟨w2.heap.size, 1, none⟩ = some (.slice aT (kidsOf d).length cT) ∧ w'.cell? ⟨w3.heap.size, 0, none⟩ = some (.string (strT (resTd o))) ∧ w'.cell? ⟨w3.heap.size, 1, none⟩ = some (.slice aU (kidsOf (resTd o)).length cU)) (by kernel_rfl) ⟨b3_6.out.cell 0 rfl, b3_6.out.cell 1 rfl, bU_6.out.cell 0 rfl, bU_6.out.cell 1 rfl⟩ (fun hHeld => ?_)
    refine tq (i := 0) (d := 64) ?_
    simp only [sz, ss]
    refine tq (i := 2) (d := 66) ?_
    simp only [sz, ss]
    refine wpAnyH_ready (rs := [1]) (by kernel_rfl) (by simp) ?_
    refine AllReadyH.cons rfl (fun K hK => ?_) AllReadyH.nil
    go_simp
    refine (size_any (by exact TreeAt.below lU_6.out hk0.out)).mono ?_
    rintro e q1 ⟨rfl, hb1⟩
    have hk1 : Hid (Below (World.heap p3).size p3 q1) := hk0.out.trans (Below.mono hb1 (Below.size hk0.out))
    refine hK.out _ _ ⟨cell_on hb1 hHeld.1, cell_on hb1 hHeld.2.1, cell_on hb1 hHeld.2.2.1, cell_on hb1 hHeld.2.2.2⟩ (fun hHeld => ?_)
    clear hK K
    refine wpAnyH_ready (rs := [3]) (by kernel_rfl) (by simp) ?_
    refine AllReadyH.cons rfl (fun K hK => ?_) AllReadyH.nil
    go_simp
    refine (size_any (by exact TreeAt.below tD_6.out hk1.out)).mono ?_
    rintro e q2 ⟨rfl, hb1⟩
    have hk2 : Hid (Below (World.heap p3).size p3 q2) := hk1.out.trans (Below.mono hb1 (Below.size hk1.out))
    refine hK.out _ _ ⟨cell_on hb1 hHeld.1, cell_on hb1 hHeld.2.1, cell_on hb1 hHeld.2.2.1, cell_on hb1 hHeld.2.2.2⟩ (fun hHeld => ?_)
    clear hK K
    refine take_lit (i := 4) (d := 68) (v := .int .i64 (sizeB (resTd o) - sizeB d)) rfl rfl (by kernel_rfl) (by kernel_rfl) (by kernel_rfl) (fun _ _ _ h => h) (Or.inl ⟨by rfl, ?_⟩) (by assumption) ?_
    · intro w9 _; go_simp
    simp only [sz, ss]
    refine tq (i := 5) (d := 9) ?_
    simp only [sz, ss]
    refine wpAnyH_done (by kernel_rfl) ?_ _
    clear hHeld hb1
    have hbo := hk2.out
    clear hk0 hk1 hk2
    have tD_7 : Hid (TreeAt q2 0 4 (.string (strT d)) (.slice aT (kidsOf d).length cT) d) := TreeAt.below tD_6.out hbo
    have eY_7 : Hid (EditAt 4 q2 0 [.int .i64 y.vKind, .slice ap y.vPath.length cp, .string y.vTag, .string (strT y.vTree), .slice aE (kidsOf y.vTree).length cE] y) := EditAt.stays _ _ _ _ _ _ (.of_below hbo) eY_6.out
    have b3_7 : Hid (Box q2 w2.heap.size [.string (strT d), .slice aT (kidsOf d).length cT] 26) := Box.below b3_6.out hbo (Box.lt b3_6.out)
    have b4_7 : Hid (Box q2 (w2.heap.size + 1) [.int .i64 y.vKind, .slice ap y.vPath.length cp, .string y.vTag, .string (strT y.vTree), .slice aE (kidsOf y.vTree).length cE] 29) := Box.below b4_6.out hbo (Box.lt b4_6.out)
    have bU_7 : Hid (Box q2 w3.heap.size [.string (strT (resTd o)), .slice aU (kidsOf (resTd o)).length cU] 26) := Box.below bU_6.out hbo (Box.lt bU_6.out)
    have bV_7 : Hid (Box q2 w4.heap.size [.string (strT (resTd o)), .slice aV (kidsOf (resTd o)).length cV] 26) := Box.below bV_6.out hbo (Box.lt bV_6.out)
    have lU_7 : Hid (TreeAt q2 0 L (.string (strT (resTd o))) (.slice aU (kidsOf (resTd o)).length cU) (resTd o)) := TreeAt.below lU_6.out hbo
    have lV_7 : Hid (TreeAt q2 0 L (.string (strT (resTd o))) (.slice aV (kidsOf (resTd o)).length cV) (resTd o)) := TreeAt.below lV_6.out hbo
    clear tD_6 eY_6 b3_6 b4_6 bU_6 bV_6 lU_6 lV_6
    have hB7 : Hid (Below w.heap.size w q2) := hB6.out.trans (Below.mono hbo (Below.size hB6.out))
    clear hB6
    clear c6_b3_0 c6_b3_1 c6_b4_0 c6_b4_1 c6_b4_2 c6_b4_3 c6_b4_4 c6_bU_0 c6_bU_1 c6_bV_0 c6_bV_1
    have c7_b3_0 := b3_7.out.cell 0 rfl
    have c7_b3_1 := b3_7.out.cell 1 rfl
    have c7_b4_0 := b4_7.out.cell 0 rfl
    have c7_b4_1 := b4_7.out.cell 1 rfl
    have c7_b4_2 := b4_7.out.cell 2 rfl
    have c7_b4_3 := b4_7.out.cell 3 rfl
    have c7_b4_4 := b4_7.out.cell 4 rfl
    have c7_bU_0 := bU_7.out.cell 0 rfl
    have c7_bU_1 := bU_7.out.cell 1 rfl
    have c7_bV_0 := bV_7.out.cell 0 rfl
    have c7_bV_1 := bV_7.out.cell 1 rfl
    clear hbo
    clear hwz
    go_wp2_with fail
    refine (implAt_any tD_7.out (EditAt.seq eY_7.out) hl'.out).mono ?_
    rintro e q3 ⟨hA, hbX⟩
    obtain ⟨aX, cX, rfl, hTX⟩ := AtAns.all hA
    clear hA
    obtain ⟨rX, hrX⟩ : ∃ r, atD (okB (szD 4 d 30)) d y.vPath = r := ⟨_, rfl⟩
    have hrXh : Hid (atD (okB (szD 4 d 30)) d y.vPath = rX) := hrX
    rw [hrX] at hTX ⊢
    have hTXh : Hid (TreeAt q3 0 4 (.string (strT rX.1)) (.slice aX (kidsOf rX.1).length cX) rX.1) := hTX
    clear hTX hrX
    have tD_8 : Hid (TreeAt q3 0 4 (.string (strT d)) (.slice aT (kidsOf d).length cT) d) := TreeAt.below tD_7.out hbX
    have eY_8 : Hid (EditAt 4 q3 0 [.int .i64 y.vKind, .slice ap y.vPath.length cp, .string y.vTag, .string (strT y.vTree), .slice aE (kidsOf y.vTree).length cE] y) := EditAt.stays _ _ _ _ _ _ (.of_below hbX) eY_7.out
    have b3_8 : Hid (Box q3 w2.heap.size [.string (strT d), .slice aT (kidsOf d).length cT] 26) := Box.below b3_7.out hbX (Box.lt b3_7.out)
    have b4_8 : Hid (Box q3 (w2.heap.size + 1) [.int .i64 y.vKind, .slice ap y.vPath.length cp, .string y.vTag, .string (strT y.vTree), .slice aE (kidsOf y.vTree).length cE] 29) := Box.below b4_7.out hbX (Box.lt b4_7.out)
    have bU_8 : Hid (Box q3 w3.heap.size [.string (strT (resTd o)), .slice aU (kidsOf (resTd o)).length cU] 26) := Box.below bU_7.out hbX (Box.lt bU_7.out)
    have bV_8 : Hid (Box q3 w4.heap.size [.string (strT (resTd o)), .slice aV (kidsOf (resTd o)).length cV] 26) := Box.below bV_7.out hbX (Box.lt bV_7.out)
    have lU_8 : Hid (TreeAt q3 0 L (.string (strT (resTd o))) (.slice aU (kidsOf (resTd o)).length cU) (resTd o)) := TreeAt.below lU_7.out hbX
    have lV_8 : Hid (TreeAt q3 0 L (.string (strT (resTd o))) (.slice aV (kidsOf (resTd o)).length cV) (resTd o)) := TreeAt.below lV_7.out hbX
    clear tD_7 eY_7 b3_7 b4_7 bU_7 bV_7 lU_7 lV_7
    have hB8 : Hid (Below w.heap.size w q3) := hB7.out.trans (Below.mono hbX (Below.size hB7.out))
    clear hB7
    clear c7_b3_0 c7_b3_1 c7_b4_0 c7_b4_1 c7_b4_2 c7_b4_3 c7_b4_4 c7_bU_0 c7_bU_1 c7_bV_0 c7_bV_1
    have c8_b3_0 := b3_8.out.cell 0 rfl
    have c8_b3_1 := b3_8.out.cell 1 rfl
    have c8_b4_0 := b4_8.out.cell 0 rfl
    have c8_b4_1 := b4_8.out.cell 1 rfl
    have c8_b4_2 := b4_8.out.cell 2 rfl
    have c8_b4_3 := b4_8.out.cell 3 rfl
    have c8_b4_4 := b4_8.out.cell 4 rfl
    have c8_bU_0 := bU_8.out.cell 0 rfl
    have c8_bU_1 := bU_8.out.cell 1 rfl
    have c8_bV_0 := bV_8.out.cell 0 rfl
    have c8_bV_1 := bV_8.out.cell 1 rfl
    have tX_8 : Hid (TreeAt q3 0 4 (.string (strT rX.1)) (.slice aX (kidsOf rX.1).length cX) rX.1) := hTXh
    clear hTXh hbX
    have halX : Below q3.heap.size q3 (q3.alloc (.cells #[.string (strT rX.1), .slice aX (kidsOf rX.1).length cX] 26)) := (Below.refl _ _).alloc (Nat.le_refl _) _
    have tD_9 : Hid (TreeAt (q3.alloc (.cells #[.string (strT rX.1), .slice aX (kidsOf rX.1).length cX] 26)) 0 4 (.string (strT d)) (.slice aT (kidsOf d).length cT) d) := TreeAt.below tD_8.out halX
    have eY_9 : Hid (EditAt 4 (q3.alloc (.cells #[.string (strT rX.1), .slice aX (kidsOf rX.1).length cX] 26)) 0 [.int .i64 y.vKind, .slice ap y.vPath.length cp, .string y.vTag, .string (strT y.vTree), .slice aE (kidsOf y.vTree).length cE] y) := EditAt.stays _ _ _ _ _ _ (.of_below halX) eY_8.out
    have b3_9 : Hid (Box (q3.alloc (.cells #[.string (strT rX.1), .slice aX (kidsOf rX.1).length cX] 26)) w2.heap.size [.string (strT d), .slice aT (kidsOf d).length cT] 26) := Box.below b3_8.out halX (Box.lt b3_8.out)
    have b4_9 : Hid (Box (q3.alloc (.cells #[.string (strT rX.1), .slice aX (kidsOf rX.1).length cX] 26)) (w2.heap.size + 1) [.int .i64 y.vKind, .slice ap y.vPath.length cp, .string y.vTag, .string (strT y.vTree), .slice aE (kidsOf y.vTree).length cE] 29) := Box.below b4_8.out halX (Box.lt b4_8.out)
    have bU_9 : Hid (Box (q3.alloc (.cells #[.string (strT rX.1), .slice aX (kidsOf rX.1).length cX] 26)) w3.heap.size [.string (strT (resTd o)), .slice aU (kidsOf (resTd o)).length cU] 26) := Box.below bU_8.out halX (Box.lt bU_8.out)
    have bV_9 : Hid (Box (q3.alloc (.cells #[.string (strT rX.1), .slice aX (kidsOf rX.1).length cX] 26)) w4.heap.size [.string (strT (resTd o)), .slice aV (kidsOf (resTd o)).length cV] 26) := Box.below bV_8.out halX (Box.lt bV_8.out)
    have lU_9 : Hid (TreeAt (q3.alloc (.cells #[.string (strT rX.1), .slice aX (kidsOf rX.1).length cX] 26)) 0 L (.string (strT (resTd o))) (.slice aU (kidsOf (resTd o)).length cU) (resTd o)) := TreeAt.below lU_8.out halX
    have lV_9 : Hid (TreeAt (q3.alloc (.cells #[.string (strT rX.1), .slice aX (kidsOf rX.1).length cX] 26)) 0 L (.string (strT (resTd o))) (.slice aV (kidsOf (resTd o)).length cV) (resTd o)) := TreeAt.below lV_8.out halX
    have tX_9 : Hid (TreeAt (q3.alloc (.cells #[.string (strT rX.1), .slice aX (kidsOf rX.1).length cX] 26)) 0 4 (.string (strT rX.1)) (.slice aX (kidsOf rX.1).length cX) rX.1) := TreeAt.below tX_8.out halX
    clear tD_8 eY_8 b3_8 b4_8 bU_8 bV_8 lU_8 lV_8 tX_8
    have hB9 : Hid (Below w.heap.size w (q3.alloc (.cells #[.string (strT rX.1), .slice aX (kidsOf rX.1).length cX] 26))) := hB8.out.trans (Below.mono halX (Below.size hB8.out))
    clear hB8
    clear c8_b3_0 c8_b3_1 c8_b4_0 c8_b4_1 c8_b4_2 c8_b4_3 c8_b4_4 c8_bU_0 c8_bU_1 c8_bV_0 c8_bV_1
    have c9_b3_0 := b3_9.out.cell 0 rfl
    have c9_b3_1 := b3_9.out.cell 1 rfl
    have c9_b4_0 := b4_9.out.cell 0 rfl
    have c9_b4_1 := b4_9.out.cell 1 rfl
    have c9_b4_2 := b4_9.out.cell 2 rfl
    have c9_b4_3 := b4_9.out.cell 3 rfl
    have c9_b4_4 := b4_9.out.cell 4 rfl
    have c9_bU_0 := bU_9.out.cell 0 rfl
    have c9_bU_1 := bU_9.out.cell 1 rfl
    have c9_bV_0 := bV_9.out.cell 0 rfl
    have c9_bV_1 := bV_9.out.cell 1 rfl
    have bX_9 : Hid (Box (q3.alloc (.cells #[.string (strT rX.1), .slice aX (kidsOf rX.1).length cX] 26)) q3.heap.size [.string (strT rX.1), .slice aX (kidsOf rX.1).length cX] 26) := Box.new q3 _ _
    clear halX
    clear c9_b3_0 c9_b3_1 c9_b4_0 c9_b4_1 c9_b4_2 c9_b4_3 c9_b4_4 c9_bU_0 c9_bU_1 c9_bV_0 c9_bV_1
    have c9_b3_0 := b3_9.out.cell 0 rfl
    have c9_b3_1 := b3_9.out.cell 1 rfl
    have c9_b4_0 := b4_9.out.cell 0 rfl
    have c9_b4_1 := b4_9.out.cell 1 rfl
    have c9_b4_2 := b4_9.out.cell 2 rfl
    have c9_b4_3 := b4_9.out.cell 3 rfl
    have c9_b4_4 := b4_9.out.cell 4 rfl
    have c9_bU_0 := bU_9.out.cell 0 rfl
    have c9_bU_1 := bU_9.out.cell 1 rfl
    have c9_bV_0 := bV_9.out.cell 0 rfl
    have c9_bV_1 := bV_9.out.cell 1 rfl
    have c9_bX_0 := bX_9.out.cell 0 rfl
    have c9_bX_1 := bX_9.out.cell 1 rfl
    go_wp2_with fail
    refine (implAt_any lU_9.out (EditAt.seq eY_9.out) hl'.out).mono ?_
    rintro e q4 ⟨hA, hbY⟩
    obtain ⟨aY, cY, rfl, hTY⟩ := AtAns.all hA
    clear hA
    obtain ⟨rY, hrY⟩ : ∃ r, atD (okB (szD L (resTd o) 30)) (resTd o) y.vPath = r := ⟨_, rfl⟩
    have hrYh : Hid (atD (okB (szD L (resTd o) 30)) (resTd o) y.vPath = rY) := hrY
    rw [hrY] at hTY ⊢
    have hTYh : Hid (TreeAt q4 0 L (.string (strT rY.1)) (.slice aY (kidsOf rY.1).length cY) rY.1) := hTY
    clear hTY hrY
    have tD_10 : Hid (TreeAt q4 0 4 (.string (strT d)) (.slice aT (kidsOf d).length cT) d) := TreeAt.below tD_9.out hbY
    have eY_10 : Hid (EditAt 4 q4 0 [.int .i64 y.vKind, .slice ap y.vPath.length cp, .string y.vTag, .string (strT y.vTree), .slice aE (kidsOf y.vTree).length cE] y) := EditAt.stays _ _ _ _ _ _ (.of_below hbY) eY_9.out
    have b3_10 : Hid (Box q4 w2.heap.size [.string (strT d), .slice aT (kidsOf d).length cT] 26) := Box.below b3_9.out hbY (Box.lt b3_9.out)
    have b4_10 : Hid (Box q4 (w2.heap.size + 1) [.int .i64 y.vKind, .slice ap y.vPath.length cp, .string y.vTag, .string (strT y.vTree), .slice aE (kidsOf y.vTree).length cE] 29) := Box.below b4_9.out hbY (Box.lt b4_9.out)
    have bU_10 : Hid (Box q4 w3.heap.size [.string (strT (resTd o)), .slice aU (kidsOf (resTd o)).length cU] 26) := Box.below bU_9.out hbY (Box.lt bU_9.out)
    have bV_10 : Hid (Box q4 w4.heap.size [.string (strT (resTd o)), .slice aV (kidsOf (resTd o)).length cV] 26) := Box.below bV_9.out hbY (Box.lt bV_9.out)
    have lU_10 : Hid (TreeAt q4 0 L (.string (strT (resTd o))) (.slice aU (kidsOf (resTd o)).length cU) (resTd o)) := TreeAt.below lU_9.out hbY
    have lV_10 : Hid (TreeAt q4 0 L (.string (strT (resTd o))) (.slice aV (kidsOf (resTd o)).length cV) (resTd o)) := TreeAt.below lV_9.out hbY
    have tX_10 : Hid (TreeAt q4 0 4 (.string (strT rX.1)) (.slice aX (kidsOf rX.1).length cX) rX.1) := TreeAt.below tX_9.out hbY
    have bX_10 : Hid (Box q4 q3.heap.size [.string (strT rX.1), .slice aX (kidsOf rX.1).length cX] 26) := Box.below bX_9.out hbY (Box.lt bX_9.out)
    clear tD_9 eY_9 b3_9 b4_9 bU_9 bV_9 lU_9 lV_9 tX_9 bX_9
    have hB10 : Hid (Below w.heap.size w q4) := hB9.out.trans (Below.mono hbY (Below.size hB9.out))
    clear hB9
    clear c9_b3_0 c9_b3_1 c9_b4_0 c9_b4_1 c9_b4_2 c9_b4_3 c9_b4_4 c9_bU_0 c9_bU_1 c9_bV_0 c9_bV_1 c9_bX_0 c9_bX_1
    have c10_b3_0 := b3_10.out.cell 0 rfl
    have c10_b3_1 := b3_10.out.cell 1 rfl
    have c10_b4_0 := b4_10.out.cell 0 rfl
    have c10_b4_1 := b4_10.out.cell 1 rfl
    have c10_b4_2 := b4_10.out.cell 2 rfl
    have c10_b4_3 := b4_10.out.cell 3 rfl
    have c10_b4_4 := b4_10.out.cell 4 rfl
    have c10_bU_0 := bU_10.out.cell 0 rfl
    have c10_bU_1 := bU_10.out.cell 1 rfl
    have c10_bV_0 := bV_10.out.cell 0 rfl
    have c10_bV_1 := bV_10.out.cell 1 rfl
    have c10_bX_0 := bX_10.out.cell 0 rfl
    have c10_bX_1 := bX_10.out.cell 1 rfl
    have tY_10 : Hid (TreeAt q4 0 L (.string (strT rY.1)) (.slice aY (kidsOf rY.1).length cY) rY.1) := hTYh
    clear hTYh hbY
    have halY : Below q4.heap.size q4 (q4.alloc (.cells #[.string (strT rY.1), .slice aY (kidsOf rY.1).length cY] 26)) := (Below.refl _ _).alloc (Nat.le_refl _) _
    have tD_11 : Hid (TreeAt (q4.alloc (.cells #[.string (strT rY.1), .slice aY (kidsOf rY.1).length cY] 26)) 0 4 (.string (strT d)) (.slice aT (kidsOf d).length cT) d) := TreeAt.below tD_10.out halY
    have eY_11 : Hid (EditAt 4 (q4.alloc (.cells #[.string (strT rY.1), .slice aY (kidsOf rY.1).length cY] 26)) 0 [.int .i64 y.vKind, .slice ap y.vPath.length cp, .string y.vTag, .string (strT y.vTree), .slice aE (kidsOf y.vTree).length cE] y) := EditAt.stays _ _ _ _ _ _ (.of_below halY) eY_10.out
    have b3_11 : Hid (Box (q4.alloc (.cells #[.string (strT rY.1), .slice aY (kidsOf rY.1).length cY] 26)) w2.heap.size [.string (strT d), .slice aT (kidsOf d).length cT] 26) := Box.below b3_10.out halY (Box.lt b3_10.out)
    have b4_11 : Hid (Box (q4.alloc (.cells #[.string (strT rY.1), .slice aY (kidsOf rY.1).length cY] 26)) (w2.heap.size + 1) [.int .i64 y.vKind, .slice ap y.vPath.length cp, .string y.vTag, .string (strT y.vTree), .slice aE (kidsOf y.vTree).length cE] 29) := Box.below b4_10.out halY (Box.lt b4_10.out)
    have bU_11 : Hid (Box (q4.alloc (.cells #[.string (strT rY.1), .slice aY (kidsOf rY.1).length cY] 26)) w3.heap.size [.string (strT (resTd o)), .slice aU (kidsOf (resTd o)).length cU] 26) := Box.below bU_10.out halY (Box.lt bU_10.out)
    have bV_11 : Hid (Box (q4.alloc (.cells #[.string (strT rY.1), .slice aY (kidsOf rY.1).length cY] 26)) w4.heap.size [.string (strT (resTd o)), .slice aV (kidsOf (resTd o)).length cV] 26) := Box.below bV_10.out halY (Box.lt bV_10.out)
    have lU_11 : Hid (TreeAt (q4.alloc (.cells #[.string (strT rY.1), .slice aY (kidsOf rY.1).length cY] 26)) 0 L (.string (strT (resTd o))) (.slice aU (kidsOf (resTd o)).length cU) (resTd o)) := TreeAt.below lU_10.out halY
    have lV_11 : Hid (TreeAt (q4.alloc (.cells #[.string (strT rY.1), .slice aY (kidsOf rY.1).length cY] 26)) 0 L (.string (strT (resTd o))) (.slice aV (kidsOf (resTd o)).length cV) (resTd o)) := TreeAt.below lV_10.out halY
    have tX_11 : Hid (TreeAt (q4.alloc (.cells #[.string (strT rY.1), .slice aY (kidsOf rY.1).length cY] 26)) 0 4 (.string (strT rX.1)) (.slice aX (kidsOf rX.1).length cX) rX.1) := TreeAt.below tX_10.out halY
    have bX_11 : Hid (Box (q4.alloc (.cells #[.string (strT rY.1), .slice aY (kidsOf rY.1).length cY] 26)) q3.heap.size [.string (strT rX.1), .slice aX (kidsOf rX.1).length cX] 26) := Box.below bX_10.out halY (Box.lt bX_10.out)
    have tY_11 : Hid (TreeAt (q4.alloc (.cells #[.string (strT rY.1), .slice aY (kidsOf rY.1).length cY] 26)) 0 L (.string (strT rY.1)) (.slice aY (kidsOf rY.1).length cY) rY.1) := TreeAt.below tY_10.out halY
    clear tD_10 eY_10 b3_10 b4_10 bU_10 bV_10 lU_10 lV_10 tX_10 bX_10 tY_10
    have hB11 : Hid (Below w.heap.size w (q4.alloc (.cells #[.string (strT rY.1), .slice aY (kidsOf rY.1).length cY] 26))) := hB10.out.trans (Below.mono halY (Below.size hB10.out))
    clear hB10
    clear c10_b3_0 c10_b3_1 c10_b4_0 c10_b4_1 c10_b4_2 c10_b4_3 c10_b4_4 c10_bU_0 c10_bU_1 c10_bV_0 c10_bV_1 c10_bX_0 c10_bX_1
    have c11_b3_0 := b3_11.out.cell 0 rfl
    have c11_b3_1 := b3_11.out.cell 1 rfl
    have c11_b4_0 := b4_11.out.cell 0 rfl
    have c11_b4_1 := b4_11.out.cell 1 rfl
    have c11_b4_2 := b4_11.out.cell 2 rfl
    have c11_b4_3 := b4_11.out.cell 3 rfl
    have c11_b4_4 := b4_11.out.cell 4 rfl
    have c11_bU_0 := bU_11.out.cell 0 rfl
    have c11_bU_1 := bU_11.out.cell 1 rfl
    have c11_bV_0 := bV_11.out.cell 0 rfl
    have c11_bV_1 := bV_11.out.cell 1 rfl
    have c11_bX_0 := bX_11.out.cell 0 rfl
    have c11_bX_1 := bX_11.out.cell 1 rfl
    have bY_11 : Hid (Box (q4.alloc (.cells #[.string (strT rY.1), .slice aY (kidsOf rY.1).length cY] 26)) q4.heap.size [.string (strT rY.1), .slice aY (kidsOf rY.1).length cY] 26) := Box.new q4 _ _
    clear halY
    clear c11_b3_0 c11_b3_1 c11_b4_0 c11_b4_1 c11_b4_2 c11_b4_3 c11_b4_4 c11_bU_0 c11_bU_1 c11_bV_0 c11_bV_1 c11_bX_0 c11_bX_1
    have c11_b3_0 := b3_11.out.cell 0 rfl
    have c11_b3_1 := b3_11.out.cell 1 rfl
    have c11_b4_0 := b4_11.out.cell 0 rfl
    have c11_b4_1 := b4_11.out.cell 1 rfl
    have c11_b4_2 := b4_11.out.cell 2 rfl
    have c11_b4_3 := b4_11.out.cell 3 rfl
    have c11_b4_4 := b4_11.out.cell 4 rfl
    have c11_bU_0 := bU_11.out.cell 0 rfl
    have c11_bU_1 := bU_11.out.cell 1 rfl
    have c11_bV_0 := bV_11.out.cell 0 rfl
    have c11_bV_1 := bV_11.out.cell 1 rfl
    have c11_bX_0 := bX_11.out.cell 0 rfl
    have c11_bX_1 := bX_11.out.cell 1 rfl
    have c11_bY_0 := bY_11.out.cell 0 rfl
    have c11_bY_1 := bY_11.out.cell 1 rfl
    go_upto_block 0 with fail
    rcases hcs.out with ⟨hk, htr, hz, hok, hen⟩ | ⟨hk, hok, hz⟩ | ⟨hk, hz, hok, hen⟩
    · have hY1 : Hid (rY.1 = y.vTree) := by show _ = _; rw [← hrYh.out, atD_yes okU hok]; exact hen
      rw [hk, hz]
      clear hcs hz hk hok hen okU okD r1 r2 htr
      go_wp2_with fail
      have eT_11 : Hid (TreeAt (q4.alloc (.cells #[.string (strT rY.1), .slice aY (kidsOf rY.1).length cY] 26)) 0 4 (.string (strT y.vTree)) (.slice aE (kidsOf y.vTree).length cE) y.vTree) := EditAt.tree eY_11.out
      go_upto_region 13 with fail
      have hk0 : Hid (Below (World.heap (q4.alloc (.cells #[.string (strT rY.1), .slice aY (kidsOf rY.1).length cY] 26))).size (q4.alloc (.cells #[.string (strT rY.1), .slice aY (kidsOf rY.1).length cY] 26)) (World.drew (q4.alloc (.cells #[.string (strT rY.1), .slice aY (kidsOf rY.1).length cY] 26)))) := Below.drew (Below.refl _ _)
      refine wp_region_held_drew (S := fun w' => w'.cell? ⟨w2.heap.size + 1, 0, none⟩ = some (.int .i64 y.vKind) ∧ w'.cell? ⟨w2.heap.size + 1, 1, none⟩ = some (.slice ap y.vPath.length cp) ∧ w'.cell? ⟨w2.heap.size + 1, 2, none⟩ = some (.string y.vTag) ∧ w'.cell? ⟨w2.heap.size + 1, 3, none⟩ = some (.string (strT y.vTree)) ∧ w'.cell? ⟨w2.heap.size + 1, 4, none⟩ = some (.slice aE (kidsOf y.vTree).length cE) ∧ w'.cell? ⟨q4.heap.size, 0, none⟩ = some (.string (strT rY.1)) ∧ w'.cell? ⟨q4.heap.size, 1, none⟩ = some (.slice aY (kidsOf rY.1).length cY)) (by kernel_rfl) ⟨b4_11.out.cell 0 rfl, b4_11.out.cell 1 rfl, b4_11.out.cell 2 rfl, b4_11.out.cell 3 rfl, b4_11.out.cell 4 rfl, bY_11.out.cell 0 rfl, bY_11.out.cell 1 rfl⟩ (fun hHeld => ?_)
      refine tq (i := 0) (d := 87) ?_
      simp only [sz, ss]
      refine tq (i := 1) (d := 88) ?_
      simp only [sz, ss]
      refine tq (i := 2) (d := 89) ?_
      simp only [sz, ss]
      refine wpAnyH_ready (rs := [3]) (by kernel_rfl) (by simp) ?_
      refine AllReadyH.cons rfl (fun K hK => ?_) AllReadyH.nil
      go_simp
      refine (size_any (by exact TreeAt.below eT_11.out hk0.out)).mono ?_
      rintro e s1 ⟨rfl, hb1⟩
      have hk1 : Hid (Below (World.heap (q4.alloc (.cells #[.string (strT rY.1), .slice aY (kidsOf rY.1).length cY] 26))).size (q4.alloc (.cells #[.string (strT rY.1), .slice aY (kidsOf rY.1).length cY] 26)) s1) := hk0.out.trans (Below.mono hb1 (Below.size hk0.out))
      refine hK.out _ _ ⟨cell_on hb1 hHeld.1, cell_on hb1 hHeld.2.1, cell_on hb1 hHeld.2.2.1, cell_on hb1 hHeld.2.2.2.1, cell_on hb1 hHeld.2.2.2.2.1, cell_on hb1 hHeld.2.2.2.2.2.1, cell_on hb1 hHeld.2.2.2.2.2.2⟩ (fun hHeld => ?_)
      clear hK K
      refine take_lit (i := 4) (d := 91) (v := .bool true) rfl rfl (by kernel_rfl) (by kernel_rfl) (by kernel_rfl) (fun _ _ _ h => h) (Or.inl ⟨by rfl, ?_⟩) (by assumption) ?_
      · intro w9 _; go_simp
      simp only [sz, ss]
      refine tq (i := 5) (d := 92) ?_
      simp only [sz, ss]
      refine tq (i := 6) (d := 93) ?_
      simp only [sz, ss]
      refine tq (i := 8) (d := 95) ?_
      simp only [sz, ss]
      refine tq (i := 9) (d := 96) ?_
      simp only [sz, ss]
      refine wpAnyH_ready (rs := [7]) (by kernel_rfl) (by simp) ?_
      refine AllReadyH.cons rfl (fun K hK => ?_) AllReadyH.nil
      go_simp
      refine (implTreeText_any (by exact TreeAt.below tY_11.out hk1.out)).mono ?_
      rw [hY1.out]
      rintro e s2 ⟨rfl, hb1⟩
      have hk2 : Hid (Below (World.heap (q4.alloc (.cells #[.string (strT rY.1), .slice aY (kidsOf rY.1).length cY] 26))).size (q4.alloc (.cells #[.string (strT rY.1), .slice aY (kidsOf rY.1).length cY] 26)) s2) := hk1.out.trans (Below.mono hb1 (Below.size hk1.out))
      refine hK.out _ _ ⟨cell_on hb1 hHeld.1, cell_on hb1 hHeld.2.1, cell_on hb1 hHeld.2.2.1, cell_on hb1 hHeld.2.2.2.1, cell_on hb1 hHeld.2.2.2.2.1, cell_on hb1 hHeld.2.2.2.2.2.1, cell_on hb1 hHeld.2.2.2.2.2.2⟩ (fun hHeld => ?_)
      clear hK K
      refine wpAnyH_ready (rs := [10]) (by kernel_rfl) (by simp) ?_
      refine AllReadyH.cons rfl (fun K hK => ?_) AllReadyH.nil
      go_simp
      refine (implTreeText_any (TreeAt.mono hL3 (by exact TreeAt.below eT_11.out hk2.out))).mono ?_
      rintro e s3 ⟨rfl, hb1⟩
      have hk3 : Hid (Below (World.heap (q4.alloc (.cells #[.string (strT rY.1), .slice aY (kidsOf rY.1).length cY] 26))).size (q4.alloc (.cells #[.string (strT rY.1), .slice aY (kidsOf rY.1).length cY] 26)) s3) := hk2.out.trans (Below.mono hb1 (Below.size hk2.out))
      refine hK.out _ _ ⟨cell_on hb1 hHeld.1, cell_on hb1 hHeld.2.1, cell_on hb1 hHeld.2.2.1, cell_on hb1 hHeld.2.2.2.1, cell_on hb1 hHeld.2.2.2.2.1, cell_on hb1 hHeld.2.2.2.2.2.1, cell_on hb1 hHeld.2.2.2.2.2.2⟩ (fun hHeld => ?_)
      clear hK K
      refine take_lit (i := 11) (d := 98) (v := .bool true) rfl rfl (by kernel_rfl) (by kernel_rfl) (by kernel_rfl) (fun _ _ _ h => h) (Or.inl ⟨by rfl, ?_⟩) (by assumption) ?_
      · intro w9 _; go_simp
      simp only [sz, ss]
      refine tq (i := 12) (d := 99) ?_
      simp only [sz, ss]
      refine tq (i := 13) (d := 2) ?_
      simp only [sz, ss]
      refine wpAnyH_done (by kernel_rfl) ?_ _
      clear hHeld hb1
      have hbo := hk3.out
      clear hk0 hk1 hk2 hk3
      have tD_12 : Hid (TreeAt s3 0 4 (.string (strT d)) (.slice aT (kidsOf d).length cT) d) := TreeAt.below tD_11.out hbo
      have eY_12 : Hid (EditAt 4 s3 0 [.int .i64 y.vKind, .slice ap y.vPath.length cp, .string y.vTag, .string (strT y.vTree), .slice aE (kidsOf y.vTree).length cE] y) := EditAt.stays _ _ _ _ _ _ (.of_below hbo) eY_11.out
      have b3_12 : Hid (Box s3 w2.heap.size [.string (strT d), .slice aT (kidsOf d).length cT] 26) := Box.below b3_11.out hbo (Box.lt b3_11.out)
      have b4_12 : Hid (Box s3 (w2.heap.size + 1) [.int .i64 y.vKind, .slice ap y.vPath.length cp, .string y.vTag, .string (strT y.vTree), .slice aE (kidsOf y.vTree).length cE] 29) := Box.below b4_11.out hbo (Box.lt b4_11.out)
      have bU_12 : Hid (Box s3 w3.heap.size [.string (strT (resTd o)), .slice aU (kidsOf (resTd o)).length cU] 26) := Box.below bU_11.out hbo (Box.lt bU_11.out)
      have bV_12 : Hid (Box s3 w4.heap.size [.string (strT (resTd o)), .slice aV (kidsOf (resTd o)).length cV] 26) := Box.below bV_11.out hbo (Box.lt bV_11.out)
      have lU_12 : Hid (TreeAt s3 0 L (.string (strT (resTd o))) (.slice aU (kidsOf (resTd o)).length cU) (resTd o)) := TreeAt.below lU_11.out hbo
      have lV_12 : Hid (TreeAt s3 0 L (.string (strT (resTd o))) (.slice aV (kidsOf (resTd o)).length cV) (resTd o)) := TreeAt.below lV_11.out hbo
      have tX_12 : Hid (TreeAt s3 0 4 (.string (strT rX.1)) (.slice aX (kidsOf rX.1).length cX) rX.1) := TreeAt.below tX_11.out hbo
      have bX_12 : Hid (Box s3 q3.heap.size [.string (strT rX.1), .slice aX (kidsOf rX.1).length cX] 26) := Box.below bX_11.out hbo (Box.lt bX_11.out)
      have tY_12 : Hid (TreeAt s3 0 L (.string (strT rY.1)) (.slice aY (kidsOf rY.1).length cY) rY.1) := TreeAt.below tY_11.out hbo
      have bY_12 : Hid (Box s3 q4.heap.size [.string (strT rY.1), .slice aY (kidsOf rY.1).length cY] 26) := Box.below bY_11.out hbo (Box.lt bY_11.out)
      have eT_12 : Hid (TreeAt s3 0 4 (.string (strT y.vTree)) (.slice aE (kidsOf y.vTree).length cE) y.vTree) := TreeAt.below eT_11.out hbo
      clear tD_11 eY_11 b3_11 b4_11 bU_11 bV_11 lU_11 lV_11 tX_11 bX_11 tY_11 bY_11 eT_11
      have hB12 : Hid (Below w.heap.size w s3) := hB11.out.trans (Below.mono hbo (Below.size hB11.out))
      clear hB11
      clear c11_b3_0 c11_b3_1 c11_b4_0 c11_b4_1 c11_b4_2 c11_b4_3 c11_b4_4 c11_bU_0 c11_bU_1 c11_bV_0 c11_bV_1 c11_bX_0 c11_bX_1 c11_bY_0 c11_bY_1
      have c12_b3_0 := b3_12.out.cell 0 rfl
      have c12_b3_1 := b3_12.out.cell 1 rfl
      have c12_b4_0 := b4_12.out.cell 0 rfl
      have c12_b4_1 := b4_12.out.cell 1 rfl
      have c12_b4_2 := b4_12.out.cell 2 rfl
      have c12_b4_3 := b4_12.out.cell 3 rfl
      have c12_b4_4 := b4_12.out.cell 4 rfl
      have c12_bU_0 := bU_12.out.cell 0 rfl
      have c12_bU_1 := bU_12.out.cell 1 rfl
      have c12_bV_0 := bV_12.out.cell 0 rfl
      have c12_bV_1 := bV_12.out.cell 1 rfl
      have c12_bX_0 := bX_12.out.cell 0 rfl
      have c12_bX_1 := bX_12.out.cell 1 rfl
      have c12_bY_0 := bY_12.out.cell 0 rfl
      have c12_bY_1 := bY_12.out.cell 1 rfl
      clear hbo
      go_wp2_with fail
      go_ret
      exact ⟨rfl, hB12.out⟩
    · have hX1 : Hid (rX.1 = endP d y.vPath) := by show _ = _; rw [← hrXh.out, atD_yes okD hok]
      have hwn : IntKind.i64.wrap (-(sizeB (endP d y.vPath))) = -(sizeB (endP d y.vPath)) := by rw [IntKind.wrap_i64]; omega
      rw [hk, hz]
      clear hcs hz hk hok okU okD r1 r2
      go_wp2_with fail
      refine (size_any tX_11.out).mono ?_
      rw [hX1.out]
      rintro e s1 ⟨rfl, hbc⟩
      have tD_12 : Hid (TreeAt s1 0 4 (.string (strT d)) (.slice aT (kidsOf d).length cT) d) := TreeAt.below tD_11.out hbc
      have eY_12 : Hid (EditAt 4 s1 0 [.int .i64 y.vKind, .slice ap y.vPath.length cp, .string y.vTag, .string (strT y.vTree), .slice aE (kidsOf y.vTree).length cE] y) := EditAt.stays _ _ _ _ _ _ (.of_below hbc) eY_11.out
      have b3_12 : Hid (Box s1 w2.heap.size [.string (strT d), .slice aT (kidsOf d).length cT] 26) := Box.below b3_11.out hbc (Box.lt b3_11.out)
      have b4_12 : Hid (Box s1 (w2.heap.size + 1) [.int .i64 y.vKind, .slice ap y.vPath.length cp, .string y.vTag, .string (strT y.vTree), .slice aE (kidsOf y.vTree).length cE] 29) := Box.below b4_11.out hbc (Box.lt b4_11.out)
      have bU_12 : Hid (Box s1 w3.heap.size [.string (strT (resTd o)), .slice aU (kidsOf (resTd o)).length cU] 26) := Box.below bU_11.out hbc (Box.lt bU_11.out)
      have bV_12 : Hid (Box s1 w4.heap.size [.string (strT (resTd o)), .slice aV (kidsOf (resTd o)).length cV] 26) := Box.below bV_11.out hbc (Box.lt bV_11.out)
      have lU_12 : Hid (TreeAt s1 0 L (.string (strT (resTd o))) (.slice aU (kidsOf (resTd o)).length cU) (resTd o)) := TreeAt.below lU_11.out hbc
      have lV_12 : Hid (TreeAt s1 0 L (.string (strT (resTd o))) (.slice aV (kidsOf (resTd o)).length cV) (resTd o)) := TreeAt.below lV_11.out hbc
      have tX_12 : Hid (TreeAt s1 0 4 (.string (strT rX.1)) (.slice aX (kidsOf rX.1).length cX) rX.1) := TreeAt.below tX_11.out hbc
      have bX_12 : Hid (Box s1 q3.heap.size [.string (strT rX.1), .slice aX (kidsOf rX.1).length cX] 26) := Box.below bX_11.out hbc (Box.lt bX_11.out)
      have tY_12 : Hid (TreeAt s1 0 L (.string (strT rY.1)) (.slice aY (kidsOf rY.1).length cY) rY.1) := TreeAt.below tY_11.out hbc
      have bY_12 : Hid (Box s1 q4.heap.size [.string (strT rY.1), .slice aY (kidsOf rY.1).length cY] 26) := Box.below bY_11.out hbc (Box.lt bY_11.out)
      clear tD_11 eY_11 b3_11 b4_11 bU_11 bV_11 lU_11 lV_11 tX_11 bX_11 tY_11 bY_11
      have hB12 : Hid (Below w.heap.size w s1) := hB11.out.trans (Below.mono hbc (Below.size hB11.out))
      clear hB11
      clear c11_b3_0 c11_b3_1 c11_b4_0 c11_b4_1 c11_b4_2 c11_b4_3 c11_b4_4 c11_bU_0 c11_bU_1 c11_bV_0 c11_bV_1 c11_bX_0 c11_bX_1 c11_bY_0 c11_bY_1
      have c12_b3_0 := b3_12.out.cell 0 rfl
      have c12_b3_1 := b3_12.out.cell 1 rfl
      have c12_b4_0 := b4_12.out.cell 0 rfl
      have c12_b4_1 := b4_12.out.cell 1 rfl
      have c12_b4_2 := b4_12.out.cell 2 rfl
      have c12_b4_3 := b4_12.out.cell 3 rfl
      have c12_b4_4 := b4_12.out.cell 4 rfl
      have c12_bU_0 := bU_12.out.cell 0 rfl
      have c12_bU_1 := bU_12.out.cell 1 rfl
      have c12_bV_0 := bV_12.out.cell 0 rfl
      have c12_bV_1 := bV_12.out.cell 1 rfl
      have c12_bX_0 := bX_12.out.cell 0 rfl
      have c12_bX_1 := bX_12.out.cell 1 rfl
      have c12_bY_0 := bY_12.out.cell 0 rfl
      have c12_bY_1 := bY_12.out.cell 1 rfl
      clear hbc
      go_wp2_with fail
      go_ret
      exact ⟨rfl, hB12.out⟩
    · have hY1 : Hid (strT rY.1 = y.vTag) := by show _ = _; rw [← hrYh.out, atD_yes okU hok]; exact hen
      rw [hk, hz]
      clear hcs hz hk hok hen okU okD r1 r2
      have cq := c11_bY_0.trans (show some (Value.string (strT rY.1)) = some (.string y.vTag) by rw [hY1.out])
      clear c11_bY_0
      go_wp2_with fail
      refine (implOk_any lU_11.out).mono ?_
      rw [htuh.out]
      rintro e s1 ⟨rfl, hbc⟩
      have tD_12 : Hid (TreeAt s1 0 4 (.string (strT d)) (.slice aT (kidsOf d).length cT) d) := TreeAt.below tD_11.out hbc
      have eY_12 : Hid (EditAt 4 s1 0 [.int .i64 y.vKind, .slice ap y.vPath.length cp, .string y.vTag, .string (strT y.vTree), .slice aE (kidsOf y.vTree).length cE] y) := EditAt.stays _ _ _ _ _ _ (.of_below hbc) eY_11.out
      have b3_12 : Hid (Box s1 w2.heap.size [.string (strT d), .slice aT (kidsOf d).length cT] 26) := Box.below b3_11.out hbc (Box.lt b3_11.out)
      have b4_12 : Hid (Box s1 (w2.heap.size + 1) [.int .i64 y.vKind, .slice ap y.vPath.length cp, .string y.vTag, .string (strT y.vTree), .slice aE (kidsOf y.vTree).length cE] 29) := Box.below b4_11.out hbc (Box.lt b4_11.out)
      have bU_12 : Hid (Box s1 w3.heap.size [.string (strT (resTd o)), .slice aU (kidsOf (resTd o)).length cU] 26) := Box.below bU_11.out hbc (Box.lt bU_11.out)
      have bV_12 : Hid (Box s1 w4.heap.size [.string (strT (resTd o)), .slice aV (kidsOf (resTd o)).length cV] 26) := Box.below bV_11.out hbc (Box.lt bV_11.out)
      have lU_12 : Hid (TreeAt s1 0 L (.string (strT (resTd o))) (.slice aU (kidsOf (resTd o)).length cU) (resTd o)) := TreeAt.below lU_11.out hbc
      have lV_12 : Hid (TreeAt s1 0 L (.string (strT (resTd o))) (.slice aV (kidsOf (resTd o)).length cV) (resTd o)) := TreeAt.below lV_11.out hbc
      have tX_12 : Hid (TreeAt s1 0 4 (.string (strT rX.1)) (.slice aX (kidsOf rX.1).length cX) rX.1) := TreeAt.below tX_11.out hbc
      have bX_12 : Hid (Box s1 q3.heap.size [.string (strT rX.1), .slice aX (kidsOf rX.1).length cX] 26) := Box.below bX_11.out hbc (Box.lt bX_11.out)
      have tY_12 : Hid (TreeAt s1 0 L (.string (strT rY.1)) (.slice aY (kidsOf rY.1).length cY) rY.1) := TreeAt.below tY_11.out hbc
      have bY_12 : Hid (Box s1 q4.heap.size [.string (strT rY.1), .slice aY (kidsOf rY.1).length cY] 26) := Box.below bY_11.out hbc (Box.lt bY_11.out)
      clear tD_11 eY_11 b3_11 b4_11 bU_11 bV_11 lU_11 lV_11 tX_11 bX_11 tY_11 bY_11
      have hB12 : Hid (Below w.heap.size w s1) := hB11.out.trans (Below.mono hbc (Below.size hB11.out))
      clear hB11
      clear c11_b3_0 c11_b3_1 c11_b4_0 c11_b4_1 c11_b4_2 c11_b4_3 c11_b4_4 c11_bU_0 c11_bU_1 c11_bV_0 c11_bV_1 c11_bX_0 c11_bX_1 cq c11_bY_1
      have c12_b3_0 := b3_12.out.cell 0 rfl
      have c12_b3_1 := b3_12.out.cell 1 rfl
      have c12_b4_0 := b4_12.out.cell 0 rfl
      have c12_b4_1 := b4_12.out.cell 1 rfl
      have c12_b4_2 := b4_12.out.cell 2 rfl
      have c12_b4_3 := b4_12.out.cell 3 rfl
      have c12_b4_4 := b4_12.out.cell 4 rfl
      have c12_bU_0 := bU_12.out.cell 0 rfl
      have c12_bU_1 := bU_12.out.cell 1 rfl
      have c12_bV_0 := bV_12.out.cell 0 rfl
      have c12_bV_1 := bV_12.out.cell 1 rfl
      have c12_bX_0 := bX_12.out.cell 0 rfl
      have c12_bX_1 := bX_12.out.cell 1 rfl
      have c12_bY_0 := bY_12.out.cell 0 rfl
      have c12_bY_1 := bY_12.out.cell 1 rfl
      clear hbc
      go_wp2_with fail
      go_ret
      exact ⟨rfl, hB12.out⟩
end Go.Proofs.Ytndffcogddefiaa.fnEdited
