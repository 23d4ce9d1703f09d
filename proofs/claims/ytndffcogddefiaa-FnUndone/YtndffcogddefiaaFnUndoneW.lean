/- The walk of FnUndone. -/
import Derived.Test.YtndffcogddefiaaEdDraws
import Derived.Test.YtndffcogddefiaaEdSizes
import Derived.Test.YtndffcogddefiaaEdTop
import Derived.Test.YtndffcogddefiaaEdBack
import Derived.Test.YtndffcogddefiaaSamePaths
import Derived.Test.YtndffcogddefiaaTextWalks
import Derived.Deep.RegionHeld3
namespace Go.Proofs.Ytndffcogddefiaa.fnUndone
open Go.RowKit Go.Deep
theorem big_any {a : Option Addr} {n cap : Nat} (w : World) : Calls Try.prog 8 #[.slice a n cap] w fun e w' => e = .returned (.bool (decide ((1048576 : Int) < (n : Int)))) ∧ w' = w := by
  go_enter Try.func8, Try.ntmps8
  go_wp2
  go_ret
  exact ⟨rfl, rfl⟩
/-- what Edited tells, in one form -/
theorem EdR.all {w w' : World} {o : Option TD} {e : Ending} (h : EdR w w' o e) : ∃ (a : Option Addr) (c n : Nat), e = .returned (.tuple #[.agg #[.string (strT (resTd o)), .slice a (kidsOf (resTd o)).length c], .bool o.isSome]) ∧ TreeAt w' 0 n (.string (strT (resTd o))) (.slice a (kidsOf (resTd o)).length c) (resTd o) ∧ Below w.heap.size w w' := by
  obtain ⟨cs, fs, n, rfl, ho, _, _, hb⟩ := h
  obtain ⟨k, rfl, hs, _⟩ := ho.opened
  obtain ⟨a, c, rfl⟩ := hs.form
  exact ⟨a, c, n, rfl, treeO_ta ho, hb⟩
theorem EdR.one {w w' : World} {u : TD} {e : Ending} (h : EdR w w' (some u) e) : ∃ (a : Option Addr) (c n : Nat), e = .returned (.tuple #[.agg #[.string (strT u), .slice a (kidsOf u).length c], .bool true]) ∧ TreeAt w' 0 n (.string (strT u)) (.slice a (kidsOf u).length c) u ∧ Below w.heap.size w w' := EdR.all h
/-- what Undone tells, in one form -/
theorem UnR.all {w w' : World} {o : Option EditD} {e : Ending} (h : UnR w w' o e) : ∃ (p : Option Addr) (c : Nat) (a : Option Addr) (k n : Nat), e = .returned (.tuple #[.agg #[.int .i64 (resE o).vKind, .slice p (resE o).vPath.length c, .string (resE o).vTag, .string (strT (resE o).vTree), .slice a (kidsOf (resE o).vTree).length k], .bool o.isSome]) ∧ EditAt n w' 0 [.int .i64 (resE o).vKind, .slice p (resE o).vPath.length c, .string (resE o).vTag, .string (strT (resE o).vTree), .slice a (kidsOf (resE o).vTree).length k] (resE o) ∧ Below w.heap.size w w' := by
  obtain ⟨cs, fs, n, rfl, ho, _, _, hb⟩ := h
  have hl := EditO_at (lo := 0) ho (fun _ _ => Nat.zero_le _)
  obtain ⟨p, c, a, k, rfl, _, _, _⟩ := hl.form
  exact ⟨p, c, a, k, n, rfl, hl.at, hb⟩
theorem UnR.one {w w' : World} {x : EditD} {e : Ending} (h : UnR w w' (some x) e) : ∃ (p : Option Addr) (c : Nat) (a : Option Addr) (k n : Nat), e = .returned (.tuple #[.agg #[.int .i64 x.vKind, .slice p x.vPath.length c, .string x.vTag, .string (strT x.vTree), .slice a (kidsOf x.vTree).length k], .bool true]) ∧ EditAt n w' 0 [.int .i64 x.vKind, .slice p x.vPath.length c, .string x.vTag, .string (strT x.vTree), .slice a (kidsOf x.vTree).length k] x ∧ Below w.heap.size w w' := UnR.all h
theorem undone_some {d : TD} {e : EditD} (h : (undoneD d e).isSome = true) : ∃ u, editedD d e = some u := by
  unfold undoneD at h
  cases q : editedD d e with
  | none => rw [q] at h; cases h
  | some u => exact ⟨u, rfl⟩
theorem undone_yes {d u : TD} {e : EditD} (h : editedD d e = some u) : undoneD d e = some (backD d e) := by unfold undoneD; rw [h]
theorem back_path (d : TD) (e : EditD) : (backD d e).vPath = e.vPath := by unfold backD; split; rfl; split <;> rfl
theorem EditAt.seq {n : Nat} {w : World} {lo : Nat} {K kp tg t k : Value} {y : EditD} (h : EditAt n w lo [K, kp, tg, t, k] y) : SeqAt 1 IntAt w lo kp y.vPath := by
  obtain ⟨kp', t', k', e, h1, h2, h3, h4⟩ := h
  simp only [List.cons.injEq] at e
  obtain ⟨_, rfl, _⟩ := e
  exact h2
theorem EditAt.tree {n : Nat} {w : World} {lo : Nat} {K kp tg t k : Value} {y : EditD} (h : EditAt n w lo [K, kp, tg, t, k] y) : TreeAt w lo n t k y.vTree := by
  obtain ⟨kp', t', k', e, h1, h2, h3, h4⟩ := h
  simp only [List.cons.injEq] at e
  obtain ⟨_, _, _, rfl, rfl, _⟩ := e
  exact h4
set_option maxRecDepth 100000 in
set_option maxHeartbeats 16000000 in
theorem walk {a : Option Addr} {n cap : Nat} (w : World) (hlen : n ≤ maxLen) (hcode : n ≤ 1048576 → CodeAt w a n) :
    Calls Try.prog 4 #[.slice a n cap] w fun e w' => e = .returned (.bool true) ∧ Below w.heap.size w w' := by
  unfold maxLen at hlen
  by_cases hbig : (1048576 : Int) < (n : Int)
  · clear hcode
    go_enter Try.func4, Try.ntmps4
    go_wp2_with (go_at_call 8; refine (big_any _).mono ?_; rintro e w' ⟨rfl, rfl⟩; rw [decide_eq_true hbig])
    go_ret
    exact ⟨rfl, Below.refl _ _⟩
  have hc' : Hid (CodeAt w a n) := hcode (by omega)
  have hbe : Hid (decide ((1048576 : Int) < (n : Int)) = false) := decide_eq_false hbig
  clear hcode hbig hlen
  go_enter Try.func4, Try.ntmps4
  go_wp2_with (go_at_call 8; refine (big_any _).mono ?_; rintro e w' ⟨rfl, e9⟩; have e10 := e9.symm; clear e9; subst e10; rw [hbe.out])
  refine (drawUndone_any hc'.out).mono ?_
  rintro e w2 ⟨⟨t, k, cs, d, y, rfl, hS, hl⟩, hb2⟩
  have htq := hS.here.1
  have heq := hS.here.2
  obtain ⟨rfl, _⟩ := htq.tag
  obtain ⟨_, aT, cT, rfl⟩ := htq.form
  obtain ⟨ap, cp, aE, cE, rfl, _, _, _⟩ := heq.form
  have hl' : Hid (y.vPath.length ≤ 1048576) := by show _ ≤ _; omega
  have hB0 : Hid (Below w.heap.size w w2) := hb2
  have ht2 : Hid (TreeAt w2 0 4 (.string (strT d)) (.slice aT (kidsOf d).length cT) d) := htq
  have he2 : Hid (EditAt 4 w2 0 [.int .i64 y.vKind, .slice ap y.vPath.length cp, .string y.vTag, .string (strT y.vTree), .slice aE (kidsOf y.vTree).length cE] y) := heq
  clear hS hl hb2 htq heq hc' hbe
  have tD_0 : Hid (TreeAt w2 0 4 (.string (strT d)) (.slice aT (kidsOf d).length cT) d) := ht2
  have eY_0 : Hid (EditAt 4 w2 0 [.int .i64 y.vKind, .slice ap y.vPath.length cp, .string y.vTag, .string (strT y.vTree), .slice aE (kidsOf y.vTree).length cE] y) := he2
  clear ht2 he2
  have hal : Below w2.heap.size w2 ((w2.alloc (.cells #[.string (strT d), .slice aT (kidsOf d).length cT] 26)).alloc (.cells #[.int .i64 y.vKind, .slice ap y.vPath.length cp, .string y.vTag, .string (strT y.vTree), .slice aE (kidsOf y.vTree).length cE] 29)) := ((Below.refl _ _).alloc (Nat.le_refl _) _).alloc (by simp) _
  have tD_1 : Hid (TreeAt ((w2.alloc (.cells #[.string (strT d), .slice aT (kidsOf d).length cT] 26)).alloc (.cells #[.int .i64 y.vKind, .slice ap y.vPath.length cp, .string y.vTag, .string (strT y.vTree), .slice aE (kidsOf y.vTree).length cE] 29)) 0 4 (.string (strT d)) (.slice aT (kidsOf d).length cT) d) := TreeAt.below tD_0.out hal
  have eY_1 : Hid (EditAt 4 ((w2.alloc (.cells #[.string (strT d), .slice aT (kidsOf d).length cT] 26)).alloc (.cells #[.int .i64 y.vKind, .slice ap y.vPath.length cp, .string y.vTag, .string (strT y.vTree), .slice aE (kidsOf y.vTree).length cE] 29)) 0 [.int .i64 y.vKind, .slice ap y.vPath.length cp, .string y.vTag, .string (strT y.vTree), .slice aE (kidsOf y.vTree).length cE] y) := EditAt.stays _ _ _ _ _ _ (.of_below hal) eY_0.out
  clear tD_0 eY_0
  have hB1 : Hid (Below w.heap.size w ((w2.alloc (.cells #[.string (strT d), .slice aT (kidsOf d).length cT] 26)).alloc (.cells #[.int .i64 y.vKind, .slice ap y.vPath.length cp, .string y.vTag, .string (strT y.vTree), .slice aE (kidsOf y.vTree).length cE] 29))) := hB0.out.trans (Below.mono hal (Below.size hB0.out))
  clear hB0
  have b3_1 : Hid (Box ((w2.alloc (.cells #[.string (strT d), .slice aT (kidsOf d).length cT] 26)).alloc (.cells #[.int .i64 y.vKind, .slice ap y.vPath.length cp, .string y.vTag, .string (strT y.vTree), .slice aE (kidsOf y.vTree).length cE] 29)) w2.heap.size [.string (strT d), .slice aT (kidsOf d).length cT] 26) := (Box.new w2 [.string (strT d), .slice aT (kidsOf d).length cT] 26).alloc _
  have b4_1 : Hid (Box ((w2.alloc (.cells #[.string (strT d), .slice aT (kidsOf d).length cT] 26)).alloc (.cells #[.int .i64 y.vKind, .slice ap y.vPath.length cp, .string y.vTag, .string (strT y.vTree), .slice aE (kidsOf y.vTree).length cE] 29)) (w2.heap.size + 1) [.int .i64 y.vKind, .slice ap y.vPath.length cp, .string y.vTag, .string (strT y.vTree), .slice aE (kidsOf y.vTree).length cE] 29) := by have q := Box.new (w2.alloc (.cells #[.string (strT d), .slice aT (kidsOf d).length cT] 26)) [.int .i64 y.vKind, .slice ap y.vPath.length cp, .string y.vTag, .string (strT y.vTree), .slice aE (kidsOf y.vTree).length cE] 29; rw [World.size_alloc] at q; exact q
  clear hal
  have c1_b3_0 := b3_1.out.cell 0 rfl
  have c1_b3_1 := b3_1.out.cell 1 rfl
  have c1_b4_0 := b4_1.out.cell 0 rfl
  have c1_b4_1 := b4_1.out.cell 1 rfl
  have c1_b4_2 := b4_1.out.cell 2 rfl
  have c1_b4_3 := b4_1.out.cell 3 rfl
  have c1_b4_4 := b4_1.out.cell 4 rfl
  go_wp2_with fail
  obtain ⟨o, ho⟩ : ∃ o, undoneD d y = o := ⟨_, rfl⟩
  have hoh : Hid (undoneD d y = o) := ho
  clear ho
  refine (implUndone_any tD_1.out eY_1.out hl'.out).mono ?_
  rw [hoh.out]
  rintro e w3 hR
  obtain ⟨pB, dB, aB, cB, nB, rfl, hTB, hbB⟩ := UnR.all hR
  clear hR
  have hTBh : Hid (EditAt nB w3 0 [.int .i64 (resE o).vKind, .slice pB (resE o).vPath.length dB, .string (resE o).vTag, .string (strT (resE o).vTree), .slice aB (kidsOf (resE o).vTree).length cB] (resE o)) := hTB
  clear hTB
  have tD_2 : Hid (TreeAt w3 0 4 (.string (strT d)) (.slice aT (kidsOf d).length cT) d) := TreeAt.below tD_1.out hbB
  have eY_2 : Hid (EditAt 4 w3 0 [.int .i64 y.vKind, .slice ap y.vPath.length cp, .string y.vTag, .string (strT y.vTree), .slice aE (kidsOf y.vTree).length cE] y) := EditAt.stays _ _ _ _ _ _ (.of_below hbB) eY_1.out
  have b3_2 : Hid (Box w3 w2.heap.size [.string (strT d), .slice aT (kidsOf d).length cT] 26) := Box.below b3_1.out hbB (Box.lt b3_1.out)
  have b4_2 : Hid (Box w3 (w2.heap.size + 1) [.int .i64 y.vKind, .slice ap y.vPath.length cp, .string y.vTag, .string (strT y.vTree), .slice aE (kidsOf y.vTree).length cE] 29) := Box.below b4_1.out hbB (Box.lt b4_1.out)
  clear tD_1 eY_1 b3_1 b4_1
  have hB2 : Hid (Below w.heap.size w w3) := hB1.out.trans (Below.mono hbB (Below.size hB1.out))
  clear hB1
  clear c1_b3_0 c1_b3_1 c1_b4_0 c1_b4_1 c1_b4_2 c1_b4_3 c1_b4_4
  have c2_b3_0 := b3_2.out.cell 0 rfl
  have c2_b3_1 := b3_2.out.cell 1 rfl
  have c2_b4_0 := b4_2.out.cell 0 rfl
  have c2_b4_1 := b4_2.out.cell 1 rfl
  have c2_b4_2 := b4_2.out.cell 2 rfl
  have c2_b4_3 := b4_2.out.cell 3 rfl
  have c2_b4_4 := b4_2.out.cell 4 rfl
  have tB_2 : Hid (EditAt nB w3 0 [.int .i64 (resE o).vKind, .slice pB (resE o).vPath.length dB, .string (resE o).vTag, .string (strT (resE o).vTree), .slice aB (kidsOf (resE o).vTree).length cB] (resE o)) := hTBh
  clear hTBh hbB
  have halB : Below w3.heap.size w3 (w3.alloc (.cells #[.int .i64 (resE o).vKind, .slice pB (resE o).vPath.length dB, .string (resE o).vTag, .string (strT (resE o).vTree), .slice aB (kidsOf (resE o).vTree).length cB] 29)) := (Below.refl _ _).alloc (Nat.le_refl _) _
  have tD_3 : Hid (TreeAt (w3.alloc (.cells #[.int .i64 (resE o).vKind, .slice pB (resE o).vPath.length dB, .string (resE o).vTag, .string (strT (resE o).vTree), .slice aB (kidsOf (resE o).vTree).length cB] 29)) 0 4 (.string (strT d)) (.slice aT (kidsOf d).length cT) d) := TreeAt.below tD_2.out halB
  have eY_3 : Hid (EditAt 4 (w3.alloc (.cells #[.int .i64 (resE o).vKind, .slice pB (resE o).vPath.length dB, .string (resE o).vTag, .string (strT (resE o).vTree), .slice aB (kidsOf (resE o).vTree).length cB] 29)) 0 [.int .i64 y.vKind, .slice ap y.vPath.length cp, .string y.vTag, .string (strT y.vTree), .slice aE (kidsOf y.vTree).length cE] y) := EditAt.stays _ _ _ _ _ _ (.of_below halB) eY_2.out
  have b3_3 : Hid (Box (w3.alloc (.cells #[.int .i64 (resE o).vKind, .slice pB (resE o).vPath.length dB, .string (resE o).vTag, .string (strT (resE o).vTree), .slice aB (kidsOf (resE o).vTree).length cB] 29)) w2.heap.size [.string (strT d), .slice aT (kidsOf d).length cT] 26) := Box.below b3_2.out halB (Box.lt b3_2.out)
  have b4_3 : Hid (Box (w3.alloc (.cells #[.int .i64 (resE o).vKind, .slice pB (resE o).vPath.length dB, .string (resE o).vTag, .string (strT (resE o).vTree), .slice aB (kidsOf (resE o).vTree).length cB] 29)) (w2.heap.size + 1) [.int .i64 y.vKind, .slice ap y.vPath.length cp, .string y.vTag, .string (strT y.vTree), .slice aE (kidsOf y.vTree).length cE] 29) := Box.below b4_2.out halB (Box.lt b4_2.out)
  have tB_3 : Hid (EditAt nB (w3.alloc (.cells #[.int .i64 (resE o).vKind, .slice pB (resE o).vPath.length dB, .string (resE o).vTag, .string (strT (resE o).vTree), .slice aB (kidsOf (resE o).vTree).length cB] 29)) 0 [.int .i64 (resE o).vKind, .slice pB (resE o).vPath.length dB, .string (resE o).vTag, .string (strT (resE o).vTree), .slice aB (kidsOf (resE o).vTree).length cB] (resE o)) := EditAt.stays _ _ _ _ _ _ (.of_below halB) tB_2.out
  clear tD_2 eY_2 b3_2 b4_2 tB_2
  have hB3 : Hid (Below w.heap.size w (w3.alloc (.cells #[.int .i64 (resE o).vKind, .slice pB (resE o).vPath.length dB, .string (resE o).vTag, .string (strT (resE o).vTree), .slice aB (kidsOf (resE o).vTree).length cB] 29))) := hB2.out.trans (Below.mono halB (Below.size hB2.out))
  clear hB2
  clear c2_b3_0 c2_b3_1 c2_b4_0 c2_b4_1 c2_b4_2 c2_b4_3 c2_b4_4
  have c3_b3_0 := b3_3.out.cell 0 rfl
  have c3_b3_1 := b3_3.out.cell 1 rfl
  have c3_b4_0 := b4_3.out.cell 0 rfl
  have c3_b4_1 := b4_3.out.cell 1 rfl
  have c3_b4_2 := b4_3.out.cell 2 rfl
  have c3_b4_3 := b4_3.out.cell 3 rfl
  have c3_b4_4 := b4_3.out.cell 4 rfl
  have bB_3 : Hid (Box (w3.alloc (.cells #[.int .i64 (resE o).vKind, .slice pB (resE o).vPath.length dB, .string (resE o).vTag, .string (strT (resE o).vTree), .slice aB (kidsOf (resE o).vTree).length cB] 29)) w3.heap.size [.int .i64 (resE o).vKind, .slice pB (resE o).vPath.length dB, .string (resE o).vTag, .string (strT (resE o).vTree), .slice aB (kidsOf (resE o).vTree).length cB] 29) := Box.new w3 _ _
  clear halB
  clear c3_b3_0 c3_b3_1 c3_b4_0 c3_b4_1 c3_b4_2 c3_b4_3 c3_b4_4
  have c3_b3_0 := b3_3.out.cell 0 rfl
  have c3_b3_1 := b3_3.out.cell 1 rfl
  have c3_b4_0 := b4_3.out.cell 0 rfl
  have c3_b4_1 := b4_3.out.cell 1 rfl
  have c3_b4_2 := b4_3.out.cell 2 rfl
  have c3_b4_3 := b4_3.out.cell 3 rfl
  have c3_b4_4 := b4_3.out.cell 4 rfl
  have c3_bB_0 := bB_3.out.cell 0 rfl
  have c3_bB_1 := bB_3.out.cell 1 rfl
  have c3_bB_2 := bB_3.out.cell 2 rfl
  have c3_bB_3 := bB_3.out.cell 3 rfl
  have c3_bB_4 := bB_3.out.cell 4 rfl
  go_wp2_with fail
  refine (specUndone_any tD_3.out eY_3.out hl'.out).mono ?_
  rw [hoh.out]
  rintro e w4 hR
  obtain ⟨pC, dC, aC, cC, nC, rfl, hTC, hbC⟩ := UnR.all hR
  clear hR
  have hTCh : Hid (EditAt nC w4 0 [.int .i64 (resE o).vKind, .slice pC (resE o).vPath.length dC, .string (resE o).vTag, .string (strT (resE o).vTree), .slice aC (kidsOf (resE o).vTree).length cC] (resE o)) := hTC
  clear hTC
  have tD_4 : Hid (TreeAt w4 0 4 (.string (strT d)) (.slice aT (kidsOf d).length cT) d) := TreeAt.below tD_3.out hbC
  have eY_4 : Hid (EditAt 4 w4 0 [.int .i64 y.vKind, .slice ap y.vPath.length cp, .string y.vTag, .string (strT y.vTree), .slice aE (kidsOf y.vTree).length cE] y) := EditAt.stays _ _ _ _ _ _ (.of_below hbC) eY_3.out
  have b3_4 : Hid (Box w4 w2.heap.size [.string (strT d), .slice aT (kidsOf d).length cT] 26) := Box.below b3_3.out hbC (Box.lt b3_3.out)
  have b4_4 : Hid (Box w4 (w2.heap.size + 1) [.int .i64 y.vKind, .slice ap y.vPath.length cp, .string y.vTag, .string (strT y.vTree), .slice aE (kidsOf y.vTree).length cE] 29) := Box.below b4_3.out hbC (Box.lt b4_3.out)
  have tB_4 : Hid (EditAt nB w4 0 [.int .i64 (resE o).vKind, .slice pB (resE o).vPath.length dB, .string (resE o).vTag, .string (strT (resE o).vTree), .slice aB (kidsOf (resE o).vTree).length cB] (resE o)) := EditAt.stays _ _ _ _ _ _ (.of_below hbC) tB_3.out
  have bB_4 : Hid (Box w4 w3.heap.size [.int .i64 (resE o).vKind, .slice pB (resE o).vPath.length dB, .string (resE o).vTag, .string (strT (resE o).vTree), .slice aB (kidsOf (resE o).vTree).length cB] 29) := Box.below bB_3.out hbC (Box.lt bB_3.out)
  clear tD_3 eY_3 b3_3 b4_3 tB_3 bB_3
  have hB4 : Hid (Below w.heap.size w w4) := hB3.out.trans (Below.mono hbC (Below.size hB3.out))
  clear hB3
  clear c3_b3_0 c3_b3_1 c3_b4_0 c3_b4_1 c3_b4_2 c3_b4_3 c3_b4_4 c3_bB_0 c3_bB_1 c3_bB_2 c3_bB_3 c3_bB_4
  have c4_b3_0 := b3_4.out.cell 0 rfl
  have c4_b3_1 := b3_4.out.cell 1 rfl
  have c4_b4_0 := b4_4.out.cell 0 rfl
  have c4_b4_1 := b4_4.out.cell 1 rfl
  have c4_b4_2 := b4_4.out.cell 2 rfl
  have c4_b4_3 := b4_4.out.cell 3 rfl
  have c4_b4_4 := b4_4.out.cell 4 rfl
  have c4_bB_0 := bB_4.out.cell 0 rfl
  have c4_bB_1 := bB_4.out.cell 1 rfl
  have c4_bB_2 := bB_4.out.cell 2 rfl
  have c4_bB_3 := bB_4.out.cell 3 rfl
  have c4_bB_4 := bB_4.out.cell 4 rfl
  have tC_4 : Hid (EditAt nC w4 0 [.int .i64 (resE o).vKind, .slice pC (resE o).vPath.length dC, .string (resE o).vTag, .string (strT (resE o).vTree), .slice aC (kidsOf (resE o).vTree).length cC] (resE o)) := hTCh
  clear hTCh hbC
  have halC : Below w4.heap.size w4 (w4.alloc (.cells #[.int .i64 (resE o).vKind, .slice pC (resE o).vPath.length dC, .string (resE o).vTag, .string (strT (resE o).vTree), .slice aC (kidsOf (resE o).vTree).length cC] 29)) := (Below.refl _ _).alloc (Nat.le_refl _) _
  have tD_5 : Hid (TreeAt (w4.alloc (.cells #[.int .i64 (resE o).vKind, .slice pC (resE o).vPath.length dC, .string (resE o).vTag, .string (strT (resE o).vTree), .slice aC (kidsOf (resE o).vTree).length cC] 29)) 0 4 (.string (strT d)) (.slice aT (kidsOf d).length cT) d) := TreeAt.below tD_4.out halC
  have eY_5 : Hid (EditAt 4 (w4.alloc (.cells #[.int .i64 (resE o).vKind, .slice pC (resE o).vPath.length dC, .string (resE o).vTag, .string (strT (resE o).vTree), .slice aC (kidsOf (resE o).vTree).length cC] 29)) 0 [.int .i64 y.vKind, .slice ap y.vPath.length cp, .string y.vTag, .string (strT y.vTree), .slice aE (kidsOf y.vTree).length cE] y) := EditAt.stays _ _ _ _ _ _ (.of_below halC) eY_4.out
  have b3_5 : Hid (Box (w4.alloc (.cells #[.int .i64 (resE o).vKind, .slice pC (resE o).vPath.length dC, .string (resE o).vTag, .string (strT (resE o).vTree), .slice aC (kidsOf (resE o).vTree).length cC] 29)) w2.heap.size [.string (strT d), .slice aT (kidsOf d).length cT] 26) := Box.below b3_4.out halC (Box.lt b3_4.out)
  have b4_5 : Hid (Box (w4.alloc (.cells #[.int .i64 (resE o).vKind, .slice pC (resE o).vPath.length dC, .string (resE o).vTag, .string (strT (resE o).vTree), .slice aC (kidsOf (resE o).vTree).length cC] 29)) (w2.heap.size + 1) [.int .i64 y.vKind, .slice ap y.vPath.length cp, .string y.vTag, .string (strT y.vTree), .slice aE (kidsOf y.vTree).length cE] 29) := Box.below b4_4.out halC (Box.lt b4_4.out)
  have tB_5 : Hid (EditAt nB (w4.alloc (.cells #[.int .i64 (resE o).vKind, .slice pC (resE o).vPath.length dC, .string (resE o).vTag, .string (strT (resE o).vTree), .slice aC (kidsOf (resE o).vTree).length cC] 29)) 0 [.int .i64 (resE o).vKind, .slice pB (resE o).vPath.length dB, .string (resE o).vTag, .string (strT (resE o).vTree), .slice aB (kidsOf (resE o).vTree).length cB] (resE o)) := EditAt.stays _ _ _ _ _ _ (.of_below halC) tB_4.out
  have bB_5 : Hid (Box (w4.alloc (.cells #[.int .i64 (resE o).vKind, .slice pC (resE o).vPath.length dC, .string (resE o).vTag, .string (strT (resE o).vTree), .slice aC (kidsOf (resE o).vTree).length cC] 29)) w3.heap.size [.int .i64 (resE o).vKind, .slice pB (resE o).vPath.length dB, .string (resE o).vTag, .string (strT (resE o).vTree), .slice aB (kidsOf (resE o).vTree).length cB] 29) := Box.below bB_4.out halC (Box.lt bB_4.out)
  have tC_5 : Hid (EditAt nC (w4.alloc (.cells #[.int .i64 (resE o).vKind, .slice pC (resE o).vPath.length dC, .string (resE o).vTag, .string (strT (resE o).vTree), .slice aC (kidsOf (resE o).vTree).length cC] 29)) 0 [.int .i64 (resE o).vKind, .slice pC (resE o).vPath.length dC, .string (resE o).vTag, .string (strT (resE o).vTree), .slice aC (kidsOf (resE o).vTree).length cC] (resE o)) := EditAt.stays _ _ _ _ _ _ (.of_below halC) tC_4.out
  clear tD_4 eY_4 b3_4 b4_4 tB_4 bB_4 tC_4
  have hB5 : Hid (Below w.heap.size w (w4.alloc (.cells #[.int .i64 (resE o).vKind, .slice pC (resE o).vPath.length dC, .string (resE o).vTag, .string (strT (resE o).vTree), .slice aC (kidsOf (resE o).vTree).length cC] 29))) := hB4.out.trans (Below.mono halC (Below.size hB4.out))
  clear hB4
  clear c4_b3_0 c4_b3_1 c4_b4_0 c4_b4_1 c4_b4_2 c4_b4_3 c4_b4_4 c4_bB_0 c4_bB_1 c4_bB_2 c4_bB_3 c4_bB_4
  have c5_b3_0 := b3_5.out.cell 0 rfl
  have c5_b3_1 := b3_5.out.cell 1 rfl
  have c5_b4_0 := b4_5.out.cell 0 rfl
  have c5_b4_1 := b4_5.out.cell 1 rfl
  have c5_b4_2 := b4_5.out.cell 2 rfl
  have c5_b4_3 := b4_5.out.cell 3 rfl
  have c5_b4_4 := b4_5.out.cell 4 rfl
  have c5_bB_0 := bB_5.out.cell 0 rfl
  have c5_bB_1 := bB_5.out.cell 1 rfl
  have c5_bB_2 := bB_5.out.cell 2 rfl
  have c5_bB_3 := bB_5.out.cell 3 rfl
  have c5_bB_4 := bB_5.out.cell 4 rfl
  have bC_5 : Hid (Box (w4.alloc (.cells #[.int .i64 (resE o).vKind, .slice pC (resE o).vPath.length dC, .string (resE o).vTag, .string (strT (resE o).vTree), .slice aC (kidsOf (resE o).vTree).length cC] 29)) w4.heap.size [.int .i64 (resE o).vKind, .slice pC (resE o).vPath.length dC, .string (resE o).vTag, .string (strT (resE o).vTree), .slice aC (kidsOf (resE o).vTree).length cC] 29) := Box.new w4 _ _
  clear halC
  clear c5_b3_0 c5_b3_1 c5_b4_0 c5_b4_1 c5_b4_2 c5_b4_3 c5_b4_4 c5_bB_0 c5_bB_1 c5_bB_2 c5_bB_3 c5_bB_4
  have c5_b3_0 := b3_5.out.cell 0 rfl
  have c5_b3_1 := b3_5.out.cell 1 rfl
  have c5_b4_0 := b4_5.out.cell 0 rfl
  have c5_b4_1 := b4_5.out.cell 1 rfl
  have c5_b4_2 := b4_5.out.cell 2 rfl
  have c5_b4_3 := b4_5.out.cell 3 rfl
  have c5_b4_4 := b4_5.out.cell 4 rfl
  have c5_bB_0 := bB_5.out.cell 0 rfl
  have c5_bB_1 := bB_5.out.cell 1 rfl
  have c5_bB_2 := bB_5.out.cell 2 rfl
  have c5_bB_3 := bB_5.out.cell 3 rfl
  have c5_bB_4 := bB_5.out.cell 4 rfl
  have c5_bC_0 := bC_5.out.cell 0 rfl
  have c5_bC_1 := bC_5.out.cell 1 rfl
  have c5_bC_2 := bC_5.out.cell 2 rfl
  have c5_bC_3 := bC_5.out.cell 3 rfl
  have c5_bC_4 := bC_5.out.cell 4 rfl
  rcases (by cases o.isSome <;> simp : o.isSome = false ∨ o.isSome = true) with hsb | hsb
  · rw [hsb]
    go_wp2_with fail
    refine (samePath_yes (EditAt.seq tB_5.out) (EditAt.seq tC_5.out)).mono ?_
    rintro e q1 ⟨rfl, m9, hm9⟩
    have hbc : Below (World.heap (w4.alloc (.cells #[.int .i64 (resE o).vKind, .slice pC (resE o).vPath.length dC, .string (resE o).vTag, .string (strT (resE o).vTree), .slice aC (kidsOf (resE o).vTree).length cC] 29))).size (w4.alloc (.cells #[.int .i64 (resE o).vKind, .slice pC (resE o).vPath.length dC, .string (resE o).vTag, .string (strT (resE o).vTree), .slice aC (kidsOf (resE o).vTree).length cC] 29)) q1 := by rw [hm9]; exact belowN_drew (Below.refl _ _) _
    clear hm9
    have tD_6 : Hid (TreeAt q1 0 4 (.string (strT d)) (.slice aT (kidsOf d).length cT) d) := TreeAt.below tD_5.out hbc
    have eY_6 : Hid (EditAt 4 q1 0 [.int .i64 y.vKind, .slice ap y.vPath.length cp, .string y.vTag, .string (strT y.vTree), .slice aE (kidsOf y.vTree).length cE] y) := EditAt.stays _ _ _ _ _ _ (.of_below hbc) eY_5.out
    have b3_6 : Hid (Box q1 w2.heap.size [.string (strT d), .slice aT (kidsOf d).length cT] 26) := Box.below b3_5.out hbc (Box.lt b3_5.out)
    have b4_6 : Hid (Box q1 (w2.heap.size + 1) [.int .i64 y.vKind, .slice ap y.vPath.length cp, .string y.vTag, .string (strT y.vTree), .slice aE (kidsOf y.vTree).length cE] 29) := Box.below b4_5.out hbc (Box.lt b4_5.out)
    have tB_6 : Hid (EditAt nB q1 0 [.int .i64 (resE o).vKind, .slice pB (resE o).vPath.length dB, .string (resE o).vTag, .string (strT (resE o).vTree), .slice aB (kidsOf (resE o).vTree).length cB] (resE o)) := EditAt.stays _ _ _ _ _ _ (.of_below hbc) tB_5.out
    have bB_6 : Hid (Box q1 w3.heap.size [.int .i64 (resE o).vKind, .slice pB (resE o).vPath.length dB, .string (resE o).vTag, .string (strT (resE o).vTree), .slice aB (kidsOf (resE o).vTree).length cB] 29) := Box.below bB_5.out hbc (Box.lt bB_5.out)
    have tC_6 : Hid (EditAt nC q1 0 [.int .i64 (resE o).vKind, .slice pC (resE o).vPath.length dC, .string (resE o).vTag, .string (strT (resE o).vTree), .slice aC (kidsOf (resE o).vTree).length cC] (resE o)) := EditAt.stays _ _ _ _ _ _ (.of_below hbc) tC_5.out
    have bC_6 : Hid (Box q1 w4.heap.size [.int .i64 (resE o).vKind, .slice pC (resE o).vPath.length dC, .string (resE o).vTag, .string (strT (resE o).vTree), .slice aC (kidsOf (resE o).vTree).length cC] 29) := Box.below bC_5.out hbc (Box.lt bC_5.out)
    clear tD_5 eY_5 b3_5 b4_5 tB_5 bB_5 tC_5 bC_5
    have hB6 : Hid (Below w.heap.size w q1) := hB5.out.trans (Below.mono hbc (Below.size hB5.out))
    clear hB5
    clear c5_b3_0 c5_b3_1 c5_b4_0 c5_b4_1 c5_b4_2 c5_b4_3 c5_b4_4 c5_bB_0 c5_bB_1 c5_bB_2 c5_bB_3 c5_bB_4 c5_bC_0 c5_bC_1 c5_bC_2 c5_bC_3 c5_bC_4
    have c6_b3_0 := b3_6.out.cell 0 rfl
    have c6_b3_1 := b3_6.out.cell 1 rfl
    have c6_b4_0 := b4_6.out.cell 0 rfl
    have c6_b4_1 := b4_6.out.cell 1 rfl
    have c6_b4_2 := b4_6.out.cell 2 rfl
    have c6_b4_3 := b4_6.out.cell 3 rfl
    have c6_b4_4 := b4_6.out.cell 4 rfl
    have c6_bB_0 := bB_6.out.cell 0 rfl
    have c6_bB_1 := bB_6.out.cell 1 rfl
    have c6_bB_2 := bB_6.out.cell 2 rfl
    have c6_bB_3 := bB_6.out.cell 3 rfl
    have c6_bB_4 := bB_6.out.cell 4 rfl
    have c6_bC_0 := bC_6.out.cell 0 rfl
    have c6_bC_1 := bC_6.out.cell 1 rfl
    have c6_bC_2 := bC_6.out.cell 2 rfl
    have c6_bC_3 := bC_6.out.cell 3 rfl
    have c6_bC_4 := bC_6.out.cell 4 rfl
    clear hbc
    go_wp2_with fail
    go_ret
    exact ⟨rfl, hB6.out⟩
  · rw [hsb]
    go_wp2_with fail
    refine (samePath_yes (EditAt.seq tB_5.out) (EditAt.seq tC_5.out)).mono ?_
    rintro e q1 ⟨rfl, m9, hm9⟩
    have hbc : Below (World.heap (w4.alloc (.cells #[.int .i64 (resE o).vKind, .slice pC (resE o).vPath.length dC, .string (resE o).vTag, .string (strT (resE o).vTree), .slice aC (kidsOf (resE o).vTree).length cC] 29))).size (w4.alloc (.cells #[.int .i64 (resE o).vKind, .slice pC (resE o).vPath.length dC, .string (resE o).vTag, .string (strT (resE o).vTree), .slice aC (kidsOf (resE o).vTree).length cC] 29)) q1 := by rw [hm9]; exact belowN_drew (Below.refl _ _) _
    clear hm9
    have tD_6 : Hid (TreeAt q1 0 4 (.string (strT d)) (.slice aT (kidsOf d).length cT) d) := TreeAt.below tD_5.out hbc
    have eY_6 : Hid (EditAt 4 q1 0 [.int .i64 y.vKind, .slice ap y.vPath.length cp, .string y.vTag, .string (strT y.vTree), .slice aE (kidsOf y.vTree).length cE] y) := EditAt.stays _ _ _ _ _ _ (.of_below hbc) eY_5.out
    have b3_6 : Hid (Box q1 w2.heap.size [.string (strT d), .slice aT (kidsOf d).length cT] 26) := Box.below b3_5.out hbc (Box.lt b3_5.out)
    have b4_6 : Hid (Box q1 (w2.heap.size + 1) [.int .i64 y.vKind, .slice ap y.vPath.length cp, .string y.vTag, .string (strT y.vTree), .slice aE (kidsOf y.vTree).length cE] 29) := Box.below b4_5.out hbc (Box.lt b4_5.out)
    have tB_6 : Hid (EditAt nB q1 0 [.int .i64 (resE o).vKind, .slice pB (resE o).vPath.length dB, .string (resE o).vTag, .string (strT (resE o).vTree), .slice aB (kidsOf (resE o).vTree).length cB] (resE o)) := EditAt.stays _ _ _ _ _ _ (.of_below hbc) tB_5.out
    have bB_6 : Hid (Box q1 w3.heap.size [.int .i64 (resE o).vKind, .slice pB (resE o).vPath.length dB, .string (resE o).vTag, .string (strT (resE o).vTree), .slice aB (kidsOf (resE o).vTree).length cB] 29) := Box.below bB_5.out hbc (Box.lt bB_5.out)
    have tC_6 : Hid (EditAt nC q1 0 [.int .i64 (resE o).vKind, .slice pC (resE o).vPath.length dC, .string (resE o).vTag, .string (strT (resE o).vTree), .slice aC (kidsOf (resE o).vTree).length cC] (resE o)) := EditAt.stays _ _ _ _ _ _ (.of_below hbc) tC_5.out
    have bC_6 : Hid (Box q1 w4.heap.size [.int .i64 (resE o).vKind, .slice pC (resE o).vPath.length dC, .string (resE o).vTag, .string (strT (resE o).vTree), .slice aC (kidsOf (resE o).vTree).length cC] 29) := Box.below bC_5.out hbc (Box.lt bC_5.out)
    clear tD_5 eY_5 b3_5 b4_5 tB_5 bB_5 tC_5 bC_5
    have hB6 : Hid (Below w.heap.size w q1) := hB5.out.trans (Below.mono hbc (Below.size hB5.out))
    clear hB5
    clear c5_b3_0 c5_b3_1 c5_b4_0 c5_b4_1 c5_b4_2 c5_b4_3 c5_b4_4 c5_bB_0 c5_bB_1 c5_bB_2 c5_bB_3 c5_bB_4 c5_bC_0 c5_bC_1 c5_bC_2 c5_bC_3 c5_bC_4
    have c6_b3_0 := b3_6.out.cell 0 rfl
    have c6_b3_1 := b3_6.out.cell 1 rfl
    have c6_b4_0 := b4_6.out.cell 0 rfl
    have c6_b4_1 := b4_6.out.cell 1 rfl
    have c6_b4_2 := b4_6.out.cell 2 rfl
    have c6_b4_3 := b4_6.out.cell 3 rfl
    have c6_b4_4 := b4_6.out.cell 4 rfl
    have c6_bB_0 := bB_6.out.cell 0 rfl
    have c6_bB_1 := bB_6.out.cell 1 rfl
    have c6_bB_2 := bB_6.out.cell 2 rfl
    have c6_bB_3 := bB_6.out.cell 3 rfl
    have c6_bB_4 := bB_6.out.cell 4 rfl
    have c6_bC_0 := bC_6.out.cell 0 rfl
    have c6_bC_1 := bC_6.out.cell 1 rfl
    have c6_bC_2 := bC_6.out.cell 2 rfl
    have c6_bC_3 := bC_6.out.cell 3 rfl
    have c6_bC_4 := bC_6.out.cell 4 rfl
    clear hbc
    obtain ⟨u, hu⟩ := undone_some (show (undoneD d y).isSome = true by rw [hoh.out]; exact hsb)
    have huh : Hid (editedD d y = some u) := hu
    have hob : Hid (o = some (backD d y)) := by show _ = _; rw [← hoh.out]; exact undone_yes hu
    obtain ⟨v, hv, hs1⟩ := undo_plain hu
    have hvh : Hid (editedD u (backD d y) = some v) := hv
    have hs1h : Hid (∀ n, Sim n v d) := hs1
    have hch : Hid (undoneD u (backD d y) = some (backD u (backD d y))) := undone_yes hv
    obtain ⟨w9, hw, hs2⟩ := undo_plain hv
    have hwh : Hid (editedD v (backD u (backD d y)) = some w9) := hw
    have hs2h : Hid (∀ n, Sim n w9 u) := hs2
    have hres : Hid (resE o = backD d y) := by show _ = _; rw [hob.out]; rfl
    have hl2 : Hid ((resE o).vPath.length ≤ 1048576) := by show _ ≤ _; rw [hres.out, back_path]; exact hl'.out
    clear hu hv hs1 hw hs2 hsb
    go_wp2_with fail
    refine (implEdited_any tD_6.out eY_6.out).mono ?_
    rw [huh.out]
    rintro e q2 hR
    obtain ⟨aU, cU, nU, rfl, hTU, hbU⟩ := EdR.one hR
    clear hR
    have hTUh : Hid (TreeAt q2 0 nU (.string (strT u)) (.slice aU (kidsOf u).length cU) u) := hTU
    clear hTU
    have tD_7 : Hid (TreeAt q2 0 4 (.string (strT d)) (.slice aT (kidsOf d).length cT) d) := TreeAt.below tD_6.out hbU
    have eY_7 : Hid (EditAt 4 q2 0 [.int .i64 y.vKind, .slice ap y.vPath.length cp, .string y.vTag, .string (strT y.vTree), .slice aE (kidsOf y.vTree).length cE] y) := EditAt.stays _ _ _ _ _ _ (.of_below hbU) eY_6.out
    have b3_7 : Hid (Box q2 w2.heap.size [.string (strT d), .slice aT (kidsOf d).length cT] 26) := Box.below b3_6.out hbU (Box.lt b3_6.out)
    have b4_7 : Hid (Box q2 (w2.heap.size + 1) [.int .i64 y.vKind, .slice ap y.vPath.length cp, .string y.vTag, .string (strT y.vTree), .slice aE (kidsOf y.vTree).length cE] 29) := Box.below b4_6.out hbU (Box.lt b4_6.out)
    have tB_7 : Hid (EditAt nB q2 0 [.int .i64 (resE o).vKind, .slice pB (resE o).vPath.length dB, .string (resE o).vTag, .string (strT (resE o).vTree), .slice aB (kidsOf (resE o).vTree).length cB] (resE o)) := EditAt.stays _ _ _ _ _ _ (.of_below hbU) tB_6.out
    have bB_7 : Hid (Box q2 w3.heap.size [.int .i64 (resE o).vKind, .slice pB (resE o).vPath.length dB, .string (resE o).vTag, .string (strT (resE o).vTree), .slice aB (kidsOf (resE o).vTree).length cB] 29) := Box.below bB_6.out hbU (Box.lt bB_6.out)
    have tC_7 : Hid (EditAt nC q2 0 [.int .i64 (resE o).vKind, .slice pC (resE o).vPath.length dC, .string (resE o).vTag, .string (strT (resE o).vTree), .slice aC (kidsOf (resE o).vTree).length cC] (resE o)) := EditAt.stays _ _ _ _ _ _ (.of_below hbU) tC_6.out
    have bC_7 : Hid (Box q2 w4.heap.size [.int .i64 (resE o).vKind, .slice pC (resE o).vPath.length dC, .string (resE o).vTag, .string (strT (resE o).vTree), .slice aC (kidsOf (resE o).vTree).length cC] 29) := Box.below bC_6.out hbU (Box.lt bC_6.out)
    clear tD_6 eY_6 b3_6 b4_6 tB_6 bB_6 tC_6 bC_6
    have hB7 : Hid (Below w.heap.size w q2) := hB6.out.trans (Below.mono hbU (Below.size hB6.out))
    clear hB6
    clear c6_b3_0 c6_b3_1 c6_b4_0 c6_b4_1 c6_b4_2 c6_b4_3 c6_b4_4 c6_bB_0 c6_bB_1 c6_bB_2 c6_bB_3 c6_bB_4 c6_bC_0 c6_bC_1 c6_bC_2 c6_bC_3 c6_bC_4
    have c7_b3_0 := b3_7.out.cell 0 rfl
    have c7_b3_1 := b3_7.out.cell 1 rfl
    have c7_b4_0 := b4_7.out.cell 0 rfl
    have c7_b4_1 := b4_7.out.cell 1 rfl
    have c7_b4_2 := b4_7.out.cell 2 rfl
    have c7_b4_3 := b4_7.out.cell 3 rfl
    have c7_b4_4 := b4_7.out.cell 4 rfl
    have c7_bB_0 := bB_7.out.cell 0 rfl
    have c7_bB_1 := bB_7.out.cell 1 rfl
    have c7_bB_2 := bB_7.out.cell 2 rfl
    have c7_bB_3 := bB_7.out.cell 3 rfl
    have c7_bB_4 := bB_7.out.cell 4 rfl
    have c7_bC_0 := bC_7.out.cell 0 rfl
    have c7_bC_1 := bC_7.out.cell 1 rfl
    have c7_bC_2 := bC_7.out.cell 2 rfl
    have c7_bC_3 := bC_7.out.cell 3 rfl
    have c7_bC_4 := bC_7.out.cell 4 rfl
    have tU_7 : Hid (TreeAt q2 0 nU (.string (strT u)) (.slice aU (kidsOf u).length cU) u) := hTUh
    clear hTUh hbU
    have halU : Below q2.heap.size q2 (q2.alloc (.cells #[.string (strT u), .slice aU (kidsOf u).length cU] 26)) := (Below.refl _ _).alloc (Nat.le_refl _) _
    have tD_8 : Hid (TreeAt (q2.alloc (.cells #[.string (strT u), .slice aU (kidsOf u).length cU] 26)) 0 4 (.string (strT d)) (.slice aT (kidsOf d).length cT) d) := TreeAt.below tD_7.out halU
    have eY_8 : Hid (EditAt 4 (q2.alloc (.cells #[.string (strT u), .slice aU (kidsOf u).length cU] 26)) 0 [.int .i64 y.vKind, .slice ap y.vPath.length cp, .string y.vTag, .string (strT y.vTree), .slice aE (kidsOf y.vTree).length cE] y) := EditAt.stays _ _ _ _ _ _ (.of_below halU) eY_7.out
    have b3_8 : Hid (Box (q2.alloc (.cells #[.string (strT u), .slice aU (kidsOf u).length cU] 26)) w2.heap.size [.string (strT d), .slice aT (kidsOf d).length cT] 26) := Box.below b3_7.out halU (Box.lt b3_7.out)
    have b4_8 : Hid (Box (q2.alloc (.cells #[.string (strT u), .slice aU (kidsOf u).length cU] 26)) (w2.heap.size + 1) [.int .i64 y.vKind, .slice ap y.vPath.length cp, .string y.vTag, .string (strT y.vTree), .slice aE (kidsOf y.vTree).length cE] 29) := Box.below b4_7.out halU (Box.lt b4_7.out)
    have tB_8 : Hid (EditAt nB (q2.alloc (.cells #[.string (strT u), .slice aU (kidsOf u).length cU] 26)) 0 [.int .i64 (resE o).vKind, .slice pB (resE o).vPath.length dB, .string (resE o).vTag, .string (strT (resE o).vTree), .slice aB (kidsOf (resE o).vTree).length cB] (resE o)) := EditAt.stays _ _ _ _ _ _ (.of_below halU) tB_7.out
    have bB_8 : Hid (Box (q2.alloc (.cells #[.string (strT u), .slice aU (kidsOf u).length cU] 26)) w3.heap.size [.int .i64 (resE o).vKind, .slice pB (resE o).vPath.length dB, .string (resE o).vTag, .string (strT (resE o).vTree), .slice aB (kidsOf (resE o).vTree).length cB] 29) := Box.below bB_7.out halU (Box.lt bB_7.out)
    have tC_8 : Hid (EditAt nC (q2.alloc (.cells #[.string (strT u), .slice aU (kidsOf u).length cU] 26)) 0 [.int .i64 (resE o).vKind, .slice pC (resE o).vPath.length dC, .string (resE o).vTag, .string (strT (resE o).vTree), .slice aC (kidsOf (resE o).vTree).length cC] (resE o)) := EditAt.stays _ _ _ _ _ _ (.of_below halU) tC_7.out
    have bC_8 : Hid (Box (q2.alloc (.cells #[.string (strT u), .slice aU (kidsOf u).length cU] 26)) w4.heap.size [.int .i64 (resE o).vKind, .slice pC (resE o).vPath.length dC, .string (resE o).vTag, .string (strT (resE o).vTree), .slice aC (kidsOf (resE o).vTree).length cC] 29) := Box.below bC_7.out halU (Box.lt bC_7.out)
    have tU_8 : Hid (TreeAt (q2.alloc (.cells #[.string (strT u), .slice aU (kidsOf u).length cU] 26)) 0 nU (.string (strT u)) (.slice aU (kidsOf u).length cU) u) := TreeAt.below tU_7.out halU
    clear tD_7 eY_7 b3_7 b4_7 tB_7 bB_7 tC_7 bC_7 tU_7
    have hB8 : Hid (Below w.heap.size w (q2.alloc (.cells #[.string (strT u), .slice aU (kidsOf u).length cU] 26))) := hB7.out.trans (Below.mono halU (Below.size hB7.out))
    clear hB7
    clear c7_b3_0 c7_b3_1 c7_b4_0 c7_b4_1 c7_b4_2 c7_b4_3 c7_b4_4 c7_bB_0 c7_bB_1 c7_bB_2 c7_bB_3 c7_bB_4 c7_bC_0 c7_bC_1 c7_bC_2 c7_bC_3 c7_bC_4
    have c8_b3_0 := b3_8.out.cell 0 rfl
    have c8_b3_1 := b3_8.out.cell 1 rfl
    have c8_b4_0 := b4_8.out.cell 0 rfl
    have c8_b4_1 := b4_8.out.cell 1 rfl
    have c8_b4_2 := b4_8.out.cell 2 rfl
    have c8_b4_3 := b4_8.out.cell 3 rfl
    have c8_b4_4 := b4_8.out.cell 4 rfl
    have c8_bB_0 := bB_8.out.cell 0 rfl
    have c8_bB_1 := bB_8.out.cell 1 rfl
    have c8_bB_2 := bB_8.out.cell 2 rfl
    have c8_bB_3 := bB_8.out.cell 3 rfl
    have c8_bB_4 := bB_8.out.cell 4 rfl
    have c8_bC_0 := bC_8.out.cell 0 rfl
    have c8_bC_1 := bC_8.out.cell 1 rfl
    have c8_bC_2 := bC_8.out.cell 2 rfl
    have c8_bC_3 := bC_8.out.cell 3 rfl
    have c8_bC_4 := bC_8.out.cell 4 rfl
    have bU_8 : Hid (Box (q2.alloc (.cells #[.string (strT u), .slice aU (kidsOf u).length cU] 26)) q2.heap.size [.string (strT u), .slice aU (kidsOf u).length cU] 26) := Box.new q2 _ _
    clear halU
    clear c8_b3_0 c8_b3_1 c8_b4_0 c8_b4_1 c8_b4_2 c8_b4_3 c8_b4_4 c8_bB_0 c8_bB_1 c8_bB_2 c8_bB_3 c8_bB_4 c8_bC_0 c8_bC_1 c8_bC_2 c8_bC_3 c8_bC_4
    have c8_b3_0 := b3_8.out.cell 0 rfl
    have c8_b3_1 := b3_8.out.cell 1 rfl
    have c8_b4_0 := b4_8.out.cell 0 rfl
    have c8_b4_1 := b4_8.out.cell 1 rfl
    have c8_b4_2 := b4_8.out.cell 2 rfl
    have c8_b4_3 := b4_8.out.cell 3 rfl
    have c8_b4_4 := b4_8.out.cell 4 rfl
    have c8_bB_0 := bB_8.out.cell 0 rfl
    have c8_bB_1 := bB_8.out.cell 1 rfl
    have c8_bB_2 := bB_8.out.cell 2 rfl
    have c8_bB_3 := bB_8.out.cell 3 rfl
    have c8_bB_4 := bB_8.out.cell 4 rfl
    have c8_bC_0 := bC_8.out.cell 0 rfl
    have c8_bC_1 := bC_8.out.cell 1 rfl
    have c8_bC_2 := bC_8.out.cell 2 rfl
    have c8_bC_3 := bC_8.out.cell 3 rfl
    have c8_bC_4 := bC_8.out.cell 4 rfl
    have c8_bU_0 := bU_8.out.cell 0 rfl
    have c8_bU_1 := bU_8.out.cell 1 rfl
    go_wp2_with fail
    refine (implEdited_any tU_8.out tB_8.out).mono ?_
    rw [hres.out, hvh.out]
    rintro e q3 hR
    obtain ⟨aV, cV, nV, rfl, hTV, hbV⟩ := EdR.one hR
    clear hR
    have hTVh : Hid (TreeAt q3 0 nV (.string (strT v)) (.slice aV (kidsOf v).length cV) v) := hTV
    clear hTV
    have tD_9 : Hid (TreeAt q3 0 4 (.string (strT d)) (.slice aT (kidsOf d).length cT) d) := TreeAt.below tD_8.out hbV
    have eY_9 : Hid (EditAt 4 q3 0 [.int .i64 y.vKind, .slice ap y.vPath.length cp, .string y.vTag, .string (strT y.vTree), .slice aE (kidsOf y.vTree).length cE] y) := EditAt.stays _ _ _ _ _ _ (.of_below hbV) eY_8.out
    have b3_9 : Hid (Box q3 w2.heap.size [.string (strT d), .slice aT (kidsOf d).length cT] 26) := Box.below b3_8.out hbV (Box.lt b3_8.out)
    have b4_9 : Hid (Box q3 (w2.heap.size + 1) [.int .i64 y.vKind, .slice ap y.vPath.length cp, .string y.vTag, .string (strT y.vTree), .slice aE (kidsOf y.vTree).length cE] 29) := Box.below b4_8.out hbV (Box.lt b4_8.out)
    have tB_9 : Hid (EditAt nB q3 0 [.int .i64 (resE o).vKind, .slice pB (resE o).vPath.length dB, .string (resE o).vTag, .string (strT (resE o).vTree), .slice aB (kidsOf (resE o).vTree).length cB] (resE o)) := EditAt.stays _ _ _ _ _ _ (.of_below hbV) tB_8.out
    have bB_9 : Hid (Box q3 w3.heap.size [.int .i64 (resE o).vKind, .slice pB (resE o).vPath.length dB, .string (resE o).vTag, .string (strT (resE o).vTree), .slice aB (kidsOf (resE o).vTree).length cB] 29) := Box.below bB_8.out hbV (Box.lt bB_8.out)
    have tC_9 : Hid (EditAt nC q3 0 [.int .i64 (resE o).vKind, .slice pC (resE o).vPath.length dC, .string (resE o).vTag, .string (strT (resE o).vTree), .slice aC (kidsOf (resE o).vTree).length cC] (resE o)) := EditAt.stays _ _ _ _ _ _ (.of_below hbV) tC_8.out
    have bC_9 : Hid (Box q3 w4.heap.size [.int .i64 (resE o).vKind, .slice pC (resE o).vPath.length dC, .string (resE o).vTag, .string (strT (resE o).vTree), .slice aC (kidsOf (resE o).vTree).length cC] 29) := Box.below bC_8.out hbV (Box.lt bC_8.out)
    have tU_9 : Hid (TreeAt q3 0 nU (.string (strT u)) (.slice aU (kidsOf u).length cU) u) := TreeAt.below tU_8.out hbV
    have bU_9 : Hid (Box q3 q2.heap.size [.string (strT u), .slice aU (kidsOf u).length cU] 26) := Box.below bU_8.out hbV (Box.lt bU_8.out)
    clear tD_8 eY_8 b3_8 b4_8 tB_8 bB_8 tC_8 bC_8 tU_8 bU_8
    have hB9 : Hid (Below w.heap.size w q3) := hB8.out.trans (Below.mono hbV (Below.size hB8.out))
    clear hB8
    clear c8_b3_0 c8_b3_1 c8_b4_0 c8_b4_1 c8_b4_2 c8_b4_3 c8_b4_4 c8_bB_0 c8_bB_1 c8_bB_2 c8_bB_3 c8_bB_4 c8_bC_0 c8_bC_1 c8_bC_2 c8_bC_3 c8_bC_4 c8_bU_0 c8_bU_1
    have c9_b3_0 := b3_9.out.cell 0 rfl
    have c9_b3_1 := b3_9.out.cell 1 rfl
    have c9_b4_0 := b4_9.out.cell 0 rfl
    have c9_b4_1 := b4_9.out.cell 1 rfl
    have c9_b4_2 := b4_9.out.cell 2 rfl
    have c9_b4_3 := b4_9.out.cell 3 rfl
    have c9_b4_4 := b4_9.out.cell 4 rfl
    have c9_bB_0 := bB_9.out.cell 0 rfl
    have c9_bB_1 := bB_9.out.cell 1 rfl
    have c9_bB_2 := bB_9.out.cell 2 rfl
    have c9_bB_3 := bB_9.out.cell 3 rfl
    have c9_bB_4 := bB_9.out.cell 4 rfl
    have c9_bC_0 := bC_9.out.cell 0 rfl
    have c9_bC_1 := bC_9.out.cell 1 rfl
    have c9_bC_2 := bC_9.out.cell 2 rfl
    have c9_bC_3 := bC_9.out.cell 3 rfl
    have c9_bC_4 := bC_9.out.cell 4 rfl
    have c9_bU_0 := bU_9.out.cell 0 rfl
    have c9_bU_1 := bU_9.out.cell 1 rfl
    have tV_9 : Hid (TreeAt q3 0 nV (.string (strT v)) (.slice aV (kidsOf v).length cV) v) := hTVh
    clear hTVh hbV
    have halV : Below q3.heap.size q3 (q3.alloc (.cells #[.string (strT v), .slice aV (kidsOf v).length cV] 26)) := (Below.refl _ _).alloc (Nat.le_refl _) _
    have tD_10 : Hid (TreeAt (q3.alloc (.cells #[.string (strT v), .slice aV (kidsOf v).length cV] 26)) 0 4 (.string (strT d)) (.slice aT (kidsOf d).length cT) d) := TreeAt.below tD_9.out halV
    have eY_10 : Hid (EditAt 4 (q3.alloc (.cells #[.string (strT v), .slice aV (kidsOf v).length cV] 26)) 0 [.int .i64 y.vKind, .slice ap y.vPath.length cp, .string y.vTag, .string (strT y.vTree), .slice aE (kidsOf y.vTree).length cE] y) := EditAt.stays _ _ _ _ _ _ (.of_below halV) eY_9.out
    have b3_10 : Hid (Box (q3.alloc (.cells #[.string (strT v), .slice aV (kidsOf v).length cV] 26)) w2.heap.size [.string (strT d), .slice aT (kidsOf d).length cT] 26) := Box.below b3_9.out halV (Box.lt b3_9.out)
    have b4_10 : Hid (Box (q3.alloc (.cells #[.string (strT v), .slice aV (kidsOf v).length cV] 26)) (w2.heap.size + 1) [.int .i64 y.vKind, .slice ap y.vPath.length cp, .string y.vTag, .string (strT y.vTree), .slice aE (kidsOf y.vTree).length cE] 29) := Box.below b4_9.out halV (Box.lt b4_9.out)
    have tB_10 : Hid (EditAt nB (q3.alloc (.cells #[.string (strT v), .slice aV (kidsOf v).length cV] 26)) 0 [.int .i64 (resE o).vKind, .slice pB (resE o).vPath.length dB, .string (resE o).vTag, .string (strT (resE o).vTree), .slice aB (kidsOf (resE o).vTree).length cB] (resE o)) := EditAt.stays _ _ _ _ _ _ (.of_below halV) tB_9.out
    have bB_10 : Hid (Box (q3.alloc (.cells #[.string (strT v), .slice aV (kidsOf v).length cV] 26)) w3.heap.size [.int .i64 (resE o).vKind, .slice pB (resE o).vPath.length dB, .string (resE o).vTag, .string (strT (resE o).vTree), .slice aB (kidsOf (resE o).vTree).length cB] 29) := Box.below bB_9.out halV (Box.lt bB_9.out)
    have tC_10 : Hid (EditAt nC (q3.alloc (.cells #[.string (strT v), .slice aV (kidsOf v).length cV] 26)) 0 [.int .i64 (resE o).vKind, .slice pC (resE o).vPath.length dC, .string (resE o).vTag, .string (strT (resE o).vTree), .slice aC (kidsOf (resE o).vTree).length cC] (resE o)) := EditAt.stays _ _ _ _ _ _ (.of_below halV) tC_9.out
    have bC_10 : Hid (Box (q3.alloc (.cells #[.string (strT v), .slice aV (kidsOf v).length cV] 26)) w4.heap.size [.int .i64 (resE o).vKind, .slice pC (resE o).vPath.length dC, .string (resE o).vTag, .string (strT (resE o).vTree), .slice aC (kidsOf (resE o).vTree).length cC] 29) := Box.below bC_9.out halV (Box.lt bC_9.out)
    have tU_10 : Hid (TreeAt (q3.alloc (.cells #[.string (strT v), .slice aV (kidsOf v).length cV] 26)) 0 nU (.string (strT u)) (.slice aU (kidsOf u).length cU) u) := TreeAt.below tU_9.out halV
    have bU_10 : Hid (Box (q3.alloc (.cells #[.string (strT v), .slice aV (kidsOf v).length cV] 26)) q2.heap.size [.string (strT u), .slice aU (kidsOf u).length cU] 26) := Box.below bU_9.out halV (Box.lt bU_9.out)
    have tV_10 : Hid (TreeAt (q3.alloc (.cells #[.string (strT v), .slice aV (kidsOf v).length cV] 26)) 0 nV (.string (strT v)) (.slice aV (kidsOf v).length cV) v) := TreeAt.below tV_9.out halV
    clear tD_9 eY_9 b3_9 b4_9 tB_9 bB_9 tC_9 bC_9 tU_9 bU_9 tV_9
    have hB10 : Hid (Below w.heap.size w (q3.alloc (.cells #[.string (strT v), .slice aV (kidsOf v).length cV] 26))) := hB9.out.trans (Below.mono halV (Below.size hB9.out))
    clear hB9
    clear c9_b3_0 c9_b3_1 c9_b4_0 c9_b4_1 c9_b4_2 c9_b4_3 c9_b4_4 c9_bB_0 c9_bB_1 c9_bB_2 c9_bB_3 c9_bB_4 c9_bC_0 c9_bC_1 c9_bC_2 c9_bC_3 c9_bC_4 c9_bU_0 c9_bU_1
    have c10_b3_0 := b3_10.out.cell 0 rfl
    have c10_b3_1 := b3_10.out.cell 1 rfl
    have c10_b4_0 := b4_10.out.cell 0 rfl
    have c10_b4_1 := b4_10.out.cell 1 rfl
    have c10_b4_2 := b4_10.out.cell 2 rfl
    have c10_b4_3 := b4_10.out.cell 3 rfl
    have c10_b4_4 := b4_10.out.cell 4 rfl
    have c10_bB_0 := bB_10.out.cell 0 rfl
    have c10_bB_1 := bB_10.out.cell 1 rfl
    have c10_bB_2 := bB_10.out.cell 2 rfl
    have c10_bB_3 := bB_10.out.cell 3 rfl
    have c10_bB_4 := bB_10.out.cell 4 rfl
    have c10_bC_0 := bC_10.out.cell 0 rfl
    have c10_bC_1 := bC_10.out.cell 1 rfl
    have c10_bC_2 := bC_10.out.cell 2 rfl
    have c10_bC_3 := bC_10.out.cell 3 rfl
    have c10_bC_4 := bC_10.out.cell 4 rfl
    have c10_bU_0 := bU_10.out.cell 0 rfl
    have c10_bU_1 := bU_10.out.cell 1 rfl
    have bV_10 : Hid (Box (q3.alloc (.cells #[.string (strT v), .slice aV (kidsOf v).length cV] 26)) q3.heap.size [.string (strT v), .slice aV (kidsOf v).length cV] 26) := Box.new q3 _ _
    clear halV
    clear c10_b3_0 c10_b3_1 c10_b4_0 c10_b4_1 c10_b4_2 c10_b4_3 c10_b4_4 c10_bB_0 c10_bB_1 c10_bB_2 c10_bB_3 c10_bB_4 c10_bC_0 c10_bC_1 c10_bC_2 c10_bC_3 c10_bC_4 c10_bU_0 c10_bU_1
    have c10_b3_0 := b3_10.out.cell 0 rfl
    have c10_b3_1 := b3_10.out.cell 1 rfl
    have c10_b4_0 := b4_10.out.cell 0 rfl
    have c10_b4_1 := b4_10.out.cell 1 rfl
    have c10_b4_2 := b4_10.out.cell 2 rfl
    have c10_b4_3 := b4_10.out.cell 3 rfl
    have c10_b4_4 := b4_10.out.cell 4 rfl
    have c10_bB_0 := bB_10.out.cell 0 rfl
    have c10_bB_1 := bB_10.out.cell 1 rfl
    have c10_bB_2 := bB_10.out.cell 2 rfl
    have c10_bB_3 := bB_10.out.cell 3 rfl
    have c10_bB_4 := bB_10.out.cell 4 rfl
    have c10_bC_0 := bC_10.out.cell 0 rfl
    have c10_bC_1 := bC_10.out.cell 1 rfl
    have c10_bC_2 := bC_10.out.cell 2 rfl
    have c10_bC_3 := bC_10.out.cell 3 rfl
    have c10_bC_4 := bC_10.out.cell 4 rfl
    have c10_bU_0 := bU_10.out.cell 0 rfl
    have c10_bU_1 := bU_10.out.cell 1 rfl
    have c10_bV_0 := bV_10.out.cell 0 rfl
    have c10_bV_1 := bV_10.out.cell 1 rfl
    go_wp2_with fail
    refine (implUndone_any tU_10.out tB_10.out hl2.out).mono ?_
    rw [hres.out, hch.out]
    rintro e q4 hR
    obtain ⟨pG, dG, aG, cG, nG, rfl, hTG, hbG⟩ := UnR.one hR
    clear hR
    have hTGh : Hid (EditAt nG q4 0 [.int .i64 (backD u (backD d y)).vKind, .slice pG (backD u (backD d y)).vPath.length dG, .string (backD u (backD d y)).vTag, .string (strT (backD u (backD d y)).vTree), .slice aG (kidsOf (backD u (backD d y)).vTree).length cG] (backD u (backD d y))) := hTG
    clear hTG
    have tD_11 : Hid (TreeAt q4 0 4 (.string (strT d)) (.slice aT (kidsOf d).length cT) d) := TreeAt.below tD_10.out hbG
    have eY_11 : Hid (EditAt 4 q4 0 [.int .i64 y.vKind, .slice ap y.vPath.length cp, .string y.vTag, .string (strT y.vTree), .slice aE (kidsOf y.vTree).length cE] y) := EditAt.stays _ _ _ _ _ _ (.of_below hbG) eY_10.out
    have b3_11 : Hid (Box q4 w2.heap.size [.string (strT d), .slice aT (kidsOf d).length cT] 26) := Box.below b3_10.out hbG (Box.lt b3_10.out)
    have b4_11 : Hid (Box q4 (w2.heap.size + 1) [.int .i64 y.vKind, .slice ap y.vPath.length cp, .string y.vTag, .string (strT y.vTree), .slice aE (kidsOf y.vTree).length cE] 29) := Box.below b4_10.out hbG (Box.lt b4_10.out)
    have tB_11 : Hid (EditAt nB q4 0 [.int .i64 (resE o).vKind, .slice pB (resE o).vPath.length dB, .string (resE o).vTag, .string (strT (resE o).vTree), .slice aB (kidsOf (resE o).vTree).length cB] (resE o)) := EditAt.stays _ _ _ _ _ _ (.of_below hbG) tB_10.out
    have bB_11 : Hid (Box q4 w3.heap.size [.int .i64 (resE o).vKind, .slice pB (resE o).vPath.length dB, .string (resE o).vTag, .string (strT (resE o).vTree), .slice aB (kidsOf (resE o).vTree).length cB] 29) := Box.below bB_10.out hbG (Box.lt bB_10.out)
    have tC_11 : Hid (EditAt nC q4 0 [.int .i64 (resE o).vKind, .slice pC (resE o).vPath.length dC, .string (resE o).vTag, .string (strT (resE o).vTree), .slice aC (kidsOf (resE o).vTree).length cC] (resE o)) := EditAt.stays _ _ _ _ _ _ (.of_below hbG) tC_10.out
    have bC_11 : Hid (Box q4 w4.heap.size [.int .i64 (resE o).vKind, .slice pC (resE o).vPath.length dC, .string (resE o).vTag, .string (strT (resE o).vTree), .slice aC (kidsOf (resE o).vTree).length cC] 29) := Box.below bC_10.out hbG (Box.lt bC_10.out)
    have tU_11 : Hid (TreeAt q4 0 nU (.string (strT u)) (.slice aU (kidsOf u).length cU) u) := TreeAt.below tU_10.out hbG
    have bU_11 : Hid (Box q4 q2.heap.size [.string (strT u), .slice aU (kidsOf u).length cU] 26) := Box.below bU_10.out hbG (Box.lt bU_10.out)
    have tV_11 : Hid (TreeAt q4 0 nV (.string (strT v)) (.slice aV (kidsOf v).length cV) v) := TreeAt.below tV_10.out hbG
    have bV_11 : Hid (Box q4 q3.heap.size [.string (strT v), .slice aV (kidsOf v).length cV] 26) := Box.below bV_10.out hbG (Box.lt bV_10.out)
    clear tD_10 eY_10 b3_10 b4_10 tB_10 bB_10 tC_10 bC_10 tU_10 bU_10 tV_10 bV_10
    have hB11 : Hid (Below w.heap.size w q4) := hB10.out.trans (Below.mono hbG (Below.size hB10.out))
    clear hB10
    clear c10_b3_0 c10_b3_1 c10_b4_0 c10_b4_1 c10_b4_2 c10_b4_3 c10_b4_4 c10_bB_0 c10_bB_1 c10_bB_2 c10_bB_3 c10_bB_4 c10_bC_0 c10_bC_1 c10_bC_2 c10_bC_3 c10_bC_4 c10_bU_0 c10_bU_1 c10_bV_0 c10_bV_1
    have c11_b3_0 := b3_11.out.cell 0 rfl
    have c11_b3_1 := b3_11.out.cell 1 rfl
    have c11_b4_0 := b4_11.out.cell 0 rfl
    have c11_b4_1 := b4_11.out.cell 1 rfl
    have c11_b4_2 := b4_11.out.cell 2 rfl
    have c11_b4_3 := b4_11.out.cell 3 rfl
    have c11_b4_4 := b4_11.out.cell 4 rfl
    have c11_bB_0 := bB_11.out.cell 0 rfl
    have c11_bB_1 := bB_11.out.cell 1 rfl
    have c11_bB_2 := bB_11.out.cell 2 rfl
    have c11_bB_3 := bB_11.out.cell 3 rfl
    have c11_bB_4 := bB_11.out.cell 4 rfl
    have c11_bC_0 := bC_11.out.cell 0 rfl
    have c11_bC_1 := bC_11.out.cell 1 rfl
    have c11_bC_2 := bC_11.out.cell 2 rfl
    have c11_bC_3 := bC_11.out.cell 3 rfl
    have c11_bC_4 := bC_11.out.cell 4 rfl
    have c11_bU_0 := bU_11.out.cell 0 rfl
    have c11_bU_1 := bU_11.out.cell 1 rfl
    have c11_bV_0 := bV_11.out.cell 0 rfl
    have c11_bV_1 := bV_11.out.cell 1 rfl
    have tG_11 : Hid (EditAt nG q4 0 [.int .i64 (backD u (backD d y)).vKind, .slice pG (backD u (backD d y)).vPath.length dG, .string (backD u (backD d y)).vTag, .string (strT (backD u (backD d y)).vTree), .slice aG (kidsOf (backD u (backD d y)).vTree).length cG] (backD u (backD d y))) := hTGh
    clear hTGh hbG
    have halG : Below q4.heap.size q4 (q4.alloc (.cells #[.int .i64 (backD u (backD d y)).vKind, .slice pG (backD u (backD d y)).vPath.length dG, .string (backD u (backD d y)).vTag, .string (strT (backD u (backD d y)).vTree), .slice aG (kidsOf (backD u (backD d y)).vTree).length cG] 29)) := (Below.refl _ _).alloc (Nat.le_refl _) _
    have tD_12 : Hid (TreeAt (q4.alloc (.cells #[.int .i64 (backD u (backD d y)).vKind, .slice pG (backD u (backD d y)).vPath.length dG, .string (backD u (backD d y)).vTag, .string (strT (backD u (backD d y)).vTree), .slice aG (kidsOf (backD u (backD d y)).vTree).length cG] 29)) 0 4 (.string (strT d)) (.slice aT (kidsOf d).length cT) d) := TreeAt.below tD_11.out halG
    have eY_12 : Hid (EditAt 4 (q4.alloc (.cells #[.int .i64 (backD u (backD d y)).vKind, .slice pG (backD u (backD d y)).vPath.length dG, .string (backD u (backD d y)).vTag, .string (strT (backD u (backD d y)).vTree), .slice aG (kidsOf (backD u (backD d y)).vTree).length cG] 29)) 0 [.int .i64 y.vKind, .slice ap y.vPath.length cp, .string y.vTag, .string (strT y.vTree), .slice aE (kidsOf y.vTree).length cE] y) := EditAt.stays _ _ _ _ _ _ (.of_below halG) eY_11.out
    have b3_12 : Hid (Box (q4.alloc (.cells #[.int .i64 (backD u (backD d y)).vKind, .slice pG (backD u (backD d y)).vPath.length dG, .string (backD u (backD d y)).vTag, .string (strT (backD u (backD d y)).vTree), .slice aG (kidsOf (backD u (backD d y)).vTree).length cG] 29)) w2.heap.size [.string (strT d), .slice aT (kidsOf d).length cT] 26) := Box.below b3_11.out halG (Box.lt b3_11.out)
    have b4_12 : Hid (Box (q4.alloc (.cells #[.int .i64 (backD u (backD d y)).vKind, .slice pG (backD u (backD d y)).vPath.length dG, .string (backD u (backD d y)).vTag, .string (strT (backD u (backD d y)).vTree), .slice aG (kidsOf (backD u (backD d y)).vTree).length cG] 29)) (w2.heap.size + 1) [.int .i64 y.vKind, .slice ap y.vPath.length cp, .string y.vTag, .string (strT y.vTree), .slice aE (kidsOf y.vTree).length cE] 29) := Box.below b4_11.out halG (Box.lt b4_11.out)
    have tB_12 : Hid (EditAt nB (q4.alloc (.cells #[.int .i64 (backD u (backD d y)).vKind, .slice pG (backD u (backD d y)).vPath.length dG, .string (backD u (backD d y)).vTag, .string (strT (backD u (backD d y)).vTree), .slice aG (kidsOf (backD u (backD d y)).vTree).length cG] 29)) 0 [.int .i64 (resE o).vKind, .slice pB (resE o).vPath.length dB, .string (resE o).vTag, .string (strT (resE o).vTree), .slice aB (kidsOf (resE o).vTree).length cB] (resE o)) := EditAt.stays _ _ _ _ _ _ (.of_below halG) tB_11.out
    have bB_12 : Hid (Box (q4.alloc (.cells #[.int .i64 (backD u (backD d y)).vKind, .slice pG (backD u (backD d y)).vPath.length dG, .string (backD u (backD d y)).vTag, .string (strT (backD u (backD d y)).vTree), .slice aG (kidsOf (backD u (backD d y)).vTree).length cG] 29)) w3.heap.size [.int .i64 (resE o).vKind, .slice pB (resE o).vPath.length dB, .string (resE o).vTag, .string (strT (resE o).vTree), .slice aB (kidsOf (resE o).vTree).length cB] 29) := Box.below bB_11.out halG (Box.lt bB_11.out)
    have tC_12 : Hid (EditAt nC (q4.alloc (.cells #[.int .i64 (backD u (backD d y)).vKind, .slice pG (backD u (backD d y)).vPath.length dG, .string (backD u (backD d y)).vTag, .string (strT (backD u (backD d y)).vTree), .slice aG (kidsOf (backD u (backD d y)).vTree).length cG] 29)) 0 [.int .i64 (resE o).vKind, .slice pC (resE o).vPath.length dC, .string (resE o).vTag, .string (strT (resE o).vTree), .slice aC (kidsOf (resE o).vTree).length cC] (resE o)) := EditAt.stays _ _ _ _ _ _ (.of_below halG) tC_11.out
    have bC_12 : Hid (Box (q4.alloc (.cells #[.int .i64 (backD u (backD d y)).vKind, .slice pG (backD u (backD d y)).vPath.length dG, .string (backD u (backD d y)).vTag, .string (strT (backD u (backD d y)).vTree), .slice aG (kidsOf (backD u (backD d y)).vTree).length cG] 29)) w4.heap.size [.int .i64 (resE o).vKind, .slice pC (resE o).vPath.length dC, .string (resE o).vTag, .string (strT (resE o).vTree), .slice aC (kidsOf (resE o).vTree).length cC] 29) := Box.below bC_11.out halG (Box.lt bC_11.out)
    have tU_12 : Hid (TreeAt (q4.alloc (.cells #[.int .i64 (backD u (backD d y)).vKind, .slice pG (backD u (backD d y)).vPath.length dG, .string (backD u (backD d y)).vTag, .string (strT (backD u (backD d y)).vTree), .slice aG (kidsOf (backD u (backD d y)).vTree).length cG] 29)) 0 nU (.string (strT u)) (.slice aU (kidsOf u).length cU) u) := TreeAt.below tU_11.out halG
    have bU_12 : Hid (Box (q4.alloc (.cells #[.int .i64 (backD u (backD d y)).vKind, .slice pG (backD u (backD d y)).vPath.length dG, .string (backD u (backD d y)).vTag, .string (strT (backD u (backD d y)).vTree), .slice aG (kidsOf (backD u (backD d y)).vTree).length cG] 29)) q2.heap.size [.string (strT u), .slice aU (kidsOf u).length cU] 26) := Box.below bU_11.out halG (Box.lt bU_11.out)
    have tV_12 : Hid (TreeAt (q4.alloc (.cells #[.int .i64 (backD u (backD d y)).vKind, .slice pG (backD u (backD d y)).vPath.length dG, .string (backD u (backD d y)).vTag, .string (strT (backD u (backD d y)).vTree), .slice aG (kidsOf (backD u (backD d y)).vTree).length cG] 29)) 0 nV (.string (strT v)) (.slice aV (kidsOf v).length cV) v) := TreeAt.below tV_11.out halG
    have bV_12 : Hid (Box (q4.alloc (.cells #[.int .i64 (backD u (backD d y)).vKind, .slice pG (backD u (backD d y)).vPath.length dG, .string (backD u (backD d y)).vTag, .string (strT (backD u (backD d y)).vTree), .slice aG (kidsOf (backD u (backD d y)).vTree).length cG] 29)) q3.heap.size [.string (strT v), .slice aV (kidsOf v).length cV] 26) := Box.below bV_11.out halG (Box.lt bV_11.out)
    have tG_12 : Hid (EditAt nG (q4.alloc (.cells #[.int .i64 (backD u (backD d y)).vKind, .slice pG (backD u (backD d y)).vPath.length dG, .string (backD u (backD d y)).vTag, .string (strT (backD u (backD d y)).vTree), .slice aG (kidsOf (backD u (backD d y)).vTree).length cG] 29)) 0 [.int .i64 (backD u (backD d y)).vKind, .slice pG (backD u (backD d y)).vPath.length dG, .string (backD u (backD d y)).vTag, .string (strT (backD u (backD d y)).vTree), .slice aG (kidsOf (backD u (backD d y)).vTree).length cG] (backD u (backD d y))) := EditAt.stays _ _ _ _ _ _ (.of_below halG) tG_11.out
    clear tD_11 eY_11 b3_11 b4_11 tB_11 bB_11 tC_11 bC_11 tU_11 bU_11 tV_11 bV_11 tG_11
    have hB12 : Hid (Below w.heap.size w (q4.alloc (.cells #[.int .i64 (backD u (backD d y)).vKind, .slice pG (backD u (backD d y)).vPath.length dG, .string (backD u (backD d y)).vTag, .string (strT (backD u (backD d y)).vTree), .slice aG (kidsOf (backD u (backD d y)).vTree).length cG] 29))) := hB11.out.trans (Below.mono halG (Below.size hB11.out))
    clear hB11
    clear c11_b3_0 c11_b3_1 c11_b4_0 c11_b4_1 c11_b4_2 c11_b4_3 c11_b4_4 c11_bB_0 c11_bB_1 c11_bB_2 c11_bB_3 c11_bB_4 c11_bC_0 c11_bC_1 c11_bC_2 c11_bC_3 c11_bC_4 c11_bU_0 c11_bU_1 c11_bV_0 c11_bV_1
    have c12_b3_0 := b3_12.out.cell 0 rfl
    have c12_b3_1 := b3_12.out.cell 1 rfl
    have c12_b4_0 := b4_12.out.cell 0 rfl
    have c12_b4_1 := b4_12.out.cell 1 rfl
    have c12_b4_2 := b4_12.out.cell 2 rfl
    have c12_b4_3 := b4_12.out.cell 3 rfl
    have c12_b4_4 := b4_12.out.cell 4 rfl
    have c12_bB_0 := bB_12.out.cell 0 rfl
    have c12_bB_1 := bB_12.out.cell 1 rfl
    have c12_bB_2 := bB_12.out.cell 2 rfl
    have c12_bB_3 := bB_12.out.cell 3 rfl
    have c12_bB_4 := bB_12.out.cell 4 rfl
    have c12_bC_0 := bC_12.out.cell 0 rfl
    have c12_bC_1 := bC_12.out.cell 1 rfl
    have c12_bC_2 := bC_12.out.cell 2 rfl
    have c12_bC_3 := bC_12.out.cell 3 rfl
    have c12_bC_4 := bC_12.out.cell 4 rfl
    have c12_bU_0 := bU_12.out.cell 0 rfl
    have c12_bU_1 := bU_12.out.cell 1 rfl
    have c12_bV_0 := bV_12.out.cell 0 rfl
    have c12_bV_1 := bV_12.out.cell 1 rfl
    have bG_12 : Hid (Box (q4.alloc (.cells #[.int .i64 (backD u (backD d y)).vKind, .slice pG (backD u (backD d y)).vPath.length dG, .string (backD u (backD d y)).vTag, .string (strT (backD u (backD d y)).vTree), .slice aG (kidsOf (backD u (backD d y)).vTree).length cG] 29)) q4.heap.size [.int .i64 (backD u (backD d y)).vKind, .slice pG (backD u (backD d y)).vPath.length dG, .string (backD u (backD d y)).vTag, .string (strT (backD u (backD d y)).vTree), .slice aG (kidsOf (backD u (backD d y)).vTree).length cG] 29) := Box.new q4 _ _
    clear halG
    clear c12_b3_0 c12_b3_1 c12_b4_0 c12_b4_1 c12_b4_2 c12_b4_3 c12_b4_4 c12_bB_0 c12_bB_1 c12_bB_2 c12_bB_3 c12_bB_4 c12_bC_0 c12_bC_1 c12_bC_2 c12_bC_3 c12_bC_4 c12_bU_0 c12_bU_1 c12_bV_0 c12_bV_1
    have c12_b3_0 := b3_12.out.cell 0 rfl
    have c12_b3_1 := b3_12.out.cell 1 rfl
    have c12_b4_0 := b4_12.out.cell 0 rfl
    have c12_b4_1 := b4_12.out.cell 1 rfl
    have c12_b4_2 := b4_12.out.cell 2 rfl
    have c12_b4_3 := b4_12.out.cell 3 rfl
    have c12_b4_4 := b4_12.out.cell 4 rfl
    have c12_bB_0 := bB_12.out.cell 0 rfl
    have c12_bB_1 := bB_12.out.cell 1 rfl
    have c12_bB_2 := bB_12.out.cell 2 rfl
    have c12_bB_3 := bB_12.out.cell 3 rfl
    have c12_bB_4 := bB_12.out.cell 4 rfl
    have c12_bC_0 := bC_12.out.cell 0 rfl
    have c12_bC_1 := bC_12.out.cell 1 rfl
    have c12_bC_2 := bC_12.out.cell 2 rfl
    have c12_bC_3 := bC_12.out.cell 3 rfl
    have c12_bC_4 := bC_12.out.cell 4 rfl
    have c12_bU_0 := bU_12.out.cell 0 rfl
    have c12_bU_1 := bU_12.out.cell 1 rfl
    have c12_bV_0 := bV_12.out.cell 0 rfl
    have c12_bV_1 := bV_12.out.cell 1 rfl
    have c12_bG_0 := bG_12.out.cell 0 rfl
    have c12_bG_1 := bG_12.out.cell 1 rfl
    have c12_bG_2 := bG_12.out.cell 2 rfl
    have c12_bG_3 := bG_12.out.cell 3 rfl
    have c12_bG_4 := bG_12.out.cell 4 rfl
    go_wp2_with fail
    refine (implEdited_any tV_12.out tG_12.out).mono ?_
    rw [hwh.out]
    rintro e q5 hR
    obtain ⟨aW, cW, nW, rfl, hTW, hbW⟩ := EdR.one hR
    clear hR
    have hTWh : Hid (TreeAt q5 0 nW (.string (strT w9)) (.slice aW (kidsOf w9).length cW) w9) := hTW
    clear hTW
    have tD_13 : Hid (TreeAt q5 0 4 (.string (strT d)) (.slice aT (kidsOf d).length cT) d) := TreeAt.below tD_12.out hbW
    have eY_13 : Hid (EditAt 4 q5 0 [.int .i64 y.vKind, .slice ap y.vPath.length cp, .string y.vTag, .string (strT y.vTree), .slice aE (kidsOf y.vTree).length cE] y) := EditAt.stays _ _ _ _ _ _ (.of_below hbW) eY_12.out
    have b3_13 : Hid (Box q5 w2.heap.size [.string (strT d), .slice aT (kidsOf d).length cT] 26) := Box.below b3_12.out hbW (Box.lt b3_12.out)
    have b4_13 : Hid (Box q5 (w2.heap.size + 1) [.int .i64 y.vKind, .slice ap y.vPath.length cp, .string y.vTag, .string (strT y.vTree), .slice aE (kidsOf y.vTree).length cE] 29) := Box.below b4_12.out hbW (Box.lt b4_12.out)
    have tB_13 : Hid (EditAt nB q5 0 [.int .i64 (resE o).vKind, .slice pB (resE o).vPath.length dB, .string (resE o).vTag, .string (strT (resE o).vTree), .slice aB (kidsOf (resE o).vTree).length cB] (resE o)) := EditAt.stays _ _ _ _ _ _ (.of_below hbW) tB_12.out
    have bB_13 : Hid (Box q5 w3.heap.size [.int .i64 (resE o).vKind, .slice pB (resE o).vPath.length dB, .string (resE o).vTag, .string (strT (resE o).vTree), .slice aB (kidsOf (resE o).vTree).length cB] 29) := Box.below bB_12.out hbW (Box.lt bB_12.out)
    have tC_13 : Hid (EditAt nC q5 0 [.int .i64 (resE o).vKind, .slice pC (resE o).vPath.length dC, .string (resE o).vTag, .string (strT (resE o).vTree), .slice aC (kidsOf (resE o).vTree).length cC] (resE o)) := EditAt.stays _ _ _ _ _ _ (.of_below hbW) tC_12.out
    have bC_13 : Hid (Box q5 w4.heap.size [.int .i64 (resE o).vKind, .slice pC (resE o).vPath.length dC, .string (resE o).vTag, .string (strT (resE o).vTree), .slice aC (kidsOf (resE o).vTree).length cC] 29) := Box.below bC_12.out hbW (Box.lt bC_12.out)
    have tU_13 : Hid (TreeAt q5 0 nU (.string (strT u)) (.slice aU (kidsOf u).length cU) u) := TreeAt.below tU_12.out hbW
    have bU_13 : Hid (Box q5 q2.heap.size [.string (strT u), .slice aU (kidsOf u).length cU] 26) := Box.below bU_12.out hbW (Box.lt bU_12.out)
    have tV_13 : Hid (TreeAt q5 0 nV (.string (strT v)) (.slice aV (kidsOf v).length cV) v) := TreeAt.below tV_12.out hbW
    have bV_13 : Hid (Box q5 q3.heap.size [.string (strT v), .slice aV (kidsOf v).length cV] 26) := Box.below bV_12.out hbW (Box.lt bV_12.out)
    have tG_13 : Hid (EditAt nG q5 0 [.int .i64 (backD u (backD d y)).vKind, .slice pG (backD u (backD d y)).vPath.length dG, .string (backD u (backD d y)).vTag, .string (strT (backD u (backD d y)).vTree), .slice aG (kidsOf (backD u (backD d y)).vTree).length cG] (backD u (backD d y))) := EditAt.stays _ _ _ _ _ _ (.of_below hbW) tG_12.out
    have bG_13 : Hid (Box q5 q4.heap.size [.int .i64 (backD u (backD d y)).vKind, .slice pG (backD u (backD d y)).vPath.length dG, .string (backD u (backD d y)).vTag, .string (strT (backD u (backD d y)).vTree), .slice aG (kidsOf (backD u (backD d y)).vTree).length cG] 29) := Box.below bG_12.out hbW (Box.lt bG_12.out)
    clear tD_12 eY_12 b3_12 b4_12 tB_12 bB_12 tC_12 bC_12 tU_12 bU_12 tV_12 bV_12 tG_12 bG_12
    have hB13 : Hid (Below w.heap.size w q5) := hB12.out.trans (Below.mono hbW (Below.size hB12.out))
    clear hB12
    clear c12_b3_0 c12_b3_1 c12_b4_0 c12_b4_1 c12_b4_2 c12_b4_3 c12_b4_4 c12_bB_0 c12_bB_1 c12_bB_2 c12_bB_3 c12_bB_4 c12_bC_0 c12_bC_1 c12_bC_2 c12_bC_3 c12_bC_4 c12_bU_0 c12_bU_1 c12_bV_0 c12_bV_1 c12_bG_0 c12_bG_1 c12_bG_2 c12_bG_3 c12_bG_4
    have c13_b3_0 := b3_13.out.cell 0 rfl
    have c13_b3_1 := b3_13.out.cell 1 rfl
    have c13_b4_0 := b4_13.out.cell 0 rfl
    have c13_b4_1 := b4_13.out.cell 1 rfl
    have c13_b4_2 := b4_13.out.cell 2 rfl
    have c13_b4_3 := b4_13.out.cell 3 rfl
    have c13_b4_4 := b4_13.out.cell 4 rfl
    have c13_bB_0 := bB_13.out.cell 0 rfl
    have c13_bB_1 := bB_13.out.cell 1 rfl
    have c13_bB_2 := bB_13.out.cell 2 rfl
    have c13_bB_3 := bB_13.out.cell 3 rfl
    have c13_bB_4 := bB_13.out.cell 4 rfl
    have c13_bC_0 := bC_13.out.cell 0 rfl
    have c13_bC_1 := bC_13.out.cell 1 rfl
    have c13_bC_2 := bC_13.out.cell 2 rfl
    have c13_bC_3 := bC_13.out.cell 3 rfl
    have c13_bC_4 := bC_13.out.cell 4 rfl
    have c13_bU_0 := bU_13.out.cell 0 rfl
    have c13_bU_1 := bU_13.out.cell 1 rfl
    have c13_bV_0 := bV_13.out.cell 0 rfl
    have c13_bV_1 := bV_13.out.cell 1 rfl
    have c13_bG_0 := bG_13.out.cell 0 rfl
    have c13_bG_1 := bG_13.out.cell 1 rfl
    have c13_bG_2 := bG_13.out.cell 2 rfl
    have c13_bG_3 := bG_13.out.cell 3 rfl
    have c13_bG_4 := bG_13.out.cell 4 rfl
    have tW_13 : Hid (TreeAt q5 0 nW (.string (strT w9)) (.slice aW (kidsOf w9).length cW) w9) := hTWh
    clear hTWh hbW
    have halW : Below q5.heap.size q5 (q5.alloc (.cells #[.string (strT w9), .slice aW (kidsOf w9).length cW] 26)) := (Below.refl _ _).alloc (Nat.le_refl _) _
    have tD_14 : Hid (TreeAt (q5.alloc (.cells #[.string (strT w9), .slice aW (kidsOf w9).length cW] 26)) 0 4 (.string (strT d)) (.slice aT (kidsOf d).length cT) d) := TreeAt.below tD_13.out halW
    have eY_14 : Hid (EditAt 4 (q5.alloc (.cells #[.string (strT w9), .slice aW (kidsOf w9).length cW] 26)) 0 [.int .i64 y.vKind, .slice ap y.vPath.length cp, .string y.vTag, .string (strT y.vTree), .slice aE (kidsOf y.vTree).length cE] y) := EditAt.stays _ _ _ _ _ _ (.of_below halW) eY_13.out
    have b3_14 : Hid (Box (q5.alloc (.cells #[.string (strT w9), .slice aW (kidsOf w9).length cW] 26)) w2.heap.size [.string (strT d), .slice aT (kidsOf d).length cT] 26) := Box.below b3_13.out halW (Box.lt b3_13.out)
    have b4_14 : Hid (Box (q5.alloc (.cells #[.string (strT w9), .slice aW (kidsOf w9).length cW] 26)) (w2.heap.size + 1) [.int .i64 y.vKind, .slice ap y.vPath.length cp, .string y.vTag, .string (strT y.vTree), .slice aE (kidsOf y.vTree).length cE] 29) := Box.below b4_13.out halW (Box.lt b4_13.out)
    have tB_14 : Hid (EditAt nB (q5.alloc (.cells #[.string (strT w9), .slice aW (kidsOf w9).length cW] 26)) 0 [.int .i64 (resE o).vKind, .slice pB (resE o).vPath.length dB, .string (resE o).vTag, .string (strT (resE o).vTree), .slice aB (kidsOf (resE o).vTree).length cB] (resE o)) := EditAt.stays _ _ _ _ _ _ (.of_below halW) tB_13.out
    have bB_14 : Hid (Box (q5.alloc (.cells #[.string (strT w9), .slice aW (kidsOf w9).length cW] 26)) w3.heap.size [.int .i64 (resE o).vKind, .slice pB (resE o).vPath.length dB, .string (resE o).vTag, .string (strT (resE o).vTree), .slice aB (kidsOf (resE o).vTree).length cB] 29) := Box.below bB_13.out halW (Box.lt bB_13.out)
    have tC_14 : Hid (EditAt nC (q5.alloc (.cells #[.string (strT w9), .slice aW (kidsOf w9).length cW] 26)) 0 [.int .i64 (resE o).vKind, .slice pC (resE o).vPath.length dC, .string (resE o).vTag, .string (strT (resE o).vTree), .slice aC (kidsOf (resE o).vTree).length cC] (resE o)) := EditAt.stays _ _ _ _ _ _ (.of_below halW) tC_13.out
    have bC_14 : Hid (Box (q5.alloc (.cells #[.string (strT w9), .slice aW (kidsOf w9).length cW] 26)) w4.heap.size [.int .i64 (resE o).vKind, .slice pC (resE o).vPath.length dC, .string (resE o).vTag, .string (strT (resE o).vTree), .slice aC (kidsOf (resE o).vTree).length cC] 29) := Box.below bC_13.out halW (Box.lt bC_13.out)
    have tU_14 : Hid (TreeAt (q5.alloc (.cells #[.string (strT w9), .slice aW (kidsOf w9).length cW] 26)) 0 nU (.string (strT u)) (.slice aU (kidsOf u).length cU) u) := TreeAt.below tU_13.out halW
    have bU_14 : Hid (Box (q5.alloc (.cells #[.string (strT w9), .slice aW (kidsOf w9).length cW] 26)) q2.heap.size [.string (strT u), .slice aU (kidsOf u).length cU] 26) := Box.below bU_13.out halW (Box.lt bU_13.out)
    have tV_14 : Hid (TreeAt (q5.alloc (.cells #[.string (strT w9), .slice aW (kidsOf w9).length cW] 26)) 0 nV (.string (strT v)) (.slice aV (kidsOf v).length cV) v) := TreeAt.below tV_13.out halW
    have bV_14 : Hid (Box (q5.alloc (.cells #[.string (strT w9), .slice aW (kidsOf w9).length cW] 26)) q3.heap.size [.string (strT v), .slice aV (kidsOf v).length cV] 26) := Box.below bV_13.out halW (Box.lt bV_13.out)
    have tG_14 : Hid (EditAt nG (q5.alloc (.cells #[.string (strT w9), .slice aW (kidsOf w9).length cW] 26)) 0 [.int .i64 (backD u (backD d y)).vKind, .slice pG (backD u (backD d y)).vPath.length dG, .string (backD u (backD d y)).vTag, .string (strT (backD u (backD d y)).vTree), .slice aG (kidsOf (backD u (backD d y)).vTree).length cG] (backD u (backD d y))) := EditAt.stays _ _ _ _ _ _ (.of_below halW) tG_13.out
    have bG_14 : Hid (Box (q5.alloc (.cells #[.string (strT w9), .slice aW (kidsOf w9).length cW] 26)) q4.heap.size [.int .i64 (backD u (backD d y)).vKind, .slice pG (backD u (backD d y)).vPath.length dG, .string (backD u (backD d y)).vTag, .string (strT (backD u (backD d y)).vTree), .slice aG (kidsOf (backD u (backD d y)).vTree).length cG] 29) := Box.below bG_13.out halW (Box.lt bG_13.out)
    have tW_14 : Hid (TreeAt (q5.alloc (.cells #[.string (strT w9), .slice aW (kidsOf w9).length cW] 26)) 0 nW (.string (strT w9)) (.slice aW (kidsOf w9).length cW) w9) := TreeAt.below tW_13.out halW
    clear tD_13 eY_13 b3_13 b4_13 tB_13 bB_13 tC_13 bC_13 tU_13 bU_13 tV_13 bV_13 tG_13 bG_13 tW_13
    have hB14 : Hid (Below w.heap.size w (q5.alloc (.cells #[.string (strT w9), .slice aW (kidsOf w9).length cW] 26))) := hB13.out.trans (Below.mono halW (Below.size hB13.out))
    clear hB13
    clear c13_b3_0 c13_b3_1 c13_b4_0 c13_b4_1 c13_b4_2 c13_b4_3 c13_b4_4 c13_bB_0 c13_bB_1 c13_bB_2 c13_bB_3 c13_bB_4 c13_bC_0 c13_bC_1 c13_bC_2 c13_bC_3 c13_bC_4 c13_bU_0 c13_bU_1 c13_bV_0 c13_bV_1 c13_bG_0 c13_bG_1 c13_bG_2 c13_bG_3 c13_bG_4
    have c14_b3_0 := b3_14.out.cell 0 rfl
    have c14_b3_1 := b3_14.out.cell 1 rfl
    have c14_b4_0 := b4_14.out.cell 0 rfl
    have c14_b4_1 := b4_14.out.cell 1 rfl
    have c14_b4_2 := b4_14.out.cell 2 rfl
    have c14_b4_3 := b4_14.out.cell 3 rfl
    have c14_b4_4 := b4_14.out.cell 4 rfl
    have c14_bB_0 := bB_14.out.cell 0 rfl
    have c14_bB_1 := bB_14.out.cell 1 rfl
    have c14_bB_2 := bB_14.out.cell 2 rfl
    have c14_bB_3 := bB_14.out.cell 3 rfl
    have c14_bB_4 := bB_14.out.cell 4 rfl
    have c14_bC_0 := bC_14.out.cell 0 rfl
    have c14_bC_1 := bC_14.out.cell 1 rfl
    have c14_bC_2 := bC_14.out.cell 2 rfl
    have c14_bC_3 := bC_14.out.cell 3 rfl
    have c14_bC_4 := bC_14.out.cell 4 rfl
    have c14_bU_0 := bU_14.out.cell 0 rfl
    have c14_bU_1 := bU_14.out.cell 1 rfl
    have c14_bV_0 := bV_14.out.cell 0 rfl
    have c14_bV_1 := bV_14.out.cell 1 rfl
    have c14_bG_0 := bG_14.out.cell 0 rfl
    have c14_bG_1 := bG_14.out.cell 1 rfl
    have c14_bG_2 := bG_14.out.cell 2 rfl
    have c14_bG_3 := bG_14.out.cell 3 rfl
    have c14_bG_4 := bG_14.out.cell 4 rfl
    have bW_14 : Hid (Box (q5.alloc (.cells #[.string (strT w9), .slice aW (kidsOf w9).length cW] 26)) q5.heap.size [.string (strT w9), .slice aW (kidsOf w9).length cW] 26) := Box.new q5 _ _
    clear halW
    clear c14_b3_0 c14_b3_1 c14_b4_0 c14_b4_1 c14_b4_2 c14_b4_3 c14_b4_4 c14_bB_0 c14_bB_1 c14_bB_2 c14_bB_3 c14_bB_4 c14_bC_0 c14_bC_1 c14_bC_2 c14_bC_3 c14_bC_4 c14_bU_0 c14_bU_1 c14_bV_0 c14_bV_1 c14_bG_0 c14_bG_1 c14_bG_2 c14_bG_3 c14_bG_4
    have c14_b3_0 := b3_14.out.cell 0 rfl
    have c14_b3_1 := b3_14.out.cell 1 rfl
    have c14_b4_0 := b4_14.out.cell 0 rfl
    have c14_b4_1 := b4_14.out.cell 1 rfl
    have c14_b4_2 := b4_14.out.cell 2 rfl
    have c14_b4_3 := b4_14.out.cell 3 rfl
    have c14_b4_4 := b4_14.out.cell 4 rfl
    have c14_bB_0 := bB_14.out.cell 0 rfl
    have c14_bB_1 := bB_14.out.cell 1 rfl
    have c14_bB_2 := bB_14.out.cell 2 rfl
    have c14_bB_3 := bB_14.out.cell 3 rfl
    have c14_bB_4 := bB_14.out.cell 4 rfl
    have c14_bC_0 := bC_14.out.cell 0 rfl
    have c14_bC_1 := bC_14.out.cell 1 rfl
    have c14_bC_2 := bC_14.out.cell 2 rfl
    have c14_bC_3 := bC_14.out.cell 3 rfl
    have c14_bC_4 := bC_14.out.cell 4 rfl
    have c14_bU_0 := bU_14.out.cell 0 rfl
    have c14_bU_1 := bU_14.out.cell 1 rfl
    have c14_bV_0 := bV_14.out.cell 0 rfl
    have c14_bV_1 := bV_14.out.cell 1 rfl
    have c14_bG_0 := bG_14.out.cell 0 rfl
    have c14_bG_1 := bG_14.out.cell 1 rfl
    have c14_bG_2 := bG_14.out.cell 2 rfl
    have c14_bG_3 := bG_14.out.cell 3 rfl
    have c14_bG_4 := bG_14.out.cell 4 rfl
    have c14_bW_0 := bW_14.out.cell 0 rfl
    have c14_bW_1 := bW_14.out.cell 1 rfl
    obtain ⟨L, hL1, hL2, hL3, hL4⟩ : ∃ L, nU ≤ L ∧ nV ≤ L ∧ nW ≤ L ∧ 4 ≤ L := ⟨nU + nV + nW + 4, by omega, by omega, by omega, by omega⟩
    go_upto_region 12 with fail
    have hk0 : Hid (Below (World.heap (q5.alloc (.cells #[.string (strT w9), .slice aW (kidsOf w9).length cW] 26))).size (q5.alloc (.cells #[.string (strT w9), .slice aW (kidsOf w9).length cW] 26)) (World.drew (q5.alloc (.cells #[.string (strT w9), .slice aW (kidsOf w9).length cW] 26)))) := Below.drew (Below.refl _ _)
    refine wp_region_held_drew (S := fun w' => w'.cell? ⟨w2.heap.size, 0, none⟩ = some (.string (strT d)) ∧ w'.cell? ⟨w2.heap.size, 1, none⟩ = some (.slice aT (kidsOf d).length cT) ∧ w'.cell? ⟨q2.heap.size, 0, none⟩ = some (.string (strT u)) ∧ w'.cell? ⟨q2.heap.size, 1, none⟩ = some (.slice aU (kidsOf u).length cU) ∧ w'.cell? ⟨q3.heap.size, 0, none⟩ = some (.string (strT v)) ∧ w'.cell? ⟨q3.heap.size, 1, none⟩ = some (.slice aV (kidsOf v).length cV) ∧ w'.cell? ⟨q5.heap.size, 0, none⟩ = some (.string (strT w9)) ∧ w'.cell? ⟨q5.heap.size, 1, none⟩ = some (.slice aW (kidsOf w9).length cW)) (by kernel_rfl) ⟨b3_14.out.cell 0 rfl, b3_14.out.cell 1 rfl, bU_14.out.cell 0 rfl, bU_14.out.cell 1 rfl, bV_14.out.cell 0 rfl, bV_14.out.cell 1 rfl, bW_14.out.cell 0 rfl, bW_14.out.cell 1 rfl⟩ (fun hHeld => ?_)
    refine tq (i := 0) (d := 99) ?_
    simp only [sz, ss]
    refine tq (i := 1) (d := 100) ?_
    simp only [sz, ss]
    refine tq (i := 2) (d := 101) ?_
    simp only [sz, ss]
    refine tq (i := 4) (d := 103) ?_
    simp only [sz, ss]
    refine wpAnyH_ready (rs := [3]) (by kernel_rfl) (by simp) ?_
    refine AllReadyH.cons rfl (fun K hK => ?_) AllReadyH.nil
    go_simp
    refine (implTreeText_any (TreeAt.mono hL2 (by exact TreeAt.below tV_14.out hk0.out))).mono ?_
    rw [sim_textR (hs1h.out L)]
    rintro e s1 ⟨rfl, hb1⟩
    have hk1 : Hid (Below (World.heap (q5.alloc (.cells #[.string (strT w9), .slice aW (kidsOf w9).length cW] 26))).size (q5.alloc (.cells #[.string (strT w9), .slice aW (kidsOf w9).length cW] 26)) s1) := hk0.out.trans (Below.mono hb1 (Below.size hk0.out))
    refine hK.out _ _ ⟨cell_on hb1 hHeld.1, cell_on hb1 hHeld.2.1, cell_on hb1 hHeld.2.2.1, cell_on hb1 hHeld.2.2.2.1, cell_on hb1 hHeld.2.2.2.2.1, cell_on hb1 hHeld.2.2.2.2.2.1, cell_on hb1 hHeld.2.2.2.2.2.2.1, cell_on hb1 hHeld.2.2.2.2.2.2.2⟩ (fun hHeld => ?_)
    clear hK K
    refine wpAnyH_ready (rs := [5]) (by kernel_rfl) (by simp) ?_
    refine AllReadyH.cons rfl (fun K hK => ?_) AllReadyH.nil
    go_simp
    refine (implTreeText_any (TreeAt.mono hL4 (by exact TreeAt.below tD_14.out hk1.out))).mono ?_
    rintro e s2 ⟨rfl, hb1⟩
    have hk2 : Hid (Below (World.heap (q5.alloc (.cells #[.string (strT w9), .slice aW (kidsOf w9).length cW] 26))).size (q5.alloc (.cells #[.string (strT w9), .slice aW (kidsOf w9).length cW] 26)) s2) := hk1.out.trans (Below.mono hb1 (Below.size hk1.out))
    refine hK.out _ _ ⟨cell_on hb1 hHeld.1, cell_on hb1 hHeld.2.1, cell_on hb1 hHeld.2.2.1, cell_on hb1 hHeld.2.2.2.1, cell_on hb1 hHeld.2.2.2.2.1, cell_on hb1 hHeld.2.2.2.2.2.1, cell_on hb1 hHeld.2.2.2.2.2.2.1, cell_on hb1 hHeld.2.2.2.2.2.2.2⟩ (fun hHeld => ?_)
    clear hK K
    refine take_lit (i := 6) (d := 105) (v := .bool true) rfl rfl (by kernel_rfl) (by kernel_rfl) (by kernel_rfl) (fun _ _ _ h => h) (Or.inl ⟨by rfl, ?_⟩) (by assumption) ?_
    · intro w9 _; go_simp
    simp only [sz, ss]
    refine tq (i := 7) (d := 106) ?_
    simp only [sz, ss]
    refine tq (i := 8) (d := 107) ?_
    simp only [sz, ss]
    refine tq (i := 9) (d := 108) ?_
    simp only [sz, ss]
    refine tq (i := 10) (d := 109) ?_
    simp only [sz, ss]
    refine tq (i := 11) (d := 110) ?_
    simp only [sz, ss]
    refine tq (i := 12) (d := 111) ?_
    simp only [sz, ss]
    refine tq (i := 13) (d := 112) ?_
    simp only [sz, ss]
    refine tq (i := 14) (d := 113) ?_
    simp only [sz, ss]
    refine tq (i := 15) (d := 114) ?_
    simp only [sz, ss]
    refine tq (i := 17) (d := 116) ?_
    simp only [sz, ss]
    refine wpAnyH_ready (rs := [16]) (by kernel_rfl) (by simp) ?_
    refine AllReadyH.cons rfl (fun K hK => ?_) AllReadyH.nil
    go_simp
    refine (implTreeText_any (TreeAt.mono hL3 (by exact TreeAt.below tW_14.out hk2.out))).mono ?_
    rw [sim_textR (hs2h.out L)]
    rintro e s3 ⟨rfl, hb1⟩
    have hk3 : Hid (Below (World.heap (q5.alloc (.cells #[.string (strT w9), .slice aW (kidsOf w9).length cW] 26))).size (q5.alloc (.cells #[.string (strT w9), .slice aW (kidsOf w9).length cW] 26)) s3) := hk2.out.trans (Below.mono hb1 (Below.size hk2.out))
    refine hK.out _ _ ⟨cell_on hb1 hHeld.1, cell_on hb1 hHeld.2.1, cell_on hb1 hHeld.2.2.1, cell_on hb1 hHeld.2.2.2.1, cell_on hb1 hHeld.2.2.2.2.1, cell_on hb1 hHeld.2.2.2.2.2.1, cell_on hb1 hHeld.2.2.2.2.2.2.1, cell_on hb1 hHeld.2.2.2.2.2.2.2⟩ (fun hHeld => ?_)
    clear hK K
    refine wpAnyH_ready (rs := [18]) (by kernel_rfl) (by simp) ?_
    refine AllReadyH.cons rfl (fun K hK => ?_) AllReadyH.nil
    go_simp
    refine (implTreeText_any (TreeAt.mono hL1 (by exact TreeAt.below tU_14.out hk3.out))).mono ?_
    rintro e s4 ⟨rfl, hb1⟩
    have hk4 : Hid (Below (World.heap (q5.alloc (.cells #[.string (strT w9), .slice aW (kidsOf w9).length cW] 26))).size (q5.alloc (.cells #[.string (strT w9), .slice aW (kidsOf w9).length cW] 26)) s4) := hk3.out.trans (Below.mono hb1 (Below.size hk3.out))
    refine hK.out _ _ ⟨cell_on hb1 hHeld.1, cell_on hb1 hHeld.2.1, cell_on hb1 hHeld.2.2.1, cell_on hb1 hHeld.2.2.2.1, cell_on hb1 hHeld.2.2.2.2.1, cell_on hb1 hHeld.2.2.2.2.2.1, cell_on hb1 hHeld.2.2.2.2.2.2.1, cell_on hb1 hHeld.2.2.2.2.2.2.2⟩ (fun hHeld => ?_)
    clear hK K
    refine take_lit (i := 19) (d := 118) (v := .bool true) rfl rfl (by kernel_rfl) (by kernel_rfl) (by kernel_rfl) (fun _ _ _ h => h) (Or.inl ⟨by rfl, ?_⟩) (by assumption) ?_
    · intro w9 _; go_simp
    simp only [sz, ss]
    refine tq (i := 20) (d := 119) ?_
    simp only [sz, ss]
    refine tq (i := 21) (d := 2) ?_
    simp only [sz, ss]
    refine wpAnyH_done (by kernel_rfl) ?_ _
    clear hHeld hb1
    have hbo := hk4.out
    clear hk0 hk1 hk2 hk3 hk4
    have tD_15 : Hid (TreeAt s4 0 4 (.string (strT d)) (.slice aT (kidsOf d).length cT) d) := TreeAt.below tD_14.out hbo
    have eY_15 : Hid (EditAt 4 s4 0 [.int .i64 y.vKind, .slice ap y.vPath.length cp, .string y.vTag, .string (strT y.vTree), .slice aE (kidsOf y.vTree).length cE] y) := EditAt.stays _ _ _ _ _ _ (.of_below hbo) eY_14.out
    have b3_15 : Hid (Box s4 w2.heap.size [.string (strT d), .slice aT (kidsOf d).length cT] 26) := Box.below b3_14.out hbo (Box.lt b3_14.out)
    have b4_15 : Hid (Box s4 (w2.heap.size + 1) [.int .i64 y.vKind, .slice ap y.vPath.length cp, .string y.vTag, .string (strT y.vTree), .slice aE (kidsOf y.vTree).length cE] 29) := Box.below b4_14.out hbo (Box.lt b4_14.out)
    have tB_15 : Hid (EditAt nB s4 0 [.int .i64 (resE o).vKind, .slice pB (resE o).vPath.length dB, .string (resE o).vTag, .string (strT (resE o).vTree), .slice aB (kidsOf (resE o).vTree).length cB] (resE o)) := EditAt.stays _ _ _ _ _ _ (.of_below hbo) tB_14.out
    have bB_15 : Hid (Box s4 w3.heap.size [.int .i64 (resE o).vKind, .slice pB (resE o).vPath.length dB, .string (resE o).vTag, .string (strT (resE o).vTree), .slice aB (kidsOf (resE o).vTree).length cB] 29) := Box.below bB_14.out hbo (Box.lt bB_14.out)
    have tC_15 : Hid (EditAt nC s4 0 [.int .i64 (resE o).vKind, .slice pC (resE o).vPath.length dC, .string (resE o).vTag, .string (strT (resE o).vTree), .slice aC (kidsOf (resE o).vTree).length cC] (resE o)) := EditAt.stays _ _ _ _ _ _ (.of_below hbo) tC_14.out
    have bC_15 : Hid (Box s4 w4.heap.size [.int .i64 (resE o).vKind, .slice pC (resE o).vPath.length dC, .string (resE o).vTag, .string (strT (resE o).vTree), .slice aC (kidsOf (resE o).vTree).length cC] 29) := Box.below bC_14.out hbo (Box.lt bC_14.out)
    have tU_15 : Hid (TreeAt s4 0 nU (.string (strT u)) (.slice aU (kidsOf u).length cU) u) := TreeAt.below tU_14.out hbo
    have bU_15 : Hid (Box s4 q2.heap.size [.string (strT u), .slice aU (kidsOf u).length cU] 26) := Box.below bU_14.out hbo (Box.lt bU_14.out)
    have tV_15 : Hid (TreeAt s4 0 nV (.string (strT v)) (.slice aV (kidsOf v).length cV) v) := TreeAt.below tV_14.out hbo
    have bV_15 : Hid (Box s4 q3.heap.size [.string (strT v), .slice aV (kidsOf v).length cV] 26) := Box.below bV_14.out hbo (Box.lt bV_14.out)
    have tG_15 : Hid (EditAt nG s4 0 [.int .i64 (backD u (backD d y)).vKind, .slice pG (backD u (backD d y)).vPath.length dG, .string (backD u (backD d y)).vTag, .string (strT (backD u (backD d y)).vTree), .slice aG (kidsOf (backD u (backD d y)).vTree).length cG] (backD u (backD d y))) := EditAt.stays _ _ _ _ _ _ (.of_below hbo) tG_14.out
    have bG_15 : Hid (Box s4 q4.heap.size [.int .i64 (backD u (backD d y)).vKind, .slice pG (backD u (backD d y)).vPath.length dG, .string (backD u (backD d y)).vTag, .string (strT (backD u (backD d y)).vTree), .slice aG (kidsOf (backD u (backD d y)).vTree).length cG] 29) := Box.below bG_14.out hbo (Box.lt bG_14.out)
    have tW_15 : Hid (TreeAt s4 0 nW (.string (strT w9)) (.slice aW (kidsOf w9).length cW) w9) := TreeAt.below tW_14.out hbo
    have bW_15 : Hid (Box s4 q5.heap.size [.string (strT w9), .slice aW (kidsOf w9).length cW] 26) := Box.below bW_14.out hbo (Box.lt bW_14.out)
    clear tD_14 eY_14 b3_14 b4_14 tB_14 bB_14 tC_14 bC_14 tU_14 bU_14 tV_14 bV_14 tG_14 bG_14 tW_14 bW_14
    have hB15 : Hid (Below w.heap.size w s4) := hB14.out.trans (Below.mono hbo (Below.size hB14.out))
    clear hB14
    clear c14_b3_0 c14_b3_1 c14_b4_0 c14_b4_1 c14_b4_2 c14_b4_3 c14_b4_4 c14_bB_0 c14_bB_1 c14_bB_2 c14_bB_3 c14_bB_4 c14_bC_0 c14_bC_1 c14_bC_2 c14_bC_3 c14_bC_4 c14_bU_0 c14_bU_1 c14_bV_0 c14_bV_1 c14_bG_0 c14_bG_1 c14_bG_2 c14_bG_3 c14_bG_4 c14_bW_0 c14_bW_1
    have c15_b3_0 := b3_15.out.cell 0 rfl
    have c15_b3_1 := b3_15.out.cell 1 rfl
    have c15_b4_0 := b4_15.out.cell 0 rfl
    have c15_b4_1 := b4_15.out.cell 1 rfl
    have c15_b4_2 := b4_15.out.cell 2 rfl
    have c15_b4_3 := b4_15.out.cell 3 rfl
    have c15_b4_4 := b4_15.out.cell 4 rfl
    have c15_bB_0 := bB_15.out.cell 0 rfl
    have c15_bB_1 := bB_15.out.cell 1 rfl
    have c15_bB_2 := bB_15.out.cell 2 rfl
    have c15_bB_3 := bB_15.out.cell 3 rfl
    have c15_bB_4 := bB_15.out.cell 4 rfl
    have c15_bC_0 := bC_15.out.cell 0 rfl
    have c15_bC_1 := bC_15.out.cell 1 rfl
    have c15_bC_2 := bC_15.out.cell 2 rfl
    have c15_bC_3 := bC_15.out.cell 3 rfl
    have c15_bC_4 := bC_15.out.cell 4 rfl
    have c15_bU_0 := bU_15.out.cell 0 rfl
    have c15_bU_1 := bU_15.out.cell 1 rfl
    have c15_bV_0 := bV_15.out.cell 0 rfl
    have c15_bV_1 := bV_15.out.cell 1 rfl
    have c15_bG_0 := bG_15.out.cell 0 rfl
    have c15_bG_1 := bG_15.out.cell 1 rfl
    have c15_bG_2 := bG_15.out.cell 2 rfl
    have c15_bG_3 := bG_15.out.cell 3 rfl
    have c15_bG_4 := bG_15.out.cell 4 rfl
    have c15_bW_0 := bW_15.out.cell 0 rfl
    have c15_bW_1 := bW_15.out.cell 1 rfl
    clear hbo
    go_wp2_with fail
    go_ret
    exact ⟨rfl, hB15.out⟩
end Go.Proofs.Ytndffcogddefiaa.fnUndone
