/- Both tests of an op, at every op: one answer. -/
import Derived.Test.YtiegfonakdcciaaOpSpecW
import Derived.Test.YtiegfonakdcciaaOpSpecZ
import Derived.Test.YtiegfonakdcciaaOpSpecN
import Derived.Test.YtiegfonakdcciaaOpSpecM
import Derived.Test.YtiegfonakdcciaaOpSpecF
import Derived.Test.YtiegfonakdcciaaOpSpecO
import Derived.Test.YtiegfonakdcciaaOpSpecL
import Derived.Test.YtiegfonakdcciaaOpRight
namespace Go.Proofs.Ytiegfonakdcciaa
open Go.RowKit
theorem same_w (x : OpD) : (decide (wordFormRest x) && wordFormB x) = sp_w x := by
  by_cases hR : wordFormRest x
  · rw [decide_eq_true hR, Bool.true_and]
    unfold wordFormRest at hR
    unfold wordFormB sp_w lisZ
    simp [hR, Bool.and_comm]
  · rw [decide_eq_false hR, Bool.false_and]
    cases hs : sp_w x with
    | false => rfl
    | true =>
      exfalso
      apply hR
      unfold sp_w lisZ at hs
      simp only [Bool.and_eq_true, decide_eq_true_eq] at hs
      unfold wordFormRest
      simp [hs]
theorem same_n (x : OpD) : (decide (nameFormRest x) && nameFormB x) = sp_n x := by
  by_cases hR : nameFormRest x
  · rw [decide_eq_true hR, Bool.true_and]
    unfold nameFormRest at hR
    unfold nameFormB sp_n lisZ
    simp [hR, Bool.and_comm]
  · rw [decide_eq_false hR, Bool.false_and]
    cases hs : sp_n x with
    | false => rfl
    | true =>
      exfalso
      apply hR
      unfold sp_n lisZ at hs
      simp only [Bool.and_eq_true, decide_eq_true_eq] at hs
      unfold nameFormRest
      simp [hs]
theorem same_f (x : OpD) : (decide (fieldFormRest x) && fieldFormB x) = sp_f x := by
  by_cases hR : fieldFormRest x
  · rw [decide_eq_true hR, Bool.true_and]
    unfold fieldFormRest at hR
    unfold fieldFormB sp_f lisZ
    simp [hR, Bool.and_comm, Bool.and_left_comm]
  · rw [decide_eq_false hR, Bool.false_and]
    cases hs : sp_f x with
    | false => rfl
    | true =>
      exfalso
      apply hR
      unfold sp_f lisZ at hs
      simp only [Bool.and_eq_true, decide_eq_true_eq] at hs
      unfold fieldFormRest
      simp [hs]
theorem same_o (x : OpD) : (decide (otherFormRest x) && otherFormB x) = sp_o x := by
  by_cases hR : otherFormRest x
  · rw [decide_eq_true hR, Bool.true_and]
    unfold otherFormRest at hR
    unfold otherFormB sp_o lisZ
    simp [hR, Bool.and_comm]
  · rw [decide_eq_false hR, Bool.false_and]
    cases hs : sp_o x with
    | false => rfl
    | true =>
      exfalso
      apply hR
      unfold sp_o lisZ at hs
      simp only [Bool.and_eq_true, decide_eq_true_eq] at hs
      unfold otherFormRest
      simp [hs]
theorem same_l (x : OpD) : (decide (listenerFormRest x) && listenerFormB x) = sp_l x := by
  by_cases hR : listenerFormRest x
  · rw [decide_eq_true hR, Bool.true_and]
    unfold listenerFormRest at hR
    unfold listenerFormB sp_l
    simp [hR, Bool.and_comm]
  · rw [decide_eq_false hR, Bool.false_and]
    cases hs : sp_l x with
    | false => rfl
    | true =>
      exfalso
      apply hR
      unfold sp_l at hs
      simp only [Bool.and_eq_true, decide_eq_true_eq] at hs
      unfold listenerFormRest
      simp [hs]
def okB (x : OpD) : Bool := if x.vKind = 1 then sp_w x else if x.vKind = 2 then sp_n x else if x.vKind = 3 then sp_f x else if x.vKind = 4 then sp_f x else if x.vKind = 5 then sp_w x else if x.vKind = 6 then sp_n x else if x.vKind = 7 then sp_o x else if x.vKind = 8 then sp_o x else if x.vKind = 9 then sp_n x else if x.vKind = 10 then sp_n x else if x.vKind = 11 then sp_o x else if x.vKind = 12 then sp_l x else false
set_option maxHeartbeats 800000 in
theorem implOpOk1 {w : World} {x : OpD} (hx : x.fits) :
    Calls Try.prog 7 #[.agg #[.int .i64 1, .string x.vName, .string x.vOther, .string x.vWord, .string x.vType, .bool x.vCapture, .bool x.vOnce, .int .i64 x.vStop, .string x.vLname]] w fun e w' => e = .returned (.bool (sp_w x)) ∧ Below w.heap.size w w' := by
  have hx' : Hid x.fits := hx
  clear hx
  have hb0 : Below w.heap.size w (w.alloc (.cells #[.int .i64 1, .string x.vName, .string x.vOther, .string x.vWord, .string x.vType, .bool x.vCapture, .bool x.vOnce, .int .i64 x.vStop, .string x.vLname] 30)) := (Below.refl _ _).alloc (Nat.le_refl _) _
  go_enter Try.func7, Try.ntmps7
  go_wp2_with fail
  refine (rightAction1 hx'.out).mono ?_
  rintro e w1 ⟨rfl, hb1⟩
  rw [same_w]
  go_wp2_with fail
  go_ret
  exact ⟨rfl, hb0.trans (hb1.mono hb0.size)⟩
set_option maxHeartbeats 800000 in
theorem implOpOk2 {w : World} {x : OpD} (hx : x.fits) :
    Calls Try.prog 7 #[.agg #[.int .i64 2, .string x.vName, .string x.vOther, .string x.vWord, .string x.vType, .bool x.vCapture, .bool x.vOnce, .int .i64 x.vStop, .string x.vLname]] w fun e w' => e = .returned (.bool (sp_n x)) ∧ Below w.heap.size w w' := by
  have hx' : Hid x.fits := hx
  clear hx
  have hb0 : Below w.heap.size w (w.alloc (.cells #[.int .i64 2, .string x.vName, .string x.vOther, .string x.vWord, .string x.vType, .bool x.vCapture, .bool x.vOnce, .int .i64 x.vStop, .string x.vLname] 30)) := (Below.refl _ _).alloc (Nat.le_refl _) _
  go_enter Try.func7, Try.ntmps7
  go_wp2_with fail
  refine (rightAction2 hx'.out).mono ?_
  rintro e w1 ⟨rfl, hb1⟩
  rw [same_n]
  go_wp2_with fail
  go_ret
  exact ⟨rfl, hb0.trans (hb1.mono hb0.size)⟩
set_option maxHeartbeats 800000 in
theorem implOpOk3 {w : World} {x : OpD} (hx : x.fits) :
    Calls Try.prog 7 #[.agg #[.int .i64 3, .string x.vName, .string x.vOther, .string x.vWord, .string x.vType, .bool x.vCapture, .bool x.vOnce, .int .i64 x.vStop, .string x.vLname]] w fun e w' => e = .returned (.bool (sp_f x)) ∧ Below w.heap.size w w' := by
  have hx' : Hid x.fits := hx
  clear hx
  have hb0 : Below w.heap.size w (w.alloc (.cells #[.int .i64 3, .string x.vName, .string x.vOther, .string x.vWord, .string x.vType, .bool x.vCapture, .bool x.vOnce, .int .i64 x.vStop, .string x.vLname] 30)) := (Below.refl _ _).alloc (Nat.le_refl _) _
  go_enter Try.func7, Try.ntmps7
  go_wp2_with fail
  refine (rightAction3 hx'.out).mono ?_
  rintro e w1 ⟨rfl, hb1⟩
  rw [same_f]
  go_wp2_with fail
  go_ret
  exact ⟨rfl, hb0.trans (hb1.mono hb0.size)⟩
set_option maxHeartbeats 800000 in
theorem implOpOk4 {w : World} {x : OpD} (hx : x.fits) :
    Calls Try.prog 7 #[.agg #[.int .i64 4, .string x.vName, .string x.vOther, .string x.vWord, .string x.vType, .bool x.vCapture, .bool x.vOnce, .int .i64 x.vStop, .string x.vLname]] w fun e w' => e = .returned (.bool (sp_f x)) ∧ Below w.heap.size w w' := by
  have hx' : Hid x.fits := hx
  clear hx
  have hb0 : Below w.heap.size w (w.alloc (.cells #[.int .i64 4, .string x.vName, .string x.vOther, .string x.vWord, .string x.vType, .bool x.vCapture, .bool x.vOnce, .int .i64 x.vStop, .string x.vLname] 30)) := (Below.refl _ _).alloc (Nat.le_refl _) _
  go_enter Try.func7, Try.ntmps7
  go_wp2_with fail
  refine (rightAction4 hx'.out).mono ?_
  rintro e w1 ⟨rfl, hb1⟩
  rw [same_f]
  go_wp2_with fail
  go_ret
  exact ⟨rfl, hb0.trans (hb1.mono hb0.size)⟩
set_option maxHeartbeats 800000 in
theorem implOpOk5 {w : World} {x : OpD} (hx : x.fits) :
    Calls Try.prog 7 #[.agg #[.int .i64 5, .string x.vName, .string x.vOther, .string x.vWord, .string x.vType, .bool x.vCapture, .bool x.vOnce, .int .i64 x.vStop, .string x.vLname]] w fun e w' => e = .returned (.bool (sp_w x)) ∧ Below w.heap.size w w' := by
  have hx' : Hid x.fits := hx
  clear hx
  have hb0 : Below w.heap.size w (w.alloc (.cells #[.int .i64 5, .string x.vName, .string x.vOther, .string x.vWord, .string x.vType, .bool x.vCapture, .bool x.vOnce, .int .i64 x.vStop, .string x.vLname] 30)) := (Below.refl _ _).alloc (Nat.le_refl _) _
  go_enter Try.func7, Try.ntmps7
  go_wp2_with fail
  refine (rightAction5 hx'.out).mono ?_
  rintro e w1 ⟨rfl, hb1⟩
  rw [same_w]
  go_wp2_with fail
  go_ret
  exact ⟨rfl, hb0.trans (hb1.mono hb0.size)⟩
set_option maxHeartbeats 800000 in
theorem implOpOk6 {w : World} {x : OpD} (hx : x.fits) :
    Calls Try.prog 7 #[.agg #[.int .i64 6, .string x.vName, .string x.vOther, .string x.vWord, .string x.vType, .bool x.vCapture, .bool x.vOnce, .int .i64 x.vStop, .string x.vLname]] w fun e w' => e = .returned (.bool (sp_n x)) ∧ Below w.heap.size w w' := by
  have hx' : Hid x.fits := hx
  clear hx
  have hb0 : Below w.heap.size w (w.alloc (.cells #[.int .i64 6, .string x.vName, .string x.vOther, .string x.vWord, .string x.vType, .bool x.vCapture, .bool x.vOnce, .int .i64 x.vStop, .string x.vLname] 30)) := (Below.refl _ _).alloc (Nat.le_refl _) _
  go_enter Try.func7, Try.ntmps7
  go_wp2_with fail
  refine (rightAction6 hx'.out).mono ?_
  rintro e w1 ⟨rfl, hb1⟩
  rw [same_n]
  go_wp2_with fail
  go_ret
  exact ⟨rfl, hb0.trans (hb1.mono hb0.size)⟩
set_option maxHeartbeats 800000 in
theorem implOpOk7 {w : World} {x : OpD} (hx : x.fits) :
    Calls Try.prog 7 #[.agg #[.int .i64 7, .string x.vName, .string x.vOther, .string x.vWord, .string x.vType, .bool x.vCapture, .bool x.vOnce, .int .i64 x.vStop, .string x.vLname]] w fun e w' => e = .returned (.bool (sp_o x)) ∧ Below w.heap.size w w' := by
  have hx' : Hid x.fits := hx
  clear hx
  have hb0 : Below w.heap.size w (w.alloc (.cells #[.int .i64 7, .string x.vName, .string x.vOther, .string x.vWord, .string x.vType, .bool x.vCapture, .bool x.vOnce, .int .i64 x.vStop, .string x.vLname] 30)) := (Below.refl _ _).alloc (Nat.le_refl _) _
  go_enter Try.func7, Try.ntmps7
  go_wp2_with fail
  refine (rightAction7 hx'.out).mono ?_
  rintro e w1 ⟨rfl, hb1⟩
  rw [same_o]
  go_wp2_with fail
  go_ret
  exact ⟨rfl, hb0.trans (hb1.mono hb0.size)⟩
set_option maxHeartbeats 800000 in
theorem implOpOk8 {w : World} {x : OpD} (hx : x.fits) :
    Calls Try.prog 7 #[.agg #[.int .i64 8, .string x.vName, .string x.vOther, .string x.vWord, .string x.vType, .bool x.vCapture, .bool x.vOnce, .int .i64 x.vStop, .string x.vLname]] w fun e w' => e = .returned (.bool (sp_o x)) ∧ Below w.heap.size w w' := by
  have hx' : Hid x.fits := hx
  clear hx
  have hb0 : Below w.heap.size w (w.alloc (.cells #[.int .i64 8, .string x.vName, .string x.vOther, .string x.vWord, .string x.vType, .bool x.vCapture, .bool x.vOnce, .int .i64 x.vStop, .string x.vLname] 30)) := (Below.refl _ _).alloc (Nat.le_refl _) _
  go_enter Try.func7, Try.ntmps7
  go_wp2_with fail
  refine (rightAction8 hx'.out).mono ?_
  rintro e w1 ⟨rfl, hb1⟩
  rw [same_o]
  go_wp2_with fail
  go_ret
  exact ⟨rfl, hb0.trans (hb1.mono hb0.size)⟩
set_option maxHeartbeats 800000 in
theorem implOpOk9 {w : World} {x : OpD} (hx : x.fits) :
    Calls Try.prog 7 #[.agg #[.int .i64 9, .string x.vName, .string x.vOther, .string x.vWord, .string x.vType, .bool x.vCapture, .bool x.vOnce, .int .i64 x.vStop, .string x.vLname]] w fun e w' => e = .returned (.bool (sp_n x)) ∧ Below w.heap.size w w' := by
  have hx' : Hid x.fits := hx
  clear hx
  have hb0 : Below w.heap.size w (w.alloc (.cells #[.int .i64 9, .string x.vName, .string x.vOther, .string x.vWord, .string x.vType, .bool x.vCapture, .bool x.vOnce, .int .i64 x.vStop, .string x.vLname] 30)) := (Below.refl _ _).alloc (Nat.le_refl _) _
  go_enter Try.func7, Try.ntmps7
  go_wp2_with fail
  refine (rightAction9 hx'.out).mono ?_
  rintro e w1 ⟨rfl, hb1⟩
  rw [same_n]
  go_wp2_with fail
  go_ret
  exact ⟨rfl, hb0.trans (hb1.mono hb0.size)⟩
set_option maxHeartbeats 800000 in
theorem implOpOk10 {w : World} {x : OpD} (hx : x.fits) :
    Calls Try.prog 7 #[.agg #[.int .i64 10, .string x.vName, .string x.vOther, .string x.vWord, .string x.vType, .bool x.vCapture, .bool x.vOnce, .int .i64 x.vStop, .string x.vLname]] w fun e w' => e = .returned (.bool (sp_n x)) ∧ Below w.heap.size w w' := by
  have hx' : Hid x.fits := hx
  clear hx
  have hb0 : Below w.heap.size w (w.alloc (.cells #[.int .i64 10, .string x.vName, .string x.vOther, .string x.vWord, .string x.vType, .bool x.vCapture, .bool x.vOnce, .int .i64 x.vStop, .string x.vLname] 30)) := (Below.refl _ _).alloc (Nat.le_refl _) _
  go_enter Try.func7, Try.ntmps7
  go_wp2_with fail
  refine (rightAction10 hx'.out).mono ?_
  rintro e w1 ⟨rfl, hb1⟩
  rw [same_n]
  go_wp2_with fail
  go_ret
  exact ⟨rfl, hb0.trans (hb1.mono hb0.size)⟩
set_option maxHeartbeats 800000 in
theorem implOpOk11 {w : World} {x : OpD} (hx : x.fits) :
    Calls Try.prog 7 #[.agg #[.int .i64 11, .string x.vName, .string x.vOther, .string x.vWord, .string x.vType, .bool x.vCapture, .bool x.vOnce, .int .i64 x.vStop, .string x.vLname]] w fun e w' => e = .returned (.bool (sp_o x)) ∧ Below w.heap.size w w' := by
  have hx' : Hid x.fits := hx
  clear hx
  have hb0 : Below w.heap.size w (w.alloc (.cells #[.int .i64 11, .string x.vName, .string x.vOther, .string x.vWord, .string x.vType, .bool x.vCapture, .bool x.vOnce, .int .i64 x.vStop, .string x.vLname] 30)) := (Below.refl _ _).alloc (Nat.le_refl _) _
  go_enter Try.func7, Try.ntmps7
  go_wp2_with fail
  refine (rightAction11 hx'.out).mono ?_
  rintro e w1 ⟨rfl, hb1⟩
  rw [same_o]
  go_wp2_with fail
  go_ret
  exact ⟨rfl, hb0.trans (hb1.mono hb0.size)⟩
set_option maxHeartbeats 800000 in
theorem implOpOk12 {w : World} {x : OpD} (hx : x.fits) :
    Calls Try.prog 7 #[.agg #[.int .i64 12, .string x.vName, .string x.vOther, .string x.vWord, .string x.vType, .bool x.vCapture, .bool x.vOnce, .int .i64 x.vStop, .string x.vLname]] w fun e w' => e = .returned (.bool (sp_l x)) ∧ Below w.heap.size w w' := by
  have hx' : Hid x.fits := hx
  clear hx
  have hb0 : Below w.heap.size w (w.alloc (.cells #[.int .i64 12, .string x.vName, .string x.vOther, .string x.vWord, .string x.vType, .bool x.vCapture, .bool x.vOnce, .int .i64 x.vStop, .string x.vLname] 30)) := (Below.refl _ _).alloc (Nat.le_refl _) _
  go_enter Try.func7, Try.ntmps7
  go_wp2_with fail
  refine (rightAction12 hx'.out).mono ?_
  rintro e w1 ⟨rfl, hb1⟩
  rw [same_l]
  go_wp2_with fail
  go_ret
  exact ⟨rfl, hb0.trans (hb1.mono hb0.size)⟩
set_option maxHeartbeats 800000 in
theorem rightAction0 {w : World} {x : OpD} (n1 : x.vKind ≠ 1) (n2 : x.vKind ≠ 2) (n3 : x.vKind ≠ 3) (n4 : x.vKind ≠ 4) (n5 : x.vKind ≠ 5) (n6 : x.vKind ≠ 6) (n7 : x.vKind ≠ 7) (n8 : x.vKind ≠ 8) (n9 : x.vKind ≠ 9) (n10 : x.vKind ≠ 10) (n11 : x.vKind ≠ 11) (n12 : x.vKind ≠ 12) :
    Calls Try.prog 12 #[.agg #[.int .i64 x.vKind, .string x.vName, .string x.vOther, .string x.vWord, .string x.vType, .bool x.vCapture, .bool x.vOnce, .int .i64 x.vStop, .string x.vLname]] w fun e w' => e = .returned (.tuple #[.nilIface, .bool false]) ∧ Below w.heap.size w w' := by
  have N0 := @actionOf0
  have A0 : Hid (∀ w : World, _) := fun w : World => actionOf0 (w := w) (x := x) n1 n2 n3 n4 n5 n6 n7 n8 n9 n10 n11 n12
  clear N0 n1 n2 n3 n4 n5 n6 n7 n8 n9 n10 n11 n12
  go_enter Try.func12, Try.ntmps12
  go_wp2_with fail
  refine (A0.out _).mono ?_
  rintro e w1 ⟨rfl, rfl⟩
  go_wp2_with fail
  go_ret2
  refine ⟨rfl, ?_⟩
  (repeat refine Below.alloc ?_ (by simp <;> omega) _)
  exact Below.refl _ _
set_option maxHeartbeats 800000 in
theorem implOpOk0 {w : World} {x : OpD} (n1 : x.vKind ≠ 1) (n2 : x.vKind ≠ 2) (n3 : x.vKind ≠ 3) (n4 : x.vKind ≠ 4) (n5 : x.vKind ≠ 5) (n6 : x.vKind ≠ 6) (n7 : x.vKind ≠ 7) (n8 : x.vKind ≠ 8) (n9 : x.vKind ≠ 9) (n10 : x.vKind ≠ 10) (n11 : x.vKind ≠ 11) (n12 : x.vKind ≠ 12) :
    Calls Try.prog 7 #[.agg #[.int .i64 x.vKind, .string x.vName, .string x.vOther, .string x.vWord, .string x.vType, .bool x.vCapture, .bool x.vOnce, .int .i64 x.vStop, .string x.vLname]] w fun e w' => e = .returned (.bool false) ∧ Below w.heap.size w w' := by
  have A0 : Hid (∀ w : World, _) := fun w : World => rightAction0 (w := w) (x := x) n1 n2 n3 n4 n5 n6 n7 n8 n9 n10 n11 n12
  clear n1 n2 n3 n4 n5 n6 n7 n8 n9 n10 n11 n12
  have hb0 : Below w.heap.size w (w.alloc (.cells #[.int .i64 x.vKind, .string x.vName, .string x.vOther, .string x.vWord, .string x.vType, .bool x.vCapture, .bool x.vOnce, .int .i64 x.vStop, .string x.vLname] 30)) := (Below.refl _ _).alloc (Nat.le_refl _) _
  go_enter Try.func7, Try.ntmps7
  go_wp2_with fail
  refine (A0.out _).mono ?_
  rintro e w1 ⟨rfl, hb1⟩
  go_wp2_with fail
  go_ret
  exact ⟨rfl, hb0.trans (hb1.mono hb0.size)⟩
theorem specOpOk_any {w : World} {x : OpD} (hx : x.fits) :
    Calls Try.prog 5 #[.agg x.cells.toArray] w fun e w' => e = .returned (.bool (okB x)) ∧ Below w.heap.size w w' := by
  unfold OpD.cells okB
  by_cases n1 : x.vKind = 1
  · simp only [n1, Int.reduceEq, if_true, if_false]; exact specOpOk1 hx
  by_cases n2 : x.vKind = 2
  · simp only [n2, Int.reduceEq, if_true, if_false]; exact specOpOk2 hx
  by_cases n3 : x.vKind = 3
  · simp only [n3, Int.reduceEq, if_true, if_false]; exact specOpOk3 hx
  by_cases n4 : x.vKind = 4
  · simp only [n4, Int.reduceEq, if_true, if_false]; exact specOpOk4 hx
  by_cases n5 : x.vKind = 5
  · simp only [n5, Int.reduceEq, if_true, if_false]; exact specOpOk5 hx
  by_cases n6 : x.vKind = 6
  · simp only [n6, Int.reduceEq, if_true, if_false]; exact specOpOk6 hx
  by_cases n7 : x.vKind = 7
  · simp only [n7, Int.reduceEq, if_true, if_false]; exact specOpOk7 hx
  by_cases n8 : x.vKind = 8
  · simp only [n8, Int.reduceEq, if_true, if_false]; exact specOpOk8 hx
  by_cases n9 : x.vKind = 9
  · simp only [n9, Int.reduceEq, if_true, if_false]; exact specOpOk9 hx
  by_cases n10 : x.vKind = 10
  · simp only [n10, Int.reduceEq, if_true, if_false]; exact specOpOk10 hx
  by_cases n11 : x.vKind = 11
  · simp only [n11, Int.reduceEq, if_true, if_false]; exact specOpOk11 hx
  by_cases n12 : x.vKind = 12
  · simp only [n12, Int.reduceEq, if_true, if_false]; exact specOpOk12 hx
  simp only [n1, n2, n3, n4, n5, n6, n7, n8, n9, n10, n11, n12, if_false]
  exact specOpOk0 hx n1 n2 n3 n4 n5 n6 n7 n8 n9 n10 n11 n12
theorem implOpOk_any {w : World} {x : OpD} (hx : x.fits) :
    Calls Try.prog 7 #[.agg x.cells.toArray] w fun e w' => e = .returned (.bool (okB x)) ∧ Below w.heap.size w w' := by
  unfold OpD.cells okB
  by_cases n1 : x.vKind = 1
  · simp only [n1, Int.reduceEq, if_true, if_false]; exact implOpOk1 hx
  by_cases n2 : x.vKind = 2
  · simp only [n2, Int.reduceEq, if_true, if_false]; exact implOpOk2 hx
  by_cases n3 : x.vKind = 3
  · simp only [n3, Int.reduceEq, if_true, if_false]; exact implOpOk3 hx
  by_cases n4 : x.vKind = 4
  · simp only [n4, Int.reduceEq, if_true, if_false]; exact implOpOk4 hx
  by_cases n5 : x.vKind = 5
  · simp only [n5, Int.reduceEq, if_true, if_false]; exact implOpOk5 hx
  by_cases n6 : x.vKind = 6
  · simp only [n6, Int.reduceEq, if_true, if_false]; exact implOpOk6 hx
  by_cases n7 : x.vKind = 7
  · simp only [n7, Int.reduceEq, if_true, if_false]; exact implOpOk7 hx
  by_cases n8 : x.vKind = 8
  · simp only [n8, Int.reduceEq, if_true, if_false]; exact implOpOk8 hx
  by_cases n9 : x.vKind = 9
  · simp only [n9, Int.reduceEq, if_true, if_false]; exact implOpOk9 hx
  by_cases n10 : x.vKind = 10
  · simp only [n10, Int.reduceEq, if_true, if_false]; exact implOpOk10 hx
  by_cases n11 : x.vKind = 11
  · simp only [n11, Int.reduceEq, if_true, if_false]; exact implOpOk11 hx
  by_cases n12 : x.vKind = 12
  · simp only [n12, Int.reduceEq, if_true, if_false]; exact implOpOk12 hx
  simp only [n1, n2, n3, n4, n5, n6, n7, n8, n9, n10, n11, n12, if_false]
  exact implOpOk0 n1 n2 n3 n4 n5 n6 n7 n8 n9 n10 n11 n12
end Go.Proofs.Ytiegfonakdcciaa
