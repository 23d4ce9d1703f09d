/- An op as data; that it is copied, and measured, walked. -/
import Derived.Test.YtiegfonakdcciaaNameWalks
import Derived.Test.YtiegfonakdcciaaTakeLit
import Derived.WalkKit
import Derived.Below
namespace Go.Proofs.Ytiegfonakdcciaa
open Go.RowKit
structure OpD where
  vKind : Int
  vName : ByteArray
  vOther : ByteArray
  vWord : ByteArray
  vType : ByteArray
  vCapture : Bool
  vOnce : Bool
  vStop : Int
  vLname : ByteArray
def OpD.fits (x : OpD) : Prop := x.vName.size ≤ maxLen ∧ x.vOther.size ≤ maxLen ∧ x.vWord.size ≤ maxLen ∧ x.vType.size ≤ maxLen ∧ x.vLname.size ≤ maxLen
def OpD.cells (x : OpD) : List Value := [.int .i64 x.vKind, .string x.vName, .string x.vOther, .string x.vWord, .string x.vType, .bool x.vCapture, .bool x.vOnce, .int .i64 x.vStop, .string x.vLname]
set_option maxHeartbeats 400000 in
theorem szListener_any {w : World} {x : OpD} {r : Int} (hx : x.fits) (h1 : 0 ≤ r) (h2 : r ≤ 1048576) :
    Calls Try.prog 8 #[.agg #[.string x.vType, .bool x.vCapture, .bool x.vOnce, .int .i64 x.vStop, .string x.vLname], .int .i64 r] w fun e w' => (∃ r', e = .returned (.int .i64 r')) ∧ Below w.heap.size w w' := by
  obtain ⟨f1, f2, f3, f4, f5⟩ := hx
  unfold maxLen at f4 f5
  clear f1 f2 f3
  have hb0 : Below w.heap.size w (w.alloc (.cells #[.string x.vType, .bool x.vCapture, .bool x.vOnce, .int .i64 x.vStop, .string x.vLname] 23)) := (Below.refl _ _).alloc (Nat.le_refl _) _
  by_cases q1 : r - (x.vType.size : Int) < 0
  · go_enter Try.func8, Try.ntmps8
    go_wp2_with fail
    go_ret
    exact ⟨⟨_, rfl⟩, hb0⟩
  by_cases q2 : r - (x.vType.size : Int) - (x.vLname.size : Int) < 0
  · go_enter Try.func8, Try.ntmps8
    go_wp2_with fail
    go_ret
    exact ⟨⟨_, rfl⟩, hb0⟩
  go_enter Try.func8, Try.ntmps8
  go_wp2_with fail
  go_ret
  exact ⟨⟨_, rfl⟩, hb0⟩
set_option maxHeartbeats 400000 in
theorem szOp_any {w : World} {x : OpD} {r : Int} (hx : x.fits) (h1 : 0 ≤ r) (h2 : r ≤ 1048576) :
    Calls Try.prog 4 #[.agg x.cells.toArray, .int .i64 r] w fun e w' => (∃ r', e = .returned (.int .i64 r')) ∧ Below w.heap.size w w' := by
  have hx' : Hid x.fits := hx
  obtain ⟨f1, f2, f3, f4, f5⟩ := hx
  unfold maxLen at f1 f2 f3
  clear f4 f5
  unfold OpD.cells
  have hb0 : Below w.heap.size w (w.alloc (.cells #[.int .i64 x.vKind, .string x.vName, .string x.vOther, .string x.vWord, .string x.vType, .bool x.vCapture, .bool x.vOnce, .int .i64 x.vStop, .string x.vLname] 25)) := (Below.refl _ _).alloc (Nat.le_refl _) _
  by_cases q1 : r - (x.vName.size : Int) < 0
  · go_enter Try.func4, Try.ntmps4
    go_wp2_with fail
    go_ret
    exact ⟨⟨_, rfl⟩, hb0⟩
  by_cases q2 : r - (x.vName.size : Int) - (x.vOther.size : Int) < 0
  · go_enter Try.func4, Try.ntmps4
    go_wp2_with fail
    go_ret
    exact ⟨⟨_, rfl⟩, hb0⟩
  by_cases q3 : r - (x.vName.size : Int) - (x.vOther.size : Int) - (x.vWord.size : Int) < 0
  · go_enter Try.func4, Try.ntmps4
    go_wp2_with fail
    go_ret
    exact ⟨⟨_, rfl⟩, hb0⟩
  go_enter Try.func4, Try.ntmps4
  go_wp2_with fail
  refine (szListener_any hx'.out (by omega) (by omega)).mono ?_
  rintro e w1 ⟨⟨r', rfl⟩, hb1⟩
  have hB1 : Below w.heap.size w w1 := hb0.trans (hb1.mono hb0.size)
  by_cases q4 : r' < 0
  · go_wp2_with fail
    go_ret
    exact ⟨⟨_, rfl⟩, hB1⟩
  have q4' : decide (r' < 0) = false := by simpa using q4
  go_wp2_with fail
  go_ret
  exact ⟨⟨_, rfl⟩, hB1⟩
set_option maxHeartbeats 400000 in
theorem toListener_any {w : World} {x : OpD} :
    Calls Try.prog 11 #[.agg #[.string x.vType, .bool x.vCapture, .bool x.vOnce, .int .i64 x.vStop, .string x.vLname]] w fun e w' => e = .returned (.agg #[.string x.vType, .bool x.vCapture, .bool x.vOnce, .int .i64 x.vStop, .string x.vLname]) ∧ w' = ((w.alloc (.cells #[.string x.vType, .bool x.vCapture, .bool x.vOnce, .int .i64 x.vStop, .string x.vLname] 23)).alloc (.cells #[.string x.vType, .bool x.vCapture, .bool x.vOnce, .int .i64 x.vStop, .string x.vLname] 28)).alloc (.cells #[.string x.vType, .bool x.vCapture, .bool x.vOnce, .int .i64 x.vStop, .string x.vLname] 28) := by
  go_enter Try.func11, Try.ntmps11
  go_wp2_with fail
  exact bodyPost_ret (v := .agg #[.string x.vType, .bool x.vCapture, .bool x.vOnce, .int .i64 x.vStop, .string x.vLname]) (by simp [results, Try.results11, go_sem]) rfl ⟨rfl, rfl⟩
set_option maxHeartbeats 800000 in
theorem toOp_any {w : World} {x : OpD} :
    Calls Try.prog 6 #[.agg x.cells.toArray] w fun e w' => e = .returned (.agg x.cells.toArray) ∧ Below w.heap.size w w' := by
  unfold OpD.cells
  go_enter Try.func6, Try.ntmps6
  go_wp2_with fail
  refine toListener_any.mono ?_
  rintro e w1 ⟨rfl, rfl⟩
  go_wp2_with fail
  refine bodyPost_ret (v := .agg #[.int .i64 x.vKind, .string x.vName, .string x.vOther, .string x.vWord, .string x.vType, .bool x.vCapture, .bool x.vOnce, .int .i64 x.vStop, .string x.vLname]) (by simp [results, Try.results6, go_sem]) rfl ⟨rfl, ?_⟩
  (repeat refine Below.alloc ?_ (by simp <;> omega) _)
  exact Below.refl _ _
end Go.Proofs.Ytiegfonakdcciaa
