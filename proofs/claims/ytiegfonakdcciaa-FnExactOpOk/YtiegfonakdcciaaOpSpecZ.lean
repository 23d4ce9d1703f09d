/- The specification's test of an op, walked: kinds 0. -/
import Derived.Test.YtiegfonakdcciaaOpSpecA
namespace Go.Proofs.Ytiegfonakdcciaa
open Go.RowKit
set_option maxHeartbeats 4000000 in
theorem specOpOk0 {w : World} {x : OpD} (hx : x.fits) (n1 : x.vKind ≠ 1) (n2 : x.vKind ≠ 2) (n3 : x.vKind ≠ 3) (n4 : x.vKind ≠ 4) (n5 : x.vKind ≠ 5) (n6 : x.vKind ≠ 6) (n7 : x.vKind ≠ 7) (n8 : x.vKind ≠ 8) (n9 : x.vKind ≠ 9) (n10 : x.vKind ≠ 10) (n11 : x.vKind ≠ 11) (n12 : x.vKind ≠ 12) :
    Calls Try.prog 5 #[.agg #[.int .i64 x.vKind, .string x.vName, .string x.vOther, .string x.vWord, .string x.vType, .bool x.vCapture, .bool x.vOnce, .int .i64 x.vStop, .string x.vLname]] w fun e w' => e = .returned (.bool (false)) ∧ Below w.heap.size w w' := by
  have hx' : Hid x.fits := hx
  clear hx
  have n1' : (x.vKind == 1) = false := by simpa using n1
  have n2' : (x.vKind == 2) = false := by simpa using n2
  have n3' : (x.vKind == 3) = false := by simpa using n3
  have n4' : (x.vKind == 4) = false := by simpa using n4
  have n5' : (x.vKind == 5) = false := by simpa using n5
  have n6' : (x.vKind == 6) = false := by simpa using n6
  have n7' : (x.vKind == 7) = false := by simpa using n7
  have n8' : (x.vKind == 8) = false := by simpa using n8
  have n9' : (x.vKind == 9) = false := by simpa using n9
  have n10' : (x.vKind == 10) = false := by simpa using n10
  have n11' : (x.vKind == 11) = false := by simpa using n11
  have n12' : (x.vKind == 12) = false := by simpa using n12
  clear n1 n2 n3 n4 n5 n6 n7 n8 n9 n10 n11 n12
  rcases lisZ_cases x with ⟨z1, z2, z3, z4, z5, HZ⟩ | ⟨z1, HZ⟩ | ⟨z1, z2, HZ⟩ | ⟨z1, z2, z3, HZ⟩ | ⟨z1, z2, z3, z4, HZ⟩ | ⟨z1, z2, z3, z4, z5, HZ⟩
  · go_enter Try.func5, Try.ntmps5
    go_wp2_with fail
    go_ret
    exact ⟨rfl, ((Below.refl _ _).alloc (Nat.le_refl _) _).alloc (by simp) _⟩
  · go_enter Try.func5, Try.ntmps5
    go_wp2_with fail
    go_ret
    exact ⟨rfl, ((Below.refl _ _).alloc (Nat.le_refl _) _).alloc (by simp) _⟩
  · go_enter Try.func5, Try.ntmps5
    go_wp2_with fail
    go_ret
    exact ⟨rfl, ((Below.refl _ _).alloc (Nat.le_refl _) _).alloc (by simp) _⟩
  · go_enter Try.func5, Try.ntmps5
    go_wp2_with fail
    go_ret
    exact ⟨rfl, ((Below.refl _ _).alloc (Nat.le_refl _) _).alloc (by simp) _⟩
  · have z4' : ¬ (0 : Int) = x.vStop := fun e => z4 e.symm
    go_enter Try.func5, Try.ntmps5
    go_wp2_with fail
    go_ret
    exact ⟨rfl, ((Below.refl _ _).alloc (Nat.le_refl _) _).alloc (by simp) _⟩
  · go_enter Try.func5, Try.ntmps5
    go_wp2_with fail
    go_ret
    exact ⟨rfl, ((Below.refl _ _).alloc (Nat.le_refl _) _).alloc (by simp) _⟩
end Go.Proofs.Ytiegfonakdcciaa
