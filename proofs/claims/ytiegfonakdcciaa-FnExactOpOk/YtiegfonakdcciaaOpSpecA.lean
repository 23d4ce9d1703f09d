/- The specification's test of an op, walked. -/
import Derived.Test.YtiegfonakdcciaaOpForms
namespace Go.Proofs.Ytiegfonakdcciaa
open Go.RowKit
def lisZ (x : OpD) : Bool := decide (x.vType.toList = [] ∧ x.vCapture = false ∧ x.vOnce = false ∧ x.vStop = 0 ∧ x.vLname.toList = [])
theorem lisZ_cases (x : OpD) : (x.vType.toList = [] ∧ x.vCapture = false ∧ x.vOnce = false ∧ x.vStop = 0 ∧ x.vLname.toList = [] ∧ Hid (lisZ x = true)) ∨ (¬ x.vType.toList = [] ∧ Hid (lisZ x = false)) ∨ (x.vType.toList = [] ∧ x.vCapture = true ∧ Hid (lisZ x = false)) ∨ (x.vType.toList = [] ∧ x.vCapture = false ∧ x.vOnce = true ∧ Hid (lisZ x = false)) ∨ (x.vType.toList = [] ∧ x.vCapture = false ∧ x.vOnce = false ∧ ¬ x.vStop = 0 ∧ Hid (lisZ x = false)) ∨ (x.vType.toList = [] ∧ x.vCapture = false ∧ x.vOnce = false ∧ x.vStop = 0 ∧ ¬ x.vLname.toList = [] ∧ Hid (lisZ x = false)) := by
  unfold lisZ Hid
  by_cases h1 : x.vType.toList = [] <;> by_cases h4 : x.vStop = 0 <;> by_cases h5 : x.vLname.toList = [] <;> cases h2 : x.vCapture <;> cases h3 : x.vOnce <;> simp [*]
def sp_w (x : OpD) : Bool := nmO x.vName && (decide (x.vOther.toList = []) && (nmO x.vWord && lisZ x))
def sp_n (x : OpD) : Bool := nmO x.vName && (decide (x.vOther.toList = []) && (decide (x.vWord.toList = []) && lisZ x))
def sp_f (x : OpD) : Bool := nmO x.vName && (nmO x.vOther && (nmO x.vWord && lisZ x))
def sp_o (x : OpD) : Bool := nmO x.vName && (nmO x.vOther && (decide (x.vWord.toList = []) && lisZ x))
def sp_l (x : OpD) : Bool := nmO x.vName && (decide (x.vOther.toList = []) && (decide (x.vWord.toList = []) && lisO x))
set_option maxHeartbeats 400000 in
theorem l1In_any (n a b : Int) (w : World) : Calls Try.prog 13 #[.int .i64 n, .int .i64 a, .int .i64 b] w fun e w' => e = .returned (.bool (decide (a ≤ n) && decide (n ≤ b))) ∧ w' = w := by
  by_cases h1 : a ≤ n
  · by_cases h2 : n ≤ b
    · go_enter Try.func13, Try.ntmps13
      go_wp2
      go_ret
      exact ⟨ret_bool (by simp [h1, h2]), rfl⟩
    · go_enter Try.func13, Try.ntmps13
      go_wp2
      go_ret
      exact ⟨ret_bool (by simp [h2]), rfl⟩
  · go_enter Try.func13, Try.ntmps13
    go_wp2
    go_ret
    exact ⟨ret_bool (by simp; omega), rfl⟩
set_option maxHeartbeats 400000 in
theorem l2Listener_any {w : World} {ty ln : ByteArray} {ca on : Bool} {st : Int} (f4 : ty.size ≤ maxLen) (f5 : ln.size ≤ maxLen) :
    Calls Try.prog 10 #[.agg #[.string ty, .bool ca, .bool on, .int .i64 st, .string ln]] w fun e w' => e = .returned (.bool (lisP ty ln st)) ∧ w' = w.alloc (.cells #[.string ty, .bool ca, .bool on, .int .i64 st, .string ln] 28) := by
  have f4' : Hid _ := f4
  have f5' : Hid _ := f5
  clear f4 f5
  go_enter Try.func10, Try.ntmps10
  go_wp2_with fail
  refine (specNameOk_any _ _ f4'.out).mono ?_
  rintro e w1 ⟨rfl, rfl⟩
  cases h1 : nameB ty.data.toList
  · have H1 : Hid (lisP ty ln st = false) := by show _ = _; simp [lisP, nmO, h1]
    clear h1
    go_wp2_with fail
    go_ret
    exact ⟨ret_bool H1.out.symm, rfl⟩
  have H1 : Hid (nmO ty = true) := h1
  clear h1
  go_wp2_with fail
  refine (specNameOk_any _ _ f5'.out).mono ?_
  rintro e w1 ⟨rfl, rfl⟩
  cases h2 : nameB ln.data.toList
  · have H2 : Hid (lisP ty ln st = false) := by show _ = _; simp [lisP, nmO, h2]
    clear h2
    go_wp2_with fail
    go_ret
    exact ⟨ret_bool H2.out.symm, rfl⟩
  have H2 : Hid (lisP ty ln st = (decide (0 ≤ st) && decide (st ≤ 2))) := by show _ = _; have := H1.out; simp [lisP, this]; simp [nmO, h2]
  clear h2
  go_wp2_with fail
  refine (l1In_any _ _ _ _).mono ?_
  rintro e w1 ⟨rfl, rfl⟩
  go_wp2_with fail
  go_ret
  exact ⟨ret_bool H2.out.symm, rfl⟩
end Go.Proofs.Ytiegfonakdcciaa
