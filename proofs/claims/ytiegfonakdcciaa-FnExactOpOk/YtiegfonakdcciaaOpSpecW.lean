/- The specification's test of an op, walked: kinds 1, 5. -/
import Derived.Test.YtiegfonakdcciaaOpSpecA
namespace Go.Proofs.Ytiegfonakdcciaa
open Go.RowKit
set_option maxHeartbeats 4000000 in
theorem specOpOk1 {w : World} {x : OpD} (hx : x.fits) :
    Calls Try.prog 5 #[.agg #[.int .i64 1, .string x.vName, .string x.vOther, .string x.vWord, .string x.vType, .bool x.vCapture, .bool x.vOnce, .int .i64 x.vStop, .string x.vLname]] w fun e w' => e = .returned (.bool (sp_w x)) ∧ Below w.heap.size w w' := by
  have hx' : Hid x.fits := hx
  clear hx
  rcases lisZ_cases x with ⟨z1, z2, z3, z4, z5, HZ⟩ | ⟨z1, HZ⟩ | ⟨z1, z2, HZ⟩ | ⟨z1, z2, z3, HZ⟩ | ⟨z1, z2, z3, z4, HZ⟩ | ⟨z1, z2, z3, z4, z5, HZ⟩
  · go_enter Try.func5, Try.ntmps5
    go_wp2_with fail
    refine (specNameOk_any _ _ hx'.out.1).mono ?_
    rintro e w1 ⟨rfl, rfl⟩
    cases h0 : nameB x.vName.data.toList
    · have HB : Hid (sp_w x = false) := by show _ = _; simp [sp_w, nmO, h0]
      go_wp2_with fail
      go_ret
      exact ⟨ret_bool HB.out.symm, ((Below.refl _ _).alloc (Nat.le_refl _) _).alloc (by simp) _⟩
    by_cases h1 : x.vOther.toList = []
    rotate_left
    · have HB : Hid (sp_w x = false) := by show _ = _; simp [sp_w, h1]
      go_wp2_with fail
      go_ret
      exact ⟨ret_bool HB.out.symm, ((Below.refl _ _).alloc (Nat.le_refl _) _).alloc (by simp) _⟩
    go_wp2_with fail
    refine (specNameOk_any _ _ hx'.out.2.2.1).mono ?_
    rintro e w1 ⟨rfl, rfl⟩
    cases h2 : nameB x.vWord.data.toList
    · have HB : Hid (sp_w x = false) := by show _ = _; simp [sp_w, nmO, h2]
      go_wp2_with fail
      go_ret
      exact ⟨ret_bool HB.out.symm, ((Below.refl _ _).alloc (Nat.le_refl _) _).alloc (by simp) _⟩
    have HB : Hid (sp_w x = true) := by show _ = _; simp [sp_w, nmO, HZ.out, h0, h1, h2]
    go_wp2_with fail
    go_ret
    exact ⟨ret_bool HB.out.symm, ((Below.refl _ _).alloc (Nat.le_refl _) _).alloc (by simp) _⟩
  · go_enter Try.func5, Try.ntmps5
    go_wp2_with fail
    refine (specNameOk_any _ _ hx'.out.1).mono ?_
    rintro e w1 ⟨rfl, rfl⟩
    cases h0 : nameB x.vName.data.toList
    · have HB : Hid (sp_w x = false) := by show _ = _; simp [sp_w, nmO, h0]
      go_wp2_with fail
      go_ret
      exact ⟨ret_bool HB.out.symm, ((Below.refl _ _).alloc (Nat.le_refl _) _).alloc (by simp) _⟩
    by_cases h1 : x.vOther.toList = []
    rotate_left
    · have HB : Hid (sp_w x = false) := by show _ = _; simp [sp_w, h1]
      go_wp2_with fail
      go_ret
      exact ⟨ret_bool HB.out.symm, ((Below.refl _ _).alloc (Nat.le_refl _) _).alloc (by simp) _⟩
    go_wp2_with fail
    refine (specNameOk_any _ _ hx'.out.2.2.1).mono ?_
    rintro e w1 ⟨rfl, rfl⟩
    cases h2 : nameB x.vWord.data.toList
    · have HB : Hid (sp_w x = false) := by show _ = _; simp [sp_w, nmO, h2]
      go_wp2_with fail
      go_ret
      exact ⟨ret_bool HB.out.symm, ((Below.refl _ _).alloc (Nat.le_refl _) _).alloc (by simp) _⟩
    have HB : Hid (sp_w x = false) := by show _ = _; simp [sp_w, nmO, HZ.out, h0, h1, h2]
    go_wp2_with fail
    go_ret
    exact ⟨ret_bool HB.out.symm, ((Below.refl _ _).alloc (Nat.le_refl _) _).alloc (by simp) _⟩
  · go_enter Try.func5, Try.ntmps5
    go_wp2_with fail
    refine (specNameOk_any _ _ hx'.out.1).mono ?_
    rintro e w1 ⟨rfl, rfl⟩
    cases h0 : nameB x.vName.data.toList
    · have HB : Hid (sp_w x = false) := by show _ = _; simp [sp_w, nmO, h0]
      go_wp2_with fail
      go_ret
      exact ⟨ret_bool HB.out.symm, ((Below.refl _ _).alloc (Nat.le_refl _) _).alloc (by simp) _⟩
    by_cases h1 : x.vOther.toList = []
    rotate_left
    · have HB : Hid (sp_w x = false) := by show _ = _; simp [sp_w, h1]
      go_wp2_with fail
      go_ret
      exact ⟨ret_bool HB.out.symm, ((Below.refl _ _).alloc (Nat.le_refl _) _).alloc (by simp) _⟩
    go_wp2_with fail
    refine (specNameOk_any _ _ hx'.out.2.2.1).mono ?_
    rintro e w1 ⟨rfl, rfl⟩
    cases h2 : nameB x.vWord.data.toList
    · have HB : Hid (sp_w x = false) := by show _ = _; simp [sp_w, nmO, h2]
      go_wp2_with fail
      go_ret
      exact ⟨ret_bool HB.out.symm, ((Below.refl _ _).alloc (Nat.le_refl _) _).alloc (by simp) _⟩
    have HB : Hid (sp_w x = false) := by show _ = _; simp [sp_w, nmO, HZ.out, h0, h1, h2]
    go_wp2_with fail
    go_ret
    exact ⟨ret_bool HB.out.symm, ((Below.refl _ _).alloc (Nat.le_refl _) _).alloc (by simp) _⟩
  · go_enter Try.func5, Try.ntmps5
    go_wp2_with fail
    refine (specNameOk_any _ _ hx'.out.1).mono ?_
    rintro e w1 ⟨rfl, rfl⟩
    cases h0 : nameB x.vName.data.toList
    · have HB : Hid (sp_w x = false) := by show _ = _; simp [sp_w, nmO, h0]
      go_wp2_with fail
      go_ret
      exact ⟨ret_bool HB.out.symm, ((Below.refl _ _).alloc (Nat.le_refl _) _).alloc (by simp) _⟩
    by_cases h1 : x.vOther.toList = []
    rotate_left
    · have HB : Hid (sp_w x = false) := by show _ = _; simp [sp_w, h1]
      go_wp2_with fail
      go_ret
      exact ⟨ret_bool HB.out.symm, ((Below.refl _ _).alloc (Nat.le_refl _) _).alloc (by simp) _⟩
    go_wp2_with fail
    refine (specNameOk_any _ _ hx'.out.2.2.1).mono ?_
    rintro e w1 ⟨rfl, rfl⟩
    cases h2 : nameB x.vWord.data.toList
    · have HB : Hid (sp_w x = false) := by show _ = _; simp [sp_w, nmO, h2]
      go_wp2_with fail
      go_ret
      exact ⟨ret_bool HB.out.symm, ((Below.refl _ _).alloc (Nat.le_refl _) _).alloc (by simp) _⟩
    have HB : Hid (sp_w x = false) := by show _ = _; simp [sp_w, nmO, HZ.out, h0, h1, h2]
    go_wp2_with fail
    go_ret
    exact ⟨ret_bool HB.out.symm, ((Below.refl _ _).alloc (Nat.le_refl _) _).alloc (by simp) _⟩
  · have z4' : ¬ (0 : Int) = x.vStop := fun e => z4 e.symm
    go_enter Try.func5, Try.ntmps5
    go_wp2_with fail
    refine (specNameOk_any _ _ hx'.out.1).mono ?_
    rintro e w1 ⟨rfl, rfl⟩
    cases h0 : nameB x.vName.data.toList
    · have HB : Hid (sp_w x = false) := by show _ = _; simp [sp_w, nmO, h0]
      go_wp2_with fail
      go_ret
      exact ⟨ret_bool HB.out.symm, ((Below.refl _ _).alloc (Nat.le_refl _) _).alloc (by simp) _⟩
    by_cases h1 : x.vOther.toList = []
    rotate_left
    · have HB : Hid (sp_w x = false) := by show _ = _; simp [sp_w, h1]
      go_wp2_with fail
      go_ret
      exact ⟨ret_bool HB.out.symm, ((Below.refl _ _).alloc (Nat.le_refl _) _).alloc (by simp) _⟩
    go_wp2_with fail
    refine (specNameOk_any _ _ hx'.out.2.2.1).mono ?_
    rintro e w1 ⟨rfl, rfl⟩
    cases h2 : nameB x.vWord.data.toList
    · have HB : Hid (sp_w x = false) := by show _ = _; simp [sp_w, nmO, h2]
      go_wp2_with fail
      go_ret
      exact ⟨ret_bool HB.out.symm, ((Below.refl _ _).alloc (Nat.le_refl _) _).alloc (by simp) _⟩
    have HB : Hid (sp_w x = false) := by show _ = _; simp [sp_w, nmO, HZ.out, h0, h1, h2]
    go_wp2_with fail
    go_ret
    exact ⟨ret_bool HB.out.symm, ((Below.refl _ _).alloc (Nat.le_refl _) _).alloc (by simp) _⟩
  · go_enter Try.func5, Try.ntmps5
    go_wp2_with fail
    refine (specNameOk_any _ _ hx'.out.1).mono ?_
    rintro e w1 ⟨rfl, rfl⟩
    cases h0 : nameB x.vName.data.toList
    · have HB : Hid (sp_w x = false) := by show _ = _; simp [sp_w, nmO, h0]
      go_wp2_with fail
      go_ret
      exact ⟨ret_bool HB.out.symm, ((Below.refl _ _).alloc (Nat.le_refl _) _).alloc (by simp) _⟩
    by_cases h1 : x.vOther.toList = []
    rotate_left
    · have HB : Hid (sp_w x = false) := by show _ = _; simp [sp_w, h1]
      go_wp2_with fail
      go_ret
      exact ⟨ret_bool HB.out.symm, ((Below.refl _ _).alloc (Nat.le_refl _) _).alloc (by simp) _⟩
    go_wp2_with fail
    refine (specNameOk_any _ _ hx'.out.2.2.1).mono ?_
    rintro e w1 ⟨rfl, rfl⟩
    cases h2 : nameB x.vWord.data.toList
    · have HB : Hid (sp_w x = false) := by show _ = _; simp [sp_w, nmO, h2]
      go_wp2_with fail
      go_ret
      exact ⟨ret_bool HB.out.symm, ((Below.refl _ _).alloc (Nat.le_refl _) _).alloc (by simp) _⟩
    have HB : Hid (sp_w x = false) := by show _ = _; simp [sp_w, nmO, HZ.out, h0, h1, h2]
    go_wp2_with fail
    go_ret
    exact ⟨ret_bool HB.out.symm, ((Below.refl _ _).alloc (Nat.le_refl _) _).alloc (by simp) _⟩
set_option maxHeartbeats 4000000 in
theorem specOpOk5 {w : World} {x : OpD} (hx : x.fits) :
    Calls Try.prog 5 #[.agg #[.int .i64 5, .string x.vName, .string x.vOther, .string x.vWord, .string x.vType, .bool x.vCapture, .bool x.vOnce, .int .i64 x.vStop, .string x.vLname]] w fun e w' => e = .returned (.bool (sp_w x)) ∧ Below w.heap.size w w' := by
  have hx' : Hid x.fits := hx
  clear hx
  rcases lisZ_cases x with ⟨z1, z2, z3, z4, z5, HZ⟩ | ⟨z1, HZ⟩ | ⟨z1, z2, HZ⟩ | ⟨z1, z2, z3, HZ⟩ | ⟨z1, z2, z3, z4, HZ⟩ | ⟨z1, z2, z3, z4, z5, HZ⟩
  · go_enter Try.func5, Try.ntmps5
    go_wp2_with fail
    refine (specNameOk_any _ _ hx'.out.1).mono ?_
    rintro e w1 ⟨rfl, rfl⟩
    cases h0 : nameB x.vName.data.toList
    · have HB : Hid (sp_w x = false) := by show _ = _; simp [sp_w, nmO, h0]
      go_wp2_with fail
      go_ret
      exact ⟨ret_bool HB.out.symm, ((Below.refl _ _).alloc (Nat.le_refl _) _).alloc (by simp) _⟩
    by_cases h1 : x.vOther.toList = []
    rotate_left
    · have HB : Hid (sp_w x = false) := by show _ = _; simp [sp_w, h1]
      go_wp2_with fail
      go_ret
      exact ⟨ret_bool HB.out.symm, ((Below.refl _ _).alloc (Nat.le_refl _) _).alloc (by simp) _⟩
    go_wp2_with fail
    refine (specNameOk_any _ _ hx'.out.2.2.1).mono ?_
    rintro e w1 ⟨rfl, rfl⟩
    cases h2 : nameB x.vWord.data.toList
    · have HB : Hid (sp_w x = false) := by show _ = _; simp [sp_w, nmO, h2]
      go_wp2_with fail
      go_ret
      exact ⟨ret_bool HB.out.symm, ((Below.refl _ _).alloc (Nat.le_refl _) _).alloc (by simp) _⟩
    have HB : Hid (sp_w x = true) := by show _ = _; simp [sp_w, nmO, HZ.out, h0, h1, h2]
    go_wp2_with fail
    go_ret
    exact ⟨ret_bool HB.out.symm, ((Below.refl _ _).alloc (Nat.le_refl _) _).alloc (by simp) _⟩
  · go_enter Try.func5, Try.ntmps5
    go_wp2_with fail
    refine (specNameOk_any _ _ hx'.out.1).mono ?_
    rintro e w1 ⟨rfl, rfl⟩
    cases h0 : nameB x.vName.data.toList
    · have HB : Hid (sp_w x = false) := by show _ = _; simp [sp_w, nmO, h0]
      go_wp2_with fail
      go_ret
      exact ⟨ret_bool HB.out.symm, ((Below.refl _ _).alloc (Nat.le_refl _) _).alloc (by simp) _⟩
    by_cases h1 : x.vOther.toList = []
    rotate_left
    · have HB : Hid (sp_w x = false) := by show _ = _; simp [sp_w, h1]
      go_wp2_with fail
      go_ret
      exact ⟨ret_bool HB.out.symm, ((Below.refl _ _).alloc (Nat.le_refl _) _).alloc (by simp) _⟩
    go_wp2_with fail
    refine (specNameOk_any _ _ hx'.out.2.2.1).mono ?_
    rintro e w1 ⟨rfl, rfl⟩
    cases h2 : nameB x.vWord.data.toList
    · have HB : Hid (sp_w x = false) := by show _ = _; simp [sp_w, nmO, h2]
      go_wp2_with fail
      go_ret
      exact ⟨ret_bool HB.out.symm, ((Below.refl _ _).alloc (Nat.le_refl _) _).alloc (by simp) _⟩
    have HB : Hid (sp_w x = false) := by show _ = _; simp [sp_w, nmO, HZ.out, h0, h1, h2]
    go_wp2_with fail
    go_ret
    exact ⟨ret_bool HB.out.symm, ((Below.refl _ _).alloc (Nat.le_refl _) _).alloc (by simp) _⟩
  · go_enter Try.func5, Try.ntmps5
    go_wp2_with fail
    refine (specNameOk_any _ _ hx'.out.1).mono ?_
    rintro e w1 ⟨rfl, rfl⟩
    cases h0 : nameB x.vName.data.toList
    · have HB : Hid (sp_w x = false) := by show _ = _; simp [sp_w, nmO, h0]
      go_wp2_with fail
      go_ret
      exact ⟨ret_bool HB.out.symm, ((Below.refl _ _).alloc (Nat.le_refl _) _).alloc (by simp) _⟩
    by_cases h1 : x.vOther.toList = []
    rotate_left
    · have HB : Hid (sp_w x = false) := by show _ = _; simp [sp_w, h1]
      go_wp2_with fail
      go_ret
      exact ⟨ret_bool HB.out.symm, ((Below.refl _ _).alloc (Nat.le_refl _) _).alloc (by simp) _⟩
    go_wp2_with fail
    refine (specNameOk_any _ _ hx'.out.2.2.1).mono ?_
    rintro e w1 ⟨rfl, rfl⟩
    cases h2 : nameB x.vWord.data.toList
    · have HB : Hid (sp_w x = false) := by show _ = _; simp [sp_w, nmO, h2]
      go_wp2_with fail
      go_ret
      exact ⟨ret_bool HB.out.symm, ((Below.refl _ _).alloc (Nat.le_refl _) _).alloc (by simp) _⟩
    have HB : Hid (sp_w x = false) := by show _ = _; simp [sp_w, nmO, HZ.out, h0, h1, h2]
    go_wp2_with fail
    go_ret
    exact ⟨ret_bool HB.out.symm, ((Below.refl _ _).alloc (Nat.le_refl _) _).alloc (by simp) _⟩
  · go_enter Try.func5, Try.ntmps5
    go_wp2_with fail
    refine (specNameOk_any _ _ hx'.out.1).mono ?_
    rintro e w1 ⟨rfl, rfl⟩
    cases h0 : nameB x.vName.data.toList
    · have HB : Hid (sp_w x = false) := by show _ = _; simp [sp_w, nmO, h0]
      go_wp2_with fail
      go_ret
      exact ⟨ret_bool HB.out.symm, ((Below.refl _ _).alloc (Nat.le_refl _) _).alloc (by simp) _⟩
    by_cases h1 : x.vOther.toList = []
    rotate_left
    · have HB : Hid (sp_w x = false) := by show _ = _; simp [sp_w, h1]
      go_wp2_with fail
      go_ret
      exact ⟨ret_bool HB.out.symm, ((Below.refl _ _).alloc (Nat.le_refl _) _).alloc (by simp) _⟩
    go_wp2_with fail
    refine (specNameOk_any _ _ hx'.out.2.2.1).mono ?_
    rintro e w1 ⟨rfl, rfl⟩
    cases h2 : nameB x.vWord.data.toList
    · have HB : Hid (sp_w x = false) := by show _ = _; simp [sp_w, nmO, h2]
      go_wp2_with fail
      go_ret
      exact ⟨ret_bool HB.out.symm, ((Below.refl _ _).alloc (Nat.le_refl _) _).alloc (by simp) _⟩
    have HB : Hid (sp_w x = false) := by show _ = _; simp [sp_w, nmO, HZ.out, h0, h1, h2]
    go_wp2_with fail
    go_ret
    exact ⟨ret_bool HB.out.symm, ((Below.refl _ _).alloc (Nat.le_refl _) _).alloc (by simp) _⟩
  · have z4' : ¬ (0 : Int) = x.vStop := fun e => z4 e.symm
    go_enter Try.func5, Try.ntmps5
    go_wp2_with fail
    refine (specNameOk_any _ _ hx'.out.1).mono ?_
    rintro e w1 ⟨rfl, rfl⟩
    cases h0 : nameB x.vName.data.toList
    · have HB : Hid (sp_w x = false) := by show _ = _; simp [sp_w, nmO, h0]
      go_wp2_with fail
      go_ret
      exact ⟨ret_bool HB.out.symm, ((Below.refl _ _).alloc (Nat.le_refl _) _).alloc (by simp) _⟩
    by_cases h1 : x.vOther.toList = []
    rotate_left
    · have HB : Hid (sp_w x = false) := by show _ = _; simp [sp_w, h1]
      go_wp2_with fail
      go_ret
      exact ⟨ret_bool HB.out.symm, ((Below.refl _ _).alloc (Nat.le_refl _) _).alloc (by simp) _⟩
    go_wp2_with fail
    refine (specNameOk_any _ _ hx'.out.2.2.1).mono ?_
    rintro e w1 ⟨rfl, rfl⟩
    cases h2 : nameB x.vWord.data.toList
    · have HB : Hid (sp_w x = false) := by show _ = _; simp [sp_w, nmO, h2]
      go_wp2_with fail
      go_ret
      exact ⟨ret_bool HB.out.symm, ((Below.refl _ _).alloc (Nat.le_refl _) _).alloc (by simp) _⟩
    have HB : Hid (sp_w x = false) := by show _ = _; simp [sp_w, nmO, HZ.out, h0, h1, h2]
    go_wp2_with fail
    go_ret
    exact ⟨ret_bool HB.out.symm, ((Below.refl _ _).alloc (Nat.le_refl _) _).alloc (by simp) _⟩
  · go_enter Try.func5, Try.ntmps5
    go_wp2_with fail
    refine (specNameOk_any _ _ hx'.out.1).mono ?_
    rintro e w1 ⟨rfl, rfl⟩
    cases h0 : nameB x.vName.data.toList
    · have HB : Hid (sp_w x = false) := by show _ = _; simp [sp_w, nmO, h0]
      go_wp2_with fail
      go_ret
      exact ⟨ret_bool HB.out.symm, ((Below.refl _ _).alloc (Nat.le_refl _) _).alloc (by simp) _⟩
    by_cases h1 : x.vOther.toList = []
    rotate_left
    · have HB : Hid (sp_w x = false) := by show _ = _; simp [sp_w, h1]
      go_wp2_with fail
      go_ret
      exact ⟨ret_bool HB.out.symm, ((Below.refl _ _).alloc (Nat.le_refl _) _).alloc (by simp) _⟩
    go_wp2_with fail
    refine (specNameOk_any _ _ hx'.out.2.2.1).mono ?_
    rintro e w1 ⟨rfl, rfl⟩
    cases h2 : nameB x.vWord.data.toList
    · have HB : Hid (sp_w x = false) := by show _ = _; simp [sp_w, nmO, h2]
      go_wp2_with fail
      go_ret
      exact ⟨ret_bool HB.out.symm, ((Below.refl _ _).alloc (Nat.le_refl _) _).alloc (by simp) _⟩
    have HB : Hid (sp_w x = false) := by show _ = _; simp [sp_w, nmO, HZ.out, h0, h1, h2]
    go_wp2_with fail
    go_ret
    exact ⟨ret_bool HB.out.symm, ((Below.refl _ _).alloc (Nat.le_refl _) _).alloc (by simp) _⟩
end Go.Proofs.Ytiegfonakdcciaa
