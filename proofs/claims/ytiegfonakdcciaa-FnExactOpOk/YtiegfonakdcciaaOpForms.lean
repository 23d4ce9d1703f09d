/- The parts of the program's test of an op, walked. -/
import Derived.Test.YtiegfonakdcciaaOpWalks
namespace Go.Proofs.Ytiegfonakdcciaa
open Go.RowKit
def nmO (s : ByteArray) : Bool := nameB s.data.toList
def lisP (ty ln : ByteArray) (st : Int) : Bool := nmO ty && (nmO ln && (decide (0 ≤ st) && decide (st ≤ 2)))
def lisO (x : OpD) : Bool := lisP x.vType x.vLname x.vStop
set_option maxHeartbeats 400000 in
theorem listenerOk_any {w : World} {x : OpD} (hx : x.fits) :
    Calls Try.prog 42 #[.agg #[.string x.vType, .bool x.vCapture, .bool x.vOnce, .int .i64 x.vStop, .string x.vLname]] w fun e w' => e = .returned (.bool (lisO x)) ∧ w' = w.alloc (.cells #[.string x.vType, .bool x.vCapture, .bool x.vOnce, .int .i64 x.vStop, .string x.vLname] 28) := by
  obtain ⟨f1, f2, f3, f4, f5⟩ := hx
  have f4' : Hid _ := f4
  have f5' : Hid _ := f5
  clear f1 f2 f3 f4 f5
  go_enter Try.func42, Try.ntmps42
  go_wp2_with fail
  refine (implNameOk_any _ _ f4'.out).mono ?_
  rintro e w1 ⟨rfl, rfl⟩
  cases h1 : nameB x.vType.data.toList
  · have H1 : Hid (lisO x = false) := by show _ = _; simp [lisO, lisP, nmO, h1]
    clear h1
    go_wp2_with fail
    go_ret
    exact ⟨ret_bool H1.out.symm, rfl⟩
  have H1 : Hid (nmO x.vType = true) := h1
  clear h1
  go_wp2_with fail
  refine (implNameOk_any _ _ f5'.out).mono ?_
  rintro e w1 ⟨rfl, rfl⟩
  cases h2 : nameB x.vLname.data.toList
  · have H2 : Hid (lisO x = false) := by show _ = _; simp [lisO, lisP, nmO, h2]
    clear h2
    go_wp2_with fail
    go_ret
    exact ⟨ret_bool H2.out.symm, rfl⟩
  have H2 : Hid (lisO x = (decide (0 ≤ x.vStop) && decide (x.vStop ≤ 2))) := by show _ = _; have := H1.out; simp [lisO, lisP, this]; simp [nmO, h2]
  clear h2
  by_cases h3 : 0 ≤ x.vStop
  · by_cases h4 : x.vStop ≤ 2
    · have H3 : Hid (lisO x = true) := by show _ = _; rw [H2.out]; simp [h3, h4]
      go_wp2_with fail
      go_ret
      exact ⟨ret_bool H3.out.symm, rfl⟩
    · have H3 : Hid (lisO x = false) := by show _ = _; rw [H2.out]; simp [h4]
      go_wp2_with fail
      go_ret
      exact ⟨ret_bool (by rw [H3.out]; simp [h4]), rfl⟩
  · have H3 : Hid (lisO x = false) := by show _ = _; rw [H2.out]; simp; omega
    have h5 : decide (0 ≤ x.vStop) = false := by simpa using h3
    go_wp2_with fail
    go_ret
    exact ⟨ret_bool H3.out.symm, rfl⟩
set_option maxHeartbeats 400000 in
theorem nameForm_fields {w : World} {x : OpD} :
    Calls Try.prog 30 #[.agg #[.string x.vName]] w fun e w' => e = .returned (.agg #[.int .i64 0, .string x.vName, .string ⟨#[]⟩, .string ⟨#[]⟩, .string ⟨#[]⟩, .bool false, .bool false, .int .i64 0, .string ⟨#[]⟩]) ∧ w' = (w.alloc (.cells #[.string x.vName] 45)).alloc (.cells #[.int .i64 0, .string x.vName, .string ⟨#[]⟩, .string ⟨#[]⟩, .string ⟨#[]⟩, .bool false, .bool false, .int .i64 0, .string ⟨#[]⟩] 30) := by
  go_enter Try.func30, Try.ntmps30
  go_wp2_with fail
  exact bodyPost_ret (v := .agg #[.int .i64 0, .string x.vName, .string ⟨#[]⟩, .string ⟨#[]⟩, .string ⟨#[]⟩, .bool false, .bool false, .int .i64 0, .string ⟨#[]⟩]) (by simp [results, Try.results30, go_sem] <;> rfl) rfl ⟨rfl, rfl⟩
theorem nameForm_fieldsB {w : World} {x : OpD} :
    Calls Try.prog 30 #[.agg #[.string x.vName]] w fun e w' => e = .returned (.agg #[.int .i64 0, .string x.vName, .string ⟨#[]⟩, .string ⟨#[]⟩, .string ⟨#[]⟩, .bool false, .bool false, .int .i64 0, .string ⟨#[]⟩]) ∧ Below w.heap.size w w' :=
  nameForm_fields.mono (by rintro e w' ⟨rfl, rfl⟩; exact ⟨rfl, ((Below.refl _ _).alloc (Nat.le_refl _) _).alloc (by simp) _⟩)
def nameFormB (x : OpD) : Bool := nmO x.vName
set_option maxHeartbeats 400000 in
theorem nameForm_right {w : World} {x : OpD} (hx : x.fits) :
    Calls Try.prog 31 #[.agg #[.string x.vName]] w fun e w' => e = .returned (.bool (nameFormB x)) ∧ Below w.heap.size w w' := by
  have hx' : Hid x.fits := hx
  clear hx
  have hb0 : Below w.heap.size w (w.alloc (.cells #[.string x.vName] 45)) := (Below.refl _ _).alloc (Nat.le_refl _) _
  go_enter Try.func31, Try.ntmps31
  go_wp2_with fail
  refine (implNameOk_any _ _ hx'.out.1).mono ?_
  rintro e w1 ⟨rfl, rfl⟩
  go_wp2_with fail
  go_ret
  exact ⟨ret_bool (by simp [nameFormB, nmO]), hb0⟩
set_option maxHeartbeats 400000 in
theorem wordForm_fields {w : World} {x : OpD} :
    Calls Try.prog 34 #[.agg #[.string x.vName, .string x.vWord]] w fun e w' => e = .returned (.agg #[.int .i64 0, .string x.vName, .string ⟨#[]⟩, .string x.vWord, .string ⟨#[]⟩, .bool false, .bool false, .int .i64 0, .string ⟨#[]⟩]) ∧ w' = (w.alloc (.cells #[.string x.vName, .string x.vWord] 47)).alloc (.cells #[.int .i64 0, .string x.vName, .string ⟨#[]⟩, .string x.vWord, .string ⟨#[]⟩, .bool false, .bool false, .int .i64 0, .string ⟨#[]⟩] 30) := by
  go_enter Try.func34, Try.ntmps34
  go_wp2_with fail
  exact bodyPost_ret (v := .agg #[.int .i64 0, .string x.vName, .string ⟨#[]⟩, .string x.vWord, .string ⟨#[]⟩, .bool false, .bool false, .int .i64 0, .string ⟨#[]⟩]) (by simp [results, Try.results34, go_sem] <;> rfl) rfl ⟨rfl, rfl⟩
theorem wordForm_fieldsB {w : World} {x : OpD} :
    Calls Try.prog 34 #[.agg #[.string x.vName, .string x.vWord]] w fun e w' => e = .returned (.agg #[.int .i64 0, .string x.vName, .string ⟨#[]⟩, .string x.vWord, .string ⟨#[]⟩, .bool false, .bool false, .int .i64 0, .string ⟨#[]⟩]) ∧ Below w.heap.size w w' :=
  wordForm_fields.mono (by rintro e w' ⟨rfl, rfl⟩; exact ⟨rfl, ((Below.refl _ _).alloc (Nat.le_refl _) _).alloc (by simp) _⟩)
def wordFormB (x : OpD) : Bool := nmO x.vName && nmO x.vWord
set_option maxHeartbeats 400000 in
theorem wordForm_right {w : World} {x : OpD} (hx : x.fits) :
    Calls Try.prog 35 #[.agg #[.string x.vName, .string x.vWord]] w fun e w' => e = .returned (.bool (wordFormB x)) ∧ Below w.heap.size w w' := by
  have hx' : Hid x.fits := hx
  clear hx
  have hb0 : Below w.heap.size w (w.alloc (.cells #[.string x.vName, .string x.vWord] 47)) := (Below.refl _ _).alloc (Nat.le_refl _) _
  go_enter Try.func35, Try.ntmps35
  go_wp2_with fail
  refine (implNameOk_any _ _ hx'.out.1).mono ?_
  rintro e w1 ⟨rfl, rfl⟩
  cases h0 : nameB x.vName.data.toList
  · have HF : Hid (wordFormB x = false) := by show _ = _; simp [wordFormB, nmO, h0]
    clear h0
    go_wp2_with fail
    go_ret
    exact ⟨ret_bool HF.out.symm, hb0⟩
  have H0 : Hid (nameB x.vName.data.toList = true) := h0
  clear h0
  go_wp2_with fail
  refine (implNameOk_any _ _ hx'.out.2.2.1).mono ?_
  rintro e w1 ⟨rfl, rfl⟩
  have HF : Hid (wordFormB x = nameB x.vWord.data.toList) := by show _ = _; unfold wordFormB nmO; simp [H0.out]
  go_wp2_with fail
  go_ret
  exact ⟨ret_bool HF.out.symm, hb0⟩
set_option maxHeartbeats 400000 in
theorem otherForm_fields {w : World} {x : OpD} :
    Calls Try.prog 36 #[.agg #[.string x.vName, .string x.vOther]] w fun e w' => e = .returned (.agg #[.int .i64 0, .string x.vName, .string x.vOther, .string ⟨#[]⟩, .string ⟨#[]⟩, .bool false, .bool false, .int .i64 0, .string ⟨#[]⟩]) ∧ w' = (w.alloc (.cells #[.string x.vName, .string x.vOther] 49)).alloc (.cells #[.int .i64 0, .string x.vName, .string x.vOther, .string ⟨#[]⟩, .string ⟨#[]⟩, .bool false, .bool false, .int .i64 0, .string ⟨#[]⟩] 30) := by
  go_enter Try.func36, Try.ntmps36
  go_wp2_with fail
  exact bodyPost_ret (v := .agg #[.int .i64 0, .string x.vName, .string x.vOther, .string ⟨#[]⟩, .string ⟨#[]⟩, .bool false, .bool false, .int .i64 0, .string ⟨#[]⟩]) (by simp [results, Try.results36, go_sem] <;> rfl) rfl ⟨rfl, rfl⟩
theorem otherForm_fieldsB {w : World} {x : OpD} :
    Calls Try.prog 36 #[.agg #[.string x.vName, .string x.vOther]] w fun e w' => e = .returned (.agg #[.int .i64 0, .string x.vName, .string x.vOther, .string ⟨#[]⟩, .string ⟨#[]⟩, .bool false, .bool false, .int .i64 0, .string ⟨#[]⟩]) ∧ Below w.heap.size w w' :=
  otherForm_fields.mono (by rintro e w' ⟨rfl, rfl⟩; exact ⟨rfl, ((Below.refl _ _).alloc (Nat.le_refl _) _).alloc (by simp) _⟩)
def otherFormB (x : OpD) : Bool := nmO x.vName && nmO x.vOther
set_option maxHeartbeats 400000 in
theorem otherForm_right {w : World} {x : OpD} (hx : x.fits) :
    Calls Try.prog 37 #[.agg #[.string x.vName, .string x.vOther]] w fun e w' => e = .returned (.bool (otherFormB x)) ∧ Below w.heap.size w w' := by
  have hx' : Hid x.fits := hx
  clear hx
  have hb0 : Below w.heap.size w (w.alloc (.cells #[.string x.vName, .string x.vOther] 49)) := (Below.refl _ _).alloc (Nat.le_refl _) _
  go_enter Try.func37, Try.ntmps37
  go_wp2_with fail
  refine (implNameOk_any _ _ hx'.out.1).mono ?_
  rintro e w1 ⟨rfl, rfl⟩
  cases h0 : nameB x.vName.data.toList
  · have HF : Hid (otherFormB x = false) := by show _ = _; simp [otherFormB, nmO, h0]
    clear h0
    go_wp2_with fail
    go_ret
    exact ⟨ret_bool HF.out.symm, hb0⟩
  have H0 : Hid (nameB x.vName.data.toList = true) := h0
  clear h0
  go_wp2_with fail
  refine (implNameOk_any _ _ hx'.out.2.1).mono ?_
  rintro e w1 ⟨rfl, rfl⟩
  have HF : Hid (otherFormB x = nameB x.vOther.data.toList) := by show _ = _; unfold otherFormB nmO; simp [H0.out]
  go_wp2_with fail
  go_ret
  exact ⟨ret_bool HF.out.symm, hb0⟩
set_option maxHeartbeats 400000 in
theorem fieldForm_fields {w : World} {x : OpD} :
    Calls Try.prog 38 #[.agg #[.string x.vName, .string x.vWord, .string x.vOther]] w fun e w' => e = .returned (.agg #[.int .i64 0, .string x.vName, .string x.vOther, .string x.vWord, .string ⟨#[]⟩, .bool false, .bool false, .int .i64 0, .string ⟨#[]⟩]) ∧ w' = (w.alloc (.cells #[.string x.vName, .string x.vWord, .string x.vOther] 51)).alloc (.cells #[.int .i64 0, .string x.vName, .string x.vOther, .string x.vWord, .string ⟨#[]⟩, .bool false, .bool false, .int .i64 0, .string ⟨#[]⟩] 30) := by
  go_enter Try.func38, Try.ntmps38
  go_wp2_with fail
  exact bodyPost_ret (v := .agg #[.int .i64 0, .string x.vName, .string x.vOther, .string x.vWord, .string ⟨#[]⟩, .bool false, .bool false, .int .i64 0, .string ⟨#[]⟩]) (by simp [results, Try.results38, go_sem] <;> rfl) rfl ⟨rfl, rfl⟩
theorem fieldForm_fieldsB {w : World} {x : OpD} :
    Calls Try.prog 38 #[.agg #[.string x.vName, .string x.vWord, .string x.vOther]] w fun e w' => e = .returned (.agg #[.int .i64 0, .string x.vName, .string x.vOther, .string x.vWord, .string ⟨#[]⟩, .bool false, .bool false, .int .i64 0, .string ⟨#[]⟩]) ∧ Below w.heap.size w w' :=
  fieldForm_fields.mono (by rintro e w' ⟨rfl, rfl⟩; exact ⟨rfl, ((Below.refl _ _).alloc (Nat.le_refl _) _).alloc (by simp) _⟩)
def fieldFormB (x : OpD) : Bool := nmO x.vName && nmO x.vWord && nmO x.vOther
set_option maxHeartbeats 400000 in
theorem fieldForm_right {w : World} {x : OpD} (hx : x.fits) :
    Calls Try.prog 39 #[.agg #[.string x.vName, .string x.vWord, .string x.vOther]] w fun e w' => e = .returned (.bool (fieldFormB x)) ∧ Below w.heap.size w w' := by
  have hx' : Hid x.fits := hx
  clear hx
  have hb0 : Below w.heap.size w (w.alloc (.cells #[.string x.vName, .string x.vWord, .string x.vOther] 51)) := (Below.refl _ _).alloc (Nat.le_refl _) _
  go_enter Try.func39, Try.ntmps39
  go_wp2_with fail
  refine (implNameOk_any _ _ hx'.out.1).mono ?_
  rintro e w1 ⟨rfl, rfl⟩
  cases h0 : nameB x.vName.data.toList
  · have HF : Hid (fieldFormB x = false) := by show _ = _; simp [fieldFormB, nmO, h0]
    clear h0
    go_wp2_with fail
    go_ret
    exact ⟨ret_bool HF.out.symm, hb0⟩
  have H0 : Hid (nameB x.vName.data.toList = true) := h0
  clear h0
  go_wp2_with fail
  refine (implNameOk_any _ _ hx'.out.2.2.1).mono ?_
  rintro e w1 ⟨rfl, rfl⟩
  cases h1 : nameB x.vWord.data.toList
  · have HF : Hid (fieldFormB x = false) := by show _ = _; simp [fieldFormB, nmO, h1]
    clear h1
    go_wp2_with fail
    go_ret
    exact ⟨ret_bool HF.out.symm, hb0⟩
  have H1 : Hid (nameB x.vWord.data.toList = true) := h1
  clear h1
  go_wp2_with fail
  refine (implNameOk_any _ _ hx'.out.2.1).mono ?_
  rintro e w1 ⟨rfl, rfl⟩
  have HF : Hid (fieldFormB x = nameB x.vOther.data.toList) := by show _ = _; unfold fieldFormB nmO; simp [H0.out, H1.out]
  go_wp2_with fail
  go_ret
  exact ⟨ret_bool HF.out.symm, hb0⟩
set_option maxHeartbeats 400000 in
theorem listenerForm_fields {w : World} {x : OpD} :
    Calls Try.prog 40 #[.agg #[.string x.vName, .string x.vType, .bool x.vCapture, .bool x.vOnce, .int .i64 x.vStop, .string x.vLname]] w fun e w' => e = .returned (.agg #[.int .i64 0, .string x.vName, .string ⟨#[]⟩, .string ⟨#[]⟩, .string x.vType, .bool x.vCapture, .bool x.vOnce, .int .i64 x.vStop, .string x.vLname]) ∧ w' = (w.alloc (.cells #[.string x.vName, .string x.vType, .bool x.vCapture, .bool x.vOnce, .int .i64 x.vStop, .string x.vLname] 68)).alloc (.cells #[.int .i64 0, .string x.vName, .string ⟨#[]⟩, .string ⟨#[]⟩, .string x.vType, .bool x.vCapture, .bool x.vOnce, .int .i64 x.vStop, .string x.vLname] 30) := by
  go_enter Try.func40, Try.ntmps40
  go_wp2_with fail
  exact bodyPost_ret (v := .agg #[.int .i64 0, .string x.vName, .string ⟨#[]⟩, .string ⟨#[]⟩, .string x.vType, .bool x.vCapture, .bool x.vOnce, .int .i64 x.vStop, .string x.vLname]) (by simp [results, Try.results40, go_sem] <;> rfl) rfl ⟨rfl, rfl⟩
theorem listenerForm_fieldsB {w : World} {x : OpD} :
    Calls Try.prog 40 #[.agg #[.string x.vName, .string x.vType, .bool x.vCapture, .bool x.vOnce, .int .i64 x.vStop, .string x.vLname]] w fun e w' => e = .returned (.agg #[.int .i64 0, .string x.vName, .string ⟨#[]⟩, .string ⟨#[]⟩, .string x.vType, .bool x.vCapture, .bool x.vOnce, .int .i64 x.vStop, .string x.vLname]) ∧ Below w.heap.size w w' :=
  listenerForm_fields.mono (by rintro e w' ⟨rfl, rfl⟩; exact ⟨rfl, ((Below.refl _ _).alloc (Nat.le_refl _) _).alloc (by simp) _⟩)
def listenerFormB (x : OpD) : Bool := nmO x.vName && lisO x
set_option maxHeartbeats 400000 in
theorem listenerForm_right {w : World} {x : OpD} (hx : x.fits) :
    Calls Try.prog 41 #[.agg #[.string x.vName, .string x.vType, .bool x.vCapture, .bool x.vOnce, .int .i64 x.vStop, .string x.vLname]] w fun e w' => e = .returned (.bool (listenerFormB x)) ∧ Below w.heap.size w w' := by
  have hx' : Hid x.fits := hx
  clear hx
  have hb0 : Below w.heap.size w (w.alloc (.cells #[.string x.vName, .string x.vType, .bool x.vCapture, .bool x.vOnce, .int .i64 x.vStop, .string x.vLname] 68)) := (Below.refl _ _).alloc (Nat.le_refl _) _
  go_enter Try.func41, Try.ntmps41
  go_wp2_with fail
  refine (implNameOk_any _ _ hx'.out.1).mono ?_
  rintro e w1 ⟨rfl, rfl⟩
  cases h0 : nameB x.vName.data.toList
  · have HF : Hid (listenerFormB x = false) := by show _ = _; simp [listenerFormB, nmO, h0]
    clear h0
    go_wp2_with fail
    go_ret
    exact ⟨ret_bool HF.out.symm, hb0⟩
  have H0 : Hid (nameB x.vName.data.toList = true) := h0
  clear h0
  go_wp2_with fail
  refine (listenerOk_any hx'.out).mono ?_
  rintro e w1 ⟨rfl, rfl⟩
  have HF : Hid (listenerFormB x = lisO x) := by show _ = _; unfold listenerFormB nmO; simp [H0.out]
  go_wp2_with fail
  go_ret
  exact ⟨ret_bool HF.out.symm, hb0.alloc (by simp) _⟩
end Go.Proofs.Ytiegfonakdcciaa
