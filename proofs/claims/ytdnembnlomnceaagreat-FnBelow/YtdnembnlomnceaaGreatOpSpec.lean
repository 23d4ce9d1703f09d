/- The specification's test of an op, walked. -/
import Derived.Test.YtdnembnlomnceaaGreatAbb
import Derived.Deep.DeepCutAuto
import Derived.Deep.CutBlock
namespace Go.Proofs.YtdnembnlomnceaaGreat
open Go.RowKit
def lisZ (x : OpD) : Bool := decide (x.vType.toList = [] ∧ x.vCapture = false ∧ x.vOnce = false ∧ x.vStop = 0 ∧ x.vLname.toList = [])
theorem lisZ_cases (x : OpD) : (x.vType.toList = [] ∧ x.vCapture = false ∧ x.vOnce = false ∧ x.vStop = 0 ∧ x.vLname.toList = [] ∧ Hid (lisZ x = true)) ∨ (¬ x.vType.toList = [] ∧ Hid (lisZ x = false)) ∨ (x.vType.toList = [] ∧ x.vCapture = true ∧ Hid (lisZ x = false)) ∨ (x.vType.toList = [] ∧ x.vCapture = false ∧ x.vOnce = true ∧ Hid (lisZ x = false)) ∨ (x.vType.toList = [] ∧ x.vCapture = false ∧ x.vOnce = false ∧ ¬ x.vStop = 0 ∧ Hid (lisZ x = false)) ∨ (x.vType.toList = [] ∧ x.vCapture = false ∧ x.vOnce = false ∧ x.vStop = 0 ∧ ¬ x.vLname.toList = [] ∧ Hid (lisZ x = false)) := by
 unfold lisZ Hid
 by_cases h1 : x.vType.toList = [] <;> by_cases h4 : x.vStop = 0 <;> by_cases h5 : x.vLname.toList = [] <;> cases h2 : x.vCapture <;> cases h3 : x.vOnce <;> simp [*]
def sp_w (x : OpD) : Bool := nmO x.vName && (decide (x.vOther.toList = []) && (nmO x.vWord && lisZ x))
def sp_n (x : OpD) : Bool := nmO x.vName && (decide (x.vOther.toList = []) && (decide (x.vWord.toList = []) && lisZ x))
def sp_f (x : OpD) : Bool := nmO x.vName && (nmO x.vOther && (nmO x.vWord && lisZ x))
def sp_o (x : OpD) : Bool := nmO x.vName && (nmO x.vOther && (decide (x.vWord.toList = []) && lisZ x))
def sp_l (x : OpD) : Bool := nmO x.vName && (decide (x.vOther.toList = []) && (decide (x.vWord.toList = []) && lisO x))
set_option maxHeartbeats 400000 in
theorem l1InO_any (n a b : Int) (w : World) : Calls Tryz.prog 49 #[.int .i64 n, .int .i64 a, .int .i64 b] w fun e w' => e = .returned (.bool (decide (a ≤ n) && decide (n ≤ b))) ∧ w' = w := by
 by_cases h1 : a ≤ n
 · by_cases h2 : n ≤ b
   · go_enter Tryz.func49, Tryz.ntmps49
     go_wp2
     go_ret
     exact ⟨ret_bool (by simp [h1, h2]), rfl⟩
   · go_enter Tryz.func49, Tryz.ntmps49
     go_wp2
     go_ret
     exact ⟨ret_bool (by simp [h2]), rfl⟩
 · go_enter Tryz.func49, Tryz.ntmps49
   go_wp2
   go_ret
   exact ⟨ret_bool (by simp; omega), rfl⟩
set_option maxHeartbeats 400000 in
theorem l2ListenerO_any {w : World} {ty ln : ByteArray} {ca on : Bool} {st : Int} (f4 : ty.size ≤ maxLen) (f5 : ln.size ≤ maxLen) :
 Calls Tryz.prog 88 #[.agg #[.string ty, .bool ca, .bool on, .int .i64 st, .string ln]] w fun e w' => e = .returned (.bool (lisP ty ln st)) ∧ w' = w.alloc (.cells #[.string ty, .bool ca, .bool on, .int .i64 st, .string ln] 89) := by
 have f4' : Hid _ := f4
 have f5' : Hid _ := f5
 clear f4 f5
 go_enter Tryz.func88, Tryz.ntmps88
 go_wp2_with fail
 refine (specNameOk_any _ _ f4'.out).mono ?_
 rintro e w1 ⟨rfl, rfl⟩
 cases h1 : nameB ty.data.toList
 · have H1 : Hid (lisP ty ln st = false) := by show _ = _; simp [lisP, nmO, h1]
   clear h1
   go_wp2_with fail
   go_ret
   exact ⟨ret_bool H1.out.symm, rfl⟩
 have H1 : Hid (nmO ty = true) := h1
 clear h1
 go_wp2_with fail
 refine (specNameOk_any _ _ f5'.out).mono ?_
 rintro e w1 ⟨rfl, rfl⟩
 cases h2 : nameB ln.data.toList
 · have H2 : Hid (lisP ty ln st = false) := by show _ = _; simp [lisP, nmO, h2]
   clear h2
   go_wp2_with fail
   go_ret
   exact ⟨ret_bool H2.out.symm, rfl⟩
 have H2 : Hid (lisP ty ln st = (decide (0 ≤ st) && decide (st ≤ 2))) := by show _ = _; have := H1.out; simp [lisP, this]; simp [nmO, h2]
 clear h2
 go_wp2_with fail
 refine (l1InO_any _ _ _ _).mono ?_
 rintro e w1 ⟨rfl, rfl⟩
 go_wp2_with fail
 go_ret
 exact ⟨ret_bool H2.out.symm, rfl⟩
/-- whether an op is right -/
def opS (o : OpD) : Bool :=
 if o.vKind = 1 ∨ o.vKind = 5 then sp_w o
 else if o.vKind = 2 ∨ o.vKind = 6 ∨ o.vKind = 9 ∨ o.vKind = 10 then sp_n o
 else if o.vKind = 3 ∨ o.vKind = 4 then sp_f o
 else if o.vKind = 7 ∨ o.vKind = 8 ∨ o.vKind = 11 then sp_o o
 else if o.vKind = 12 then sp_l o
 else false
theorem opS_kind {o : OpD} (h : opS o = true) : o.vKind = 1 ∨ o.vKind = 2 ∨ o.vKind = 3 ∨ o.vKind = 4 ∨ o.vKind = 5 ∨ o.vKind = 6 ∨ o.vKind = 7 ∨ o.vKind = 8 ∨ o.vKind = 9 ∨ o.vKind = 10 ∨ o.vKind = 11 ∨ o.vKind = 12 := by
 unfold opS at h
 split at h
 · omega
 split at h
 · omega
 split at h
 · omega
 split at h
 · omega
 split at h
 · omega
 · cases h
set_option maxRecDepth 100000 in
set_option maxHeartbeats 8000000 in
theorem specOp_any {w : World} {x : OpD} (hx : x.fits) : Calls Tryz.prog 105 #[.agg (List.toArray (cOp x.vKind x))] w fun e w' => e = .returned (.bool (opS x)) ∧ Below w.heap.size w w' := by
 have hx' : Hid x.fits := hx
 obtain ⟨k, hk⟩ : ∃ k, x.vKind = k := ⟨_, rfl⟩
 have hkh : Hid (x.vKind = k) := hk
 rw [hk]
 clear hx hk
 have hB : Hid (Below w.heap.size w ((w.alloc (.cells (cOp k x).toArray 91)).alloc (.cells #[.string ⟨#[]⟩, .bool false, .bool false, .int .i64 0, .string ⟨#[]⟩] 89))) := ((Below.refl _ _).alloc (Nat.le_refl _) _).alloc (by simp) _
 go_enter Tryz.func105, Tryz.ntmps105
 go_upto_region 2 with fail
 go_cut [4] from 5 (fun v wx => v = .bool (lisZ x) ∧ wx = ((w.alloc (.cells (cOp k x).toArray 91)).alloc (.cells #[.string ⟨#[]⟩, .bool false, .bool false, .int .i64 0, .string ⟨#[]⟩] 89)))
 case first =>
  rcases lisZ_cases x with ⟨z1, z2, z3, z4, z5, HZ⟩ | ⟨z1, HZ⟩ | ⟨z1, z2, HZ⟩ | ⟨z1, z2, z3, HZ⟩ | ⟨z1, z2, z3, z4, HZ⟩ | ⟨z1, z2, z3, z4, z5, HZ⟩
  all_goals (try (have z4' : ¬ (0 : Int) = x.vStop := fun e => z4 e.symm))
  all_goals (go_wp2_with fail; go_meet; exact ⟨by rw [HZ.out], by first | rfl | simp only [z2, z3, z4] | simp only [z2, z3] | simp only [z2]⟩)
 case rest =>
  obtain ⟨rfl, rfl⟩ := hcut
  obtain ⟨z, hz⟩ : ∃ z, lisZ x = z := ⟨_, rfl⟩
  have hzh : Hid (lisZ x = z) := hz
  rw [hz]
  clear hz
  by_cases h1 : k = 1
  · subst h1
    have he : Hid (opS x = sp_w x) := by show _ = _; unfold opS; simp [hkh.out]
    go_wp2_with fail
    refine (specNameOk_any _ _ hx'.out.1).mono ?_
    rintro e w1 ⟨rfl, rfl⟩
    cases g0 : nameB x.vName.data.toList
    · have HB : Hid (sp_w x = false) := by show _ = _; simp [sp_w, nmO, g0]
      go_wp2_with fail
      go_ret
      exact ⟨ret_bool (by rw [he.out, HB.out]), hB.out⟩
    by_cases g1 : x.vOther.toList = []
    rotate_left
    · have HB : Hid (sp_w x = false) := by show _ = _; simp [sp_w, g1]
      go_wp2_with fail
      go_ret
      exact ⟨ret_bool (by rw [he.out, HB.out]), hB.out⟩
    go_wp2_with fail
    refine (specNameOk_any _ _ hx'.out.2.2.1).mono ?_
    rintro e w1 ⟨rfl, rfl⟩
    cases g2 : nameB x.vWord.data.toList
    · have HB : Hid (sp_w x = false) := by show _ = _; simp [sp_w, nmO, g2]
      go_wp2_with fail
      go_ret
      exact ⟨ret_bool (by rw [he.out, HB.out]), hB.out⟩
    have HB : Hid (sp_w x = z) := by show _ = _; simp [sp_w, nmO, hzh.out, g0, g1, g2]
    go_wp2_with fail
    go_ret
    exact ⟨ret_bool (by rw [he.out, HB.out]), hB.out⟩
  by_cases h2 : k = 2
  · subst h2
    have he : Hid (opS x = sp_n x) := by show _ = _; unfold opS; simp [hkh.out]
    go_wp2_with fail
    refine (specNameOk_any _ _ hx'.out.1).mono ?_
    rintro e w1 ⟨rfl, rfl⟩
    cases g0 : nameB x.vName.data.toList
    · have HB : Hid (sp_n x = false) := by show _ = _; simp [sp_n, nmO, g0]
      go_wp2_with fail
      go_ret
      exact ⟨ret_bool (by rw [he.out, HB.out]), hB.out⟩
    by_cases g1 : x.vOther.toList = []
    rotate_left
    · have HB : Hid (sp_n x = false) := by show _ = _; simp [sp_n, g1]
      go_wp2_with fail
      go_ret
      exact ⟨ret_bool (by rw [he.out, HB.out]), hB.out⟩
    by_cases g2 : x.vWord.toList = []
    rotate_left
    · have HB : Hid (sp_n x = false) := by show _ = _; simp [sp_n, g2]
      go_wp2_with fail
      go_ret
      exact ⟨ret_bool (by rw [he.out, HB.out]), hB.out⟩
    have HB : Hid (sp_n x = z) := by show _ = _; simp [sp_n, nmO, hzh.out, g0, g1, g2]
    go_wp2_with fail
    go_ret
    exact ⟨ret_bool (by rw [he.out, HB.out]), hB.out⟩
  by_cases h3 : k = 3
  · subst h3
    have he : Hid (opS x = sp_f x) := by show _ = _; unfold opS; simp [hkh.out]
    go_wp2_with fail
    refine (specNameOk_any _ _ hx'.out.1).mono ?_
    rintro e w1 ⟨rfl, rfl⟩
    cases g0 : nameB x.vName.data.toList
    · have HB : Hid (sp_f x = false) := by show _ = _; simp [sp_f, nmO, g0]
      go_wp2_with fail
      go_ret
      exact ⟨ret_bool (by rw [he.out, HB.out]), hB.out⟩
    go_wp2_with fail
    refine (specNameOk_any _ _ hx'.out.2.1).mono ?_
    rintro e w1 ⟨rfl, rfl⟩
    cases g1 : nameB x.vOther.data.toList
    · have HB : Hid (sp_f x = false) := by show _ = _; simp [sp_f, nmO, g1]
      go_wp2_with fail
      go_ret
      exact ⟨ret_bool (by rw [he.out, HB.out]), hB.out⟩
    go_wp2_with fail
    refine (specNameOk_any _ _ hx'.out.2.2.1).mono ?_
    rintro e w1 ⟨rfl, rfl⟩
    cases g2 : nameB x.vWord.data.toList
    · have HB : Hid (sp_f x = false) := by show _ = _; simp [sp_f, nmO, g2]
      go_wp2_with fail
      go_ret
      exact ⟨ret_bool (by rw [he.out, HB.out]), hB.out⟩
    have HB : Hid (sp_f x = z) := by show _ = _; simp [sp_f, nmO, hzh.out, g0, g1, g2]
    go_wp2_with fail
    go_ret
    exact ⟨ret_bool (by rw [he.out, HB.out]), hB.out⟩
  by_cases h4 : k = 4
  · subst h4
    have he : Hid (opS x = sp_f x) := by show _ = _; unfold opS; simp [hkh.out]
    go_wp2_with fail
    refine (specNameOk_any _ _ hx'.out.1).mono ?_
    rintro e w1 ⟨rfl, rfl⟩
    cases g0 : nameB x.vName.data.toList
    · have HB : Hid (sp_f x = false) := by show _ = _; simp [sp_f, nmO, g0]
      go_wp2_with fail
      go_ret
      exact ⟨ret_bool (by rw [he.out, HB.out]), hB.out⟩
    go_wp2_with fail
    refine (specNameOk_any _ _ hx'.out.2.1).mono ?_
    rintro e w1 ⟨rfl, rfl⟩
    cases g1 : nameB x.vOther.data.toList
    · have HB : Hid (sp_f x = false) := by show _ = _; simp [sp_f, nmO, g1]
      go_wp2_with fail
      go_ret
      exact ⟨ret_bool (by rw [he.out, HB.out]), hB.out⟩
    go_wp2_with fail
    refine (specNameOk_any _ _ hx'.out.2.2.1).mono ?_
    rintro e w1 ⟨rfl, rfl⟩
    cases g2 : nameB x.vWord.data.toList
    · have HB : Hid (sp_f x = false) := by show _ = _; simp [sp_f, nmO, g2]
      go_wp2_with fail
      go_ret
      exact ⟨ret_bool (by rw [he.out, HB.out]), hB.out⟩
    have HB : Hid (sp_f x = z) := by show _ = _; simp [sp_f, nmO, hzh.out, g0, g1, g2]
    go_wp2_with fail
    go_ret
    exact ⟨ret_bool (by rw [he.out, HB.out]), hB.out⟩
  by_cases h5 : k = 5
  · subst h5
    have he : Hid (opS x = sp_w x) := by show _ = _; unfold opS; simp [hkh.out]
    go_wp2_with fail
    refine (specNameOk_any _ _ hx'.out.1).mono ?_
    rintro e w1 ⟨rfl, rfl⟩
    cases g0 : nameB x.vName.data.toList
    · have HB : Hid (sp_w x = false) := by show _ = _; simp [sp_w, nmO, g0]
      go_wp2_with fail
      go_ret
      exact ⟨ret_bool (by rw [he.out, HB.out]), hB.out⟩
    by_cases g1 : x.vOther.toList = []
    rotate_left
    · have HB : Hid (sp_w x = false) := by show _ = _; simp [sp_w, g1]
      go_wp2_with fail
      go_ret
      exact ⟨ret_bool (by rw [he.out, HB.out]), hB.out⟩
    go_wp2_with fail
    refine (specNameOk_any _ _ hx'.out.2.2.1).mono ?_
    rintro e w1 ⟨rfl, rfl⟩
    cases g2 : nameB x.vWord.data.toList
    · have HB : Hid (sp_w x = false) := by show _ = _; simp [sp_w, nmO, g2]
      go_wp2_with fail
      go_ret
      exact ⟨ret_bool (by rw [he.out, HB.out]), hB.out⟩
    have HB : Hid (sp_w x = z) := by show _ = _; simp [sp_w, nmO, hzh.out, g0, g1, g2]
    go_wp2_with fail
    go_ret
    exact ⟨ret_bool (by rw [he.out, HB.out]), hB.out⟩
  by_cases h6 : k = 6
  · subst h6
    have he : Hid (opS x = sp_n x) := by show _ = _; unfold opS; simp [hkh.out]
    go_wp2_with fail
    refine (specNameOk_any _ _ hx'.out.1).mono ?_
    rintro e w1 ⟨rfl, rfl⟩
    cases g0 : nameB x.vName.data.toList
    · have HB : Hid (sp_n x = false) := by show _ = _; simp [sp_n, nmO, g0]
      go_wp2_with fail
      go_ret
      exact ⟨ret_bool (by rw [he.out, HB.out]), hB.out⟩
    by_cases g1 : x.vOther.toList = []
    rotate_left
    · have HB : Hid (sp_n x = false) := by show _ = _; simp [sp_n, g1]
      go_wp2_with fail
      go_ret
      exact ⟨ret_bool (by rw [he.out, HB.out]), hB.out⟩
    by_cases g2 : x.vWord.toList = []
    rotate_left
    · have HB : Hid (sp_n x = false) := by show _ = _; simp [sp_n, g2]
      go_wp2_with fail
      go_ret
      exact ⟨ret_bool (by rw [he.out, HB.out]), hB.out⟩
    have HB : Hid (sp_n x = z) := by show _ = _; simp [sp_n, nmO, hzh.out, g0, g1, g2]
    go_wp2_with fail
    go_ret
    exact ⟨ret_bool (by rw [he.out, HB.out]), hB.out⟩
  by_cases h7 : k = 7
  · subst h7
    have he : Hid (opS x = sp_o x) := by show _ = _; unfold opS; simp [hkh.out]
    go_wp2_with fail
    refine (specNameOk_any _ _ hx'.out.1).mono ?_
    rintro e w1 ⟨rfl, rfl⟩
    cases g0 : nameB x.vName.data.toList
    · have HB : Hid (sp_o x = false) := by show _ = _; simp [sp_o, nmO, g0]
      go_wp2_with fail
      go_ret
      exact ⟨ret_bool (by rw [he.out, HB.out]), hB.out⟩
    go_wp2_with fail
    refine (specNameOk_any _ _ hx'.out.2.1).mono ?_
    rintro e w1 ⟨rfl, rfl⟩
    cases g1 : nameB x.vOther.data.toList
    · have HB : Hid (sp_o x = false) := by show _ = _; simp [sp_o, nmO, g1]
      go_wp2_with fail
      go_ret
      exact ⟨ret_bool (by rw [he.out, HB.out]), hB.out⟩
    by_cases g2 : x.vWord.toList = []
    rotate_left
    · have HB : Hid (sp_o x = false) := by show _ = _; simp [sp_o, g2]
      go_wp2_with fail
      go_ret
      exact ⟨ret_bool (by rw [he.out, HB.out]), hB.out⟩
    have HB : Hid (sp_o x = z) := by show _ = _; simp [sp_o, nmO, hzh.out, g0, g1, g2]
    go_wp2_with fail
    go_ret
    exact ⟨ret_bool (by rw [he.out, HB.out]), hB.out⟩
  by_cases h8 : k = 8
  · subst h8
    have he : Hid (opS x = sp_o x) := by show _ = _; unfold opS; simp [hkh.out]
    go_wp2_with fail
    refine (specNameOk_any _ _ hx'.out.1).mono ?_
    rintro e w1 ⟨rfl, rfl⟩
    cases g0 : nameB x.vName.data.toList
    · have HB : Hid (sp_o x = false) := by show _ = _; simp [sp_o, nmO, g0]
      go_wp2_with fail
      go_ret
      exact ⟨ret_bool (by rw [he.out, HB.out]), hB.out⟩
    go_wp2_with fail
    refine (specNameOk_any _ _ hx'.out.2.1).mono ?_
    rintro e w1 ⟨rfl, rfl⟩
    cases g1 : nameB x.vOther.data.toList
    · have HB : Hid (sp_o x = false) := by show _ = _; simp [sp_o, nmO, g1]
      go_wp2_with fail
      go_ret
      exact ⟨ret_bool (by rw [he.out, HB.out]), hB.out⟩
    by_cases g2 : x.vWord.toList = []
    rotate_left
    · have HB : Hid (sp_o x = false) := by show _ = _; simp [sp_o, g2]
      go_wp2_with fail
      go_ret
      exact ⟨ret_bool (by rw [he.out, HB.out]), hB.out⟩
    have HB : Hid (sp_o x = z) := by show _ = _; simp [sp_o, nmO, hzh.out, g0, g1, g2]
    go_wp2_with fail
    go_ret
    exact ⟨ret_bool (by rw [he.out, HB.out]), hB.out⟩
  by_cases h9 : k = 9
  · subst h9
    have he : Hid (opS x = sp_n x) := by show _ = _; unfold opS; simp [hkh.out]
    go_wp2_with fail
    refine (specNameOk_any _ _ hx'.out.1).mono ?_
    rintro e w1 ⟨rfl, rfl⟩
    cases g0 : nameB x.vName.data.toList
    · have HB : Hid (sp_n x = false) := by show _ = _; simp [sp_n, nmO, g0]
      go_wp2_with fail
      go_ret
      exact ⟨ret_bool (by rw [he.out, HB.out]), hB.out⟩
    by_cases g1 : x.vOther.toList = []
    rotate_left
    · have HB : Hid (sp_n x = false) := by show _ = _; simp [sp_n, g1]
      go_wp2_with fail
      go_ret
      exact ⟨ret_bool (by rw [he.out, HB.out]), hB.out⟩
    by_cases g2 : x.vWord.toList = []
    rotate_left
    · have HB : Hid (sp_n x = false) := by show _ = _; simp [sp_n, g2]
      go_wp2_with fail
      go_ret
      exact ⟨ret_bool (by rw [he.out, HB.out]), hB.out⟩
    have HB : Hid (sp_n x = z) := by show _ = _; simp [sp_n, nmO, hzh.out, g0, g1, g2]
    go_wp2_with fail
    go_ret
    exact ⟨ret_bool (by rw [he.out, HB.out]), hB.out⟩
  by_cases h10 : k = 10
  · subst h10
    have he : Hid (opS x = sp_n x) := by show _ = _; unfold opS; simp [hkh.out]
    go_wp2_with fail
    refine (specNameOk_any _ _ hx'.out.1).mono ?_
    rintro e w1 ⟨rfl, rfl⟩
    cases g0 : nameB x.vName.data.toList
    · have HB : Hid (sp_n x = false) := by show _ = _; simp [sp_n, nmO, g0]
      go_wp2_with fail
      go_ret
      exact ⟨ret_bool (by rw [he.out, HB.out]), hB.out⟩
    by_cases g1 : x.vOther.toList = []
    rotate_left
    · have HB : Hid (sp_n x = false) := by show _ = _; simp [sp_n, g1]
      go_wp2_with fail
      go_ret
      exact ⟨ret_bool (by rw [he.out, HB.out]), hB.out⟩
    by_cases g2 : x.vWord.toList = []
    rotate_left
    · have HB : Hid (sp_n x = false) := by show _ = _; simp [sp_n, g2]
      go_wp2_with fail
      go_ret
      exact ⟨ret_bool (by rw [he.out, HB.out]), hB.out⟩
    have HB : Hid (sp_n x = z) := by show _ = _; simp [sp_n, nmO, hzh.out, g0, g1, g2]
    go_wp2_with fail
    go_ret
    exact ⟨ret_bool (by rw [he.out, HB.out]), hB.out⟩
  by_cases h11 : k = 11
  · subst h11
    have he : Hid (opS x = sp_o x) := by show _ = _; unfold opS; simp [hkh.out]
    go_wp2_with fail
    refine (specNameOk_any _ _ hx'.out.1).mono ?_
    rintro e w1 ⟨rfl, rfl⟩
    cases g0 : nameB x.vName.data.toList
    · have HB : Hid (sp_o x = false) := by show _ = _; simp [sp_o, nmO, g0]
      go_wp2_with fail
      go_ret
      exact ⟨ret_bool (by rw [he.out, HB.out]), hB.out⟩
    go_wp2_with fail
    refine (specNameOk_any _ _ hx'.out.2.1).mono ?_
    rintro e w1 ⟨rfl, rfl⟩
    cases g1 : nameB x.vOther.data.toList
    · have HB : Hid (sp_o x = false) := by show _ = _; simp [sp_o, nmO, g1]
      go_wp2_with fail
      go_ret
      exact ⟨ret_bool (by rw [he.out, HB.out]), hB.out⟩
    by_cases g2 : x.vWord.toList = []
    rotate_left
    · have HB : Hid (sp_o x = false) := by show _ = _; simp [sp_o, g2]
      go_wp2_with fail
      go_ret
      exact ⟨ret_bool (by rw [he.out, HB.out]), hB.out⟩
    have HB : Hid (sp_o x = z) := by show _ = _; simp [sp_o, nmO, hzh.out, g0, g1, g2]
    go_wp2_with fail
    go_ret
    exact ⟨ret_bool (by rw [he.out, HB.out]), hB.out⟩
  by_cases h12 : k = 12
  · subst h12
    have he : Hid (opS x = sp_l x) := by show _ = _; unfold opS; simp [hkh.out]
    go_wp2_with fail
    refine (specNameOk_any _ _ hx'.out.1).mono ?_
    rintro e w1 ⟨rfl, rfl⟩
    cases g0 : nameB x.vName.data.toList
    · have HB : Hid (sp_l x = false) := by show _ = _; simp [sp_l, nmO, g0]
      go_wp2_with fail
      go_ret
      exact ⟨ret_bool (by rw [he.out, HB.out]), hB.out⟩
    by_cases g1 : x.vOther.toList = []
    rotate_left
    · have HB : Hid (sp_l x = false) := by show _ = _; simp [sp_l, g1]
      go_wp2_with fail
      go_ret
      exact ⟨ret_bool (by rw [he.out, HB.out]), hB.out⟩
    by_cases g2 : x.vWord.toList = []
    rotate_left
    · have HB : Hid (sp_l x = false) := by show _ = _; simp [sp_l, g2]
      go_wp2_with fail
      go_ret
      exact ⟨ret_bool (by rw [he.out, HB.out]), hB.out⟩
    go_wp2_with fail
    refine (l2ListenerO_any hx'.out.2.2.2.1 hx'.out.2.2.2.2).mono ?_
    rintro e w1 ⟨rfl, rfl⟩
    go_wp2_with fail
    go_ret
    exact ⟨ret_bool (by rw [he.out]; simp [sp_l, lisO, nmO, *]), hB.out.alloc (by simp; omega) _⟩
  have n1 : (k == 1) = false := by simpa using h1
  have n2 : (k == 2) = false := by simpa using h2
  have n3 : (k == 3) = false := by simpa using h3
  have n4 : (k == 4) = false := by simpa using h4
  have n5 : (k == 5) = false := by simpa using h5
  have n6 : (k == 6) = false := by simpa using h6
  have n7 : (k == 7) = false := by simpa using h7
  have n8 : (k == 8) = false := by simpa using h8
  have n9 : (k == 9) = false := by simpa using h9
  have n10 : (k == 10) = false := by simpa using h10
  have n11 : (k == 11) = false := by simpa using h11
  have n12 : (k == 12) = false := by simpa using h12
  have he : Hid (opS x = false) := by show _ = _; unfold opS; simp [hkh.out, h1, h2, h3, h4, h5, h6, h7, h8, h9, h10, h11, h12]
  clear h1 h2 h3 h4 h5 h6 h7 h8 h9 h10 h11 h12
  go_wp2_with fail
  go_ret
  exact ⟨ret_bool he.out.symm, hB.out⟩
end Go.Proofs.YtdnembnlomnceaaGreat
