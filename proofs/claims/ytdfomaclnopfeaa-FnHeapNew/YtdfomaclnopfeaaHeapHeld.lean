/- What a name holds: plain facts, no memory. -/
import Derived.Test.YtdfomaclnopfeaaHeapEq
namespace Go.Proofs.Ytdfomaclnopfeaa
def heldAt : List FieldD → ByteArray → Option Int
  | [], _ => none
  | x :: xs, n => if (x.vName.toList == n.toList) = true then some x.vObj else heldAt xs n
theorem heldAt_hit {xs : List FieldD} {n : ByteArray} {j : Nat} (h : j < xs.length) (e : (xs[j].vName.toList == n.toList) = true) : heldAt (xs.drop j) n = some xs[j].vObj := by
  rw [drop_cons xs j h]; unfold heldAt; rw [if_pos e]
theorem heldAt_miss {xs : List FieldD} {n : ByteArray} {j : Nat} (h : j < xs.length) (e : (xs[j].vName.toList == n.toList) = false) : heldAt (xs.drop j) n = heldAt (xs.drop (j + 1)) n := by
  rw [drop_cons xs j h]; conv => lhs; unfold heldAt
  rw [if_neg (by rw [e]; decide)]
theorem heldAt_end {xs : List FieldD} {n : ByteArray} {j : Nat} (h : ¬ j < xs.length) : heldAt (xs.drop j) n = none := by
  rw [List.drop_of_length_le (by omega)]; rfl
def fieldR (xs : List FieldD) (n : ByteArray) : Int := (heldAt xs n).getD 0
def heldR (xs : List FieldD) (n : ByteArray) : Int × Bool :=
  match heldAt xs n with
  | none => (0, false)
  | some i => (i, true)
/-- the object of a name, in a right heap -/
def objF (h : HeapD) (n : ByteArray) : Option ObjD :=
  if implB h = true then (heldAt h.vGlobals n).bind fun i => objAt h i else none
def globalI (h : HeapD) (n : ByteArray) : Int × Bool :=
  match objF h n with
  | none => (0, false)
  | some o => (o.vId, true)
def nodeOfI (h : HeapD) (n : ByteArray) : Int × Bool :=
  match objF h n with
  | none => (0, false)
  | some o => (o.vNode, o.vNode != 0)
def fieldOfI (h : HeapD) (n f : ByteArray) : Int × Bool :=
  match objF h n with
  | none => (0, false)
  | some o => heldR o.vFields f
def globalS (h : HeapD) (n : ByteArray) : Int × Bool :=
  if specB h = false ∨ fieldR h.vGlobals n = 0 then (0, false) else (fieldR h.vGlobals n, true)
def wrappedR (h : HeapD) (n : ByteArray) : Int :=
  match objAt h (fieldR h.vGlobals n) with
  | none => 0
  | some o => o.vNode
def nodeOfS (h : HeapD) (n : ByteArray) : Int × Bool :=
  if specB h = false ∨ wrappedR h n = 0 then (0, false) else (wrappedR h n, true)
def fieldOfS (h : HeapD) (n f : ByteArray) : Int × Bool :=
  if specB h = false then (0, false) else match objAt h (fieldR h.vGlobals n) with
    | none => (0, false)
    | some o => if fieldR o.vFields f = 0 then (0, false) else (fieldR o.vFields f, true)
theorem flds_obj {h : HeapD} {n : ByteArray} {i : Int} : ∀ (xs : List FieldD) (l : ByteArray), fldsI h l xs = true → heldAt xs n = some i → (objAt h i).isSome = true := by
  intro xs
  induction xs with
  | nil => intro l _ e; cases e
  | cons x xs ih =>
    intro l hb e
    simp only [fldsI, Bool.and_eq_true] at hb
    unfold heldAt at e
    split at e
    · injection e with e; rw [← e]; exact hb.1.1.1
    · exact ih _ hb.2 e
theorem impl_parts {h : HeapD} (e : implB h = true) : idxB h = true ∧ objsI h h.vObjs = true ∧ fieldsI h h.vGlobals 8 = true := by
  simp only [implB, Bool.and_eq_true] at e
  exact ⟨e.1.1.1.1, e.1.1.2, e.1.2⟩
theorem ids_pos {h : HeapD} (e : idxB h = true) {i : Int} {o : ObjD} (ho : objAt h i = some o) : 0 < i ∧ o.vId = i ∧ o ∈ h.vObjs := by
  simp only [idxB, Bool.and_eq_true] at e
  have e2 := e.2
  rw [idxO_rs] at e2
  simp only [Bool.and_eq_true] at e2
  obtain ⟨h1, h2⟩ := get_mem _ _ ho
  have := rs_lt _ _ e2.1 o h1
  exact ⟨by omega, h2, h1⟩
theorem obj_zero {h : HeapD} (e : idxB h = true) : objAt h 0 = none := by
  cases ho : objAt h 0 with
  | none => rfl
  | some o => have := (ids_pos e ho).1; omega
theorem held_pos {h : HeapD} (e : idxB h = true) {xs : List FieldD} {m : Int} (hf : fieldsI h xs m = true) (n : ByteArray) : (heldAt xs n = none ∧ fieldR xs n = 0 ∧ heldR xs n = (0, false)) ∨ ∃ i o, heldAt xs n = some i ∧ fieldR xs n = i ∧ heldR xs n = (i, true) ∧ objAt h i = some o ∧ 0 < i ∧ o.vId = i ∧ o ∈ h.vObjs := by
  unfold fieldR heldR
  cases hh : heldAt xs n with
  | none => exact Or.inl ⟨rfl, rfl, rfl⟩
  | some i =>
    simp only [fieldsI, Bool.and_eq_true] at hf
    have h1 := flds_obj _ _ hf.2 hh
    cases ho : objAt h i with
    | none => rw [ho] at h1; cases h1
    | some o =>
      obtain ⟨p1, p2, p3⟩ := ids_pos e ho
      exact Or.inr ⟨i, o, rfl, rfl, rfl, ho, p1, p2, p3⟩
theorem objF_false {h : HeapD} {n : ByteArray} (e : implB h = false) : objF h n = none := by
  unfold objF; rw [if_neg (by rw [e]; decide)]
theorem objF_none {h : HeapD} {n : ByteArray} (e : heldAt h.vGlobals n = none) : objF h n = none := by
  unfold objF; rw [e]; split <;> rfl
theorem objF_some {h : HeapD} {n : ByteArray} {i : Int} (e : implB h = true) (e2 : heldAt h.vGlobals n = some i) : objF h n = objAt h i ∧ (objAt h i).isSome = true := by
  obtain ⟨p1, p2, p3⟩ := impl_parts e
  refine ⟨by unfold objF; rw [if_pos e, e2]; rfl, ?_⟩
  simp only [fieldsI, Bool.and_eq_true] at p3
  exact flds_obj _ _ p3.2 e2
theorem global_eq (h : HeapD) (n : ByteArray) : globalS h n = globalI h n := by
  unfold globalS globalI
  rw [spec_impl]
  cases e : implB h with
  | false => rw [objF_false e]; simp
  | true =>
    obtain ⟨p1, p2, p3⟩ := impl_parts e
    rcases held_pos p1 p3 n with ⟨h1, h2, h3⟩ | ⟨i, o, h1, h2, h3, h4, h5, h6, h7⟩
    · rw [objF_none h1, h2]; simp
    · rw [(objF_some e h1).1, h4, h2]
      have : ¬ i = 0 := by omega
      simp [this, h6]
theorem nodeOf_eq (h : HeapD) (n : ByteArray) : nodeOfS h n = nodeOfI h n := by
  unfold nodeOfS nodeOfI wrappedR
  rw [spec_impl]
  cases e : implB h with
  | false => rw [objF_false e]; simp
  | true =>
    obtain ⟨p1, p2, p3⟩ := impl_parts e
    rcases held_pos p1 p3 n with ⟨h1, h2, h3⟩ | ⟨i, o, h1, h2, h3, h4, h5, h6, h7⟩
    · rw [objF_none h1, h2, obj_zero p1]; simp
    · rw [(objF_some e h1).1, h2, h4]
      by_cases q : o.vNode = 0
      · simp [q]
      · simp [q]
theorem objsI_mem {h : HeapD} {o : ObjD} (e : objsI h h.vObjs = true) (ho : o ∈ h.vObjs) : fieldsI h o.vFields 5 = true := by
  rw [objsI_all, List.all_eq_true] at e
  have := e o ho
  simp only [objI, Bool.and_eq_true] at this
  exact this.2
theorem fieldOf_eq (h : HeapD) (n f : ByteArray) : fieldOfS h n f = fieldOfI h n f := by
  unfold fieldOfS fieldOfI
  rw [spec_impl]
  cases e : implB h with
  | false => rw [objF_false e]; simp
  | true =>
    obtain ⟨p1, p2, p3⟩ := impl_parts e
    rcases held_pos p1 p3 n with ⟨h1, h2, h3⟩ | ⟨i, o, h1, h2, h3, h4, h5, h6, h7⟩
    · rw [objF_none h1, h2, obj_zero p1]; simp
    · rw [(objF_some e h1).1, h2, h4]
      rcases held_pos p1 (objsI_mem p2 h7) f with ⟨g1, g2, g3⟩ | ⟨i', o', g1, g2, g3, g4, g5, g6, g7⟩
      · simp [g2, g3]
      · have : ¬ i' = 0 := by omega
        simp [g2, g3, this]
end Go.Proofs.Ytdfomaclnopfeaa
