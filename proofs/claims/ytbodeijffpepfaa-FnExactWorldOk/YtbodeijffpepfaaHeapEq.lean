/- Both ask the same of a heap: plain facts, no memory. -/
import Derived.Test.YtbodeijffpepfaaHeapMore
import Derived.Test.YtbodeijffpepfaaImplRight
namespace Go.Proofs.Ytbodeijffpepfaa
theorem less_total : ∀ a b : List UInt8, (Op.bytesLess a b || a == b) = !Op.bytesLess b a := by
  intro a
  induction a with
  | nil => intro b; cases b <;> simp [Op.bytesLess]
  | cons x a ih =>
    intro b
    cases b with
    | nil => simp [Op.bytesLess]
    | cons y b =>
      have h := ih b
      have tri : x < y ∨ x = y ∨ y < x := by
        rcases Nat.lt_trichotomy x.toNat y.toNat with e | e | e
        · exact Or.inl (UInt8.lt_iff_toNat_lt.2 e)
        · exact Or.inr (Or.inl (UInt8.toNat_inj.1 e))
        · exact Or.inr (Or.inr (UInt8.lt_iff_toNat_lt.2 e))
      rcases tri with e | e | e
      · have h1 : ¬ y < x := UInt8.lt_asymm e
        have h2 : ¬ x = y := UInt8.ne_of_lt e
        have h3 : ¬ y = x := fun q => h2 q.symm
        simp [Op.bytesLess, e, h1, h3]
      · subst e
        have h1 : ¬ x < x := UInt8.lt_irrefl x
        simp only [Op.bytesLess, h1, decide_false, Bool.false_or, beq_self_eq_true, Bool.true_and]
        rw [← h]
        simp
      · have h1 : ¬ x < y := UInt8.lt_asymm e
        have h2 : ¬ y = x := UInt8.ne_of_lt e
        have h3 : ¬ x = y := fun q => h2 q.symm
        simp [Op.bytesLess, e, h1, h3]
theorem leS_eq (a b : ByteArray) : leS a b = !ltS b a := less_total _ _
theorem toList_data (a : ByteArray) : a.toList = a.data.toList := by
  exact ByteArray.toList_eq a
theorem leS_empty {a : ByteArray} (h : nmB a = true) : leS a ⟨#[]⟩ = false := by
  have h1 : (⟨#[]⟩ : ByteArray).toList = [] := (toList_data _).trans rfl
  unfold leS
  rw [h1, toList_data]
  unfold nmB nameB at h
  cases hl : a.data.toList with
  | nil => rw [hl] at h; cases h
  | cons x xs => rfl
theorem flds_some (h : HeapD) : ∀ (xs : List FieldD) (q : ByteArray), fldsB h (some q) xs = fldsI h q xs := by
  intro xs
  induction xs with
  | nil => intro q; rfl
  | cons x xs ih =>
    intro q
    simp only [fldsB, fldsI, Option.all_some, leS_eq, Bool.not_not, ih]
    generalize nmB x.vName = A
    generalize ltS q x.vName = B
    generalize (objAt h x.vObj).isSome = C
    cases A <;> cases B <;> cases C <;> rfl
theorem flds_none (h : HeapD) (xs : List FieldD) : fldsB h none xs = fldsI h ⟨#[]⟩ xs := by
  cases xs with
  | nil => rfl
  | cons x xs =>
    simp only [fldsB, fldsI, Option.all_none, flds_some]
    cases hn : nmB x.vName
    · simp
    · rw [leS_empty hn]; simp
theorem fields_eq (h : HeapD) (xs : List FieldD) (m : Int) : fieldsB h xs m = fieldsI h xs m := by
  unfold fieldsB fieldsI
  rw [flds_none, Bool.and_comm]
def rsB {α : Type} (f : α → Int) (next : Int) : Int → List α → Bool
  | _, [] => true
  | l, x :: xs => decide (l < f x) && decide (f x < next) && rsB f next (f x) xs
theorem idxN_rs (h : HeapD) : ∀ (xs : List NodeD) (l : Int), idxNB h l xs = rsB NodeD.vId h.vNext l xs := by
  intro xs
  induction xs with
  | nil => intro l; rfl
  | cons x xs ih => intro l; simp only [idxNB, rsB, ih]
theorem idxO_rs (h : HeapD) : ∀ (xs : List ObjD) (l : Int), idxOB h l xs = (rsB ObjD.vId h.vNext l xs && xs.all fun x => (nodeAt h x.vId).isNone) := by
  intro xs
  induction xs with
  | nil => intro l; rfl
  | cons x xs ih =>
    intro l
    simp only [idxOB, rsB, ih, List.all_cons]
    generalize (nodeAt h x.vId).isNone = A
    generalize decide (l < x.vId) = B
    generalize decide (x.vId < h.vNext) = C
    generalize rsB ObjD.vId h.vNext x.vId xs = D
    cases A <;> cases B <;> cases C <;> cases D <;> rfl
theorem rise_test {p : Option Int} {l id next : Int} (hp : (p = none ∧ l = 0) ∨ (p = some l ∧ 0 ≤ l)) : (inB id 1 (next - 1) && riseB p id) = (decide (l < id) && decide (id < next)) := by
  rcases hp with ⟨rfl, rfl⟩ | ⟨rfl, hl⟩
  · rw [Bool.eq_iff_iff]; simp [inB, riseB]; omega
  · rw [Bool.eq_iff_iff]; simp [inB, riseB]; omega
theorem nodesF_eq (h : HeapD) : ∀ (xs : List NodeD) (p : Option Int) (l : Int), ((p = none ∧ l = 0) ∨ (p = some l ∧ 0 ≤ l)) → nodesF h p xs = (rsB NodeD.vId h.vNext l xs && (xs.all fun x => (objAt h x.vId).isNone) && xs.all fun x => nodeB h x) := by
  intro xs
  induction xs with
  | nil => intro p l _; rfl
  | cons x xs ih =>
    intro p l hp
    simp only [nodesF, rsB, List.all_cons, rise_test hp]
    by_cases h1 : l < x.vId
    · have h0 : 0 ≤ x.vId := by rcases hp with ⟨_, e⟩ | ⟨_, e⟩ <;> omega
      rw [ih (some x.vId) x.vId (Or.inr ⟨rfl, h0⟩)]
      generalize (objAt h x.vId).isNone = A
      generalize nodeB h x = B
      generalize decide (l < x.vId) = C
      generalize decide (x.vId < h.vNext) = D
      generalize rsB NodeD.vId h.vNext x.vId xs = E
      generalize (xs.all fun x => (objAt h x.vId).isNone) = F
      cases A <;> cases B <;> cases C <;> cases D <;> cases E <;> cases F <;> rfl
    · simp [h1]
theorem objsF_eq (h : HeapD) : ∀ (xs : List ObjD) (p : Option Int) (l : Int), ((p = none ∧ l = 0) ∨ (p = some l ∧ 0 ≤ l)) → objsF h p xs = (rsB ObjD.vId h.vNext l xs && xs.all fun x => objI h x) := by
  intro xs
  induction xs with
  | nil => intro p l _; rfl
  | cons x xs ih =>
    intro p l hp
    simp only [objsF, rsB, List.all_cons, rise_test hp, fields_eq, objI]
    by_cases h1 : l < x.vId
    · have h0 : 0 ≤ x.vId := by rcases hp with ⟨_, e⟩ | ⟨_, e⟩ <;> omega
      rw [ih (some x.vId) x.vId (Or.inr ⟨rfl, h0⟩)]
      simp only [objI]
      generalize oNodeB h x = A
      generalize fieldsI h x.vFields 5 = B
      generalize decide (l < x.vId) = C
      generalize decide (x.vId < h.vNext) = D
      generalize rsB ObjD.vId h.vNext x.vId xs = E
      cases A <;> cases B <;> cases C <;> cases D <;> cases E <;> rfl
    · simp [h1]
theorem nodesI_all (h : HeapD) (xs : List NodeD) : nodesI h xs = xs.all fun x => nodeI h x := by
  induction xs with
  | nil => rfl
  | cons x xs ih => simp only [nodesI, List.all_cons, ih]
theorem objsI_all (h : HeapD) (xs : List ObjD) : objsI h xs = xs.all fun x => objI h x := by
  induction xs with
  | nil => rfl
  | cons x xs ih => simp only [objsI, List.all_cons, ih]
theorem upsF_all (h : HeapD) (xs : List NodeD) : upsF h xs = xs.all fun x => upF h h.vNodes.length x.vId := by
  induction xs with
  | nil => rfl
  | cons x xs ih => simp only [upsF, List.all_cons, ih]
theorem rs_lt {α : Type} {f : α → Int} {next : Int} : ∀ (xs : List α) (l : Int), rsB f next l xs = true → ∀ x ∈ xs, l < f x := by
  intro xs
  induction xs with
  | nil => intro l _ x hx; cases hx
  | cons y xs ih =>
    intro l h x hx
    simp only [rsB, Bool.and_eq_true, decide_eq_true_eq] at h
    rcases List.mem_cons.1 hx with rfl | hx
    · exact h.1.1
    · have := ih _ h.2 x hx; omega
theorem rs_get {α : Type} {f : α → Int} {next : Int} : ∀ (xs : List α) (l : Int), rsB f next l xs = true → ∀ x ∈ xs, getI f xs (f x) = some x := by
  intro xs
  induction xs with
  | nil => intro l _ x hx; cases hx
  | cons y xs ih =>
    intro l h x hx
    simp only [rsB, Bool.and_eq_true, decide_eq_true_eq] at h
    rcases List.mem_cons.1 hx with rfl | hx
    · simp [getI]
    · have h1 := rs_lt xs _ h.2 x hx
      have h2 : ¬ f y = f x := by omega
      simp only [getI, if_neg h2]
      exact ih _ h.2 x hx
theorem get_mem {α : Type} {f : α → Int} {id : Int} : ∀ (xs : List α) (x : α), getI f xs id = some x → x ∈ xs ∧ f x = id := by
  intro xs
  induction xs with
  | nil => intro x h; cases h
  | cons y xs ih =>
    intro x h
    unfold getI at h
    split at h
    · rename_i e; injection h with h; subst h; exact ⟨List.mem_cons_self, e⟩
    · have := ih x h; exact ⟨List.mem_cons_of_mem _ this.1, this.2⟩
theorem mem_get {α : Type} {f : α → Int} : ∀ (xs : List α) (x : α), x ∈ xs → getI f xs (f x) ≠ none := by
  intro xs
  induction xs with
  | nil => intro x h; cases h
  | cons y xs ih =>
    intro x h
    unfold getI
    split
    · simp
    · rcases List.mem_cons.1 h with rfl | h
      · rename_i e; exact absurd rfl e
      · exact ih x h
theorem apart (h : HeapD) : (h.vNodes.all fun x => (objAt h x.vId).isNone) = (h.vObjs.all fun x => (nodeAt h x.vId).isNone) := by
  rw [Bool.eq_iff_iff]
  simp only [List.all_eq_true, Option.isNone_iff_eq_none]
  constructor
  · intro H o ho
    cases hn : nodeAt h o.vId with
    | none => rfl
    | some n =>
      obtain ⟨h1, h2⟩ := get_mem _ _ hn
      have := H n h1
      rw [h2] at this
      exact absurd this (mem_get _ o ho)
  · intro H n hn
    cases ho : objAt h n.vId with
    | none => rfl
    | some o =>
      obtain ⟨h1, h2⟩ := get_mem _ _ ho
      have := H o h1
      rw [h2] at this
      exact absurd this (mem_get _ n hn)
theorem end_up (h : HeapD) : ∀ (k : Nat) (x : NodeD), endF h (k + 1) x = upF h k x.vParent := by
  intro k
  induction k with
  | zero =>
    intro x
    by_cases e : x.vParent = 0
    · simp [endF, upF, e]
    · simp only [endF, upF, if_neg e]
      cases nodeAt h x.vParent <;> simp [e]
  | succ k ih =>
    intro x
    by_cases e : x.vParent = 0
    · simp [endF, upF, e]
    · rw [endF, upF, if_neg e, if_neg e]
      cases nodeAt h x.vParent with
      | none => rfl
      | some p => exact ih p
theorem all_congr {α : Type} {p q : α → Bool} : ∀ (xs : List α), (∀ x ∈ xs, p x = q x) → xs.all p = xs.all q := by
  intro xs
  induction xs with
  | nil => intro _; rfl
  | cons x xs ih => intro H; simp only [List.all_cons]; rw [H x List.mem_cons_self, ih fun y hy => H y (List.mem_cons_of_mem _ hy)]
theorem ups_ends (h : HeapD) (hr : rsB NodeD.vId h.vNext 0 h.vNodes = true) : upsF h h.vNodes = h.vNodes.all fun x => endF h h.vNodes.length x := by
  rw [upsF_all]
  refine all_congr _ fun x hx => ?_
  have h1 := rs_get _ _ hr x hx
  have h2 := rs_lt _ _ hr x hx
  have h3 : 0 < h.vNodes.length := List.length_pos_of_mem hx
  obtain ⟨k, hk⟩ : ∃ k, h.vNodes.length = k + 1 := ⟨h.vNodes.length - 1, by omega⟩
  rw [hk, end_up]
  exact upF_step h (by omega) h1
theorem all_and {α : Type} {p q : α → Bool} (xs : List α) : (xs.all fun x => p x && q x) = (xs.all p && xs.all q) := by
  induction xs with
  | nil => rfl
  | cons x xs ih =>
    simp only [List.all_cons, ih]
    cases p x <;> cases q x <;> cases xs.all p <;> cases xs.all q <;> rfl
theorem nodeI_eq (h : HeapD) (x : NodeD) : nodeI h x = (nodeB h x && endF h h.vNodes.length x) := by
  unfold nodeI nodeB
  generalize nmB x.vTag = A
  generalize kidsB h x = B
  generalize parB h x = C
  generalize endF h h.vNodes.length x = D
  generalize wrapB h x = E
  generalize decide (x.vListeners.length ≤ 4) = F
  generalize lissB x.vListeners = G
  cases A <;> cases B <;> cases C <;> cases D <;> cases E <;> cases F <;> cases G <;> rfl
theorem spec_impl (h : HeapD) : specB h = implB h := by
  have e1 := nodesF_eq h h.vNodes none 0 (Or.inl ⟨rfl, rfl⟩)
  have e2 := objsF_eq h h.vObjs none 0 (Or.inl ⟨rfl, rfl⟩)
  unfold specB implB idxB
  rw [e1, e2, idxN_rs, idxO_rs, nodesI_all, objsI_all, fields_eq, apart, show docB h = rootB h h.vDoc from rfl]
  have e3 : (h.vNodes.all fun x => nodeI h x) = ((h.vNodes.all fun x => nodeB h x) && (h.vNodes.all fun x => endF h h.vNodes.length x)) := by
    rw [← all_and]; exact all_congr _ fun x _ => nodeI_eq h x
  rw [e3]
  cases hr : rsB NodeD.vId h.vNext 0 h.vNodes
  · simp
  · rw [ups_ends h hr]
    unfold inB
    generalize decide (1 ≤ h.vNext) = A
    generalize decide (h.vNext ≤ 1000000000) = B
    generalize decide (h.vNodes.length ≤ 16) = C
    generalize decide (h.vObjs.length ≤ 16) = D
    generalize fieldsI h h.vGlobals 8 = E
    generalize (h.vObjs.all fun x => (nodeAt h x.vId).isNone) = F
    generalize (h.vNodes.all fun x => nodeB h x) = G
    generalize rsB ObjD.vId h.vNext 0 h.vObjs = I
    generalize (h.vObjs.all fun x => objI h x) = J
    generalize (h.vNodes.all fun x => endF h h.vNodes.length x) = K
    generalize rootB h h.vDoc = L
    cases A <;> cases B <;> cases C <;> cases D <;> simp only [Bool.and_true, Bool.true_and, Bool.and_false, Bool.false_and] <;> cases E <;> cases F <;> cases G <;> cases I <;> cases J <;> cases K <;> cases L <;> rfl
end Go.Proofs.Ytbodeijffpepfaa
