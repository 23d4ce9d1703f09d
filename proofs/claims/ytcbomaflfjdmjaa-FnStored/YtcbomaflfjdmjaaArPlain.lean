/- What a right arena is, as the program and as the specification ask it: plain facts. -/
import Derived.Test.YtcbomaflfjdmjaaArSmall
namespace Go.Proofs.Ytcbomaflfjdmjaa
/-- a slot as it must be -/
def SlotP (x : SlotD) : Prop := 1 ≤ x.vGen ∧ x.vGen ≤ 1000000 ∧ wordB 10 x.vData = true ∧ (x.vUsed = true ∨ x.vData.size = 0)
/-- the places of those that are not used -/
def un : List SlotD → Nat → List Int
  | [], _ => []
  | x :: r, i => if x.vUsed then un r (i + 1) else (i : Int) :: un r (i + 1)
theorem un_mem : ∀ (xs : List SlotD) (i : Nat) (m : Int), m ∈ un xs i ↔ ∃ j, ∃ h : j < xs.length, m = ((i + j : Nat) : Int) ∧ xs[j].vUsed = false := by
  intro xs
  induction xs with
  | nil => intro i m; simp [un]
  | cons x r ih =>
    intro i m
    constructor
    · intro h
      cases hu : x.vUsed with
      | true =>
        simp only [un, hu, if_true] at h
        obtain ⟨j, hj, e, q⟩ := (ih (i + 1) m).1 h
        exact ⟨j + 1, by simp; omega, by rw [e]; congr 1; omega, by simpa using q⟩
      | false =>
        simp only [un, hu, Bool.false_eq_true, if_false, List.mem_cons] at h
        rcases h with h | h
        · exact ⟨0, by simp, by simpa using h, by simpa using hu⟩
        · obtain ⟨j, hj, e, q⟩ := (ih (i + 1) m).1 h
          exact ⟨j + 1, by simp; omega, by rw [e]; congr 1; omega, by simpa using q⟩
    · rintro ⟨j, hj, e, q⟩
      cases j with
      | zero =>
        have hu : x.vUsed = false := by simpa using q
        simp only [un, hu, Bool.false_eq_true, if_false, List.mem_cons]
        exact Or.inl (by simpa using e)
      | succ j =>
        have h2 : m ∈ un r (i + 1) := (ih (i + 1) m).2 ⟨j, by simp at hj; omega, by rw [e]; congr 1; omega, by simpa using q⟩
        cases hu : x.vUsed with
        | true => simp only [un, hu, if_true]; exact h2
        | false => simp only [un, hu, Bool.false_eq_true, if_false, List.mem_cons]; exact Or.inr h2
theorem un_nodup : ∀ (xs : List SlotD) (i : Nat), (un xs i).Nodup := by
  intro xs
  induction xs with
  | nil => intro i; simp [un]
  | cons x r ih =>
    intro i
    cases hu : x.vUsed with
    | true => simp only [un, hu, if_true]; exact ih _
    | false =>
      simp only [un, hu, Bool.false_eq_true, if_false, List.nodup_cons]
      refine ⟨fun h => ?_, ih _⟩
      obtain ⟨j, _, e, _⟩ := (un_mem r (i + 1) i).1 h
      omega
theorem un_snoc (xs : List SlotD) (x : SlotD) : ∀ i, un (xs ++ [x]) i = un xs i ++ (if x.vUsed then [] else [((i + xs.length : Nat) : Int)]) := by
  induction xs with
  | nil => intro i; cases hu : x.vUsed <;> simp [un, hu]
  | cons y r ih =>
    intro i
    have e : i + 1 + r.length = i + (r.length + 1) := by omega
    cases hy : y.vUsed <;> simp [un, hy, ih, e]
theorem un_take {xs : List SlotD} {j : Nat} (h : j < xs.length) : (un (xs.take (j + 1)) 0).length = (un (xs.take j) 0).length + (if xs[j].vUsed then 0 else 1) := by
  rw [List.take_succ_eq_append_getElem h, un_snoc]
  cases xs[j].vUsed <;> simp
/-! ### as many, and each there -/
theorem nodup_le {l1 : List Int} : ∀ {l2 : List Int}, l1.Nodup → (∀ x ∈ l1, x ∈ l2) → l1.length ≤ l2.length := by
  induction l1 with
  | nil => intro l2 _ _; simp
  | cons x t ih =>
    intro l2 hn hs
    have hx := hs x (by simp)
    have hl := List.length_erase_of_mem hx
    have h0 : 0 < l2.length := List.length_pos_of_mem hx
    have := ih (l2 := l2.erase x) (List.nodup_cons.1 hn).2 (fun y hy => (List.mem_erase_of_ne (fun e : y = x => (List.nodup_cons.1 hn).1 (e ▸ hy))).2 (hs y (by simp [hy])))
    simp only [List.length_cons]
    omega
theorem le_mem {l1 l2 : List Int} (hn : l1.Nodup) (hs : ∀ x ∈ l1, x ∈ l2) (hl : l2.length ≤ l1.length) : ∀ y ∈ l2, y ∈ l1 := by
  intro y hy
  refine Classical.byContradiction fun hc => ?_
  have h1 := List.length_erase_of_mem hy
  have h0 : 0 < l2.length := List.length_pos_of_mem hy
  have := nodup_le (l1 := l1) (l2 := l2.erase y) hn (fun x hx => (List.mem_erase_of_ne (fun e : x = y => hc (e ▸ hx))).2 (hs x hx))
  omega
theorem le_nodup {l1 : List Int} : ∀ {l2 : List Int}, l1.Nodup → (∀ x ∈ l1, x ∈ l2) → l2.length ≤ l1.length → l2.Nodup := by
  induction l1 with
  | nil => intro l2 _ _ hl; have : l2 = [] := List.eq_nil_of_length_eq_zero (by simpa using hl); rw [this]; simp
  | cons x t ih =>
    intro l2 hn hs hl
    have hx := hs x (by simp)
    have h1 := List.length_erase_of_mem hx
    have h0 : 0 < l2.length := List.length_pos_of_mem hx
    simp only [List.length_cons] at hl
    have hsub : ∀ y ∈ t, y ∈ l2.erase x := fun y hy => (List.mem_erase_of_ne (fun e : y = x => (List.nodup_cons.1 hn).1 (e ▸ hy))).2 (hs y (by simp [hy]))
    have h2 := ih (l2 := l2.erase x) (List.nodup_cons.1 hn).2 hsub (by omega)
    have h3 : x ∉ l2.erase x := fun hc => (List.nodup_cons.1 hn).1 (le_mem (List.nodup_cons.1 hn).2 hsub (by omega) x hc)
    exact (List.perm_cons_erase hx).nodup_iff.2 (List.nodup_cons.2 ⟨h3, h2⟩)
theorem hasB_iff {xs : List Int} {v : Int} : hasB xs v = true ↔ v ∈ xs := by
  induction xs with
  | nil => simp [hasB]
  | cons x xs ih =>
    simp only [hasB, Bool.or_eq_true, decide_eq_true_eq, ih, List.mem_cons]
    exact ⟨fun h => h.imp Eq.symm id, fun h => h.imp Eq.symm id⟩
/-! ### right, as the program asks it -/
/-- what is free, so far: places of slots that are not used, each once -/
def FreeP (xs : List SlotD) (fr : List Int) (j : Nat) : Prop := ∀ i, (h : i < fr.length) → i < j → 0 ≤ fr[i] ∧ (∃ q : fr[i].toNat < xs.length, xs[fr[i].toNat].vUsed = false) ∧ hasB (fr.take i) fr[i] = false
def RightI (x : ArenaD) : Prop := 1 ≤ x.vSlots.length ∧ x.vSlots.length ≤ 12 ∧ x.vFree.length ≤ x.vSlots.length ∧ (∀ i, (h : i < x.vSlots.length) → SlotP x.vSlots[i]) ∧ FreeP x.vSlots x.vFree x.vFree.length ∧ x.vFree.length = (un x.vSlots 0).length
/-- as the specification asks it -/
def RightS (x : ArenaD) : Prop := 1 ≤ x.vSlots.length ∧ x.vSlots.length ≤ 12 ∧ (∀ i, (h : i < x.vSlots.length) → SlotP x.vSlots[i] ∧ hasB x.vFree (i : Int) = !x.vSlots[i].vUsed) ∧ (∀ i, (h : i < x.vFree.length) → 0 ≤ x.vFree[i] ∧ x.vFree[i] < (x.vSlots.length : Int)) ∧ x.vFree.length = (un x.vSlots 0).length
theorem un_le (xs : List SlotD) : ∀ i, (un xs i).length ≤ xs.length := by
  induction xs with
  | nil => intro i; simp [un]
  | cons x r ih => intro i; have := ih (i + 1); cases hu : x.vUsed <;> simp [un, hu] <;> omega
theorem free_nodup {xs : List SlotD} {fr : List Int} (h : FreeP xs fr fr.length) : fr.Nodup := by
  rw [List.nodup_iff_pairwise_ne, List.pairwise_iff_getElem]
  intro i j hi hj hij e
  have h3 := (h j hj hj).2.2
  have : hasB (fr.take j) fr[j] = true := hasB_iff.2 (by rw [← e]; exact List.mem_take_iff_getElem.2 ⟨i, by omega, rfl⟩)
  rw [this] at h3; cases h3
theorem free_sub {xs : List SlotD} {fr : List Int} (h : FreeP xs fr fr.length) : ∀ v ∈ fr, v ∈ un xs 0 := by
  intro v hv
  obtain ⟨i, hi, rfl⟩ := List.getElem_of_mem hv
  obtain ⟨h1, ⟨q, hu⟩, _⟩ := h i hi hi
  exact (un_mem xs 0 _).2 ⟨_, q, by omega, hu⟩
theorem right_iff {x : ArenaD} : RightI x ↔ RightS x := by
  constructor
  · rintro ⟨h1, h2, h3, h4, h5, h6⟩
    have hsub := free_sub h5
    have hall := le_mem (free_nodup h5) hsub (by omega)
    refine ⟨h1, h2, fun i hi => ⟨h4 i hi, ?_⟩, fun i hi => ?_, h6⟩
    · cases hu : x.vSlots[i].vUsed with
      | false =>
        have : (i : Int) ∈ x.vFree := hall _ ((un_mem _ 0 _).2 ⟨i, hi, by simp, hu⟩)
        rw [hasB_iff.2 this]; rfl
      | true =>
        have : ¬ hasB x.vFree (i : Int) = true := fun q => by
          obtain ⟨j, hj, e, hf⟩ := (un_mem _ 0 _).1 (hsub _ (hasB_iff.1 q))
          have : j = i := by omega
          subst this
          rw [hu] at hf; cases hf
        simpa using this
    · obtain ⟨a, ⟨q, _⟩, _⟩ := h5 i hi hi
      omega
  · rintro ⟨h1, h2, h3, h4, h5⟩
    have hsub : ∀ v ∈ un x.vSlots 0, v ∈ x.vFree := by
      intro v hv
      obtain ⟨j, hj, e, hf⟩ := (un_mem _ 0 _).1 hv
      have := (h3 j hj).2
      rw [hf] at this
      rw [e]
      simpa using hasB_iff.1 this
    have hnd := le_nodup (un_nodup _ 0) hsub (by omega)
    have hle := un_le x.vSlots 0
    refine ⟨h1, h2, by omega, fun i hi => (h3 i hi).1, fun i hi _ => ?_, h5⟩
    obtain ⟨g1, g2⟩ := h4 i hi
    have hq : x.vFree[i].toNat < x.vSlots.length := by omega
    refine ⟨g1, ⟨hq, ?_⟩, ?_⟩
    · have hm : hasB x.vFree ((x.vFree[i].toNat : Nat) : Int) = true := hasB_iff.2 (by rw [show ((x.vFree[i].toNat : Nat) : Int) = x.vFree[i] by omega]; exact List.getElem_mem hi)
      rw [(h3 _ hq).2] at hm
      simpa using hm
    · have : ¬ hasB (x.vFree.take i) x.vFree[i] = true := fun q => by
        obtain ⟨j, hj, e⟩ := List.mem_take_iff_getElem.1 (hasB_iff.1 q)
        have := (List.pairwise_iff_getElem.1 (List.nodup_iff_pairwise_ne.1 hnd)) j i (by omega) hi (by omega)
        exact this e
      simpa using this
open Classical in
/-- right -/
noncomputable def rightB (x : ArenaD) : Bool := decide (RightI x)
theorem rightB_true {x : ArenaD} (h : RightI x) : rightB x = true := by simp [rightB, h]
theorem rightB_false {x : ArenaD} (h : ¬ RightI x) : rightB x = false := by simp [rightB, h]
theorem rightB_iff {x : ArenaD} : rightB x = true ↔ RightI x := by simp [rightB]
end Go.Proofs.Ytcbomaflfjdmjaa
