/- The paths of a tree: no two are one, none is more than one step deeper than the one ahead. -/
import Derived.Test.YtgmgbjeejlkdmaaFindPlain
namespace Go.Proofs.Ytgmgbjeejlkdmaa
theorem pathsD_starts {n : Nat} {d : TD} {p q : List Int} (h : q ∈ pathsD n d p) : ∃ r, q = p ++ r := by
  obtain ⟨r, e, _⟩ := pathsD_ok n d p q h
  exact ⟨r, e⟩
theorem pathsJ_mem {n : Nat} {d : TD} {p q : List Int} {j : Nat} (h : q ∈ pathsJ n d p j) : ∃ i, i < j ∧ ∃ r, q = p ++ (i : Int) :: r := by
  unfold pathsJ at h
  obtain ⟨i, hi, hq⟩ := List.mem_flatMap.1 h
  obtain ⟨r, e⟩ := pathsD_starts hq
  exact ⟨i, List.mem_range.1 hi, r, by rw [e]; simp⟩
/-- no two paths are one -/
theorem pathsD_nodup : ∀ (n : Nat) (d : TD) (p : List Int), (pathsD n d p).Nodup := by
  intro n
  induction n with
  | zero => intro d p; exact List.nodup_nil
  | succ n ih =>
    intro d p
    have hj : ∀ j, (pathsJ n d p j).Nodup := by
      intro j
      induction j with
      | zero => rw [pathsJ_zero]; exact List.nodup_nil
      | succ j hj =>
        rw [pathsJ_succ, List.nodup_append]
        refine ⟨hj, ih _ _, fun a ha b hb e => ?_⟩
        subst e
        obtain ⟨i, hi, r, e1⟩ := pathsJ_mem ha
        obtain ⟨r2, e2⟩ := pathsD_starts hb
        rw [e1] at e2
        simp only [List.append_assoc, List.cons_append, List.nil_append, List.append_cancel_left_eq, List.cons.injEq] at e2
        omega
    rw [pathsD_succ, List.nodup_cons]
    refine ⟨fun h => ?_, hj _⟩
    obtain ⟨i, _, r, e⟩ := pathsJ_mem h
    have := congrArg List.length e
    simp at this
/-- each one is at most one step deeper than the one ahead of it; the first is one step deeper than p at most -/
def Steady (m : Nat) : List (List Int) → Prop
  | [] => True
  | q :: qs => q.length ≤ m + 1 ∧ Steady q.length qs
theorem Steady.mono {a : List (List Int)} {m k : Nat} (h : Steady m a) (hk : m ≤ k) : Steady k a := by
  cases a with
  | nil => trivial
  | cons q qs => exact ⟨by have := h.1; omega, h.2⟩
theorem Steady.append {a b : List (List Int)} {k : Nat} (hb : Steady k b) : ∀ {m : Nat}, Steady m a → (∀ q ∈ a, k ≤ q.length) → k ≤ m → Steady m (a ++ b) := by
  induction a with
  | nil => intro m _ _ hm; exact hb.mono hm
  | cons q qs ih => intro m h hq _; exact ⟨h.1, ih h.2 (fun x hx => hq x (List.mem_cons_of_mem _ hx)) (hq q List.mem_cons_self)⟩
theorem pathsD_steady : ∀ (n : Nat) (d : TD) (p : List Int) (m : Nat), p.length ≤ m + 1 → Steady m (pathsD n d p) := by
  intro n
  induction n with
  | zero => intro d p m _; trivial
  | succ n ih =>
    intro d p m hm
    have hj : ∀ j, Steady p.length (pathsJ n d p j) := by
      intro j
      induction j with
      | zero => trivial
      | succ j hj =>
        rw [pathsJ_succ]
        refine Steady.append (ih _ _ p.length (by simp)) hj (fun q hq => ?_) (Nat.le_refl _)
        obtain ⟨i, _, r, e⟩ := pathsJ_mem hq
        rw [e]; simp
    exact ⟨hm, hj _⟩
theorem Steady.get {a : List (List Int)} : ∀ {m i : Nat}, Steady m a → (h : i + 1 < a.length) → a[i + 1].length ≤ a[i].length + 1 := by
  induction a with
  | nil => intro m i _ h; simp at h
  | cons q qs ih =>
    intro m i hs h
    cases i with
    | zero =>
      cases qs with
      | nil => simp at h
      | cons r rs => exact hs.2.1
    | succ i => exact ih hs.2 (by simp at h; omega)
theorem pathsD_next {n : Nat} {d : TD} {i : Nat} (h : i + 1 < (pathsD n d []).length) : (pathsD n d [])[i + 1].length ≤ (pathsD n d [])[i].length + 1 := (pathsD_steady n d [] 0 (Nat.zero_le _)).get h
theorem pathsD_first {n : Nat} {d : TD} (h : 0 < (pathsD n d []).length) : (pathsD n d [])[0] = [] := by
  cases n with
  | zero => simp [pathsD] at h
  | succ n => rfl
theorem pathsD_other {n : Nat} {d : TD} {i j : Nat} (hj : j < i) (h : i < (pathsD n d []).length) : (pathsD n d [])[j]'(Nat.lt_trans hj h) ≠ (pathsD n d [])[i] := fun e => by
  have := (List.getElem_inj (pathsD_nodup n d [])).1 e
  omega
theorem pathsD_there {n : Nat} {d : TD} {i : Nat} (h : i < (pathsD n d []).length) : okP d (pathsD n d [])[i] = true := by
  obtain ⟨r, e, hr⟩ := pathsD_ok n d [] _ (List.getElem_mem h)
  rw [e]; simpa using hr
end Go.Proofs.Ytgmgbjeejlkdmaa
