/- What stands at a path in a right tree is a right tree. -/
import Derived.Test.YtgmgbjeejlkdmaaAtTop
import Derived.Test.YtgmgbjeejlkdmaaFindPlain
namespace Go.Proofs.Ytgmgbjeejlkdmaa
theorem pathsD_starts {n : Nat} {d : TD} {p q : List Int} (h : q ∈ pathsD n d p) : ∃ r, q = p ++ r := by
  obtain ⟨r, e, _⟩ := pathsD_ok n d p q h
  exact ⟨r, e⟩
theorem pathsJ_mem {n : Nat} {d : TD} {p q : List Int} {j : Nat} (h : q ∈ pathsJ n d p j) : ∃ i, i < j ∧ ∃ r, q = p ++ (i : Int) :: r := by
  unfold pathsJ at h
  obtain ⟨i, hi, hq⟩ := List.mem_flatMap.1 h
  obtain ⟨r, e⟩ := pathsD_starts hq
  exact ⟨i, List.mem_range.1 hi, r, by rw [e]; simp⟩
/-- no two paths are one -/
theorem pathsD_nodup : ∀ (n : Nat) (d : TD) (p : List Int), (pathsD n d p).Nodup := by
  intro n
  induction n with
  | zero => intro d p; exact List.nodup_nil
  | succ n ih =>
    intro d p
    have hj : ∀ j, (pathsJ n d p j).Nodup := by
      intro j
      induction j with
      | zero => rw [pathsJ_zero]; exact List.nodup_nil
      | succ j hj =>
        rw [pathsJ_succ, List.nodup_append]
        refine ⟨hj, ih _ _, fun a ha b hb e => ?_⟩
        subst e
        obtain ⟨i, hi, r, e1⟩ := pathsJ_mem ha
        obtain ⟨r2, e2⟩ := pathsD_starts hb
        rw [e1] at e2
        simp only [List.append_assoc, List.cons_append, List.nil_append, List.append_cancel_left_eq, List.cons.injEq] at e2
        omega
    rw [pathsD_succ, List.nodup_cons]
    refine ⟨fun h => ?_, hj _⟩
    obtain ⟨i, _, r, e⟩ := pathsJ_mem h
    have := congrArg List.length e
    simp at this
/-- each one is at most one step deeper than the one ahead of it; the first is one step deeper than p at most -/
def Steady (m : Nat) : List (List Int) → Prop
  | [] => True
  | q :: qs => q.length ≤ m + 1 ∧ Steady q.length qs
theorem Steady.mono {a : List (List Int)} {m k : Nat} (h : Steady m a) (hk : m ≤ k) : Steady k a := by
  cases a with
  | nil => trivial
  | cons q qs => exact ⟨by have := h.1; omega, h.2⟩
theorem Steady.append {a b : List (List Int)} {k : Nat} (hb : Steady k b) : ∀ {m : Nat}, Steady m a → (∀ q ∈ a, k ≤ q.length) → k ≤ m → Steady m (a ++ b) := by
  induction a with
  | nil => intro m _ _ hm; exact hb.mono hm
  | cons q qs ih => intro m h hq _; exact ⟨h.1, ih h.2 (fun x hx => hq x (List.mem_cons_of_mem _ hx)) (hq q List.mem_cons_self)⟩
theorem pathsD_steady : ∀ (n : Nat) (d : TD) (p : List Int) (m : Nat), p.length ≤ m + 1 → Steady m (pathsD n d p) := by
  intro n
  induction n with
  | zero => intro d p m _; trivial
  | succ n ih =>
    intro d p m hm
    have hj : ∀ j, Steady p.length (pathsJ n d p j) := by
      intro j
      induction j with
      | zero => trivial
      | succ j hj =>
        rw [pathsJ_succ]
        refine Steady.append (ih _ _ p.length (by simp)) hj (fun q hq => ?_) (Nat.le_refl _)
        obtain ⟨i, _, r, e⟩ := pathsJ_mem hq
        rw [e]; simp
    exact ⟨hm, hj _⟩
theorem Steady.get {a : List (List Int)} : ∀ {m i : Nat}, Steady m a → (h : i + 1 < a.length) → a[i + 1].length ≤ a[i].length + 1 := by
  induction a with
  | nil => intro m i _ h; simp at h
  | cons q qs ih =>
    intro m i hs h
    cases i with
    | zero =>
      cases qs with
      | nil => simp at h
      | cons r rs => exact hs.2.1
    | succ i => exact ih hs.2 (by simp at h; omega)
theorem pathsD_next {n : Nat} {d : TD} {i : Nat} (h : i + 1 < (pathsD n d []).length) : (pathsD n d [])[i + 1].length ≤ (pathsD n d [])[i].length + 1 := (pathsD_steady n d [] 0 (Nat.zero_le _)).get h
theorem pathsD_first {n : Nat} {d : TD} (h : 0 < (pathsD n d []).length) : (pathsD n d [])[0] = [] := by
  cases n with
  | zero => simp [pathsD] at h
  | succ n => rfl
theorem pathsD_other {n : Nat} {d : TD} {i j : Nat} (hj : j < i) (h : i < (pathsD n d []).length) : (pathsD n d [])[j]'(Nat.lt_trans hj h) ≠ (pathsD n d [])[i] := fun e => by
  have := (List.getElem_inj (pathsD_nodup n d [])).1 e
  omega
theorem pathsD_there {n : Nat} {d : TD} {i : Nat} (h : i < (pathsD n d []).length) : okP d (pathsD n d [])[i] = true := by
  obtain ⟨r, e, hr⟩ := pathsD_ok n d [] _ (List.getElem_mem h)
  rw [e]; simpa using hr
theorem szF_more {f g : TD → Int → Option Int} (hfg : ∀ d r r' q, r ≤ r' → f d r = some q → g d r' = some q) : ∀ (ds : List TD) (room room' size m : Int), room ≤ room' → szF f ds room size = some m → szF g ds room' size = some m := by
  intro ds
  induction ds with
  | nil => intro room room' size m _ h; simpa [szF] using h
  | cons d ds ih =>
    intro room room' size m hr h
    unfold szF at h
    split at h
    · cases h
    · rename_i q hq
      unfold szF
      rw [hfg d _ (room' - size) q (by omega) hq]
      exact ih room room' (size + q) m hr h
theorem szD_room : ∀ (n : Nat) (d : TD) (r r' q : Int), r ≤ r' → szD n d r = some q → szD n d r' = some q := by
  intro n
  induction n with
  | zero => intro d r r' q _ h; simp [szD] at h
  | succ n ih =>
    intro d r r' q hr h
    unfold szD at h ⊢
    split at h
    · cases h
    · rename_i hc
      rw [if_neg (fun q => hc (q.elim (fun q => Or.inl (by omega)) Or.inr))]
      exact szF_more ih _ _ _ _ _ hr h
theorem szD_more : ∀ (n : Nat) (d : TD) (r q : Int), szD n d r = some q → szD (n + 1) d r = some q := by
  intro n
  induction n with
  | zero => intro d r q h; simp [szD] at h
  | succ n ih =>
    intro d r q h
    unfold szD at h
    split at h
    · cases h
    · rename_i hc
      unfold szD
      rw [if_neg hc]
      exact szF_more (fun d r r' q hr h => szD_room _ _ _ _ _ hr (ih d r q h)) _ _ _ _ _ (Int.le_refl _) h
theorem ok_kid {n : Nat} {d : TD} {p : Int} (h : okB (szD n d 30) = true) (hp : inB d p = true) : okB (szD n (kidP d p) 30) = true := by
  cases e : szD n d 30 with
  | none => rw [e] at h; cases h
  | some m =>
    cases n with
    | zero => simp [szD] at e
    | succ n =>
      have hm := szD_range _ _ _ _ e
      unfold szD at e
      split at e
      · cases e
      · simp only [inB, Bool.and_eq_true, decide_eq_true_eq] at hp
        have hi : p.toNat < (kidsOf d).length := by omega
        obtain ⟨r, q, e2, h2⟩ := szF_mem (szD_range n) _ _ _ _ (by omega) e p.toNat hi
        have e3 : kidP d p = (kidsOf d)[p.toNat] := by simp [kidP, nth, List.getD, List.getElem?_eq_getElem hi]
        rw [e3, szD_room _ _ _ 30 _ (by omega) (szD_more _ _ _ _ e2)]
        rfl
theorem ok_ends {n : Nat} : ∀ (path : List Int) {d : TD}, okB (szD n d 30) = true → okP d path = true → okB (szD n (endP d path) 30) = true := by
  intro path
  induction path with
  | nil => intro d h _; exact h
  | cons p ps ih =>
    intro d h hp
    simp only [okP, Bool.and_eq_true] at hp
    exact ih (ok_kid h hp.1) hp.2
/-- as many paths as nodes -/
theorem szF_cntE {f : TD → Int → Option Int} {cnt : TD → Nat} (hf : ∀ d r q, f d r = some q → (cnt d : Int) = q) : ∀ (ds : List TD) (room size m : Int), szF f ds room size = some m → size + (cntL cnt ds : Int) = m := by
  intro ds
  induction ds with
  | nil => intro room size m h; simp [szF] at h; rw [cntL_nil]; simp; omega
  | cons d ds ih =>
    intro room size m h
    unfold szF at h
    split at h
    · cases h
    · rename_i q hq
      have := ih room (size + q) m h
      have h2 := hf d _ q hq
      rw [cntL_cons]; push_cast; omega
theorem szD_cntE : ∀ (n : Nat) (d : TD) (room m : Int), szD n d room = some m → (cntTree n d : Int) = m := by
  intro n
  induction n with
  | zero => intro d room m h; simp [szD] at h
  | succ n ih =>
    intro d room m h
    unfold szD at h
    split at h
    · cases h
    · have := szF_cntE (fun d r q hq => ih d r q hq) _ _ _ _ h
      simp only [cntTree]
      omega
theorem paths_size {n : Nat} {d : TD} (h : okB (szD n d 30) = true) : ((pathsD n d []).length : Int) = resI (szD n d 30) := by
  cases e : szD n d 30 with
  | none => rw [e] at h; cases h
  | some m => rw [pathsD_len, szD_cntE _ _ _ _ e]; rfl
end Go.Proofs.Ytgmgbjeejlkdmaa
