/- What stands at a path in a right tree is a right tree. -/
import Derived.Test.YtgmgbjeejlkdmaaAtTop
import Derived.Test.YtgmgbjeejlkdmaaFindPlain
namespace Go.Proofs.Ytgmgbjeejlkdmaa
theorem szF_more {f g : TD → Int → Option Int} (hfg : ∀ d r r' q, r ≤ r' → f d r = some q → g d r' = some q) : ∀ (ds : List TD) (room room' size m : Int), room ≤ room' → szF f ds room size = some m → szF g ds room' size = some m := by
  intro ds
  induction ds with
  | nil => intro room room' size m _ h; simpa [szF] using h
  | cons d ds ih =>
    intro room room' size m hr h
    unfold szF at h
    split at h
    · cases h
    · rename_i q hq
      unfold szF
      rw [hfg d _ (room' - size) q (by omega) hq]
      exact ih room room' (size + q) m hr h
theorem szD_room : ∀ (n : Nat) (d : TD) (r r' q : Int), r ≤ r' → szD n d r = some q → szD n d r' = some q := by
  intro n
  induction n with
  | zero => intro d r r' q _ h; simp [szD] at h
  | succ n ih =>
    intro d r r' q hr h
    unfold szD at h ⊢
    split at h
    · cases h
    · rename_i hc
      rw [if_neg (fun q => hc (q.elim (fun q => Or.inl (by omega)) Or.inr))]
      exact szF_more ih _ _ _ _ _ hr h
theorem szD_more : ∀ (n : Nat) (d : TD) (r q : Int), szD n d r = some q → szD (n + 1) d r = some q := by
  intro n
  induction n with
  | zero => intro d r q h; simp [szD] at h
  | succ n ih =>
    intro d r q h
    unfold szD at h
    split at h
    · cases h
    · rename_i hc
      unfold szD
      rw [if_neg hc]
      exact szF_more (fun d r r' q hr h => szD_room _ _ _ _ _ hr (ih d r q h)) _ _ _ _ _ (Int.le_refl _) h
theorem ok_kid {n : Nat} {d : TD} {p : Int} (h : okB (szD n d 30) = true) (hp : inB d p = true) : okB (szD n (kidP d p) 30) = true := by
  cases e : szD n d 30 with
  | none => rw [e] at h; cases h
  | some m =>
    cases n with
    | zero => simp [szD] at e
    | succ n =>
      have hm := szD_range _ _ _ _ e
      unfold szD at e
      split at e
      · cases e
      · simp only [inB, Bool.and_eq_true, decide_eq_true_eq] at hp
        have hi : p.toNat < (kidsOf d).length := by omega
        obtain ⟨r, q, e2, h2⟩ := szF_mem (szD_range n) _ _ _ _ (by omega) e p.toNat hi
        have e3 : kidP d p = (kidsOf d)[p.toNat] := by simp [kidP, nth, List.getD, List.getElem?_eq_getElem hi]
        rw [e3, szD_room _ _ _ 30 _ (by omega) (szD_more _ _ _ _ e2)]
        rfl
theorem ok_ends {n : Nat} : ∀ (path : List Int) {d : TD}, okB (szD n d 30) = true → okP d path = true → okB (szD n (endP d path) 30) = true := by
  intro path
  induction path with
  | nil => intro d h _; exact h
  | cons p ps ih =>
    intro d h hp
    simp only [okP, Bool.and_eq_true] at hp
    exact ih (ok_kid h hp.1) hp.2
/-- as many paths as nodes -/
theorem szF_cntE {f : TD → Int → Option Int} {cnt : TD → Nat} (hf : ∀ d r q, f d r = some q → (cnt d : Int) = q) : ∀ (ds : List TD) (room size m : Int), szF f ds room size = some m → size + (cntL cnt ds : Int) = m := by
  intro ds
  induction ds with
  | nil => intro room size m h; simp [szF] at h; rw [cntL_nil]; simp; omega
  | cons d ds ih =>
    intro room size m h
    unfold szF at h
    split at h
    · cases h
    · rename_i q hq
      have := ih room (size + q) m h
      have h2 := hf d _ q hq
      rw [cntL_cons]; push_cast; omega
theorem szD_cntE : ∀ (n : Nat) (d : TD) (room m : Int), szD n d room = some m → (cntTree n d : Int) = m := by
  intro n
  induction n with
  | zero => intro d room m h; simp [szD] at h
  | succ n ih =>
    intro d room m h
    unfold szD at h
    split at h
    · cases h
    · have := szF_cntE (fun d r q hq => ih d r q hq) _ _ _ _ h
      simp only [cntTree]
      omega
theorem paths_size {n : Nat} {d : TD} (h : okB (szD n d 30) = true) : ((pathsD n d []).length : Int) = resI (szD n d 30) := by
  cases e : szD n d 30 with
  | none => rw [e] at h; cases h
  | some m => rw [pathsD_len, szD_cntE _ _ _ _ e]; rfl
end Go.Proofs.Ytgmgbjeejlkdmaa
