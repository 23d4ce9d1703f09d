/- An edit of trees of the same tags: the same, and of the same tags. Plain. -/
import Derived.Test.YtndffcogddefiaaEdBack
namespace Go.Proofs.Ytndffcogddefiaa
open Go.RowKit
def SimA (a b : TD) : Prop := ∀ n, Sim n a b
theorem simA_refl (a : TD) : SimA a a := fun n => sim_refl n a
/-- rows of such trees -/
def LS : List TD → List TD → Prop
  | [], [] => True
  | x :: xs, y :: ys => SimA x y ∧ LS xs ys
  | _, _ => False
theorem LS.refl : ∀ xs : List TD, LS xs xs := by
  intro xs
  induction xs with
  | nil => trivial
  | cons x xs ih => exact ⟨simA_refl x, ih⟩
theorem LS.len : ∀ {xs ys : List TD}, LS xs ys → xs.length = ys.length := by
  intro xs
  induction xs with
  | nil => intro ys h; cases ys with | nil => rfl | cons y ys => exact h.elim
  | cons x xs ih => intro ys h; cases ys with | nil => exact h.elim | cons y ys => simp [ih h.2]
theorem LS.nth : ∀ {xs ys : List TD} {i : Nat}, LS xs ys → i < xs.length → SimA (nth xs i) (nth ys i) := by
  intro xs
  induction xs with
  | nil => intro ys i _ h; cases h
  | cons x xs ih =>
    intro ys i h hi
    cases ys with
    | nil => exact h.elim
    | cons y ys => cases i with | zero => exact h.1 | succ i => exact ih h.2 (by simpa using hi)
theorem LS.of : ∀ {xs ys : List TD}, xs.length = ys.length → (∀ i, i < xs.length → SimA (Go.Proofs.Ytndffcogddefiaa.nth xs i) (Go.Proofs.Ytndffcogddefiaa.nth ys i)) → LS xs ys := by
  intro xs
  induction xs with
  | nil => intro ys h _; cases ys with | nil => trivial | cons y ys => cases h
  | cons x xs ih =>
    intro ys h q
    cases ys with
    | nil => cases h
    | cons y ys => exact ⟨q 0 (by simp), ih (by simpa using h) (fun i hi => q (i + 1) (by simp; omega))⟩
theorem LS.set : ∀ {xs ys : List TD} {i : Nat} {a b : TD}, LS xs ys → SimA a b → LS (xs.set i a) (ys.set i b) := by
  intro xs
  induction xs with
  | nil => intro ys i a b h _; cases ys with | nil => trivial | cons y ys => exact h.elim
  | cons x xs ih =>
    intro ys i a b h q
    cases ys with
    | nil => exact h.elim
    | cons y ys => cases i with | zero => exact ⟨q, h.2⟩ | succ i => exact ⟨h.1, ih h.2 q⟩
theorem LS.erase : ∀ {xs ys : List TD} {i : Nat}, LS xs ys → LS (xs.eraseIdx i) (ys.eraseIdx i) := by
  intro xs
  induction xs with
  | nil => intro ys i h; cases ys with | nil => trivial | cons y ys => exact h.elim
  | cons x xs ih =>
    intro ys i h
    cases ys with
    | nil => exact h.elim
    | cons y ys => cases i with | zero => exact h.2 | succ i => exact ⟨h.1, ih h.2⟩
theorem LS.ins : ∀ {xs ys : List TD} {i : Nat} {a b : TD}, LS xs ys → SimA a b → LS (insK xs i a) (insK ys i b) := by
  intro xs
  induction xs with
  | nil => intro ys i a b h q; cases ys with | nil => (unfold insK; simp; exact ⟨q, trivial⟩) | cons y ys => exact h.elim
  | cons x xs ih =>
    intro ys i a b h q
    cases ys with
    | nil => exact h.elim
    | cons y ys => cases i with | zero => exact ⟨q, h⟩ | succ i => exact ⟨h.1, ih h.2 q⟩
theorem SimA.tag {a b : TD} (h : SimA a b) : tagOf a = tagOf b := (h 1).1
theorem SimA.str {a b : TD} (h : SimA a b) : strT a = strT b := by unfold strT; rw [h.tag]
theorem SimA.kids {a b : TD} (h : SimA a b) : LS (kidsOf a) (kidsOf b) := LS.of (h 1).2.1 (fun i hi n => (h (n + 1)).2.2 i hi)
theorem simA_mk {s : ByteArray} {xs ys : List TD} (h : LS xs ys) : SimA (mkT s xs) (mkT s ys) := fun n => by
  cases n with
  | zero => trivial
  | succ n => exact ⟨rfl, h.len, fun i hi => h.nth hi n⟩
theorem SimA.inB {a b : TD} (h : SimA a b) (p : Int) : Go.Proofs.Ytndffcogddefiaa.inB a p = Go.Proofs.Ytndffcogddefiaa.inB b p := by unfold Go.Proofs.Ytndffcogddefiaa.inB; rw [h.kids.len]
theorem put_sim {k : Int} {tag : ByteArray} {tr : TD} : ∀ (ps : List Int) {a b x : TD}, SimA a b → putD k tag tr ps a = some x → ∃ y, putD k tag tr ps b = some y ∧ SimA x y := by
  intro ps
  induction ps with
  | nil =>
    intro a b x h hp
    unfold putD at hp ⊢
    split at hp
    · next hk => injection hp with hp; subst hp; exact ⟨_, if_pos hk, simA_mk h.kids⟩
    · cases hp
  | cons p ps ih =>
    intro a b x h hp
    unfold putD at hp ⊢
    by_cases h1 : ps = [] ∧ k = 1
    · rw [if_pos h1] at hp ⊢
      rw [← h.kids.len, ← h.str]
      split at hp
      · next hc => injection hp with hp; subst hp; exact ⟨_, if_pos hc, simA_mk (h.kids.ins (simA_refl tr))⟩
      · cases hp
    · rw [if_neg h1] at hp ⊢
      rw [← h.inB p, ← h.str]
      by_cases h2 : inB a p = true
      · rw [if_pos h2] at hp ⊢
        by_cases h3 : ps = [] ∧ k = 2
        · rw [if_pos h3] at hp ⊢
          injection hp with hp; subst hp
          exact ⟨_, rfl, simA_mk h.kids.erase⟩
        · rw [if_neg h3] at hp ⊢
          cases q : putD k tag tr ps (kidP a p) with
          | none => rw [q] at hp; cases hp
          | some z =>
            rw [q] at hp
            injection hp with hp
            subst hp
            obtain ⟨y, hy, hs⟩ := ih (h.kids.nth (inB_lt h2)) q
            refine ⟨mkT (strT a) ((kidsOf b).set p.toNat y), ?_, simA_mk (h.kids.set hs)⟩
            have e : kidP b p = nth (kidsOf b) p.toNat := rfl
            rw [e, hy]
            rfl
      · rw [if_neg h2] at hp; cases hp
/-- the same edit of trees of the same tags -/
theorem edit_sim {a b u : TD} {e : EditD} (h : SimA a b) (hu : editedD a e = some u) : ∃ v, editedD b e = some v ∧ SimA u v := by
  unfold editedD at hu ⊢
  rw [← treeB_sim (h 31)]
  by_cases hc : treeB a = true ∧ formB e = true
  · rw [if_pos hc] at hu ⊢
    cases q : putD e.vKind e.vTag e.vTree e.vPath a with
    | none => rw [q] at hu; cases hu
    | some x =>
      rw [q] at hu
      obtain ⟨y, hy, hs⟩ := put_sim e.vPath h q
      rw [hy]
      by_cases hx : treeB x = true
      · have h' : x = u := by simpa [hx] using hu
        subst h'
        have hty : treeB y = true := by rw [← treeB_sim (hs 31)]; exact hx
        exact ⟨y, by simp [hty], hs⟩
      · simp [hx] at hu
  · rw [if_neg hc] at hu; cases hu
end Go.Proofs.Ytndffcogddefiaa
