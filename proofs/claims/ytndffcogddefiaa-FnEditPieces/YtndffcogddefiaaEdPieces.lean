/- Edits in two pieces; all undone, backwards: plain. -/
import Derived.Test.YtndffcogddefiaaEdSimEd
import Derived.Test.YtndffcogddefiaaEdAll
namespace Go.Proofs.Ytndffcogddefiaa
open Go.RowKit
theorem sim_symm : ∀ (n : Nat) {a b : TD}, Sim n a b → Sim n b a := by
  intro n
  induction n with
  | zero => intro a b _; trivial
  | succ n ih => intro a b h; exact ⟨h.1.symm, h.2.1.symm, fun i hi => ih (h.2.2 i (by rw [h.2.1]; exact hi))⟩
theorem sim_trans : ∀ (n : Nat) {a b c : TD}, Sim n a b → Sim n b c → Sim n a c := by
  intro n
  induction n with
  | zero => intro a b c _ _; trivial
  | succ n ih => intro a b c h q; exact ⟨h.1.trans q.1, h.2.1.trans q.2.1, fun i hi => ih (h.2.2 i hi) (q.2.2 i (by rw [← h.2.1]; exact hi))⟩
theorem SimA.symm {a b : TD} (h : SimA a b) : SimA b a := fun n => sim_symm n (h n)
theorem SimA.trans {a b c : TD} (h : SimA a b) (q : SimA b c) : SimA a c := fun n => sim_trans n (h n) (q n)
theorem foldE_append : ∀ (l m : List EditD) (d : TD), foldE (l ++ m) d = (foldE l d).bind (foldE m) := by
  intro l
  induction l with
  | nil => intro m d; rfl
  | cons e l ih =>
    intro m d
    show (match editedD d e with | some y => foldE (l ++ m) y | none => none) = (match editedD d e with | some y => foldE l y | none => none).bind (foldE m)
    cases editedD d e with
    | none => rfl
    | some y => exact ih m y
/-- in two pieces -/
theorem foldE_cut {l : List EditD} {d u : TD} (k : Nat) (h : foldE l d = some u) : ∃ a, foldE (l.take k) d = some a ∧ foldE (l.drop k) a = some u := by
  rw [← List.take_append_drop k l, foldE_append] at h
  cases q : foldE (l.take k) d with
  | none => rw [q] at h; cases h
  | some a => rw [q] at h; exact ⟨a, rfl, h⟩
theorem foldE_right : ∀ {l : List EditD} {d u : TD}, treeB d = true → foldE l d = some u → treeB u = true := by
  intro l
  induction l with
  | nil => intro d u hd h; injection h with h; rw [← h]; exact hd
  | cons e l ih =>
    intro d u hd h
    have h' : (match editedD d e with | some y => foldE l y | none => none) = some u := h
    cases q : editedD d e with
    | none => rw [q] at h'; cases h'
    | some y => rw [q] at h'; exact ih (edited_facts q).2.1 h'
theorem allD_cut {l : List EditD} {d u : TD} (k : Nat) (h : allD d l = some u) : ∃ a, allD d (l.take k) = some a ∧ allD a (l.drop k) = some u := by
  unfold allD at h
  split at h
  · next hh =>
    obtain ⟨a, h1, h2⟩ := foldE_cut k h
    have ha := foldE_right hh.2 h1
    refine ⟨a, ?_, ?_⟩
    · unfold allD; rw [if_pos ⟨by rw [List.length_take]; omega, hh.2⟩]; exact h1
    · unfold allD; rw [if_pos ⟨by rw [List.length_drop]; omega, ha⟩]; exact h2
  · cases h
/-- what leads back, in its order -/
def backs : List EditD → TD → List EditD
  | [], _ => []
  | e :: es, d => match editedD d e with
    | some y => backs es y ++ [backD d e]
    | none => []
theorem backs_len : ∀ (l : List EditD) (d : TD), (backs l d).length ≤ l.length := by
  intro l
  induction l with
  | nil => intro d; exact Nat.le_refl _
  | cons e l ih =>
    intro d
    show (match editedD d e with | some y => backs l y ++ [backD d e] | none => []).length ≤ l.length + 1
    cases editedD d e with
    | none => exact Nat.zero_le _
    | some y => show (backs l y ++ [backD d e]).length ≤ _; rw [List.length_append, List.length_singleton]; have := ih y; omega
/-- all undone, backwards, a tree is as it was -/
theorem backs_plain : ∀ {l : List EditD} {d u : TD}, foldE l d = some u → ∃ v, foldE (backs l d) u = some v ∧ SimA v d := by
  intro l
  induction l with
  | nil => intro d u h; injection h with h; exact ⟨u, rfl, by rw [h]; exact simA_refl _⟩
  | cons e l ih =>
    intro d u h
    have h' : (match editedD d e with | some y => foldE l y | none => none) = some u := h
    cases q : editedD d e with
    | none => rw [q] at h'; cases h'
    | some y =>
      rw [q] at h'
      obtain ⟨v1, g1, s1⟩ := ih h'
      obtain ⟨v0, g0, s0⟩ := undo_plain q
      obtain ⟨v2, g2, s2⟩ := edit_sim s1.symm g0
      refine ⟨v2, ?_, s2.symm.trans s0⟩
      have e1 : backs (e :: l) d = backs l y ++ [backD d e] := by show (match editedD d e with | some y => backs l y ++ [backD d e] | none => []) = _; rw [q]
      rw [e1, foldE_append, g1]
      show foldE [backD d e] v1 = some v2
      show (match editedD v1 (backD d e) with | some y => foldE [] y | none => none) = some v2
      rw [g2]; rfl
end Go.Proofs.Ytndffcogddefiaa
