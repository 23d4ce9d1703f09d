/- The way up in a heap, as a list. -/
import Derived.Test.YtdfomaclnopfeaaHeapEq
namespace Go.Proofs.Ytdfomaclnopfeaa
open Go.RowKit
/-- from a number up, at most n steps -/
def upL (h : HeapD) : Nat → Int → List Int
  | 0, _ => []
  | n + 1, id => match nodeAt h id with
    | none => []
    | some x => id :: upL h n x.vParent
theorem upL_none {h : HeapD} {n : Nat} {id : Int} (e : nodeAt h id = none) : upL h n id = [] := by cases n <;> simp [upL, e]
theorem upL_some {h : HeapD} {n : Nat} {id : Int} {x : NodeD} (e : nodeAt h id = some x) : upL h (n + 1) id = id :: upL h n x.vParent := by simp [upL, e]
theorem upL_length (h : HeapD) : ∀ (n : Nat) (id : Int), (upL h n id).length ≤ n := by
  intro n
  induction n with
  | zero => intro id; simp [upL]
  | succ n ih =>
    intro id
    cases e : nodeAt h id with
    | none => rw [upL_none e]; simp
    | some x => rw [upL_some e]; have := ih x.vParent; simp; omega
/-- more steps change nothing where the way has ended -/
theorem upL_more {h : HeapD} (h0 : nodeAt h 0 = none) : ∀ (n : Nat) (id : Int), upF h n id = true → ∀ m, n ≤ m → upL h m id = upL h n id := by
  intro n
  induction n with
  | zero =>
    intro id e m _
    by_cases hi : id = 0
    · subst hi; rw [upL_none h0, upL_none h0]
    · rw [upF_full h hi] at e; cases e
  | succ n ih =>
    intro id e m hm
    by_cases hi : id = 0
    · subst hi; rw [upL_none h0, upL_none h0]
    · cases hx : nodeAt h id with
      | none => rw [upL_none hx, upL_none hx]
      | some x =>
        rw [upF_step h hi hx] at e
        obtain ⟨m', rfl⟩ : ∃ m', m = m' + 1 := ⟨m - 1, by omega⟩
        rw [upL_some hx, upL_some hx, ih x.vParent e m' (by omega)]
theorem upL_nodes {h : HeapD} : ∀ (n : Nat) (id a : Int), hasB (upL h n id) a = true → (nodeAt h a).isSome = true := by
  intro n
  induction n with
  | zero => intro id a e; simp [upL, hasB] at e
  | succ n ih =>
    intro id a e
    cases hx : nodeAt h id with
    | none => rw [upL_none hx] at e; simp [hasB] at e
    | some x =>
      rw [upL_some hx] at e
      by_cases hq : id = a
      · subst hq; rw [hx]; rfl
      · exact ih x.vParent a (by simpa [hasB, hq] using e)
theorem impl_idx {h : HeapD} (e : implB h = true) : idxB h = true := by
  unfold implB at e
  simp only [Bool.and_eq_true] at e
  exact e.1.1.1.1
theorem node_zero {h : HeapD} (e : implB h = true) : nodeAt h 0 = none := by
  have hi := impl_idx e
  unfold idxB at hi
  simp only [Bool.and_eq_true] at hi
  have hr := hi.1.2
  rw [idxN_rs] at hr
  cases hx : nodeAt h 0 with
  | none => rfl
  | some x =>
    obtain ⟨hm, hid⟩ := get_mem _ _ hx
    have := rs_lt _ _ hr x hm
    omega
theorem spec_parts {h : HeapD} (e : specB h = true) : h.vNodes.length ≤ 16 ∧ nodesF h none h.vNodes = true ∧ upsF h h.vNodes = true := by
  unfold specB at e
  simp only [Bool.and_eq_true, decide_eq_true_eq] at e
  exact ⟨e.1.1.1.1.1.1.2, e.1.1.1.2, e.1.2⟩
theorem up_ends {h : HeapD} (e : specB h = true) {id : Int} {x : NodeD} (hx : nodeAt h id = some x) : upF h h.vNodes.length id = true := by
  have hu := (spec_parts e).2.2
  rw [upsF_all] at hu
  obtain ⟨hm, hid⟩ := get_mem _ _ hx
  have := (List.all_eq_true.1 hu) x hm
  rwa [hid] at this
def containsS (h : HeapD) (a b : Int) : Bool := specB h && (nodeAt h a).isSome && (nodeAt h b).isSome && hasB (upL h h.vNodes.length b) a
def containsI (h : HeapD) (a b : Int) : Bool := implB h && hasB (upL h h.vNodes.length b) a
theorem contains_eq (h : HeapD) (a b : Int) : containsS h a b = containsI h a b := by
  unfold containsS containsI
  rw [spec_impl]
  cases hi : implB h
  · rfl
  cases hb : hasB (upL h h.vNodes.length b) a
  · simp
  · have h1 := upL_nodes _ _ _ hb
    have h2 : (nodeAt h b).isSome = true := by
      cases hx : nodeAt h b with
      | none => rw [upL_none hx] at hb; simp [hasB] at hb
      | some x => rfl
    simp [h1, h2]
def aboveS (h : HeapD) (b : Int) : List Int := if specB h then upL h h.vNodes.length b else []
end Go.Proofs.Ytdfomaclnopfeaa
