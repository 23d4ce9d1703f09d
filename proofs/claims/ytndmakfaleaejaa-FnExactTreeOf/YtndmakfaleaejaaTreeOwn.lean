/- Trees as data, as owners of their memory, and as rows that lie there: level by level. -/
import Derived.Test.YtndmakfaleaejaaOwn
import Derived.Test.YtndmakfaleaejaaOwnFill
import Derived.Test.YtndmakfaleaejaaMarks
import Derived.Test.YtndmakfaleaejaaOwnRecs
namespace Go.Proofs.Ytndmakfaleaejaa
open Go.RowKit
structure TreeD where
  vTag : ByteArray
  vKids : List TreeD
/-- a tree of less than n levels owns its memory: these blocks -/
def TreeOwn : Nat → World → List Value → TreeD → List Nat → Prop
  | 0, _, _, _, _ => False
  | n + 1, w, cs, x, fs => ∃ k1 : Value, ∃ f1 : List Nat, cs = [.string x.vTag, k1] ∧ SeqOwn 2 (TreeOwn n) w k1 x.vKids f1 ∧ x.vTag.size ≤ maxLen ∧ fs = f1
/-- it lies in blocks from lo on -/
def TreeAt : Nat → World → Nat → List Value → TreeD → Prop
  | 0, _, _, _, _ => False
  | n + 1, w, lo, cs, x => ∃ k1 : Value, cs = [.string x.vTag, k1] ∧ SeqAt 2 (TreeAt n) w lo k1 x.vKids ∧ x.vTag.size ≤ maxLen ∧ True
theorem TreeOwn_stays : ∀ n, OwnStays (TreeOwn n) := by
  intro n
  induction n with
  | zero => intro w w' cs x fs _ h; exact h
  | succ n ih =>
    intro w w' cs x fs q h
    obtain ⟨k1, f1, e, h1, r0, rfl⟩ := h
    exact ⟨k1, _, e, h1.stays ih (fun b hb => q b hb), r0, rfl⟩
theorem TreeOwn_lt : ∀ n, OwnLt (TreeOwn n) := by
  intro n
  induction n with
  | zero => intro w cs x fs h; exact h.elim
  | succ n ih =>
    intro w cs x fs h
    obtain ⟨k1, f1, e, h1, r0, rfl⟩ := h
    exact h1.lt ih
theorem TreeAt_stays : ∀ n, Stays (TreeAt n) := by
  intro n
  induction n with
  | zero => intro w w' lo lo' cs x _ h; exact h
  | succ n ih =>
    intro w w' lo lo' cs x q h
    obtain ⟨k1, e, h1, r0, _⟩ := h
    exact ⟨k1, e, h1.keep ih q, r0, trivial⟩
theorem TreeOwn_at {lo : Nat} : ∀ (n : Nat) (w : World) (cs : List Value) (x : TreeD) (fs : List Nat), TreeOwn n w cs x fs → (∀ b ∈ fs, lo ≤ b) → TreeAt n w lo cs x := by
  intro n
  induction n with
  | zero => intro w cs x fs h _; exact h.elim
  | succ n ih =>
    intro w cs x fs h q
    obtain ⟨k1, f1, e, h1, r0, rfl⟩ := h
    exact ⟨k1, e, h1.at ih q, r0, trivial⟩
theorem TreeOwn_more : ∀ (n : Nat) (w : World) (cs : List Value) (x : TreeD) (fs : List Nat), TreeOwn n w cs x fs → TreeOwn (n + 1) w cs x fs := by
  intro n
  induction n with
  | zero => intro w cs x fs h; exact h.elim
  | succ n ih =>
    intro w cs x fs h
    obtain ⟨k1, f1, e, h1, r0, rfl⟩ := h
    refine ⟨k1, _, e, ?_, r0, rfl⟩
    obtain ⟨a, cap, e1, e2, h2⟩ := h1
    refine ⟨a, cap, e1, e2, h2.imp id ?_⟩
    rintro ⟨b, off, e3, C, T, bss, c1, c2, c3, c4, c5, c6⟩
    exact ⟨b, off, e3, C, T, bss, c1, c2, c3, c4, c5, fun i hi hi' => by obtain ⟨cs, d1, d2, d3⟩ := c6 i hi hi'; exact ⟨cs, d1, d2, ih _ _ _ _ d3⟩⟩
theorem seqOwn_zero {w : World} {k : Value} {xs : List TreeD} {fs : List Nat} (h : SeqOwn 2 (TreeOwn 0) w k xs fs) : xs = [] := by
  obtain ⟨a, cap, _, _, h⟩ := h
  rcases h with ⟨h, _⟩ | ⟨b, off, _, C, T, bss, _, _, hl, _, _, h6⟩
  · exact List.length_eq_zero_iff.1 h
  · rcases Nat.eq_zero_or_pos xs.length with e | e
    · exact List.length_eq_zero_iff.1 e
    · obtain ⟨_, _, _, hf⟩ := h6 0 e (by omega)
      exact hf.elim
theorem seqAt_zero {w : World} {lo : Nat} {k : Value} {xs : List TreeD} (h : SeqAt 2 (TreeAt 0) w lo k xs) : xs = [] := by
  obtain ⟨a, cap, _, _, h⟩ := h
  rcases Nat.eq_zero_or_pos xs.length with e | e
  · exact List.length_eq_zero_iff.1 e
  · obtain ⟨b, off, _, _, _, h6⟩ := h e
    obtain ⟨_, _, _, hf⟩ := h6 0 e
    exact hf.elim
def cntTree : Nat → TreeD → Nat
  | 0, _ => 0
  | n + 1, x => 1 + cntL (cntTree n) x.vKids
def mkTree : Nat → TreeD → Int → TreeD
  | 0, x, _ => x
  | n + 1, x, m => { vTag := markT (m), vKids := mkL (cntTree n) (mkTree n) x.vKids (m + 1) }
/-- a row of trees that is empty -/
theorem seqOwn_lift {n : Nat} {w : World} {k : Value} {xs : List TreeD} {fs : List Nat} (h : SeqOwn 2 (TreeOwn n) w k xs fs) : SeqOwn 2 (TreeOwn (n + 1)) w k xs fs := by
  obtain ⟨a, cap, e1, e2, h2⟩ := h
  refine ⟨a, cap, e1, e2, h2.imp id ?_⟩
  rintro ⟨b, off, e3, C, T, bss, c1, c2, c3, c4, c5, c6⟩
  exact ⟨b, off, e3, C, T, bss, c1, c2, c3, c4, c5, fun i hi hi' => by obtain ⟨cs, d1, d2, d3⟩ := c6 i hi hi'; exact ⟨cs, d1, d2, TreeOwn_more n _ _ _ _ d3⟩⟩
end Go.Proofs.Ytndmakfaleaejaa
