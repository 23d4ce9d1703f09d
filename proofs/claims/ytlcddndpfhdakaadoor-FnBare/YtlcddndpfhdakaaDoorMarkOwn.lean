/- Marks that own their memory, level by level. -/
import Derived.Test.YtlcddndpfhdakaaDoorGrowDraw
import Derived.Test.YtlcddndpfhdakaaDoorMarkRecs
namespace Go.Proofs.YtlcddndpfhdakaaDoor
open Go.RowKit Go.Deep
/-- an attribute owns no block -/
def AttrOwn (w : World) (cs : List Value) (x : AttrD) (fs : List Nat) : Prop := AttrAt w 0 cs x ∧ fs = []
theorem AttrOwn_stays : OwnStays AttrOwn := fun _ _ _ _ _ _ h => h
theorem AttrOwn_lt : OwnLt AttrOwn := fun _ _ _ _ h b hb => by rw [h.2] at hb; cases hb
/-- a mark of less than n levels owns its memory: these blocks -/
def MarkOwn : Nat → World → List Value → MarkD → List Nat → Prop
  | 0, _, _, _, _ => False
  | n + 1, w, cs, x, fs => ∃ k2 k3 : Value, ∃ f2 f3 : List Nat, cs = [.string x.vTag, .string x.vText, k2, k3] ∧ SeqOwn 2 AttrOwn w k2 x.vAttrs f2 ∧ SeqOwn 4 (MarkOwn n) w k3 x.vKids f3 ∧ x.vTag.size ≤ maxLen ∧ x.vText.size ≤ maxLen ∧ fs = f2 ++ f3
theorem MarkOwn_stays : ∀ n, OwnStays (MarkOwn n) := by
  intro n
  induction n with
  | zero => intro w w' cs x fs _ h; exact h
  | succ n ih =>
    intro w w' cs x fs q h
    obtain ⟨k2, k3, f2, f3, e, h2, h3, r1, r2, rfl⟩ := h
    exact ⟨k2, k3, f2, f3, e, h2.stays AttrOwn_stays (fun b hb => q b (List.mem_append_left _ hb)), h3.stays ih (fun b hb => q b (List.mem_append_right _ hb)), r1, r2, rfl⟩
theorem MarkOwn_lt : ∀ n, OwnLt (MarkOwn n) := by
  intro n
  induction n with
  | zero => intro w cs x fs h; exact h.elim
  | succ n ih =>
    intro w cs x fs h b hb
    obtain ⟨k2, k3, f2, f3, e, h2, h3, r1, r2, rfl⟩ := h
    rcases List.mem_append.1 hb with q | q
    · exact h2.lt AttrOwn_lt b q
    · exact h3.lt ih b q
theorem AttrOwn_at {lo : Nat} (w : World) (cs : List Value) (x : AttrD) (fs : List Nat) (h : AttrOwn w cs x fs) (_ : ∀ b ∈ fs, lo ≤ b) : AttrAt w lo cs x := h.1
theorem MarkOwn_at {lo : Nat} : ∀ (n : Nat) (w : World) (cs : List Value) (x : MarkD) (fs : List Nat), MarkOwn n w cs x fs → (∀ b ∈ fs, lo ≤ b) → MarkAt n w lo cs x := by
  intro n
  induction n with
  | zero => intro w cs x fs h _; exact h.elim
  | succ n ih =>
    intro w cs x fs h q
    obtain ⟨k2, k3, f2, f3, e, h2, h3, r1, r2, rfl⟩ := h
    exact ⟨k2, k3, e, h2.at AttrOwn_at (fun b hb => q b (List.mem_append_left _ hb)), h3.at ih (fun b hb => q b (List.mem_append_right _ hb)), r1, r2, trivial⟩
/-- a text alone -/
theorem MarkOwn_text (n : Nat) (w : World) (s : ByteArray) (hs : s.size ≤ maxLen) : MarkOwn (n + 1) w [.string ⟨#[]⟩, .string s, .slice none 0 0, .slice none 0 0] (MarkD.mk ⟨#[]⟩ s [] []) [] := by
  refine ⟨.slice none 0 0, .slice none 0 0, [], [], by rw [MarkD.mk_tag, MarkD.mk_text], ?_, ?_, by rw [MarkD.mk_tag]; exact Nat.zero_le _, by rw [MarkD.mk_text]; exact hs, rfl⟩
  · rw [MarkD.mk_attrs]; exact ⟨none, 0, rfl, ⟨Nat.zero_le _, Nat.le_refl _⟩, Or.inl ⟨rfl, rfl⟩⟩
  · rw [MarkD.mk_kids]; exact ⟨none, 0, rfl, ⟨Nat.zero_le _, Nat.le_refl _⟩, Or.inl ⟨rfl, rfl⟩⟩
end Go.Proofs.YtlcddndpfhdakaaDoor
