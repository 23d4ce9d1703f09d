/- An arena that a function of the specification hands back: its row of what is free is a block of its own. -/
import Derived.Test.YtcbomaflfjdmjaaArRel
namespace Go.Proofs.Ytcbomaflfjdmjaa
open Go.RowKit Go.Deep
def AnsS (w w' : World) (cs : List Value) (x : ArenaD) : Prop := ∃ (k0 k1 : Value) (f0 f1 : List Nat) (ys : List Value), cs = [k0, k1] ∧ SeqOwn 3 SlotOwn w' k0 x.vSlots f0 ∧ SeqOwn 1 IntOwn w' k1 x.vFree f1 ∧ (∀ b ∈ f0, w.heap.size ≤ b) ∧ (∀ b ∈ f1, w.heap.size ≤ b) ∧ w'.ownsRow w.heap.size 2 1 k1 x.vFree.length ys ∧ (∀ g, k1.ownBlock = some g → g ∉ f0) ∧ (∀ b ∈ f1, k1.ownBlock = some b)
theorem row_lo {w : World} {base base' e size n : Nat} {v : Value} {xs : List Value} (h : w.ownsRow base e size v n xs) (hb : base' ≤ base) : w.ownsRow base' e size v n xs := by
  obtain ⟨h1, h2⟩ := h
  refine ⟨h1, ?_⟩
  rcases h2 with h2 | ⟨g, cap, cur, h3, h4, h5⟩
  · exact Or.inl h2
  · exact Or.inr ⟨g, cap, cur, h3, Nat.le_trans hb h4, h5⟩
theorem ansRowsS {w w' : World} {base : Nat} {k fk : Value} {xs : List SlotD} {fr : List Int} {fs ffs : List Nat} (h1 : SeqOwn 3 SlotOwn w' k xs fs) (h2 : SeqOwn 1 IntOwn w' fk fr ffs) (l1 : ∀ b ∈ fs, base ≤ b) (l2 : ∀ b ∈ ffs, base ≤ b) (hb : w.heap.size ≤ base) {ys : List Value} (hr : w'.ownsRow base 2 1 fk fr.length ys) (hg : ∀ g, fk.ownBlock = some g → g ∉ fs) (ho : ∀ b ∈ ffs, fk.ownBlock = some b) : AnsS w w' [k, fk] ⟨xs, fr⟩ :=
  ⟨k, fk, fs, ffs, ys, rfl, h1, h2, fun b q => Nat.le_trans hb (l1 b q), fun b q => Nat.le_trans hb (l2 b q), row_lo hr hb, hg, ho⟩
theorem ansNilS {w w' : World} : AnsS w w' [.slice none 0 0, .slice none 0 0] nilA := ⟨_, _, [], [], [], rfl, seqNil, seqNil, by simp, by simp, World.ownsRow_nil _ _ _ _, by simp, by simp⟩
def AnsBS (w w' : World) (r : ArenaD × Bool) (e : Ending) : Prop := ∃ cs, e = .returned (.tuple #[.agg cs.toArray, .bool r.2]) ∧ AnsS w w' cs r.1
def AnsHS (w w' : World) (r : ArenaD × Int × Int × Bool) (e : Ending) : Prop := ∃ cs, e = .returned (.tuple #[.agg cs.toArray, .agg #[.int .i64 r.2.1, .int .i64 r.2.2.1], .bool r.2.2.2]) ∧ AnsS w w' cs r.1
end Go.Proofs.Ytcbomaflfjdmjaa
