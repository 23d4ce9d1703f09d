/- The records of this package as owners of their memory, and their marks: plain facts. -/
import Derived.Test.YtcbomaflfjdmjaaOwn
import Derived.Test.YtcbomaflfjdmjaaArRecs
namespace Go.Proofs.Ytcbomaflfjdmjaa
open Go.RowKit
def SlotOwn (_ : World) (cs : List Value) (x : SlotD) (fs : List Nat) : Prop :=
  cs = [.int .i64 x.vGen, .bool x.vUsed, .string x.vData] ∧ InI x.vGen ∧ x.vData.size ≤ maxLen ∧ fs = []
theorem SlotOwn_stays : OwnStays SlotOwn := fun _ _ _ _ _ _ h => h
theorem SlotOwn_lt : OwnLt SlotOwn := by
  intro w cs x fs h b hb
  obtain ⟨_, _, _, rfl⟩ := h
  cases hb
theorem SlotOwn_at {lo : Nat} (w : World) (cs : List Value) (x : SlotD) (fs : List Nat) (h : SlotOwn w cs x fs) (_ : ∀ b ∈ fs, lo ≤ b) : SlotAt w lo cs x := by
  obtain ⟨e, r0, r1, _⟩ := h
  exact ⟨e, r0, r1, trivial⟩
def ArenaOwn (w : World) (cs : List Value) (x : ArenaD) (fs : List Nat) : Prop :=
  ∃ k0 k1 : Value, ∃ f0 f1 : List Nat, cs = [k0, k1] ∧ SeqOwn 3 SlotOwn w k0 x.vSlots f0 ∧ SeqOwn 1 IntOwn w k1 x.vFree f1 ∧ fs = f0 ++ f1
theorem ArenaOwn_stays : OwnStays ArenaOwn := by
  intro w w' cs x fs q h
  obtain ⟨k0, k1, f0, f1, e, h0, h1, rfl⟩ := h
  exact ⟨k0, k1, f0, f1, e, h0.stays SlotOwn_stays (fun b hb => q b (List.mem_append_left _ hb)), h1.stays intOwn_stays (fun b hb => q b (List.mem_append_right _ hb)), rfl⟩
theorem ArenaOwn_lt : OwnLt ArenaOwn := by
  intro w cs x fs h
  obtain ⟨k0, k1, f0, f1, e, h0, h1, rfl⟩ := h
  intro b hb
  simp only [List.mem_append] at hb
  rcases hb with hb | hb
  · exact h0.lt SlotOwn_lt b hb
  · exact h1.lt intOwn_lt b hb
theorem ArenaOwn_at {lo : Nat} (w : World) (cs : List Value) (x : ArenaD) (fs : List Nat) (h : ArenaOwn w cs x fs) (q : ∀ b ∈ fs, lo ≤ b) : ArenaAt w lo cs x := by
  obtain ⟨k0, k1, f0, f1, e, h0, h1, rfl⟩ := h
  exact ⟨k0, k1, e, h0.at (SlotOwn_at (lo := lo)) (fun b hb => q b (List.mem_append_left _ hb)), h1.at (intOwn_at (lo := lo)) (fun b hb => q b (List.mem_append_right _ hb)), trivial⟩
def HandleOwn (_ : World) (cs : List Value) (x : HandleD) (fs : List Nat) : Prop :=
  cs = [.int .i64 x.vAt, .int .i64 x.vGen] ∧ InI x.vAt ∧ InI x.vGen ∧ fs = []
theorem HandleOwn_stays : OwnStays HandleOwn := fun _ _ _ _ _ _ h => h
theorem HandleOwn_lt : OwnLt HandleOwn := by
  intro w cs x fs h b hb
  obtain ⟨_, _, _, rfl⟩ := h
  cases hb
theorem HandleOwn_at {lo : Nat} (w : World) (cs : List Value) (x : HandleD) (fs : List Nat) (h : HandleOwn w cs x fs) (_ : ∀ b ∈ fs, lo ≤ b) : HandleAt w lo cs x := by
  obtain ⟨e, r0, r1, _⟩ := h
  exact ⟨e, r0, r1, trivial⟩
end Go.Proofs.Ytcbomaflfjdmjaa
