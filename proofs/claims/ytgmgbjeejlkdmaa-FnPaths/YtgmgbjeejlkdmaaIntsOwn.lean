/- Lists of lists of whole numbers that own their memory. -/
import Derived.Test.YtgmgbjeejlkdmaaOwn
import Derived.WalkKit
namespace Go.Proofs.Ytgmgbjeejlkdmaa
open Go.RowKit
def IntsOwn (w : World) (cs : List Value) (xs : List Int) (fs : List Nat) : Prop := ∃ k, cs = [k] ∧ SeqOwn 1 IntOwn w k xs fs
def IntsAt (w : World) (lo : Nat) (cs : List Value) (xs : List Int) : Prop := ∃ k, cs = [k] ∧ SeqAt 1 IntAt w lo k xs
theorem IntsOwn_stays : OwnStays IntsOwn := fun _ _ _ _ _ q h => by obtain ⟨k, e, h⟩ := h; exact ⟨k, e, h.stays intOwn_stays q⟩
theorem IntsOwn_lt : OwnLt IntsOwn := fun _ _ _ _ h => by obtain ⟨k, e, h⟩ := h; exact h.lt intOwn_lt
theorem IntsAt_stays : Stays IntsAt := fun _ _ _ _ _ _ q h => by obtain ⟨k, e, h⟩ := h; exact ⟨k, e, h.keep intAt_stays q⟩
theorem IntsOwn_at {lo : Nat} (w : World) (cs : List Value) (x : List Int) (fs : List Nat) (h : IntsOwn w cs x fs) (q : ∀ b ∈ fs, lo ≤ b) : IntsAt w lo cs x := by obtain ⟨k, e, h⟩ := h; exact ⟨k, e, h.at intOwn_at q⟩
end Go.Proofs.Ytgmgbjeejlkdmaa
