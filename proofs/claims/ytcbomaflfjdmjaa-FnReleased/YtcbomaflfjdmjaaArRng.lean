/- Numbers that an arena's calls answer are int64s. -/
import Derived.Test.YtcbomaflfjdmjaaArAllocI
namespace Go.Proofs.Ytcbomaflfjdmjaa
open Go.RowKit
theorem small_rng {w : World} {lo : Nat} {cs : List Value} {x : ArenaD} (h : ArenaAt w lo cs x) : (∀ s ∈ x.vSlots, InI s.vGen) ∧ ∀ v ∈ x.vFree, InI v := by
  obtain ⟨k0, k1, rfl, s0, s1, _⟩ := h
  refine ⟨fun s hs => ?_, fun v hv => ?_⟩
  · obtain ⟨i, hi, rfl⟩ := List.getElem_of_mem hs
    obtain ⟨_, _, _, _, hx⟩ := s0
    obtain ⟨_, _, _, _, _, hc⟩ := hx (by omega)
    obtain ⟨_, _, _, r⟩ := hc i hi
    exact r.2.1
  · obtain ⟨i, hi, rfl⟩ := List.getElem_of_mem hv
    obtain ⟨_, _, _, _, hx⟩ := s1
    obtain ⟨_, _, _, _, _, hc⟩ := hx (by omega)
    obtain ⟨_, _, _, r⟩ := hc i hi
    exact r.2
theorem allocD_rng (x : ArenaD) (dt : ByteArray) (h : (∀ s ∈ x.vSlots, InI s.vGen) ∧ ∀ v ∈ x.vFree, InI v) : InI (allocD x dt).2.1 ∧ InI (allocD x dt).2.2.1 := by
  have z : InI 0 := by unfold InI; decide
  unfold allocD
  split
  · split
    · exact ⟨z, z⟩
    · rename_i p rest e
      split
      · exact ⟨z, z⟩
      · rename_i s es
        exact ⟨h.2 p (by rw [e]; simp), h.1 s (List.mem_of_getElem? es)⟩
  · exact ⟨z, z⟩
end Go.Proofs.Ytcbomaflfjdmjaa
