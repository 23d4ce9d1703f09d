/- Arenas, their handles and what is there: plain facts for the laws. -/
import Derived.Test.YtcbomaflfjdmjaaArRel
import Derived.Test.YtcbomaflfjdmjaaArHandles
namespace Go.Proofs.Ytcbomaflfjdmjaa
open Go.RowKit
theorem hs_mem : ∀ (xs : List SlotD) (i : Nat) (h : HandleD), h ∈ hs xs i ↔ ∃ j, ∃ q : j < xs.length, h = ⟨((i + j : Nat) : Int), xs[j].vGen⟩ ∧ xs[j].vUsed = true := by
  intro xs
  induction xs with
  | nil => intro i h; simp [hs]
  | cons s r ih =>
    intro i h
    rw [hs, List.mem_append, ih]
    constructor
    · rintro (q | ⟨j, q, rfl, hu⟩)
      · cases hu : s.vUsed with
        | false => rw [hu] at q; cases q
        | true =>
          rw [hu] at q
          simp at q
          exact ⟨0, by simp, by simpa using q, by simpa using hu⟩
      · exact ⟨j + 1, by simp; omega, by simp only [List.getElem_cons_succ]; rw [show i + 1 + j = i + (j + 1) by omega], by simpa using hu⟩
    · rintro ⟨j, q, rfl, hu⟩
      cases j with
      | zero => left; simp at hu ⊢; simp [hu]
      | succ j => right; exact ⟨j, by simp at q; omega, by simp only [List.getElem_cons_succ]; rw [show i + 1 + j = i + (j + 1) by omega], by simpa using hu⟩
theorem hs_rise : ∀ (xs : List SlotD) (i : Nat), (hs xs i).Pairwise fun a b => a.vAt < b.vAt := by
  intro xs
  induction xs with
  | nil => intro i; simp [hs]
  | cons s r ih =>
    intro i
    rw [hs]
    cases hu : s.vUsed with
    | false => simpa using ih (i + 1)
    | true =>
      simp only [if_true, List.singleton_append, List.pairwise_cons]
      refine ⟨fun h hh => ?_, ih (i + 1)⟩
      obtain ⟨j, _, rfl, _⟩ := (hs_mem r (i + 1) h).1 hh
      show ((i : Nat) : Int) < ((i + 1 + j : Nat) : Int)
      omega
theorem handles_right {x : ArenaD} {h : HandleD} (hh : h ∈ handlesD x) : RightI x ∧ h ∈ hs x.vSlots 0 := by
  unfold handlesD at hh
  split at hh
  · rename_i e; exact ⟨rightB_iff.1 e, hh⟩
  · cases hh
theorem handles_of {x : ArenaD} (hr : RightI x) : handlesD x = hs x.vSlots 0 := by unfold handlesD; rw [if_pos (rightB_true hr)]
theorem live_iff {x : ArenaD} {a g : Int} : Live x a g ↔ ∃ h ∈ handlesD x, h.vAt = a ∧ h.vGen = g := by
  constructor
  · rintro ⟨hr, h0, q, hu, hg⟩
    refine ⟨⟨a, g⟩, ?_, rfl, rfl⟩
    rw [handles_of hr, hs_mem]
    refine ⟨a.toNat, q, ?_, hu⟩
    rw [hg]
    congr 1
    omega
  · rintro ⟨h, hh, rfl, rfl⟩
    obtain ⟨hr, hm⟩ := handles_right hh
    obtain ⟨j, q, rfl, hu⟩ := (hs_mem _ _ _).1 hm
    refine ⟨hr, by simp, ?_⟩
    simp only [Nat.zero_add, Int.toNat_natCast]
    exact ⟨q, hu, trivial⟩
theorem live_handle {x : ArenaD} {i : Nat} (q : i < (handlesD x).length) : Live x (handlesD x)[i].vAt (handlesD x)[i].vGen := live_iff.2 ⟨_, List.getElem_mem q, rfl, rfl⟩
theorem handle_gen {x : ArenaD} {i : Nat} (q : i < (handlesD x).length) : 1 ≤ (handlesD x)[i].vGen ∧ (handlesD x)[i].vGen ≤ 1000000 ∧ 0 ≤ (handlesD x)[i].vAt ∧ (handlesD x)[i].vAt < 12 := by
  obtain ⟨hr, h0, q2, hu, hg⟩ := live_handle q
  have hp := hr.2.2.2.1 _ q2
  have h12 := hr.2.1
  rw [← hg]
  exact ⟨hp.1, hp.2.1, h0, by omega⟩
theorem dead_gen {x : ArenaD} {i : Nat} (q : i < (handlesD x).length) : ¬ Live x (handlesD x)[i].vAt ((handlesD x)[i].vGen - 1) := by
  intro h
  obtain ⟨_, _, q2, _, hg⟩ := live_handle q
  obtain ⟨_, _, q3, _, hg3⟩ := h
  rw [hg] at hg3
  omega
theorem handle_rise {x : ArenaD} {i : Nat} (q : i + 1 < (handlesD x).length) : (handlesD x)[i].vAt < (handlesD x)[i + 1].vAt := by
  have hr := (handles_right (List.getElem_mem q)).1
  have hp := hs_rise x.vSlots 0
  have e := handles_of hr
  have hp2 : (handlesD x).Pairwise fun a b => a.vAt < b.vAt := by rw [e]; exact hp
  exact List.pairwise_iff_getElem.1 hp2 i (i + 1) (by omega) q (by omega)
end Go.Proofs.Ytcbomaflfjdmjaa
