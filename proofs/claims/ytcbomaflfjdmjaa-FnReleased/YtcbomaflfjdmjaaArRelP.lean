/- What is released is not there, never again under that handle; all else stays: plain facts. -/
import Derived.Test.YtcbomaflfjdmjaaArAllocP
namespace Go.Proofs.Ytcbomaflfjdmjaa
open Go.RowKit
theorem rel_open {x y : ArenaD} {hA hX : Int} (h : releasedD x hA hX = (y, true)) : Live x hA hX ∧ hX ≠ 1000000 ∧ y = ⟨x.vSlots.set hA.toNat ⟨hX + 1, false, ⟨#[]⟩⟩, hA :: x.vFree⟩ := by
  unfold releasedD at h
  split at h
  · rename_i hc
    simp only [Bool.and_eq_true, Bool.not_eq_true', decide_eq_false_iff_not] at hc
    have hl : Live x hA hX := by simpa [liveB] using hc.1
    simp only [Prod.mk.injEq, and_true] at h
    exact ⟨hl, hc.2, h.symm⟩
  · cases h
theorem rel_right {x y : ArenaD} {hA hX : Int} (h : releasedD x hA hX = (y, true)) : RightI y := by
  obtain ⟨hl, hne, rfl⟩ := rel_open h
  obtain ⟨hr, h0, q, hu, hg⟩ := hl
  obtain ⟨r1, r2, r3, r4, r5, r6⟩ := hr
  have hcnt := count_set (p := fun s => !s.vUsed) x.vSlots hA.toNat q ⟨hX + 1, false, ⟨#[]⟩⟩
  rw [hu] at hcnt
  simp only [Bool.not_false, if_true, Bool.not_true, Bool.false_eq_true, if_false] at hcnt
  rw [un_count] at r6
  have hle : (x.vSlots.set hA.toNat ⟨hX + 1, false, ⟨#[]⟩⟩).countP (fun s => !s.vUsed) ≤ (x.vSlots.set hA.toNat ⟨hX + 1, false, ⟨#[]⟩⟩).length := List.countP_le_length
  rw [List.length_set] at hle
  refine ⟨by simpa using r1, by simpa using r2, ?_, fun i hi => ?_, fun i hi hj => ?_, ?_⟩
  · show (hA :: x.vFree).length ≤ (x.vSlots.set _ _).length
    rw [List.length_cons, List.length_set]; omega
  · simp only [List.getElem_set]
    have hi' : i < x.vSlots.length := by simpa using hi
    split
    · have e1 := (r4 hA.toNat q).1
      have e2 := (r4 hA.toNat q).2.1
      rw [hg] at e1 e2
      exact ⟨by show 1 ≤ hX + 1; omega, by show hX + 1 ≤ 1000000; omega, by show wordB 10 ⟨#[]⟩ = true; decide, Or.inr rfl⟩
    · exact r4 i hi'
  · cases i with
    | zero =>
      refine ⟨h0, ⟨by simpa using q, by simp⟩, rfl⟩
    | succ i =>
      have hi2 : i < x.vFree.length := by have : i + 1 < (hA :: x.vFree).length := hi; simpa using this
      obtain ⟨f1, ⟨f2, f3⟩, f4⟩ := r5 i hi2 hi2
      have hne2 : hA.toNat ≠ x.vFree[i].toNat := fun e => by
        have : x.vSlots[hA.toNat].vUsed = x.vSlots[x.vFree[i].toNat].vUsed := by simp only [e]
        rw [hu, f3] at this; cases this
      refine ⟨f1, ⟨by simpa using f2, ?_⟩, ?_⟩
      · simp only [List.getElem_cons_succ, List.getElem_set_ne hne2]; exact f3
      · simp only [List.getElem_cons_succ, List.take_succ_cons]
        cases hb : hasB (hA :: x.vFree.take i) x.vFree[i] with
        | false => rfl
        | true =>
          rw [hasB_iff] at hb
          rcases List.mem_cons.1 hb with e | e
          · exact absurd (by rw [e]) hne2
          · rw [← hasB_iff, f4] at e; cases e
  · show (hA :: x.vFree).length = (un (x.vSlots.set _ _) 0).length
    rw [un_count, List.length_cons]
    omega
theorem rel_count {x y : ArenaD} {hA hX : Int} (h : releasedD x hA hX = (y, true)) : (handlesD y).length + 1 = (handlesD x).length := by
  have hy := rel_right h
  obtain ⟨hl, hne, rfl⟩ := rel_open h
  obtain ⟨hr, h0, q, hu, hg⟩ := hl
  rw [handles_of hy, handles_of hr, hs_count, hs_count]
  have hcnt := count_set (p := fun s => s.vUsed) x.vSlots hA.toNat q ⟨hX + 1, false, ⟨#[]⟩⟩
  rw [hu] at hcnt
  simpa using hcnt
theorem rel_deref {x y : ArenaD} {hA hX : Int} (h : releasedD x hA hX = (y, true)) {a g : Int} (hl : Live y a g) : derefD y a g = ((derefD x a g).1, true) := by
  obtain ⟨hlx, hne, rfl⟩ := rel_open h
  obtain ⟨hr, h0, q, hu, hg⟩ := hlx
  obtain ⟨hy, a0, qy, uy, gy⟩ := id hl
  have hne2 : hA.toNat ≠ a.toNat := fun e => by
    simp only [List.getElem_set, e, if_true] at uy
    cases uy
  have qa : a.toNat < x.vSlots.length := by simpa using qy
  simp only [List.getElem_set_ne hne2] at uy gy
  have hlx : Live x a g := ⟨hr, a0, qa, uy, gy⟩
  rw [derefD_yes (liveB_true hl) qy, derefD_yes (liveB_true hlx) qa]
  simp only [List.getElem_set_ne hne2]
/-- under that handle nothing is there, whatever is allocated -/
def Dead (z : ArenaD) (hA hX : Int) : Prop := ∀ q : hA.toNat < z.vSlots.length, z.vSlots[hA.toNat].vGen ≠ hX
theorem Dead.not {z : ArenaD} {hA hX : Int} (h : Dead z hA hX) : ¬ Live z hA hX := fun hl => h hl.2.2.1 hl.2.2.2.2
theorem dead_rel {x y : ArenaD} {hA hX : Int} (h : releasedD x hA hX = (y, true)) : Dead y hA hX := by
  obtain ⟨hl, hne, rfl⟩ := rel_open h
  intro q
  simp
  omega
theorem dead_alloc {z y : ArenaD} {dt : ByteArray} {p s : Int} {hA hX : Int} (hd : Dead z hA hX) (h : allocD z dt = (y, p, s, true)) : Dead y hA hX := by
  obtain ⟨hr, hw, rest, hf, h0, q, hu, rfl, rfl⟩ := alloc_open h
  intro q2
  have q3 : hA.toNat < z.vSlots.length := by simpa using q2
  have := hd q3
  simp only [List.getElem_set]
  split
  · rename_i e; simp only [e]; exact this
  · exact this
end Go.Proofs.Ytcbomaflfjdmjaa
