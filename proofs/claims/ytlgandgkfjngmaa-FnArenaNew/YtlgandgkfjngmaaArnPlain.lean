/- A new arena, so many of its slots taken one by one: plain facts. -/
import Derived.Test.YtlgandgkfjngmaaArAllocI
import Derived.Test.YtlgandgkfjngmaaArHandles
namespace Go.Proofs.Ytlgandgkfjngmaa
open Go.RowKit
def usedS : SlotD := ⟨1, true, ⟨#[]⟩⟩
def stS (m j : Nat) : List SlotD := (List.range m).map fun i => if i < j then usedS else newS
def stF (m j : Nat) : List Int := (List.range (m - j)).map fun (i : Nat) => ((j + i : Nat) : Int)
def stA (m j : Nat) : ArenaD := ⟨stS m j, stF m j⟩
theorem stS_len (m j : Nat) : (stS m j).length = m := by simp [stS]
theorem stF_len (m j : Nat) : (stF m j).length = m - j := by simp [stF]
theorem stS_get {m j i : Nat} (h : i < (stS m j).length) : (stS m j)[i] = if i < j then usedS else newS := by simp [stS]
theorem stF_get {m j i : Nat} (h : i < (stF m j).length) : (stF m j)[i] = ((j + i : Nat) : Int) := by simp [stF]
theorem stS_zero (m : Nat) : stS m 0 = newSs m := by
  apply List.ext_getElem
  · simp [stS, newSs]
  · intro i h1 h2; rw [stS_get]; simp [newSs]
theorem stF_zero (m : Nat) : stF m 0 = newFr m := by simp [stF, newFr]
theorem stA_zero (m : Nat) : stA m 0 = ⟨newSs m, newFr m⟩ := by simp [stA, stS_zero, stF_zero]
theorem stF_cons {m j : Nat} (h : j < m) : stF m j = (j : Int) :: stF m (j + 1) := by
  apply List.ext_getElem
  · simp [stF]; omega
  · intro i h1 h2
    rw [stF_get]
    cases i with
    | zero => simp
    | succ i => rw [List.getElem_cons_succ, stF_get]; congr 1; omega
theorem stS_set {m j : Nat} : (stS m j).set j usedS = stS m (j + 1) := by
  apply List.ext_getElem
  · simp [stS]
  · intro i h1 h2
    rw [List.getElem_set, stS_get, stS_get]
    by_cases e : j = i
    · subst e; simp
    · rw [if_neg e]
      by_cases e2 : i < j
      · rw [if_pos e2, if_pos (by omega)]
      · rw [if_neg e2, if_neg (by omega)]
theorem stS_un (m j : Nat) : ∀ k, k ≤ m → (un ((stS m j).take k) 0).length = k - j := by
  intro k
  induction k with
  | zero => intro _; simp [un]
  | succ k ih =>
    intro hk
    rw [un_take (by rw [stS_len]; omega), ih (by omega), stS_get]
    by_cases e : k < j
    · rw [if_pos e]; simp [usedS]; omega
    · rw [if_neg e]; simp [newS]; omega
theorem stA_right {m j : Nat} (h1 : 1 ≤ m) (h2 : m ≤ 12) (hj : j ≤ m) : RightI (stA m j) := by
  have hl := stS_len m j
  have hf := stF_len m j
  refine ⟨by show 1 ≤ (stS m j).length; omega, by show (stS m j).length ≤ 12; omega, by show (stF m j).length ≤ (stS m j).length; omega, fun i hi => ?_, fun i hi _ => ?_, ?_⟩
  · have key : ∀ h : i < (stS m j).length, SlotP (stS m j)[i] := fun h => by
      rw [stS_get]
      split
      · exact ⟨by decide, by decide, by decide, Or.inl rfl⟩
      · exact ⟨by decide, by decide, by decide, Or.inr rfl⟩
    exact key hi
  · have hi' : i < (stF m j).length := hi
    show 0 ≤ (stF m j)[i] ∧ (∃ q : ((stF m j)[i]).toNat < (stS m j).length, ((stS m j)[((stF m j)[i]).toNat]).vUsed = false) ∧ hasB ((stF m j).take i) (stF m j)[i] = false
    have hg := stF_get hi'
    refine ⟨by rw [hg]; omega, ⟨by rw [hg]; omega, ?_⟩, ?_⟩
    · rw [stS_get, if_neg (by rw [hg]; omega)]; rfl
    · have : ¬ hasB ((stF m j).take i) (stF m j)[i] = true := fun q => by
        obtain ⟨k, hk, e⟩ := List.mem_take_iff_getElem.1 (hasB_iff.1 q)
        rw [stF_get, stF_get] at e
        omega
      simpa using this
  · show (stF m j).length = (un (stS m j) 0).length
    have := stS_un m j m (Nat.le_refl _)
    rw [List.take_of_length_le (by omega)] at this
    omega
theorem word_em : wordB 10 ⟨#[]⟩ = true := by decide
theorem stA_alloc {m j : Nat} (h1 : 1 ≤ m) (h2 : m ≤ 12) (hj : j < m) : allocD (stA m j) ⟨#[]⟩ = (stA m (j + 1), (j : Int), 1, true) := by
  have hr := rightB_true (stA_right h1 h2 (Nat.le_of_lt hj))
  have hl := stS_len m j
  have h4 : ((j : Int)).toNat < (stA m j).vSlots.length := by show _ < (stS m j).length; omega
  rw [allocD_yes hr word_em (show (stA m j).vFree = _ from stF_cons hj) h4]
  have hg : (stA m j).vSlots[((j : Int)).toNat] = newS := by
    have h5 : ((j : Int)).toNat < (stS m j).length := h4
    exact (stS_get h5).trans (if_neg (by omega))
  rw [hg]
  have hs : (stA m j).vSlots.set ((j : Int)).toNat ⟨newS.vGen, true, ⟨#[]⟩⟩ = stS m (j + 1) := by
    have := stS_set (m := m) (j := j)
    rw [Int.toNat_natCast]
    exact this
  rw [hs]
  rfl
theorem stA_full {m : Nat} : allocD (stA m m) ⟨#[]⟩ = (nilA, 0, 0, false) := allocD_full (by show stF m m = []; simp [stF])
theorem stA_handles (m : Nat) : handlesD (stA m 0) = [] := by
  unfold handlesD
  have : ∀ (xs : List SlotD) (i : Nat), (∀ s ∈ xs, s.vUsed = false) → hs xs i = [] := by
    intro xs
    induction xs with
    | nil => intro i _; rfl
    | cons y r ih => intro i h; simp [hs, h y (by simp), ih (i + 1) (fun s q => h s (by simp [q]))]
  split
  · refine this _ _ (fun s q => ?_)
    have q' : s ∈ newSs m := by have := q; rw [stA_zero] at this; exact this
    rw [(List.mem_replicate.1 q').2]; rfl
  · rfl
end Go.Proofs.Ytlgandgkfjngmaa
