/- How many marks a small heap takes: few. -/
import Derived.Test.YtdhjaokanllcgaaOwnRecs
import Derived.Test.YtdhjaokanllcgaaOwnFill
namespace Go.Proofs.Ytdhjaokanllcgaa
open Go.RowKit
theorem pos_most {α : Type} {cnt : α → Nat} {xs : List α} {B : Nat} (h : ∀ i, (hi : i < xs.length) → cnt xs[i] ≤ B) : ∀ j, j ≤ xs.length → pos cnt xs j ≤ j * B := by
  intro j
  induction j with
  | zero => intro _; simp [pos_zero]
  | succ j ih =>
    intro hj
    rw [pos_succ (by omega)]
    have h1 := ih (by omega)
    have h2 := h j (by omega)
    rw [Nat.add_mul, Nat.one_mul]
    omega
theorem cntL_most {α : Type} {cnt : α → Nat} {xs : List α} {B : Nat} (hl : xs.length ≤ 1048576) (h : ∀ i, (hi : i < xs.length) → cnt xs[i] ≤ B) : cntL cnt xs ≤ 1048576 * B := by
  have h1 := pos_most h xs.length (Nat.le_refl _)
  have h2 := Nat.mul_le_mul_right B hl
  unfold cntL
  omega
theorem cntL_int (xs : List Int) : cntL cntI xs = xs.length := by
  unfold cntL
  have : ∀ j, j ≤ xs.length → pos cntI xs j = j := by
    intro j
    induction j with
    | zero => intro _; exact pos_zero _ _
    | succ j ih => intro hj; rw [pos_succ (by omega), ih (by omega)]; rfl
  exact this _ (Nat.le_refl _)
theorem cntHeap_le {h : HeapD} (hs : h.small) : (1 : Int) + (cntL cntNode h.vNodes : Nat) + (cntL cntObj h.vObjs : Nat) + (cntL cntField h.vGlobals : Nat) ≤ 4611686018427387904 := by
  obtain ⟨hn, ho, hg, _⟩ := hs
  have h1 : cntL cntNode h.vNodes ≤ 1048576 * (1048576 * 8) := cntL_most hn.1 fun i hi => by
    obtain ⟨_, hk, hl, _⟩ := hn.2 i hi
    have k1 : cntL cntI h.vNodes[i].vKids ≤ 1048576 := by rw [cntL_int]; exact hk
    have k2 : cntL cntListener h.vNodes[i].vListeners ≤ 1048576 * 5 := cntL_most hl.1 fun j hj => Nat.le_refl _
    unfold cntNode
    omega
  have h2 : cntL cntObj h.vObjs ≤ 1048576 * (1048576 * 8) := cntL_most ho.1 fun i hi => by
    obtain ⟨hf, _⟩ := ho.2 i hi
    have k2 : cntL cntField h.vObjs[i].vFields ≤ 1048576 * 2 := cntL_most hf.1 fun j hj => Nat.le_refl _
    unfold cntObj
    omega
  have h3 : cntL cntField h.vGlobals ≤ 1048576 * 2 := cntL_most hg.1 fun j hj => Nat.le_refl _
  omega
end Go.Proofs.Ytdhjaokanllcgaa
