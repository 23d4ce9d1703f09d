/- How many marks rows take: few. -/
import Derived.Test.YtdapgihghbmlfaaDoorOwnRecs
import Derived.Test.YtdapgihghbmlfaaDoorOwnFill
namespace Go.Proofs.YtdapgihghbmlfaaDoor
open Go.RowKit
theorem pos_most {α : Type} {cnt : α → Nat} {xs : List α} {B : Nat} (h : ∀ i, (hi : i < xs.length) → cnt xs[i] ≤ B) : ∀ j, j ≤ xs.length → pos cnt xs j ≤ j * B := by
  intro j
  induction j with
  | zero => intro _; simp [pos_zero]
  | succ j ih =>
    intro hj
    rw [pos_succ (by omega)]
    have h1 := ih (by omega)
    have h2 := h j (by omega)
    rw [Nat.add_mul, Nat.one_mul]
    omega
theorem cntL_most {α : Type} {cnt : α → Nat} {xs : List α} {B : Nat} (hl : xs.length ≤ 1048576) (h : ∀ i, (hi : i < xs.length) → cnt xs[i] ≤ B) : cntL cnt xs ≤ 1048576 * B := by
  have h1 := pos_most h xs.length (Nat.le_refl _)
  have h2 := Nat.mul_le_mul_right B hl
  unfold cntL
  omega
theorem cntL_int (xs : List Int) : cntL cntI xs = xs.length := by
  unfold cntL
  have : ∀ j, j ≤ xs.length → pos cntI xs j = j := by
    intro j
    induction j with
    | zero => intro _; exact pos_zero _ _
    | succ j ih => intro hj; rw [pos_succ (by omega), ih (by omega)]; rfl
  exact this _ (Nat.le_refl _)
theorem cntL_instr {xs : List InstrD} (hl : xs.length ≤ 1048576) : (1 : Int) + (cntL cntInstr xs : Nat) ≤ 4611686018427387904 := by
  have := cntL_most (cnt := cntInstr) (B := 3) hl (fun i hi => by simp [cntInstr])
  omega
theorem cntL_few {xs : List Int} (hl : xs.length ≤ 20) : (1 : Int) + (cntL cntI xs : Nat) ≤ 4611686018427387904 := by
  rw [cntL_int]; omega
end Go.Proofs.YtdapgihghbmlfaaDoor
