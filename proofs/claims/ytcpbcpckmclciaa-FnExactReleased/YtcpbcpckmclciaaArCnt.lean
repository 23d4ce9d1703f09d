/- How many places are marked in an arena. -/
import Derived.Test.YtcpbcpckmclciaaOwnRecs
namespace Go.Proofs.Ytcpbcpckmclciaa
theorem pos_const {α : Type} {c : Nat} {xs : List α} : ∀ {j : Nat}, j ≤ xs.length → pos (fun _ => c) xs j = j * c := by
  intro j
  induction j with
  | zero => intro _; simp [pos]
  | succ j ih => intro h; rw [pos_succ (by omega), ih (by omega), Nat.add_mul, Nat.one_mul]
theorem cntL_int (xs : List Int) : cntL cntI xs = xs.length := by
  have := pos_const (c := 1) (xs := xs) (Nat.le_refl _)
  rw [Nat.mul_one] at this
  exact this
theorem cntL_slot (xs : List SlotD) : cntL cntSlot xs = xs.length * 3 := pos_const (c := 3) (xs := xs) (Nat.le_refl _)
theorem cntL_handle (xs : List HandleD) : cntL cntHandle xs = xs.length * 2 := pos_const (c := 2) (xs := xs) (Nat.le_refl _)
end Go.Proofs.Ytcpbcpckmclciaa
