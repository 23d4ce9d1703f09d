/- Plain facts on names: what a letter is, what a right name is, over lists of bytes alone. -/
import Derived.WalkKit
namespace Go.Proofs.Ytbodeijffpepfaa
/-- a letter from a to z, as a number -/
def letB (c : Int) : Bool := decide (97 ≤ c) && decide (c ≤ 122)
/-- all of these bytes are letters -/
def letsB : List UInt8 → Bool
  | [] => true
  | c :: r => letB (c.toNat : Int) && letsB r
/-- a right name: one to six letters -/
def nameB (l : List UInt8) : Bool := decide (1 ≤ l.length) && decide (l.length ≤ 6) && letsB l
theorem letsB_append (a b : List UInt8) : letsB (a ++ b) = (letsB a && letsB b) := by
  induction a with
  | nil => simp [letsB]
  | cons c r ih => simp [letsB, ih, Bool.and_assoc]
theorem letsB_snoc (a : List UInt8) (c : UInt8) : letsB (a ++ [c]) = (letsB a && letB (c.toNat : Int)) := by
  rw [letsB_append]; simp [letsB]
theorem take_snoc (s : ByteArray) (k : Nat) (h : k < s.size) : s.data.toList.take (k + 1) = s.data.toList.take k ++ [s[k]] := by
  rw [List.take_succ_eq_append_getElem (by simpa using h)]; rfl
theorem letsB_take_false (l : List UInt8) (k : Nat) (h : letsB (l.take k) = false) : letsB l = false := by
  have : l = l.take k ++ l.drop k := (List.take_append_drop k l).symm
  rw [this, letsB_append, h]; rfl
theorem letB_true (c : Int) (h1 : 97 ≤ c) (h2 : c ≤ 122) : letB c = true := by simp [letB, h1, h2]
theorem letB_low (c : Int) (h1 : c < 97) : letB c = false := by simp [letB]; omega
theorem letB_high (c : Int) (h1 : 122 < c) : letB c = false := by simp [letB]; omega
theorem letB_iff (c : Int) : letB c = true ↔ 97 ≤ c ∧ c ≤ 122 := by simp [letB]
theorem nameB_short (l : List UInt8) (h : l.length < 1) : nameB l = false := by simp [nameB]; omega
theorem nameB_long (l : List UInt8) (h : 6 < l.length) : nameB l = false := by simp [nameB]; omega
theorem nameB_lets (l : List UInt8) (h1 : 1 ≤ l.length) (h2 : l.length ≤ 6) : nameB l = letsB l := by simp [nameB, h1, h2]
end Go.Proofs.Ytbodeijffpepfaa
