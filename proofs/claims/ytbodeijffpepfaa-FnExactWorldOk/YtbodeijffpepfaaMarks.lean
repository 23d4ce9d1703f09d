/- The marks of the laws: markText, walked. -/
import Derived.Test.YtbodeijffpepfaaOwn
import Derived.Test.YtbodeijffpepfaaRows
import Derived.Test.YtbodeijffpepfaaTakeLit
import Derived.WalkKit
import Derived.Laws.IdiomStrings
namespace Go.Proofs.Ytbodeijffpepfaa
open Go.RowKit
def dig (k : Nat) : UInt8 := UInt8.ofNat (48 + k % 10)
def digF : Nat → Nat → List UInt8 → List UInt8
  | 0, _, acc => acc
  | n + 1, k, acc => if k = 0 then acc else digF n (k / 10) (dig k :: acc)
theorem digF_zero (n : Nat) (acc : List UInt8) : digF n 0 acc = acc := by cases n <;> simp [digF]
theorem digF_fuel : ∀ (n m k : Nat) (acc : List UInt8), k ≤ n → k ≤ m → digF n k acc = digF m k acc := by
  intro n
  induction n with
  | zero => intro m k acc h _; obtain rfl : k = 0 := Nat.le_zero.1 h; exact (digF_zero m acc).symm
  | succ n ih =>
    intro m k acc h h2
    by_cases e : k = 0
    · subst e; rw [digF_zero, digF_zero]
    · obtain ⟨m', rfl⟩ : ∃ m', m = m' + 1 := ⟨m - 1, by omega⟩
      rw [digF, digF, if_neg e, if_neg e]
      exact ih m' (k / 10) _ (by omega) (by omega)
theorem digF_step {k : Nat} (h : 0 < k) (acc : List UInt8) : digF k k acc = digF (k / 10) (k / 10) (dig k :: acc) := by
  obtain ⟨m, rfl⟩ : ∃ m, k = m + 1 := ⟨k - 1, by omega⟩
  rw [digF, if_neg (by omega)]
  exact digF_fuel _ _ _ _ (by omega) (by omega)
theorem digF_size : ∀ (n k : Nat) (acc : List UInt8), k ≤ n → (digF n k acc).length ≤ acc.length + k := by
  intro n
  induction n with
  | zero => intro k acc h; simp [digF]
  | succ n ih =>
    intro k acc h
    by_cases e : k = 0
    · subst e; rw [digF_zero]; omega
    · rw [digF, if_neg e]
      have := ih (k / 10) (dig k :: acc) (by omega)
      simp only [List.length_cons] at this
      omega
/-- the mark of a number -/
def markT (m : Int) : ByteArray := if m ≤ 0 then ⟨#[109, 48]⟩ else ⟨(109 :: digF m.toNat m.toNat []).toArray⟩
theorem markT_size {m : Int} (h : m ≤ 4611686018427387904) : (markT m).size ≤ maxLen := by
  unfold markT maxLen
  split
  · decide
  · have := digF_size m.toNat m.toNat [] (Nat.le_refl _)
    show (109 :: digF m.toNat m.toNat []).toArray.size ≤ _
    simp only [List.size_toArray, List.length_cons, List.length_nil] at this ⊢
    omega
end Go.Proofs.Ytbodeijffpepfaa
