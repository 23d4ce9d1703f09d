/- What l9Match and Matches of the specification return. -/
import Derived.Test.YtgmgbjeejlkdmaaMatchPlain
import Derived.Test.YtgmgbjeejlkdmaaAtSpec
import Derived.Test.YtgmgbjeejlkdmaaSelWalks
import Derived.Test.YtgmgbjeejlkdmaaOkWalks
import Derived.Laws.Cover1
namespace Go.Proofs.Ytgmgbjeejlkdmaa
open Go.RowKit
theorem cut_ints {a : Option Addr} {n cap j : Nat} (h : j ≤ cap) : ∀ W : World, Sem.run Try.prog (Instr.sliceAt 30 (.slice a n cap) none (some (.int .i64 (j : Int))) none) W = .ok (.slice a j cap) W := fun W => by
  have e : sliced a 0 j cap 1 = .slice a j cap := by
    unfold sliced
    cases a <;> simp [Addr.add]
  rw [← e]
  simp [Instr.sliceAt, Instr.slice, run_underlying Try.underlying30, Instr.sliceBounds, run_sliceBound, sliced, Try.sizeOf2, Result.andThen, h]
theorem cut_steps {a : Option Addr} {n cap j : Nat} (h : j ≤ cap) : ∀ W : World, Sem.run Try.prog (Instr.sliceAt 40 (.slice a n cap) none (some (.int .i64 (j : Int))) none) W = .ok (.slice a j cap) W := fun W => by
  have e : sliced a 0 j cap 2 = .slice a j cap := by
    unfold sliced
    cases a <;> simp [Addr.add]
  rw [← e]
  simp [Instr.sliceAt, Instr.slice, run_underlying Try.underlying40, Instr.sliceBounds, run_sliceBound, sliced, Try.sizeOf49, Result.andThen, h]
theorem eq_list2 {a b : ByteArray} (h : ¬ a = b) : ¬ a.toList = b.toList := by
  intro e
  rw [ByteArray.toList_eq, ByteArray.toList_eq] at e
  apply h
  cases a; cases b
  simp at e
  rw [e]
theorem eq_ne2 {a b : ByteArray} (h : ¬ a = b) : (a.toList != b.toList) = true := by simpa using eq_list2 h
theorem two_b2 (b : Bool) : b = false ∨ b = true := by cases b <;> simp
/-- l9Match with n + 1 steps -/
def LM {H : Type} (st : Nat → StepD) (m : Nat) (d : DataW H) (path : List Int) (n : Nat) : Prop := ∀ (w : World) (lo lo2 lo3 : Nat) (t k kp kl : Value) (l : List StepD) (p : Nat), TreeAt w lo m t k d → SeqAt 1 IntAt w lo2 kp (path.take p) → p ≤ path.length → SeqAt 2 StepAt w lo3 kl l → l.length = n + 1 → (∀ i, (h : i < l.length) → l[i] = st i) →
    Calls Try.prog 42 #[.agg #[t, k], kp, kl] w fun e w' => e = .returned (.bool (mB st (tgP d path) n p)) ∧ Below w.heap.size w w'
end Go.Proofs.Ytgmgbjeejlkdmaa
