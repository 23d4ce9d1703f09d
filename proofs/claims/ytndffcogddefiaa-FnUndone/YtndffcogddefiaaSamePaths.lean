/- sameInts, samePath, samePaths, walked. -/
import Derived.Test.YtndffcogddefiaaDrawPath
import Derived.Test.YtndffcogddefiaaOkWalks
import Derived.Test.YtndffcogddefiaaTakeLit
import Derived.Deep.QuietTactic
import Derived.BigQuiet
namespace Go.Proofs.Ytndffcogddefiaa
open Go.RowKit
theorem belowN_drew {B : Nat} {a w : World} (h : Below B a w) (q : Nat) : Below B a (w.drewN q) := ⟨h.os, h.tape, h.output, h.size, h.block⟩
set_option maxHeartbeats 1000000 in
theorem sameInts_yes {w : World} {lo lo2 : Nat} {k k2 : Value} {xs : List Int} (hk : SeqAt 1 IntAt w lo k xs) (hk2 : SeqAt 1 IntAt w lo2 k2 xs) :
    Calls Try.prog 39 #[k, k2] w fun e w' => e = .returned (.bool true) ∧ ∃ m, w' = w.drewN m := by
  obtain ⟨a, cap, rfl, hm, hx⟩ := hk
  obtain ⟨a2, cap2, rfl, _, hx2⟩ := hk2
  unfold maxLen at hm
  have hx' : Hid (0 < xs.length → ∃ b off, a = some ⟨b, off, none⟩ ∧ lo ≤ b ∧ b < w.heap.size ∧ ∀ i, (h : i < xs.length) → ∃ cs, cs.length = 1 ∧ Lie w b (off + i * 1) cs ∧ IntAt w lo cs xs[i]) := hx
  have hx2' : Hid (0 < xs.length → ∃ b off, a2 = some ⟨b, off, none⟩ ∧ lo2 ≤ b ∧ b < w.heap.size ∧ ∀ i, (h : i < xs.length) → ∃ cs, cs.length = 1 ∧ Lie w b (off + i * 1) cs ∧ IntAt w lo2 cs xs[i]) := hx2
  clear hx hx2
  go_enter Try.func39, Try.ntmps39
  go_wp2_with fail
  go_loopw [5] (fun i wr => ∃ (j m : Nat), j ≤ xs.length ∧ i = .int .i64 j ∧ wr = w.drewN m) (fun i _ => xs.length - (intOf i).toNat)
  case atStart => exact ⟨0, 0, by omega, rfl, rfl⟩
  case round =>
    obtain ⟨j, m, hj, rfl, rfl⟩ := hrel
    by_cases hlt : j < xs.length
    · obtain ⟨b, off, rfl, hlo, hbw, hc⟩ := hx'.out (by omega)
      obtain ⟨b2, off2, rfl, hlo2, hbw2, hc2⟩ := hx2'.out (by omega)
      obtain ⟨cs, _, lie, rfl, hI⟩ := hc j hlt
      obtain ⟨cs2, _, lie2, rfl, _⟩ := hc2 j hlt
      have z0 := lie 0 (by simp)
      have y0 := lie2 0 (by simp)
      simp only [List.getElem?_cons_zero, Nat.add_zero, Nat.mul_one] at z0 y0
      generalize xs[j] = X at z0 y0
      have hlt' : (j : Int) < (xs.length : Int) := by omega
      have h0' : (0 : Int) ≤ (j : Int) := by omega
      clear lie lie2 hc hc2 hx' hx2' hI
      go_wp2_with fail
      go_quiet (fail)
      go_wp2_with fail
      go_roundw
      case rel => exact ⟨j + 1, m + nq, by omega, by go_num, by first | rfl | exact World.drewN_drewN _ _ _⟩
      case measure => simp [intOf]; omega
    · go_wp2_with fail
      go_ret
      exact ⟨rfl, m, rfl⟩
theorem samePath_yes {w : World} {lo lo2 : Nat} {k k2 : Value} {xs : List Int} (hk : SeqAt 1 IntAt w lo k xs) (hk2 : SeqAt 1 IntAt w lo2 k2 xs) :
    Calls Try.prog 20 #[k, k2] w fun e w' => e = .returned (.bool true) ∧ ∃ m, w' = w.drewN m := by
  have hk' : Hid (SeqAt 1 IntAt w lo k xs) := hk
  have hk2' : Hid (SeqAt 1 IntAt w lo2 k2 xs) := hk2
  obtain ⟨a, cap, rfl⟩ := hk.form
  obtain ⟨a2, cap2, rfl⟩ := hk2.form
  clear hk hk2
  go_enter Try.func20, Try.ntmps20
  go_wp2_with fail
  refine (sameInts_yes hk'.out hk2'.out).mono ?_
  rintro e w1 ⟨rfl, m, rfl⟩
  go_wp2_with fail
  go_ret
  exact ⟨rfl, m, rfl⟩
theorem qat {P : Program} {f : FuncId} {args : Array Value} {w : World} {m x : Nat} {v : Value} (h : Calls P f args (w.drewN (m + x)) fun e w' => e = .returned v ∧ ∃ k, w' = (w.drewN (m + x)).drewN k) : Calls P f args (w.drewN (m + x)) fun e w'' => e = .returned v ∧ ∃ n, w'' = w.drewN (m + n) :=
  h.mono fun _ _ ⟨he, k, hk⟩ => ⟨he, x + k, by rw [hk, World.drewN_drewN, Nat.add_assoc]⟩
end Go.Proofs.Ytndffcogddefiaa
