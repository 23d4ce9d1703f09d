/- What the functions to.. of the laws hand back: a copy in new memory. -/
import Derived.Test.YtldecaccionigabStRecs
import Derived.WalkKit
namespace Go.Proofs.Ytldecaccionigab
open Go.RowKit
theorem infoInt64 : ((Try.prog.info? 2).map fun i => (i.zero, i.bytes, i.size)) = some (some (.int .i64 0), 8, 1) := by kernel_rfl
/-- the cells of n new ones -/
def newInt64 (n : Nat) : Array Value := madeCells #[.int .i64 0] (n * 1)
theorem newInt64_size (n : Nat) : (newInt64 n).size = n * 1 := size_madeCells _ _
theorem run_newInt64 (n : Nat) (h : n ≤ 1048576) (w : World) : Sem.run Try.prog (Instr.makeSlice 25 (.int .i64 (n : Int)) (.int .i64 (n : Int))) w = .ok (.slice (some ⟨w.heap.size, 0, none⟩) n n) (w.alloc (.cells (newInt64 n) 2)) := by
  obtain ⟨i, hi, he⟩ := Option.map_eq_some_iff.1 infoInt64
  simp only [Prod.mk.injEq] at he
  have := run_make (P := Try.prog) w 25 2 i _ Try.underlying25 hi he.1 .i64 .i64 (n : Int) (n : Int) (by omega) (Int.le_refl _) (by rw [he.2.1]; omega) (by omega)
  rw [he.2.2] at this
  simpa [newInt64, Value.cells] using this
set_option maxHeartbeats 800000 in
theorem toInt64S_any {w : World} {lo : Nat} {k : Value} {xs : List Int} (hk : SeqAt 1 IntAt w lo k xs) (hl : xs.length ≤ 1048576) :
    Calls Try.prog 7 #[k] w fun e w' => (∃ k', e = .returned k' ∧ SeqAt 1 IntAt w' w.heap.size k' xs) ∧ Below w.heap.size w w' := by
  obtain ⟨a, cap, rfl, hm, hx⟩ := hk
  unfold maxLen at hm
  have hx' : Hid _ := hx
  clear hx
  have hmk := run_newInt64 xs.length hl w
  go_enter Try.func7, Try.ntmps7
  go_wp2_with fail
  go_loopw [4] (fun i wr => ∃ (j : Nat), j ≤ xs.length ∧ i = .int .i64 j ∧ Hid (Filled 2 1 IntAt w wr xs w.heap.size j)) (fun i _ => xs.length - (intOf i).toNat)
  case atStart => exact ⟨0, by omega, rfl, Filled.start (newInt64_size _)⟩
  case round =>
    obtain ⟨j, hj, rfl, hfill⟩ := hrel
    have hb := hfill.out.1
    by_cases hlt : j < xs.length
    · obtain ⟨b, off, rfl, hlo, hbw, hc⟩ := hx'.out (by omega)
      obtain ⟨cs, hcl, lie, hr⟩ := hc j hlt
      have lie1 := Lie.keep (lo := lo) (lo' := lo) lie (.of_below hb) hlo hbw
      have hr' : Hid (IntAt wr wr.heap.size cs xs[j]) := hr
      generalize hX : xs[j] = X at hr
      have hX' : Hid _ := hX
      clear hX
      obtain ⟨rfl, hI⟩ := hr
      have z0 := lie1 0 (by simp)
      simp only [List.getElem?_cons_zero, Nat.add_zero, Nat.mul_one] at z0
      obtain ⟨hv, hf⟩ := hfill.out.facts hlt (Below.refl _ _)
      obtain ⟨v0, y0⟩ := hv 0 (by omega)
      simp only [Nat.add_zero, Nat.mul_one] at y0
      have f0 := hf j
      clear hv hf lie lie1 hx' hmk hc
      go_wp2_with fail
      go_roundw
      case rel =>
        refine ⟨j + 1, by omega, by go_num, ?_⟩
        have := Filled.step intAt_stays hfill.out hlt (Nat.le_refl _) (Below.refl _ _) hcl hr'.out
        simpa [putCells, Hid] using this
      case measure => simp [intOf]; omega
    · have e : j = xs.length := by omega
      subst e
      go_wp2_with fail
      go_ret
      exact ⟨⟨_, rfl, hfill.out.done intAt_stays (Nat.le_refl _) (by unfold maxLen; omega)⟩, hb⟩
end Go.Proofs.Ytldecaccionigab
