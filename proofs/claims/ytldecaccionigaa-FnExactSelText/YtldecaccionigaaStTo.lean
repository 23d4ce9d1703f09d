/- What the functions to.. of the laws hand back: a copy in new memory. -/
import Derived.Test.YtldecaccionigaaStRecs
import Derived.WalkKit
namespace Go.Proofs.Ytldecaccionigaa
open Go.RowKit
theorem infoInt64 : ((Try.prog.info? 2).map fun i => (i.zero, i.bytes, i.size)) = some (some (.int .i64 0), 8, 1) := by kernel_rfl
/-- the cells of n new ones -/
def newInt64 (n : Nat) : Array Value := madeCells #[.int .i64 0] (n * 1)
theorem newInt64_size (n : Nat) : (newInt64 n).size = n * 1 := size_madeCells _ _
theorem run_newInt64 (n : Nat) (h : n ≤ 1048576) (w : World) : Sem.run Try.prog (Instr.makeSlice 45 (.int .i64 (n : Int)) (.int .i64 (n : Int))) w = .ok (.slice (some ⟨w.heap.size, 0, none⟩) n n) (w.alloc (.cells (newInt64 n) 2)) := by
  obtain ⟨i, hi, he⟩ := Option.map_eq_some_iff.1 infoInt64
  simp only [Prod.mk.injEq] at he
  have := run_make (P := Try.prog) w 45 2 i _ Try.underlying45 hi he.1 .i64 .i64 (n : Int) (n : Int) (by omega) (Int.le_refl _) (by rw [he.2.1]; omega) (by omega)
  rw [he.2.2] at this
  simpa [newInt64, Value.cells] using this
set_option maxHeartbeats 800000 in
theorem toInt64S_any {w : World} {lo : Nat} {k : Value} {xs : List Int} (hk : SeqAt 1 IntAt w lo k xs) (hl : xs.length ≤ 1048576) :
    Calls Try.prog 26 #[k] w fun e w' => (∃ k', e = .returned k' ∧ SeqAt 1 IntAt w' w.heap.size k' xs) ∧ Below w.heap.size w w' := by
  obtain ⟨a, cap, rfl, hm, hx⟩ := hk
  unfold maxLen at hm
  have hx' : Hid _ := hx
  clear hx
  have hmk := run_newInt64 xs.length hl w
  go_enter Try.func26, Try.ntmps26
  go_wp2_with fail
  go_loopw [4] (fun i wr => ∃ (j : Nat), j ≤ xs.length ∧ i = .int .i64 j ∧ Hid (Filled 2 1 IntAt w wr xs w.heap.size j)) (fun i _ => xs.length - (intOf i).toNat)
  case atStart => exact ⟨0, by omega, rfl, Filled.start (newInt64_size _)⟩
  case round =>
    obtain ⟨j, hj, rfl, hfill⟩ := hrel
    have hb := hfill.out.1
    by_cases hlt : j < xs.length
    · obtain ⟨b, off, rfl, hlo, hbw, hc⟩ := hx'.out (by omega)
      obtain ⟨cs, hcl, lie, hr⟩ := hc j hlt
      have lie1 := Lie.keep (lo := lo) (lo' := lo) lie (.of_below hb) hlo hbw
      have hr' : Hid (IntAt wr wr.heap.size cs xs[j]) := hr
      generalize hX : xs[j] = X at hr
      have hX' : Hid _ := hX
      clear hX
      obtain ⟨rfl, hI⟩ := hr
      have z0 := lie1 0 (by simp)
      simp only [List.getElem?_cons_zero, Nat.add_zero, Nat.mul_one] at z0
      obtain ⟨hv, hf⟩ := hfill.out.facts hlt (Below.refl _ _)
      obtain ⟨v0, y0⟩ := hv 0 (by omega)
      simp only [Nat.add_zero, Nat.mul_one] at y0
      have f0 := hf j
      clear hv hf lie lie1 hx' hmk hc
      go_wp2_with fail
      go_roundw
      case rel =>
        refine ⟨j + 1, by omega, by go_num, ?_⟩
        have := Filled.step intAt_stays hfill.out hlt (Nat.le_refl _) (Below.refl _ _) hcl hr'.out
        simpa [putCells, Hid] using this
      case measure => simp [intOf]; omega
    · have e : j = xs.length := by omega
      subst e
      go_wp2_with fail
      go_ret
      exact ⟨⟨_, rfl, hfill.out.done intAt_stays (Nat.le_refl _) (by unfold maxLen; omega)⟩, hb⟩
set_option maxHeartbeats 1000000 in
theorem toStep_any {w : World} {lo : Nat} {cs : List Value} {x : StepD} (hx : StepAt w lo cs x) :
    Calls Try.prog 38 #[.agg cs.toArray] w fun e w' => (∃ cs', e = .returned (.agg cs'.toArray) ∧ StepAt w' w.heap.size cs' x) ∧ Below w.heap.size w w' := by
  obtain ⟨rfl, rTag, _⟩ := hx
  go_enter Try.func38, Try.ntmps38
  go_wp2_with fail
  exact bodyPost_ret (v := .agg (List.toArray [.string x.vTag, .bool x.vDeep])) (by simp [results, Try.results38, go_sem]) rfl ⟨⟨_, rfl, rfl, rTag, trivial⟩, (((Below.refl _ _).alloc (Nat.le_refl _) _).alloc (by simp) _).alloc (by simp; omega) _⟩
theorem infoStep : ((Try.prog.info? 60).map fun i => (i.zero, i.bytes, i.size)) = some (some (.agg #[.string ByteArray.empty, .bool false]), 24, 2) := by kernel_rfl
/-- the cells of n new ones -/
def newStep (n : Nat) : Array Value := madeCells #[.string ByteArray.empty, .bool false] (n * 2)
theorem newStep_size (n : Nat) : (newStep n).size = n * 2 := size_madeCells _ _
theorem run_newStep (n : Nat) (h : n ≤ 1048576) (w : World) : Sem.run Try.prog (Instr.makeSlice 25 (.int .i64 (n : Int)) (.int .i64 (n : Int))) w = .ok (.slice (some ⟨w.heap.size, 0, none⟩) n n) (w.alloc (.cells (newStep n) 60)) := by
  obtain ⟨i, hi, he⟩ := Option.map_eq_some_iff.1 infoStep
  simp only [Prod.mk.injEq] at he
  have := run_make (P := Try.prog) w 25 60 i _ Try.underlying25 hi he.1 .i64 .i64 (n : Int) (n : Int) (by omega) (Int.le_refl _) (by rw [he.2.1]; omega) (by omega)
  rw [he.2.2] at this
  simpa [newStep, Value.cells] using this
set_option maxHeartbeats 1000000 in
theorem toStepS_any {w : World} {lo : Nat} {k : Value} {xs : List StepD} (hk : SeqAt 2 StepAt w lo k xs) (hsm : AllS StepD.small xs) :
    Calls Try.prog 11 #[k] w fun e w' => (∃ k', e = .returned k' ∧ SeqAt 2 StepAt w' w.heap.size k' xs) ∧ Below w.heap.size w w' := by
  obtain ⟨a, cap, rfl, hm, hx⟩ := hk
  unfold maxLen at hm
  have hx' : Hid _ := hx
  have hsm' : Hid (AllS StepD.small xs) := hsm
  have hl := hsm.1
  clear hx hsm
  have hmk := run_newStep xs.length hl w
  go_enter Try.func11, Try.ntmps11
  go_wp2_with fail
  go_loopw [4] (fun i wr => ∃ (j : Nat), j ≤ xs.length ∧ i = .int .i64 j ∧ Hid (Filled 60 2 StepAt w wr xs w.heap.size j)) (fun i _ => xs.length - (intOf i).toNat)
  case atStart => exact ⟨0, by omega, rfl, Filled.start (newStep_size _)⟩
  case round =>
    obtain ⟨j, hj, rfl, hfill⟩ := hrel
    have hb := hfill.out.1
    by_cases hlt : j < xs.length
    · obtain ⟨b, off, rfl, hlo, hbw, hc⟩ := hx'.out (by omega)
      obtain ⟨cs, hcl, lie, hr⟩ := hc j hlt
      have lie1 := Lie.keep (lo := lo) (lo' := lo) lie (.of_below hb) hlo hbw
      have hr2 := StepAt_stays _ _ _ lo _ _ (.of_below hb) hr
      have hsj : Hid (StepD.small xs[j]) := hsm'.out.2 j hlt
      generalize hX : xs[j] = X at hr2 hsj
      have hX' : Hid _ := hX
      have hr3 : Hid (StepAt wr lo cs X) := hr2
      clear hX hr lie hc
      obtain ⟨rfl, rTag, _⟩ := hr2
      clear rTag
      have z0 := lie1 0 (by simp)
      have z1 := lie1 1 (by simp)
      simp only [List.getElem?_cons_zero, List.getElem?_cons_succ, Nat.add_zero] at z0 z1
      clear lie1 hcl hx' hmk
      go_wp2_with fail
      refine (toStep_any hr3.out).mono ?_
      rintro e w1 ⟨⟨cs1, rfl, ht1⟩, hb1⟩
      have hcl1 : cs1.length = 2 := by obtain ⟨rfl, _⟩ := ht1; rfl
      have ht1' : Hid (StepAt w1 wr.heap.size cs1 X) := ht1
      obtain ⟨rfl, rTag, _⟩ := ht1
      clear rTag z0 z1
      obtain ⟨hv, hf⟩ := hfill.out.facts hlt hb1
      obtain ⟨v0, y0⟩ := hv 0 (by omega)
      have f0 := hf (j * 2 + 0)
      obtain ⟨v1, y1⟩ := hv 1 (by omega)
      have f1 := hf (j * 2 + 1)
      simp only [Nat.add_zero] at y0 f0
      clear hv hf
      go_wp2_with fail
      go_roundw
      case rel =>
        refine ⟨j + 1, by omega, by go_num, ?_⟩
        have hst := Filled.step StepAt_stays hfill.out hlt (Nat.le_refl _) hb1 hcl1 (by rw [hX'.out]; exact ht1'.out)
        simp only [putCells] at hst
        exact hst
      case measure => simp [intOf]; omega
    · have e : j = xs.length := by omega
      subst e
      go_wp2_with fail
      go_ret
      exact ⟨⟨_, rfl, hfill.out.done StepAt_stays (Nat.le_refl _) (by unfold maxLen; omega)⟩, hb⟩
end Go.Proofs.Ytldecaccionigaa
