/- What the functions to.. of the laws hand back: a copy in new memory. -/
import Derived.Test.YtdapgihghbmlfaaDoorInRecs
import Derived.WalkKit
namespace Go.Proofs.YtdapgihghbmlfaaDoor
open Go.RowKit
set_option maxHeartbeats 1000000 in
theorem toInstr_any {w : World} {lo : Nat} {cs : List Value} {x : InstrD} (hx : InstrAt w lo cs x) :
    Calls Tryd.prog 19 #[.agg cs.toArray] w fun e w' => (∃ cs', e = .returned (.agg cs'.toArray) ∧ InstrAt w' w.heap.size cs' x) ∧ Below w.heap.size w w' := by
  obtain ⟨rfl, rKind, rN, rName, _⟩ := hx
  go_enter Tryd.func19, Tryd.ntmps19
  go_wp2_with fail
  exact bodyPost_ret (v := .agg (List.toArray [.int .i64 x.vKind, .int .i64 x.vN, .string x.vName])) (by simp [results, Tryd.results19, go_sem]) rfl ⟨⟨_, rfl, rfl, rKind, rN, rName, trivial⟩, (((Below.refl _ _).alloc (Nat.le_refl _) _).alloc (by simp) _).alloc (by simp; omega) _⟩
theorem infoInstr : ((Tryd.prog.info? 39).map fun i => (i.zero, i.bytes, i.size)) = some (some (.agg #[.int .i64 0, .int .i64 0, .string ByteArray.empty]), 32, 3) := by kernel_rfl
/-- the cells of n new ones -/
def newInstr (n : Nat) : Array Value := madeCells #[.int .i64 0, .int .i64 0, .string ByteArray.empty] (n * 3)
theorem newInstr_size (n : Nat) : (newInstr n).size = n * 3 := size_madeCells _ _
theorem run_newInstr (n : Nat) (h : n ≤ 1048576) (w : World) : Sem.run Tryd.prog (Instr.makeSlice 25 (.int .i64 (n : Int)) (.int .i64 (n : Int))) w = .ok (.slice (some ⟨w.heap.size, 0, none⟩) n n) (w.alloc (.cells (newInstr n) 39)) := by
  obtain ⟨i, hi, he⟩ := Option.map_eq_some_iff.1 infoInstr
  simp only [Prod.mk.injEq] at he
  have := run_make (P := Tryd.prog) w 25 39 i _ Tryd.underlying25 hi he.1 .i64 .i64 (n : Int) (n : Int) (by omega) (Int.le_refl _) (by rw [he.2.1]; omega) (by omega)
  rw [he.2.2] at this
  simpa [newInstr, Value.cells] using this
set_option maxHeartbeats 1000000 in
theorem toInstrS_any {w : World} {lo : Nat} {k : Value} {xs : List InstrD} (hk : SeqAt 3 InstrAt w lo k xs) (hsm : AllS InstrD.small xs) :
    Calls Tryd.prog 7 #[k] w fun e w' => (∃ k', e = .returned k' ∧ SeqAt 3 InstrAt w' w.heap.size k' xs) ∧ Below w.heap.size w w' := by
  obtain ⟨a, cap, rfl, hm, hx⟩ := hk
  unfold maxLen at hm
  have hx' : Hid _ := hx
  have hsm' : Hid (AllS InstrD.small xs) := hsm
  have hl := hsm.1
  clear hx hsm
  have hmk := run_newInstr xs.length hl w
  go_enter Tryd.func7, Tryd.ntmps7
  go_wp2_with fail
  go_loopw [4] (fun i wr => ∃ (j : Nat), j ≤ xs.length ∧ i = .int .i64 j ∧ Hid (Filled 39 3 InstrAt w wr xs w.heap.size j)) (fun i _ => xs.length - (intOf i).toNat)
  case atStart => exact ⟨0, by omega, rfl, Filled.start (newInstr_size _)⟩
  case round =>
    obtain ⟨j, hj, rfl, hfill⟩ := hrel
    have hb := hfill.out.1
    by_cases hlt : j < xs.length
    · obtain ⟨b, off, rfl, hlo, hbw, hc⟩ := hx'.out (by omega)
      obtain ⟨cs, hcl, lie, hr⟩ := hc j hlt
      have lie1 := Lie.keep (lo := lo) (lo' := lo) lie (.of_below hb) hlo hbw
      have hr2 := InstrAt_stays _ _ _ lo _ _ (.of_below hb) hr
      have hsj : Hid (InstrD.small xs[j]) := hsm'.out.2 j hlt
      generalize hX : xs[j] = X at hr2 hsj
      have hX' : Hid _ := hX
      have hr3 : Hid (InstrAt wr lo cs X) := hr2
      clear hX hr lie hc
      obtain ⟨rfl, rKind, rN, rName, _⟩ := hr2
      clear rKind rN rName
      have z0 := lie1 0 (by simp)
      have z1 := lie1 1 (by simp)
      have z2 := lie1 2 (by simp)
      simp only [List.getElem?_cons_zero, List.getElem?_cons_succ, Nat.add_zero] at z0 z1 z2
      clear lie1 hcl hx' hmk
      go_wp2_with fail
      refine (toInstr_any hr3.out).mono ?_
      rintro e w1 ⟨⟨cs1, rfl, ht1⟩, hb1⟩
      have hcl1 : cs1.length = 3 := by obtain ⟨rfl, _⟩ := ht1; rfl
      have ht1' : Hid (InstrAt w1 wr.heap.size cs1 X) := ht1
      obtain ⟨rfl, rKind, rN, rName, _⟩ := ht1
      clear rKind rN rName z0 z1 z2
      obtain ⟨hv, hf⟩ := hfill.out.facts hlt hb1
      obtain ⟨v0, y0⟩ := hv 0 (by omega)
      have f0 := hf (j * 3 + 0)
      obtain ⟨v1, y1⟩ := hv 1 (by omega)
      have f1 := hf (j * 3 + 1)
      obtain ⟨v2, y2⟩ := hv 2 (by omega)
      have f2 := hf (j * 3 + 2)
      simp only [Nat.add_zero] at y0 f0
      clear hv hf
      go_wp2_with fail
      go_roundw
      case rel =>
        refine ⟨j + 1, by omega, by go_num, ?_⟩
        have hst := Filled.step InstrAt_stays hfill.out hlt (Nat.le_refl _) hb1 hcl1 (by rw [hX'.out]; exact ht1'.out)
        simp only [putCells, Nat.add_assoc, Nat.reduceAdd] at hst
        exact hst
      case measure => simp [intOf]; omega
    · have e : j = xs.length := by omega
      subst e
      go_wp2_with fail
      go_ret
      exact ⟨⟨_, rfl, hfill.out.done InstrAt_stays (Nat.le_refl _) (by unfold maxLen; omega)⟩, hb⟩
end Go.Proofs.YtdapgihghbmlfaaDoor
