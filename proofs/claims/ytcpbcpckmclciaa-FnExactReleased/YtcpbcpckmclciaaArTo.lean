/- What the functions to.. of the laws hand back: a copy in new memory. -/
import Derived.Test.YtcpbcpckmclciaaArRecs
import Derived.WalkKit
namespace Go.Proofs.Ytcpbcpckmclciaa
open Go.RowKit
theorem infoInt64 : ((Try.prog.info? 2).map fun i => (i.zero, i.bytes, i.size)) = some (some (.int .i64 0), 8, 1) := by kernel_rfl
/-- the cells of n new ones -/
def newInt64 (n : Nat) : Array Value := madeCells #[.int .i64 0] (n * 1)
theorem newInt64_size (n : Nat) : (newInt64 n).size = n * 1 := size_madeCells _ _
theorem run_newInt64 (n : Nat) (h : n ≤ 1048576) (w : World) : Sem.run Try.prog (Instr.makeSlice 23 (.int .i64 (n : Int)) (.int .i64 (n : Int))) w = .ok (.slice (some ⟨w.heap.size, 0, none⟩) n n) (w.alloc (.cells (newInt64 n) 2)) := by
  obtain ⟨i, hi, he⟩ := Option.map_eq_some_iff.1 infoInt64
  simp only [Prod.mk.injEq] at he
  have := run_make (P := Try.prog) w 23 2 i _ Try.underlying23 hi he.1 .i64 .i64 (n : Int) (n : Int) (by omega) (Int.le_refl _) (by rw [he.2.1]; omega) (by omega)
  rw [he.2.2] at this
  simpa [newInt64, Value.cells] using this
set_option maxHeartbeats 800000 in
theorem toInt64S_any {w : World} {lo : Nat} {k : Value} {xs : List Int} (hk : SeqAt 1 IntAt w lo k xs) (hl : xs.length ≤ 1048576) :
    Calls Try.prog 34 #[k] w fun e w' => (∃ k', e = .returned k' ∧ SeqAt 1 IntAt w' w.heap.size k' xs) ∧ Below w.heap.size w w' := by
  obtain ⟨a, cap, rfl, hm, hx⟩ := hk
  unfold maxLen at hm
  have hx' : Hid _ := hx
  clear hx
  have hmk := run_newInt64 xs.length hl w
  go_enter Try.func34, Try.ntmps34
  go_wp2_with fail
  go_loopw [4] (fun i wr => ∃ (j : Nat), j ≤ xs.length ∧ i = .int .i64 j ∧ Hid (Filled 2 1 IntAt w wr xs w.heap.size j)) (fun i _ => xs.length - (intOf i).toNat)
  case atStart => exact ⟨0, by omega, rfl, Filled.start (newInt64_size _)⟩
  case round =>
    obtain ⟨j, hj, rfl, hfill⟩ := hrel
    have hb := hfill.out.1
    by_cases hlt : j < xs.length
    · obtain ⟨b, off, rfl, hlo, hbw, hc⟩ := hx'.out (by omega)
      obtain ⟨cs, hcl, lie, hr⟩ := hc j hlt
      have lie1 := Lie.keep (lo := lo) (lo' := lo) lie (.of_below hb) hlo hbw
      have hr' : Hid (IntAt wr wr.heap.size cs xs[j]) := hr
      generalize hX : xs[j] = X at hr
      have hX' : Hid _ := hX
      clear hX
      obtain ⟨rfl, hI⟩ := hr
      have z0 := lie1 0 (by simp)
      simp only [List.getElem?_cons_zero, Nat.add_zero, Nat.mul_one] at z0
      obtain ⟨hv, hf⟩ := hfill.out.facts hlt (Below.refl _ _)
      obtain ⟨v0, y0⟩ := hv 0 (by omega)
      simp only [Nat.add_zero, Nat.mul_one] at y0
      have f0 := hf j
      clear hv hf lie lie1 hx' hmk hc
      go_wp2_with fail
      go_roundw
      case rel =>
        refine ⟨j + 1, by omega, by go_num, ?_⟩
        have := Filled.step intAt_stays hfill.out hlt (Nat.le_refl _) (Below.refl _ _) hcl hr'.out
        simpa [putCells, Hid] using this
      case measure => simp [intOf]; omega
    · have e : j = xs.length := by omega
      subst e
      go_wp2_with fail
      go_ret
      exact ⟨⟨_, rfl, hfill.out.done intAt_stays (Nat.le_refl _) (by unfold maxLen; omega)⟩, hb⟩
set_option maxHeartbeats 1000000 in
theorem toSlot_any {w : World} {lo : Nat} {cs : List Value} {x : SlotD} (hx : SlotAt w lo cs x) :
    Calls Try.prog 50 #[.agg cs.toArray] w fun e w' => (∃ cs', e = .returned (.agg cs'.toArray) ∧ SlotAt w' w.heap.size cs' x) ∧ Below w.heap.size w w' := by
  obtain ⟨rfl, rGen, rData, _⟩ := hx
  go_enter Try.func50, Try.ntmps50
  go_wp2_with fail
  exact bodyPost_ret (v := .agg (List.toArray [.int .i64 x.vGen, .bool x.vUsed, .string x.vData])) (by simp [results, Try.results50, go_sem]) rfl ⟨⟨_, rfl, rfl, rGen, rData, trivial⟩, (((Below.refl _ _).alloc (Nat.le_refl _) _).alloc (by simp) _).alloc (by simp; omega) _⟩
theorem infoSlot : ((Try.prog.info? 56).map fun i => (i.zero, i.bytes, i.size)) = some (some (.agg #[.int .i64 0, .bool false, .string ByteArray.empty]), 32, 3) := by kernel_rfl
/-- the cells of n new ones -/
def newSlot (n : Nat) : Array Value := madeCells #[.int .i64 0, .bool false, .string ByteArray.empty] (n * 3)
theorem newSlot_size (n : Nat) : (newSlot n).size = n * 3 := size_madeCells _ _
theorem run_newSlot (n : Nat) (h : n ≤ 1048576) (w : World) : Sem.run Try.prog (Instr.makeSlice 28 (.int .i64 (n : Int)) (.int .i64 (n : Int))) w = .ok (.slice (some ⟨w.heap.size, 0, none⟩) n n) (w.alloc (.cells (newSlot n) 56)) := by
  obtain ⟨i, hi, he⟩ := Option.map_eq_some_iff.1 infoSlot
  simp only [Prod.mk.injEq] at he
  have := run_make (P := Try.prog) w 28 56 i _ Try.underlying28 hi he.1 .i64 .i64 (n : Int) (n : Int) (by omega) (Int.le_refl _) (by rw [he.2.1]; omega) (by omega)
  rw [he.2.2] at this
  simpa [newSlot, Value.cells] using this
set_option maxHeartbeats 1000000 in
theorem toSlotS_any {w : World} {lo : Nat} {k : Value} {xs : List SlotD} (hk : SeqAt 3 SlotAt w lo k xs) (hsm : AllS SlotD.small xs) :
    Calls Try.prog 33 #[k] w fun e w' => (∃ k', e = .returned k' ∧ SeqAt 3 SlotAt w' w.heap.size k' xs) ∧ Below w.heap.size w w' := by
  obtain ⟨a, cap, rfl, hm, hx⟩ := hk
  unfold maxLen at hm
  have hx' : Hid _ := hx
  have hsm' : Hid (AllS SlotD.small xs) := hsm
  have hl := hsm.1
  clear hx hsm
  have hmk := run_newSlot xs.length hl w
  go_enter Try.func33, Try.ntmps33
  go_wp2_with fail
  go_loopw [4] (fun i wr => ∃ (j : Nat), j ≤ xs.length ∧ i = .int .i64 j ∧ Hid (Filled 56 3 SlotAt w wr xs w.heap.size j)) (fun i _ => xs.length - (intOf i).toNat)
  case atStart => exact ⟨0, by omega, rfl, Filled.start (newSlot_size _)⟩
  case round =>
    obtain ⟨j, hj, rfl, hfill⟩ := hrel
    have hb := hfill.out.1
    by_cases hlt : j < xs.length
    · obtain ⟨b, off, rfl, hlo, hbw, hc⟩ := hx'.out (by omega)
      obtain ⟨cs, hcl, lie, hr⟩ := hc j hlt
      have lie1 := Lie.keep (lo := lo) (lo' := lo) lie (.of_below hb) hlo hbw
      have hr2 := SlotAt_stays _ _ _ lo _ _ (.of_below hb) hr
      have hsj : Hid (SlotD.small xs[j]) := hsm'.out.2 j hlt
      generalize hX : xs[j] = X at hr2 hsj
      have hX' : Hid _ := hX
      have hr3 : Hid (SlotAt wr lo cs X) := hr2
      clear hX hr lie hc
      obtain ⟨rfl, rGen, rData, _⟩ := hr2
      clear rGen rData
      have z0 := lie1 0 (by simp)
      have z1 := lie1 1 (by simp)
      have z2 := lie1 2 (by simp)
      simp only [List.getElem?_cons_zero, List.getElem?_cons_succ, Nat.add_zero] at z0 z1 z2
      clear lie1 hcl hx' hmk
      go_wp2_with fail
      refine (toSlot_any hr3.out).mono ?_
      rintro e w1 ⟨⟨cs1, rfl, ht1⟩, hb1⟩
      have hcl1 : cs1.length = 3 := by obtain ⟨rfl, _⟩ := ht1; rfl
      have ht1' : Hid (SlotAt w1 wr.heap.size cs1 X) := ht1
      obtain ⟨rfl, rGen, rData, _⟩ := ht1
      clear rGen rData z0 z1 z2
      obtain ⟨hv, hf⟩ := hfill.out.facts hlt hb1
      obtain ⟨v0, y0⟩ := hv 0 (by omega)
      have f0 := hf (j * 3 + 0)
      obtain ⟨v1, y1⟩ := hv 1 (by omega)
      have f1 := hf (j * 3 + 1)
      obtain ⟨v2, y2⟩ := hv 2 (by omega)
      have f2 := hf (j * 3 + 2)
      simp only [Nat.add_zero] at y0 f0
      clear hv hf
      go_wp2_with fail
      go_roundw
      case rel =>
        refine ⟨j + 1, by omega, by go_num, ?_⟩
        have hst := Filled.step SlotAt_stays hfill.out hlt (Nat.le_refl _) hb1 hcl1 (by rw [hX'.out]; exact ht1'.out)
        simp only [putCells, Nat.add_assoc, Nat.reduceAdd] at hst
        exact hst
      case measure => simp [intOf]; omega
    · have e : j = xs.length := by omega
      subst e
      go_wp2_with fail
      go_ret
      exact ⟨⟨_, rfl, hfill.out.done SlotAt_stays (Nat.le_refl _) (by unfold maxLen; omega)⟩, hb⟩
set_option maxHeartbeats 1000000 in
theorem toArena_any {w : World} {lo : Nat} {cs : List Value} {x : ArenaD} (hx : ArenaAt w lo cs x) (hsm : x.small) :
    Calls Try.prog 11 #[.agg cs.toArray] w fun e w' => (∃ cs', e = .returned (.agg cs'.toArray) ∧ ArenaAt w' w.heap.size cs' x) ∧ Below w.heap.size w w' := by
  obtain ⟨k0, k1, rfl, s0, s1, _⟩ := hx
  obtain ⟨mSlots, mFree, _⟩ := hsm
  have s0' : Hid (SeqAt 3 SlotAt w lo k0 x.vSlots) := s0
  obtain ⟨a0, cap0, rfl⟩ := s0.form
  clear s0
  have mSlots' : Hid (AllS SlotD.small x.vSlots) := mSlots
  clear mSlots
  have s1' : Hid (SeqAt 1 IntAt w lo k1 x.vFree) := s1
  obtain ⟨a1, cap1, rfl⟩ := s1.form
  clear s1
  have mFree' : Hid (x.vFree.length ≤ 1048576) := mFree
  clear mFree
  have hb : Below w.heap.size w (((w.alloc (.cells (List.toArray [.slice a0 x.vSlots.length cap0, .slice a1 x.vFree.length cap1]) 25)).alloc (.cells (List.toArray [.slice none 0 0, .slice none 0 0]) 30)).alloc (.cells (List.toArray [.slice none 0 0, .slice none 0 0]) 30)) := (((Below.refl _ _).alloc (Nat.le_refl _) _).alloc (by simp) _).alloc (by simp; omega) _
  have hz : (((w.alloc (.cells (List.toArray [.slice a0 x.vSlots.length cap0, .slice a1 x.vFree.length cap1]) 25)).alloc (.cells (List.toArray [.slice none 0 0, .slice none 0 0]) 30)).alloc (.cells (List.toArray [.slice none 0 0, .slice none 0 0]) 30)).heap.size = w.heap.size + 3 := by simp
  have bA : Hid (Box (((w.alloc (.cells (List.toArray [.slice a0 x.vSlots.length cap0, .slice a1 x.vFree.length cap1]) 25)).alloc (.cells (List.toArray [.slice none 0 0, .slice none 0 0]) 30)).alloc (.cells (List.toArray [.slice none 0 0, .slice none 0 0]) 30)) w.heap.size [.slice a0 x.vSlots.length cap0, .slice a1 x.vFree.length cap1] 25) := ((Box.new w _ _).alloc _).alloc _
  have bR : Hid (Box (((w.alloc (.cells (List.toArray [.slice a0 x.vSlots.length cap0, .slice a1 x.vFree.length cap1]) 25)).alloc (.cells (List.toArray [.slice none 0 0, .slice none 0 0]) 30)).alloc (.cells (List.toArray [.slice none 0 0, .slice none 0 0]) 30)) (w.heap.size + 1) [.slice none 0 0, .slice none 0 0] 30) := by have := (Box.new (w.alloc (.cells (List.toArray [.slice a0 x.vSlots.length cap0, .slice a1 x.vFree.length cap1]) 25)) [.slice none 0 0, .slice none 0 0] 30).alloc (.cells (List.toArray [.slice none 0 0, .slice none 0 0]) 30); simpa [Hid] using this
  have bO : Hid (Box (((w.alloc (.cells (List.toArray [.slice a0 x.vSlots.length cap0, .slice a1 x.vFree.length cap1]) 25)).alloc (.cells (List.toArray [.slice none 0 0, .slice none 0 0]) 30)).alloc (.cells (List.toArray [.slice none 0 0, .slice none 0 0]) 30)) (w.heap.size + 1 + 1) [.slice none 0 0, .slice none 0 0] 30) := by have := Box.new ((w.alloc (.cells (List.toArray [.slice a0 x.vSlots.length cap0, .slice a1 x.vFree.length cap1]) 25)).alloc (.cells (List.toArray [.slice none 0 0, .slice none 0 0]) 30)) [.slice none 0 0, .slice none 0 0] 30; simpa [Hid] using this
  go_enter Try.func11, Try.ntmps11
  go_wp2_with fail
  refine (toSlotS_any (s0'.out.below SlotAt_stays hb) mSlots'.out).mono ?_
  rintro e u0 ⟨⟨kk0, rfl, ss0⟩, hbc⟩
  obtain ⟨aa0, cc0, rfl⟩ := ss0.form
  have hz0 : w.heap.size + 3 ≤ u0.heap.size := by have := hbc.size; omega
  replace hb := hb.trans (hbc.mono hb.size)
  have bA0 : Hid (Box u0 w.heap.size [.slice a0 x.vSlots.length cap0, .slice a1 x.vFree.length cap1] 25) := bA.out.below hbc bA.out.lt
  have bR0 : Hid (Box u0 (w.heap.size + 1) [.slice none 0 0, .slice none 0 0] 30) := bR.out.below hbc bR.out.lt
  have bO0 : Hid (Box u0 (w.heap.size + 1 + 1) [.slice none 0 0, .slice none 0 0] 30) := bO.out.below hbc bO.out.lt
  have ss0' : Hid (SeqAt 3 SlotAt u0 (w.heap.size + 3) (.slice aa0 x.vSlots.length cc0) x.vSlots) := ss0.keep SlotAt_stays (.lower (by omega))
  have tA0_0 := bA0.out.cell 0 rfl
  have tR0_0 := bR0.out.cell 0 rfl
  have tO0_0 := bO0.out.cell 0 rfl
  have tA0_1 := bA0.out.cell 1 rfl
  have tR0_1 := bR0.out.cell 1 rfl
  have tO0_1 := bO0.out.cell 1 rfl
  have fR0 := bR0.out.unfrozen
  have fO0 := bO0.out.unfrozen
  clear hbc ss0 bA bR bO hz
  have bA : Hid (Box (putCells u0 (w.heap.size + 1 + 1) 0 [.slice aa0 x.vSlots.length cc0]) w.heap.size [.slice a0 x.vSlots.length cap0, .slice a1 x.vFree.length cap1] 25) := (bA0.out.other (by omega) _)
  have bR : Hid (Box (putCells u0 (w.heap.size + 1 + 1) 0 [.slice aa0 x.vSlots.length cc0]) (w.heap.size + 1) [.slice none 0 0, .slice none 0 0] 30) := (bR0.out.other (by omega) _)
  have bO : Hid (Box (putCells u0 (w.heap.size + 1 + 1) 0 [.slice aa0 x.vSlots.length cc0]) (w.heap.size + 1 + 1) [.slice aa0 x.vSlots.length cc0, .slice none 0 0] 30) := (bO0.out.set _)
  have hz : (putCells u0 (w.heap.size + 1 + 1) 0 [.slice aa0 x.vSlots.length cc0]).heap.size = u0.heap.size := putCells_size _ _ _ _
  replace hb : Below w.heap.size w (putCells u0 (w.heap.size + 1 + 1) 0 [.slice aa0 x.vSlots.length cc0]) := putCells_below _ _ _ _ _ _ (by omega) hb
  have ss0n : Hid (SeqAt 3 SlotAt (putCells u0 (w.heap.size + 1 + 1) 0 [.slice aa0 x.vSlots.length cc0]) (w.heap.size + 3) (.slice aa0 x.vSlots.length cc0) x.vSlots) := SeqAt.keep SlotAt_stays ss0'.out (kept_put (by omega))
  clear ss0'
  have ss0' := ss0n
  clear ss0n
  clear bA0 bR0 bO0
  go_wp2_with fail
  refine (toInt64S_any (s1'.out.below intAt_stays hb) mFree'.out).mono ?_
  rintro e u1 ⟨⟨kk1, rfl, ss1⟩, hbc⟩
  obtain ⟨aa1, cc1, rfl⟩ := ss1.form
  have hz1 : w.heap.size + 3 ≤ u1.heap.size := by have := hbc.size; omega
  replace hb := hb.trans (hbc.mono hb.size)
  have bA1 : Hid (Box u1 w.heap.size [.slice a0 x.vSlots.length cap0, .slice a1 x.vFree.length cap1] 25) := bA.out.below hbc bA.out.lt
  have bR1 : Hid (Box u1 (w.heap.size + 1) [.slice none 0 0, .slice none 0 0] 30) := bR.out.below hbc bR.out.lt
  have bO1 : Hid (Box u1 (w.heap.size + 1 + 1) [.slice aa0 x.vSlots.length cc0, .slice none 0 0] 30) := bO.out.below hbc bO.out.lt
  have ss0n : Hid (SeqAt 3 SlotAt u1 (w.heap.size + 3) (.slice aa0 x.vSlots.length cc0) x.vSlots) := SeqAt.below SlotAt_stays ss0'.out hbc
  clear ss0'
  have ss0' := ss0n
  clear ss0n
  have ss1' : Hid (SeqAt 1 IntAt u1 (w.heap.size + 3) (.slice aa1 x.vFree.length cc1) x.vFree) := ss1.keep intAt_stays (.lower (by omega))
  clear tA0_0 tR0_0 tO0_0 tA0_1 tR0_1 tO0_1 fR0 fO0
  have tA1_0 := bA1.out.cell 0 rfl
  have tR1_0 := bR1.out.cell 0 rfl
  have tO1_0 := bO1.out.cell 0 rfl
  have tA1_1 := bA1.out.cell 1 rfl
  have tR1_1 := bR1.out.cell 1 rfl
  have tO1_1 := bO1.out.cell 1 rfl
  have fR1 := bR1.out.unfrozen
  have fO1 := bO1.out.unfrozen
  clear hbc ss1 bA bR bO hz
  have bA : Hid (Box (putCells u1 (w.heap.size + 1 + 1) 1 [.slice aa1 x.vFree.length cc1]) w.heap.size [.slice a0 x.vSlots.length cap0, .slice a1 x.vFree.length cap1] 25) := (bA1.out.other (by omega) _)
  have bR : Hid (Box (putCells u1 (w.heap.size + 1 + 1) 1 [.slice aa1 x.vFree.length cc1]) (w.heap.size + 1) [.slice none 0 0, .slice none 0 0] 30) := (bR1.out.other (by omega) _)
  have bO : Hid (Box (putCells u1 (w.heap.size + 1 + 1) 1 [.slice aa1 x.vFree.length cc1]) (w.heap.size + 1 + 1) [.slice aa0 x.vSlots.length cc0, .slice aa1 x.vFree.length cc1] 30) := (bO1.out.set _)
  have hz : (putCells u1 (w.heap.size + 1 + 1) 1 [.slice aa1 x.vFree.length cc1]).heap.size = u1.heap.size := putCells_size _ _ _ _
  replace hb : Below w.heap.size w (putCells u1 (w.heap.size + 1 + 1) 1 [.slice aa1 x.vFree.length cc1]) := putCells_below _ _ _ _ _ _ (by omega) hb
  have ss0n : Hid (SeqAt 3 SlotAt (putCells u1 (w.heap.size + 1 + 1) 1 [.slice aa1 x.vFree.length cc1]) (w.heap.size + 3) (.slice aa0 x.vSlots.length cc0) x.vSlots) := SeqAt.keep SlotAt_stays ss0'.out (kept_put (by omega))
  clear ss0'
  have ss0' := ss0n
  clear ss0n
  have ss1n : Hid (SeqAt 1 IntAt (putCells u1 (w.heap.size + 1 + 1) 1 [.slice aa1 x.vFree.length cc1]) (w.heap.size + 3) (.slice aa1 x.vFree.length cc1) x.vFree) := SeqAt.keep intAt_stays ss1'.out (kept_put (by omega))
  clear ss1'
  have ss1' := ss1n
  clear ss1n
  clear bA1 bR1 bO1
  go_wp2_with fail
  refine bodyPost_ret (v := .agg (List.toArray [.slice aa0 x.vSlots.length cc0, .slice aa1 x.vFree.length cc1])) (by simp [results, Try.results11, go_sem, tR1_0, tR1_1]) rfl ⟨⟨_, rfl, .slice aa0 x.vSlots.length cc0, .slice aa1 x.vFree.length cc1, rfl, ?s0, ?s1, trivial⟩, ?bel⟩
  case s0 => exact SeqAt.keep SlotAt_stays (SeqAt.keep SlotAt_stays ss0'.out (kept_put (g := (w.heap.size + 1)) (o := 0) (vs := [.slice aa0 x.vSlots.length cc0, .slice aa1 x.vFree.length cc1]) (by omega))) (.lower (by omega))
  case s1 => exact SeqAt.keep intAt_stays (SeqAt.keep intAt_stays ss1'.out (kept_put (g := (w.heap.size + 1)) (o := 0) (vs := [.slice aa0 x.vSlots.length cc0, .slice aa1 x.vFree.length cc1]) (by omega))) (.lower (by omega))
  case bel => exact putCells_below [.slice aa0 x.vSlots.length cc0, .slice aa1 x.vFree.length cc1] _ _ _ (w.heap.size + 1) 0 (by omega) hb
set_option maxHeartbeats 1000000 in
theorem toHandle_any {w : World} {lo : Nat} {cs : List Value} {x : HandleD} (hx : HandleAt w lo cs x) :
    Calls Try.prog 22 #[.agg cs.toArray] w fun e w' => (∃ cs', e = .returned (.agg cs'.toArray) ∧ HandleAt w' w.heap.size cs' x) ∧ Below w.heap.size w w' := by
  obtain ⟨rfl, rAt, rGen, _⟩ := hx
  go_enter Try.func22, Try.ntmps22
  go_wp2_with fail
  exact bodyPost_ret (v := .agg (List.toArray [.int .i64 x.vAt, .int .i64 x.vGen])) (by simp [results, Try.results22, go_sem]) rfl ⟨⟨_, rfl, rfl, rAt, rGen, trivial⟩, (((Below.refl _ _).alloc (Nat.le_refl _) _).alloc (by simp) _).alloc (by simp; omega) _⟩
end Go.Proofs.Ytcpbcpckmclciaa
