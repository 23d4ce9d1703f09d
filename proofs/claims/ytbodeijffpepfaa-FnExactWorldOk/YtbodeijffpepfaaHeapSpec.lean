/- HeapOk of the specification, walked. -/
import Derived.Test.YtbodeijffpepfaaHeapNode
import Derived.Test.YtbodeijffpepfaaHeapUp
namespace Go.Proofs.Ytbodeijffpepfaa
open Go.RowKit
set_option maxRecDepth 100000 in
set_option maxHeartbeats 16000000 in
theorem specHeapOk_any {w : World} {lo : Nat} {cs : List Value} {h : HeapD} (hh : HeapAt w lo cs h) :
    Calls Try.prog 12 #[.agg cs.toArray] w fun e w' => e = .returned (.bool (specB h)) ∧ Below w.heap.size w w' := by
  have hh' : Hid (HeapAt w lo cs h) := hh
  obtain ⟨k2, k3, k4, rfl, s2, s3, s4, rNext, rDoc, _⟩ := hh
  have s4' : Hid (SeqAt 2 FieldAt w lo k4 h.vGlobals) := s4
  obtain ⟨a2, cap2, rfl, hm2, hx2⟩ := s2
  obtain ⟨a3, cap3, rfl, hm3, hx3⟩ := s3
  obtain ⟨a4, cap4, rfl⟩ := s4.form
  unfold maxLen at hm2 hm3
  have hx2' : Hid _ := hx2
  have hx3' : Hid _ := hx3
  clear hx2 hx3 s4 rNext rDoc
  have hb0 : Below w.heap.size w (w.alloc (.cells (List.toArray [.int .i64 h.vNext, .int .i64 h.vDoc, .slice a2 h.vNodes.length cap2, .slice a3 h.vObjs.length cap3, .slice a4 h.vGlobals.length cap4]) 43)) := (Below.refl _ _).alloc (Nat.le_refl _) _
  have bH0 : Hid (Box (w.alloc (.cells (List.toArray [.int .i64 h.vNext, .int .i64 h.vDoc, .slice a2 h.vNodes.length cap2, .slice a3 h.vObjs.length cap3, .slice a4 h.vGlobals.length cap4]) 43)) w.heap.size [.int .i64 h.vNext, .int .i64 h.vDoc, .slice a2 h.vNodes.length cap2, .slice a3 h.vObjs.length cap3, .slice a4 h.vGlobals.length cap4] 43) := Box.new w _ _
  have hhb : Hid (HeapAt (w.alloc (.cells (List.toArray [.int .i64 h.vNext, .int .i64 h.vDoc, .slice a2 h.vNodes.length cap2, .slice a3 h.vObjs.length cap3, .slice a4 h.vGlobals.length cap4]) 43)) lo _ h) := HeapAt_stays _ _ _ lo _ _ (.of_below hb0) hh'.out
  go_enter Try.func12, Try.ntmps12
  go_wp2_with fail
  refine (l1In_any _ _ _ _).mono ?_
  rintro e w1 ⟨rfl, rfl⟩
  cases hin : inB h.vNext 1 1000000000
  · have HF : Hid (specB h = false) := by show _ = _; simp [specB, hin]
    clear hin
    go_wp2_with fail
    go_ret
    exact ⟨ret_bool HF.out.symm, hb0⟩
  have hnx : 1 ≤ h.vNext ∧ h.vNext ≤ 1000000000 := by simpa [inB] using hin
  have Hin : Hid _ := hin
  clear hin
  obtain ⟨hnx1, hnx2⟩ := hnx
  have hwn : IntKind.i64.wrap (h.vNext - 1) = h.vNext - 1 := by rw [IntKind.wrap_i64]; omega
  by_cases hn16 : h.vNodes.length ≤ 16
  rotate_left
  · have HF : Hid (specB h = false) := by show _ = _; simp [specB, hn16]
    have hq : (16 : Int) < (h.vNodes.length : Int) := by omega
    go_wp2_with fail
    go_ret
    exact ⟨ret_bool HF.out.symm, hb0⟩
  have hq1 : ¬ (16 : Int) < (h.vNodes.length : Int) := by omega
  by_cases ho16 : h.vObjs.length ≤ 16
  rotate_left
  · have HF : Hid (specB h = false) := by show _ = _; simp [specB, ho16]
    have hq : (16 : Int) < (h.vObjs.length : Int) := by omega
    go_wp2_with fail
    go_ret
    exact ⟨ret_bool HF.out.symm, hb0⟩
  have hq2 : ¬ (16 : Int) < (h.vObjs.length : Int) := by omega
  go_wp2_with fail
  refine (l2Fields_any (most := 8) hhb.out (s4'.out.below FieldAt_stays hb0)).mono ?_
  rintro e w1 ⟨rfl, hb1⟩
  have hz0 : (w.alloc (.cells (List.toArray [.int .i64 h.vNext, .int .i64 h.vDoc, .slice a2 h.vNodes.length cap2, .slice a3 h.vObjs.length cap3, .slice a4 h.vGlobals.length cap4]) 43)).heap.size = w.heap.size + 1 := by simp
  rw [hz0] at hb1
  cases hfl : fieldsB h h.vGlobals 8
  · have HF : Hid (specB h = false) := by show _ = _; simp [specB, hfl]
    clear hfl
    go_wp2_with fail
    go_ret
    exact ⟨ret_bool HF.out.symm, hb0.trans (hb1.mono (by omega))⟩
  have Hfl : Hid _ := hfl
  clear hfl hz0 hhb
  have hbw : Below w.heap.size w w1 := hb0.trans (hb1.mono (by omega))
  have bH := (bH0.out).below hb1 (by omega)
  have t0 := bH.cell 0 rfl
  have t1 := bH.cell 1 rfl
  have t2 := bH.cell 2 rfl
  have t3 := bH.cell 3 rfl
  have t4 := bH.cell 4 rfl
  have hz : w.heap.size + 1 ≤ w1.heap.size := by have := bH.lt; omega
  clear bH
  go_wp2_with fail
  go_loopw [3] (fun i wr => ∃ (j : Nat), j ≤ h.vNodes.length ∧ i = .int .i64 j ∧ Below (w.heap.size + 1) (w.alloc (.cells (List.toArray [.int .i64 h.vNext, .int .i64 h.vDoc, .slice a2 h.vNodes.length cap2, .slice a3 h.vObjs.length cap3, .slice a4 h.vGlobals.length cap4]) 43)) wr ∧ Hid (nodesF h none h.vNodes = nodesF h (prevI NodeD.vId h.vNodes j) (h.vNodes.drop j))) (fun i _ => h.vNodes.length - (intOf i).toNat)
  case atStart => exact ⟨0, by omega, rfl, hb1, rfl⟩
  clear t0 t1 t2 t3 t4
  case round =>
    obtain ⟨j, hj, rfl, hb, hrem⟩ := hrel
    have hbw : Below w.heap.size w wr := hb0.trans (hb.mono (by omega))
    have bH := (bH0.out).below hb (by omega)
    have t0 := bH.cell 0 rfl
    have t1 := bH.cell 1 rfl
    have t2 := bH.cell 2 rfl
    have t3 := bH.cell 3 rfl
    have t4 := bH.cell 4 rfl
    have hz : w.heap.size + 1 ≤ wr.heap.size := by have := bH.lt; omega
    clear bH
    by_cases hlt : j < h.vNodes.length
    · obtain ⟨bn, offn, rfl, hlon, hbwn, hcn⟩ := hx2'.out (by omega)
      obtain ⟨csn, hcln, lien, hrn⟩ := hcn j hlt
      have lien1 := Lie.keep (lo := lo) (lo' := lo) lien (.of_below hbw) hlon hbwn
      have hstep := nodesF_step hlt
      generalize hX0 : h.vNodes[j] = X at hrn hstep
      have hX : Hid _ := hX0
      have hrX : Hid (NodeAt w lo csn X) := hrn
      obtain ⟨g3, g5, rfl, v3, v5, _⟩ := hrn
      obtain ⟨p3, c3, rfl⟩ := v3.form
      obtain ⟨p5, c5, rfl⟩ := v5.form
      clear v3 v5
      have z0 := lie_at lien1 0 rfl
      have z1 := lie_at lien1 1 rfl
      have z2 := lie_at lien1 2 rfl
      have z3 := lie_at lien1 3 rfl
      have z4 := lie_at lien1 4 rfl
      have z5 := lie_at lien1 5 rfl
      simp only [Nat.add_zero] at z0
      have Hstep : Hid _ := hstep
      clear hstep hX0 lien1 hcln
      have hbx : Below wr.heap.size wr (wr.alloc (.cells (List.toArray [.int .i64 X.vId, .string X.vTag, .int .i64 X.vParent, .slice p3 X.vKids.length c3, .int .i64 X.vWrapper, .slice p5 X.vListeners.length c5]) 69)) := (Below.refl _ _).alloc (Nat.le_refl _) _
      have bX : Box (wr.alloc (.cells (List.toArray [.int .i64 X.vId, .string X.vTag, .int .i64 X.vParent, .slice p3 X.vKids.length c3, .int .i64 X.vWrapper, .slice p5 X.vListeners.length c5]) 69)) wr.heap.size [.int .i64 X.vId, .string X.vTag, .int .i64 X.vParent, .slice p3 X.vKids.length c3, .int .i64 X.vWrapper, .slice p5 X.vListeners.length c5] 69 := Box.new wr _ _
      have x0 := bX.cell 0 rfl
      have x1 := bX.cell 1 rfl
      have x2 := bX.cell 2 rfl
      have x3 := bX.cell 3 rfl
      have x4 := bX.cell 4 rfl
      have x5 := bX.cell 5 rfl
      clear bX
      have s0 := cell_on hbx t0
      have s1 := cell_on hbx t1
      have s2 := cell_on hbx t2
      have s3 := cell_on hbx t3
      have s4 := cell_on hbx t4
      have hbX : Below (w.heap.size + 1) _ (wr.alloc (.cells (List.toArray [.int .i64 X.vId, .string X.vTag, .int .i64 X.vParent, .slice p3 X.vKids.length c3, .int .i64 X.vWrapper, .slice p5 X.vListeners.length c5]) 69)) := hb.trans (hbx.mono hz)
      have hbwX : Below w.heap.size w (wr.alloc (.cells (List.toArray [.int .i64 X.vId, .string X.vTag, .int .i64 X.vParent, .slice p3 X.vKids.length c3, .int .i64 X.vWrapper, .slice p5 X.vListeners.length c5]) 69)) := hbw.trans (hbx.mono hbw.size)
      have hzX : w.heap.size + 1 ≤ (wr.alloc (.cells (List.toArray [.int .i64 X.vId, .string X.vTag, .int .i64 X.vParent, .slice p3 X.vKids.length c3, .int .i64 X.vWrapper, .slice p5 X.vListeners.length c5]) 69)).heap.size := by have := hbx.size; omega
      have hhX : Hid (HeapAt (wr.alloc (.cells (List.toArray [.int .i64 X.vId, .string X.vTag, .int .i64 X.vParent, .slice p3 X.vKids.length c3, .int .i64 X.vWrapper, .slice p5 X.vListeners.length c5]) 69)).drew lo _ h) := HeapAt_stays _ _ _ lo _ _ (.of_below hbwX.drew) hh'.out
      cases j with
      | zero =>
        simp only [Nat.zero_mul, Nat.add_zero] at z0 z1 z2 z3 z4 z5
        have hp0 : (0 : Int) < (h.vNodes.length : Int) := by omega
        clear hcn lien
        cases hin : inB X.vId 1 (h.vNext - 1)
        · have HF : Hid (specB h = false) := by show _ = _; rw [specB, hrem.out, Hstep.out]; simp [hin]
          have hIn : ∀ w, Calls Try.prog 11 #[.int .i64 X.vId, .int .i64 1, .int .i64 (h.vNext - 1)] w fun e w' => e = .returned (.bool false) ∧ w' = w := fun w => by have := l1In_any X.vId 1 (h.vNext - 1) w; rw [hin] at this; exact this
          clear hin
          go_wp2_with fail
          refine wp_region_held_drew (S := fun w' => w'.cell? ⟨wr.heap.size, 0, none⟩ = some (.int .i64 X.vId) ∧ w'.cell? ⟨wr.heap.size, 1, none⟩ = some (.string X.vTag) ∧ w'.cell? ⟨wr.heap.size, 2, none⟩ = some (.int .i64 X.vParent) ∧ w'.cell? ⟨wr.heap.size, 3, none⟩ = some (.slice p3 X.vKids.length c3) ∧ w'.cell? ⟨wr.heap.size, 4, none⟩ = some (.int .i64 X.vWrapper) ∧ w'.cell? ⟨wr.heap.size, 5, none⟩ = some (.slice p5 X.vListeners.length c5) ∧ w'.cell? ⟨w.heap.size, 0, none⟩ = some (.int .i64 h.vNext) ∧ w'.cell? ⟨w.heap.size, 1, none⟩ = some (.int .i64 h.vDoc) ∧ w'.cell? ⟨w.heap.size, 2, none⟩ = some (.slice (some ⟨bn, offn, none⟩) h.vNodes.length cap2) ∧ w'.cell? ⟨w.heap.size, 3, none⟩ = some (.slice a3 h.vObjs.length cap3) ∧ w'.cell? ⟨w.heap.size, 4, none⟩ = some (.slice a4 h.vGlobals.length cap4)) (by kernel_rfl) (by refine ⟨?_, ?_, ?_, ?_, ?_, ?_, ?_, ?_, ?_, ?_, ?_⟩ <;> assumption) (fun hHeld => ?_)
          refine tq (i := 0) (d := 47) ?_
          simp only [sz, ss]
          refine tq (i := 1) (d := 48) ?_
          simp only [sz, ss]
          refine tq (i := 2) (d := 49) ?_
          simp only [sz, ss]
          refine tq (i := 3) (d := 50) ?_
          simp only [sz, ss]
          refine tq (i := 4) (d := 51) ?_
          simp only [sz, ss]
          refine wpAnyH_ready (rs := [5]) (by kernel_rfl) (by simp) ?_
          refine AllReadyH.cons rfl (fun K hK => ?_) AllReadyH.nil
          go_simp
          refine (hIn _).mono ?_
          rintro e w1 ⟨rfl, rfl⟩
          dsimp only
          refine hK.out _ _ (by assumption) (fun hHeld => ?_)
          clear hK K
          refine tq (i := 6) (d := 53) ?_
          simp only [sz, ss]
          refine tq (i := 7) (d := 54) ?_
          simp only [sz, ss]
          refine tn (i := 8) (d := 55) ?_
          simp only [sz, ss]
          refine tn (i := 9) (d := 56) ?_
          simp only [sz, ss]
          refine tn (i := 10) (d := 57) ?_
          simp only [sz, ss]
          refine tn (i := 11) (d := 58) ?_
          simp only [sz, ss]
          refine tn (i := 12) (d := 59) ?_
          simp only [sz, ss]
          refine tn (i := 13) (d := 60) ?_
          simp only [sz, ss]
          refine tn (i := 14) (d := 61) ?_
          simp only [sz, ss]
          refine tn (i := 15) (d := 62) ?_
          simp only [sz, ss]
          refine tn (i := 16) (d := 63) ?_
          simp only [sz, ss]
          refine tn (i := 17) (d := 64) ?_
          simp only [sz, ss]
          refine tn (i := 18) (d := 65) ?_
          simp only [sz, ss]
          refine tn (i := 19) (d := 66) ?_
          simp only [sz, ss]
          refine tn (i := 20) (d := 67) ?_
          simp only [sz, ss]
          refine tn (i := 21) (d := 68) ?_
          simp only [sz, ss]
          refine tq (i := 22) (d := 69) ?_
          simp only [sz, ss]
          refine tq (i := 23) (d := 70) ?_
          simp only [sz, ss]
          refine tn (i := 24) (d := 71) ?_
          simp only [sz, ss]
          refine tn (i := 25) (d := 72) ?_
          simp only [sz, ss]
          refine tn (i := 26) (d := 73) ?_
          simp only [sz, ss]
          refine tn (i := 27) (d := 74) ?_
          simp only [sz, ss]
          refine tn (i := 28) (d := 75) ?_
          simp only [sz, ss]
          refine tq (i := 29) (d := 76) ?_
          simp only [sz, ss]
          refine tq (i := 30) (d := 77) ?_
          simp only [sz, ss]
          refine tn (i := 31) (d := 78) ?_
          simp only [sz, ss]
          refine tn (i := 32) (d := 79) ?_
          simp only [sz, ss]
          refine tn (i := 33) (d := 80) ?_
          simp only [sz, ss]
          refine tn (i := 34) (d := 81) ?_
          simp only [sz, ss]
          refine tq (i := 35) (d := 82) ?_
          simp only [sz, ss]
          refine wpAnyH_done (by kernel_rfl) ?_ _
          go_wp2_with fail
          go_ret
          exact ⟨ret_bool HF.out.symm, hbwX.drew⟩
        have hIn : ∀ w, Calls Try.prog 11 #[.int .i64 X.vId, .int .i64 1, .int .i64 (h.vNext - 1)] w fun e w' => e = .returned (.bool true) ∧ w' = w := fun w => by have := l1In_any X.vId 1 (h.vNext - 1) w; rw [hin] at this; exact this
        have Hin2 : Hid _ := hin
        clear hin
        have Hrise : Hid (riseB (prevI NodeD.vId h.vNodes 0) X.vId = true) := rfl
        rcases idxO_is h X.vId with ⟨hidx, hat⟩ | ⟨i', hi', hidx, _, hat⟩
        rotate_left
        · have HF : Hid (specB h = false) := by show _ = _; rw [specB, hrem.out, Hstep.out]; simp [hat]
          have hin0 : (0 : Int) ≤ (i' : Int) := by omega
          clear hat
          go_wp2_with fail
          refine wp_region_held_drew (S := fun w' => w'.cell? ⟨wr.heap.size, 0, none⟩ = some (.int .i64 X.vId) ∧ w'.cell? ⟨wr.heap.size, 1, none⟩ = some (.string X.vTag) ∧ w'.cell? ⟨wr.heap.size, 2, none⟩ = some (.int .i64 X.vParent) ∧ w'.cell? ⟨wr.heap.size, 3, none⟩ = some (.slice p3 X.vKids.length c3) ∧ w'.cell? ⟨wr.heap.size, 4, none⟩ = some (.int .i64 X.vWrapper) ∧ w'.cell? ⟨wr.heap.size, 5, none⟩ = some (.slice p5 X.vListeners.length c5) ∧ w'.cell? ⟨w.heap.size, 0, none⟩ = some (.int .i64 h.vNext) ∧ w'.cell? ⟨w.heap.size, 1, none⟩ = some (.int .i64 h.vDoc) ∧ w'.cell? ⟨w.heap.size, 2, none⟩ = some (.slice (some ⟨bn, offn, none⟩) h.vNodes.length cap2) ∧ w'.cell? ⟨w.heap.size, 3, none⟩ = some (.slice a3 h.vObjs.length cap3) ∧ w'.cell? ⟨w.heap.size, 4, none⟩ = some (.slice a4 h.vGlobals.length cap4)) (by kernel_rfl) (by refine ⟨?_, ?_, ?_, ?_, ?_, ?_, ?_, ?_, ?_, ?_, ?_⟩ <;> assumption) (fun hHeld => ?_)
          refine tq (i := 0) (d := 47) ?_
          simp only [sz, ss]
          refine tq (i := 1) (d := 48) ?_
          simp only [sz, ss]
          refine tq (i := 2) (d := 49) ?_
          simp only [sz, ss]
          refine tq (i := 3) (d := 50) ?_
          simp only [sz, ss]
          refine tq (i := 4) (d := 51) ?_
          simp only [sz, ss]
          refine wpAnyH_ready (rs := [5]) (by kernel_rfl) (by simp) ?_
          refine AllReadyH.cons rfl (fun K hK => ?_) AllReadyH.nil
          go_simp
          refine (hIn _).mono ?_
          rintro e w1 ⟨rfl, rfl⟩
          dsimp only
          refine hK.out _ _ (by assumption) (fun hHeld => ?_)
          clear hK K
          refine tq (i := 6) (d := 53) ?_
          simp only [sz, ss]
          refine tq (i := 7) (d := 54) ?_
          simp only [sz, ss]
          refine tq (i := 8) (d := 55) ?_
          simp only [sz, ss]
          refine tq (i := 9) (d := 56) ?_
          simp only [sz, ss]
          refine tq (i := 10) (d := 57) ?_
          simp only [sz, ss]
          refine tn (i := 11) (d := 58) ?_
          simp only [sz, ss]
          refine tn (i := 12) (d := 59) ?_
          simp only [sz, ss]
          refine tn (i := 13) (d := 60) ?_
          simp only [sz, ss]
          refine tn (i := 14) (d := 61) ?_
          simp only [sz, ss]
          refine tn (i := 15) (d := 62) ?_
          simp only [sz, ss]
          refine tn (i := 16) (d := 63) ?_
          simp only [sz, ss]
          refine tn (i := 17) (d := 64) ?_
          simp only [sz, ss]
          refine tn (i := 18) (d := 65) ?_
          simp only [sz, ss]
          refine tn (i := 19) (d := 66) ?_
          simp only [sz, ss]
          refine tn (i := 20) (d := 67) ?_
          simp only [sz, ss]
          refine tq (i := 21) (d := 68) ?_
          simp only [sz, ss]
          refine tq (i := 22) (d := 69) ?_
          simp only [sz, ss]
          refine tq (i := 23) (d := 70) ?_
          simp only [sz, ss]
          refine tq (i := 24) (d := 71) ?_
          simp only [sz, ss]
          refine tq (i := 25) (d := 72) ?_
          simp only [sz, ss]
          refine tq (i := 26) (d := 73) ?_
          simp only [sz, ss]
          refine wpAnyH_ready (rs := [27]) (by kernel_rfl) (by simp) ?_
          refine AllReadyH.cons rfl (fun K hK => ?_) AllReadyH.nil
          go_simp
          refine (l2Obj_any (by exact hhX.out)).mono ?_
          rintro e w2 ⟨rfl, hb1⟩
          have hb4 := hb1
          rw [hidx]
          dsimp only
          refine hK.out _ _ ⟨cell_on hb1 hHeld.1, cell_on hb1 hHeld.2.1, cell_on hb1 hHeld.2.2.1, cell_on hb1 hHeld.2.2.2.1, cell_on hb1 hHeld.2.2.2.2.1, cell_on hb1 hHeld.2.2.2.2.2.1, cell_on hb1 hHeld.2.2.2.2.2.2.1, cell_on hb1 hHeld.2.2.2.2.2.2.2.1, cell_on hb1 hHeld.2.2.2.2.2.2.2.2.1, cell_on hb1 hHeld.2.2.2.2.2.2.2.2.2.1, cell_on hb1 hHeld.2.2.2.2.2.2.2.2.2.2⟩ (fun hHeld => ?_)
          clear hK K
          refine tq (i := 28) (d := 75) ?_
          simp only [sz, ss]
          refine tq (i := 29) (d := 76) ?_
          simp only [sz, ss]
          refine tq (i := 30) (d := 77) ?_
          simp only [sz, ss]
          refine tn (i := 31) (d := 78) ?_
          simp only [sz, ss]
          refine tn (i := 32) (d := 79) ?_
          simp only [sz, ss]
          refine tn (i := 33) (d := 80) ?_
          simp only [sz, ss]
          refine tn (i := 34) (d := 81) ?_
          simp only [sz, ss]
          refine tq (i := 35) (d := 82) ?_
          simp only [sz, ss]
          refine wpAnyH_done (by kernel_rfl) ?_ _
          go_wp2_with fail
          go_ret
          exact ⟨ret_bool HF.out.symm, hb0.trans ((hbX.drew.trans (hb4.mono hzX)).mono (by omega))⟩
        have Hat : Hid _ := hat
        clear hat
        cases hnode : nodeB h X
        · have HF : Hid (specB h = false) := by show _ = _; rw [specB, hrem.out, Hstep.out]; simp [hnode]
          have Hnode : Hid _ := hnode
          clear hnode
          go_wp2_with fail
          refine wp_region_held_drew (S := fun w' => w'.cell? ⟨wr.heap.size, 0, none⟩ = some (.int .i64 X.vId) ∧ w'.cell? ⟨wr.heap.size, 1, none⟩ = some (.string X.vTag) ∧ w'.cell? ⟨wr.heap.size, 2, none⟩ = some (.int .i64 X.vParent) ∧ w'.cell? ⟨wr.heap.size, 3, none⟩ = some (.slice p3 X.vKids.length c3) ∧ w'.cell? ⟨wr.heap.size, 4, none⟩ = some (.int .i64 X.vWrapper) ∧ w'.cell? ⟨wr.heap.size, 5, none⟩ = some (.slice p5 X.vListeners.length c5) ∧ w'.cell? ⟨w.heap.size, 0, none⟩ = some (.int .i64 h.vNext) ∧ w'.cell? ⟨w.heap.size, 1, none⟩ = some (.int .i64 h.vDoc) ∧ w'.cell? ⟨w.heap.size, 2, none⟩ = some (.slice (some ⟨bn, offn, none⟩) h.vNodes.length cap2) ∧ w'.cell? ⟨w.heap.size, 3, none⟩ = some (.slice a3 h.vObjs.length cap3) ∧ w'.cell? ⟨w.heap.size, 4, none⟩ = some (.slice a4 h.vGlobals.length cap4)) (by kernel_rfl) (by refine ⟨?_, ?_, ?_, ?_, ?_, ?_, ?_, ?_, ?_, ?_, ?_⟩ <;> assumption) (fun hHeld => ?_)
          refine tq (i := 0) (d := 47) ?_
          simp only [sz, ss]
          refine tq (i := 1) (d := 48) ?_
          simp only [sz, ss]
          refine tq (i := 2) (d := 49) ?_
          simp only [sz, ss]
          refine tq (i := 3) (d := 50) ?_
          simp only [sz, ss]
          refine tq (i := 4) (d := 51) ?_
          simp only [sz, ss]
          refine wpAnyH_ready (rs := [5]) (by kernel_rfl) (by simp) ?_
          refine AllReadyH.cons rfl (fun K hK => ?_) AllReadyH.nil
          go_simp
          refine (hIn _).mono ?_
          rintro e w1 ⟨rfl, rfl⟩
          dsimp only
          refine hK.out _ _ (by assumption) (fun hHeld => ?_)
          clear hK K
          refine tq (i := 6) (d := 53) ?_
          simp only [sz, ss]
          refine tq (i := 7) (d := 54) ?_
          simp only [sz, ss]
          refine tq (i := 8) (d := 55) ?_
          simp only [sz, ss]
          refine tq (i := 9) (d := 56) ?_
          simp only [sz, ss]
          refine tq (i := 10) (d := 57) ?_
          simp only [sz, ss]
          refine tn (i := 11) (d := 58) ?_
          simp only [sz, ss]
          refine tn (i := 12) (d := 59) ?_
          simp only [sz, ss]
          refine tn (i := 13) (d := 60) ?_
          simp only [sz, ss]
          refine tn (i := 14) (d := 61) ?_
          simp only [sz, ss]
          refine tn (i := 15) (d := 62) ?_
          simp only [sz, ss]
          refine tn (i := 16) (d := 63) ?_
          simp only [sz, ss]
          refine tn (i := 17) (d := 64) ?_
          simp only [sz, ss]
          refine tn (i := 18) (d := 65) ?_
          simp only [sz, ss]
          refine tn (i := 19) (d := 66) ?_
          simp only [sz, ss]
          refine tn (i := 20) (d := 67) ?_
          simp only [sz, ss]
          refine tq (i := 21) (d := 68) ?_
          simp only [sz, ss]
          refine tq (i := 22) (d := 69) ?_
          simp only [sz, ss]
          refine tq (i := 23) (d := 70) ?_
          simp only [sz, ss]
          refine tq (i := 24) (d := 71) ?_
          simp only [sz, ss]
          refine tq (i := 25) (d := 72) ?_
          simp only [sz, ss]
          refine tq (i := 26) (d := 73) ?_
          simp only [sz, ss]
          refine wpAnyH_ready (rs := [27]) (by kernel_rfl) (by simp) ?_
          refine AllReadyH.cons rfl (fun K hK => ?_) AllReadyH.nil
          go_simp
          refine (l2Obj_any (by exact hhX.out)).mono ?_
          rintro e w2 ⟨rfl, hb1⟩
          have hb4 := hb1
          rw [hidx]
          have hbw2 : Below w.heap.size w w2 := hbwX.drew.trans (hb1.mono hbwX.size)
          have hh2 : Hid (HeapAt w2 lo _ h) := HeapAt_stays _ _ _ lo _ _ (.of_below hbw2) hh'.out
          have hx2n : Hid (NodeAt w2 lo _ X) := NodeAt_stays _ _ _ lo _ _ (.of_below hbw2) hrX.out
          dsimp only
          refine hK.out _ _ ⟨cell_on hb1 hHeld.1, cell_on hb1 hHeld.2.1, cell_on hb1 hHeld.2.2.1, cell_on hb1 hHeld.2.2.2.1, cell_on hb1 hHeld.2.2.2.2.1, cell_on hb1 hHeld.2.2.2.2.2.1, cell_on hb1 hHeld.2.2.2.2.2.2.1, cell_on hb1 hHeld.2.2.2.2.2.2.2.1, cell_on hb1 hHeld.2.2.2.2.2.2.2.2.1, cell_on hb1 hHeld.2.2.2.2.2.2.2.2.2.1, cell_on hb1 hHeld.2.2.2.2.2.2.2.2.2.2⟩ (fun hHeld => ?_)
          clear hK K
          refine tq (i := 28) (d := 75) ?_
          simp only [sz, ss]
          refine tq (i := 29) (d := 76) ?_
          simp only [sz, ss]
          refine tq (i := 30) (d := 77) ?_
          simp only [sz, ss]
          refine tq (i := 31) (d := 78) ?_
          simp only [sz, ss]
          refine tq (i := 32) (d := 79) ?_
          simp only [sz, ss]
          refine wpAnyH_ready (rs := [33]) (by kernel_rfl) (by simp) ?_
          refine AllReadyH.cons rfl (fun K hK => ?_) AllReadyH.nil
          go_simp
          refine (l2NodeOk_any (by exact hh2.out) (by exact hx2n.out)).mono ?_
          rintro e w3 ⟨rfl, hb1⟩
          have hb5 := hb1
          rw [Hnode.out]
          dsimp only
          refine hK.out _ _ ⟨cell_on hb1 hHeld.1, cell_on hb1 hHeld.2.1, cell_on hb1 hHeld.2.2.1, cell_on hb1 hHeld.2.2.2.1, cell_on hb1 hHeld.2.2.2.2.1, cell_on hb1 hHeld.2.2.2.2.2.1, cell_on hb1 hHeld.2.2.2.2.2.2.1, cell_on hb1 hHeld.2.2.2.2.2.2.2.1, cell_on hb1 hHeld.2.2.2.2.2.2.2.2.1, cell_on hb1 hHeld.2.2.2.2.2.2.2.2.2.1, cell_on hb1 hHeld.2.2.2.2.2.2.2.2.2.2⟩ (fun hHeld => ?_)
          clear hK K
          refine tq (i := 34) (d := 81) ?_
          simp only [sz, ss]
          refine tq (i := 35) (d := 82) ?_
          simp only [sz, ss]
          refine wpAnyH_done (by kernel_rfl) ?_ _
          have hb6 : Below (w.heap.size + 1) _ w2 := hbX.drew.trans (hb4.mono hzX)
          have hb7 : Below (w.heap.size + 1) _ w3 := hb6.trans (hb5.mono (by have h1 := hb4.size; have h2 : (wr.alloc (.cells (List.toArray [.int .i64 X.vId, .string X.vTag, .int .i64 X.vParent, .slice p3 X.vKids.length c3, .int .i64 X.vWrapper, .slice p5 X.vListeners.length c5]) 69)).drew.heap.size = (wr.alloc (.cells (List.toArray [.int .i64 X.vId, .string X.vTag, .int .i64 X.vParent, .slice p3 X.vKids.length c3, .int .i64 X.vWrapper, .slice p5 X.vListeners.length c5]) 69)).heap.size := rfl; omega))
          go_wp2_with fail
          go_ret
          exact ⟨ret_bool HF.out.symm, hb0.trans (hb7.mono (by omega))⟩
        · have HF : Hid (nodesF h none h.vNodes = nodesF h (prevI NodeD.vId h.vNodes (0 + 1)) (h.vNodes.drop (0 + 1))) := by show _ = _; rw [hrem.out, Hstep.out, Hin2.out, Hrise.out, Hat.out, hnode]; simp
          have Hnode : Hid _ := hnode
          clear hnode
          go_wp2_with fail
          refine wp_region_held_drew (S := fun w' => w'.cell? ⟨wr.heap.size, 0, none⟩ = some (.int .i64 X.vId) ∧ w'.cell? ⟨wr.heap.size, 1, none⟩ = some (.string X.vTag) ∧ w'.cell? ⟨wr.heap.size, 2, none⟩ = some (.int .i64 X.vParent) ∧ w'.cell? ⟨wr.heap.size, 3, none⟩ = some (.slice p3 X.vKids.length c3) ∧ w'.cell? ⟨wr.heap.size, 4, none⟩ = some (.int .i64 X.vWrapper) ∧ w'.cell? ⟨wr.heap.size, 5, none⟩ = some (.slice p5 X.vListeners.length c5) ∧ w'.cell? ⟨w.heap.size, 0, none⟩ = some (.int .i64 h.vNext) ∧ w'.cell? ⟨w.heap.size, 1, none⟩ = some (.int .i64 h.vDoc) ∧ w'.cell? ⟨w.heap.size, 2, none⟩ = some (.slice (some ⟨bn, offn, none⟩) h.vNodes.length cap2) ∧ w'.cell? ⟨w.heap.size, 3, none⟩ = some (.slice a3 h.vObjs.length cap3) ∧ w'.cell? ⟨w.heap.size, 4, none⟩ = some (.slice a4 h.vGlobals.length cap4)) (by kernel_rfl) (by refine ⟨?_, ?_, ?_, ?_, ?_, ?_, ?_, ?_, ?_, ?_, ?_⟩ <;> assumption) (fun hHeld => ?_)
          refine tq (i := 0) (d := 47) ?_
          simp only [sz, ss]
          refine tq (i := 1) (d := 48) ?_
          simp only [sz, ss]
          refine tq (i := 2) (d := 49) ?_
          simp only [sz, ss]
          refine tq (i := 3) (d := 50) ?_
          simp only [sz, ss]
          refine tq (i := 4) (d := 51) ?_
          simp only [sz, ss]
          refine wpAnyH_ready (rs := [5]) (by kernel_rfl) (by simp) ?_
          refine AllReadyH.cons rfl (fun K hK => ?_) AllReadyH.nil
          go_simp
          refine (hIn _).mono ?_
          rintro e w1 ⟨rfl, rfl⟩
          dsimp only
          refine hK.out _ _ (by assumption) (fun hHeld => ?_)
          clear hK K
          refine tq (i := 6) (d := 53) ?_
          simp only [sz, ss]
          refine tq (i := 7) (d := 54) ?_
          simp only [sz, ss]
          refine tq (i := 8) (d := 55) ?_
          simp only [sz, ss]
          refine tq (i := 9) (d := 56) ?_
          simp only [sz, ss]
          refine tq (i := 10) (d := 57) ?_
          simp only [sz, ss]
          refine tn (i := 11) (d := 58) ?_
          simp only [sz, ss]
          refine tn (i := 12) (d := 59) ?_
          simp only [sz, ss]
          refine tn (i := 13) (d := 60) ?_
          simp only [sz, ss]
          refine tn (i := 14) (d := 61) ?_
          simp only [sz, ss]
          refine tn (i := 15) (d := 62) ?_
          simp only [sz, ss]
          refine tn (i := 16) (d := 63) ?_
          simp only [sz, ss]
          refine tn (i := 17) (d := 64) ?_
          simp only [sz, ss]
          refine tn (i := 18) (d := 65) ?_
          simp only [sz, ss]
          refine tn (i := 19) (d := 66) ?_
          simp only [sz, ss]
          refine tn (i := 20) (d := 67) ?_
          simp only [sz, ss]
          refine tq (i := 21) (d := 68) ?_
          simp only [sz, ss]
          refine tq (i := 22) (d := 69) ?_
          simp only [sz, ss]
          refine tq (i := 23) (d := 70) ?_
          simp only [sz, ss]
          refine tq (i := 24) (d := 71) ?_
          simp only [sz, ss]
          refine tq (i := 25) (d := 72) ?_
          simp only [sz, ss]
          refine tq (i := 26) (d := 73) ?_
          simp only [sz, ss]
          refine wpAnyH_ready (rs := [27]) (by kernel_rfl) (by simp) ?_
          refine AllReadyH.cons rfl (fun K hK => ?_) AllReadyH.nil
          go_simp
          refine (l2Obj_any (by exact hhX.out)).mono ?_
          rintro e w2 ⟨rfl, hb1⟩
          have hb4 := hb1
          rw [hidx]
          have hbw2 : Below w.heap.size w w2 := hbwX.drew.trans (hb1.mono hbwX.size)
          have hh2 : Hid (HeapAt w2 lo _ h) := HeapAt_stays _ _ _ lo _ _ (.of_below hbw2) hh'.out
          have hx2n : Hid (NodeAt w2 lo _ X) := NodeAt_stays _ _ _ lo _ _ (.of_below hbw2) hrX.out
          dsimp only
          refine hK.out _ _ ⟨cell_on hb1 hHeld.1, cell_on hb1 hHeld.2.1, cell_on hb1 hHeld.2.2.1, cell_on hb1 hHeld.2.2.2.1, cell_on hb1 hHeld.2.2.2.2.1, cell_on hb1 hHeld.2.2.2.2.2.1, cell_on hb1 hHeld.2.2.2.2.2.2.1, cell_on hb1 hHeld.2.2.2.2.2.2.2.1, cell_on hb1 hHeld.2.2.2.2.2.2.2.2.1, cell_on hb1 hHeld.2.2.2.2.2.2.2.2.2.1, cell_on hb1 hHeld.2.2.2.2.2.2.2.2.2.2⟩ (fun hHeld => ?_)
          clear hK K
          refine tq (i := 28) (d := 75) ?_
          simp only [sz, ss]
          refine tq (i := 29) (d := 76) ?_
          simp only [sz, ss]
          refine tq (i := 30) (d := 77) ?_
          simp only [sz, ss]
          refine tq (i := 31) (d := 78) ?_
          simp only [sz, ss]
          refine tq (i := 32) (d := 79) ?_
          simp only [sz, ss]
          refine wpAnyH_ready (rs := [33]) (by kernel_rfl) (by simp) ?_
          refine AllReadyH.cons rfl (fun K hK => ?_) AllReadyH.nil
          go_simp
          refine (l2NodeOk_any (by exact hh2.out) (by exact hx2n.out)).mono ?_
          rintro e w3 ⟨rfl, hb1⟩
          have hb5 := hb1
          rw [Hnode.out]
          dsimp only
          refine hK.out _ _ ⟨cell_on hb1 hHeld.1, cell_on hb1 hHeld.2.1, cell_on hb1 hHeld.2.2.1, cell_on hb1 hHeld.2.2.2.1, cell_on hb1 hHeld.2.2.2.2.1, cell_on hb1 hHeld.2.2.2.2.2.1, cell_on hb1 hHeld.2.2.2.2.2.2.1, cell_on hb1 hHeld.2.2.2.2.2.2.2.1, cell_on hb1 hHeld.2.2.2.2.2.2.2.2.1, cell_on hb1 hHeld.2.2.2.2.2.2.2.2.2.1, cell_on hb1 hHeld.2.2.2.2.2.2.2.2.2.2⟩ (fun hHeld => ?_)
          clear hK K
          refine tq (i := 34) (d := 81) ?_
          simp only [sz, ss]
          refine tq (i := 35) (d := 82) ?_
          simp only [sz, ss]
          refine wpAnyH_done (by kernel_rfl) ?_ _
          have hb6 : Below (w.heap.size + 1) _ w2 := hbX.drew.trans (hb4.mono hzX)
          have hb7 : Below (w.heap.size + 1) _ w3 := hb6.trans (hb5.mono (by have h1 := hb4.size; have h2 : (wr.alloc (.cells (List.toArray [.int .i64 X.vId, .string X.vTag, .int .i64 X.vParent, .slice p3 X.vKids.length c3, .int .i64 X.vWrapper, .slice p5 X.vListeners.length c5]) 69)).drew.heap.size = (wr.alloc (.cells (List.toArray [.int .i64 X.vId, .string X.vTag, .int .i64 X.vParent, .slice p3 X.vKids.length c3, .int .i64 X.vWrapper, .slice p5 X.vListeners.length c5]) 69)).heap.size := rfl; omega))
          go_wp2_with fail
          go_roundw
          case rel => exact ⟨0 + 1, by omega, by go_num, hb7, HF⟩
          case measure => simp [intOf]; omega
      | succ i =>
        obtain ⟨csy, hcly, liey, hry⟩ := hcn i (by omega)
        have liey1 := Lie.keep (lo := lo) (lo' := lo) liey (.of_below hbwX) hlon hbwn
        have hprev : prevI NodeD.vId h.vNodes (i + 1) = some h.vNodes[i].vId := prevI_succ (by omega)
        generalize hY0 : h.vNodes[i] = Y at hry hprev
        clear hY0
        obtain ⟨_, _, rfl, _⟩ := hry
        have y0 := lie_at liey1 0 rfl
        simp only [Nat.add_zero] at y0
        have Hprev : Hid _ := hprev
        have hi0 : (0 : Int) ≤ (i : Int) := by omega
        have hi1 : (i : Int) < (h.vNodes.length : Int) := by omega
        have hi2 : (0 : Int) ≤ (i : Int) + 1 := by omega
        have hi3 : (i : Int) + 1 < (h.vNodes.length : Int) := by omega
        have hi4 : (0 : Int) < (i : Int) + 1 := by omega
        have hwi : IntKind.i64.wrap (i : Int) = (i : Int) := by rw [IntKind.wrap_i64]; omega
        clear hcn lien liey liey1 hcly hprev
        cases hin : inB X.vId 1 (h.vNext - 1)
        · have HF : Hid (specB h = false) := by show _ = _; rw [specB, hrem.out, Hstep.out]; simp [hin]
          have hIn : ∀ w, Calls Try.prog 11 #[.int .i64 X.vId, .int .i64 1, .int .i64 (h.vNext - 1)] w fun e w' => e = .returned (.bool false) ∧ w' = w := fun w => by have := l1In_any X.vId 1 (h.vNext - 1) w; rw [hin] at this; exact this
          clear hin
          go_wp2_with fail
          refine wp_region_held_drew (S := fun w' => w'.cell? ⟨wr.heap.size, 0, none⟩ = some (.int .i64 X.vId) ∧ w'.cell? ⟨wr.heap.size, 1, none⟩ = some (.string X.vTag) ∧ w'.cell? ⟨wr.heap.size, 2, none⟩ = some (.int .i64 X.vParent) ∧ w'.cell? ⟨wr.heap.size, 3, none⟩ = some (.slice p3 X.vKids.length c3) ∧ w'.cell? ⟨wr.heap.size, 4, none⟩ = some (.int .i64 X.vWrapper) ∧ w'.cell? ⟨wr.heap.size, 5, none⟩ = some (.slice p5 X.vListeners.length c5) ∧ w'.cell? ⟨w.heap.size, 0, none⟩ = some (.int .i64 h.vNext) ∧ w'.cell? ⟨w.heap.size, 1, none⟩ = some (.int .i64 h.vDoc) ∧ w'.cell? ⟨w.heap.size, 2, none⟩ = some (.slice (some ⟨bn, offn, none⟩) h.vNodes.length cap2) ∧ w'.cell? ⟨w.heap.size, 3, none⟩ = some (.slice a3 h.vObjs.length cap3) ∧ w'.cell? ⟨w.heap.size, 4, none⟩ = some (.slice a4 h.vGlobals.length cap4) ∧ w'.cell? ⟨bn, offn + i * 6, none⟩ = some (.int .i64 Y.vId)) (by kernel_rfl) (by refine ⟨?_, ?_, ?_, ?_, ?_, ?_, ?_, ?_, ?_, ?_, ?_, ?_⟩ <;> assumption) (fun hHeld => ?_)
          refine tq (i := 0) (d := 47) ?_
          simp only [sz, ss]
          refine tq (i := 1) (d := 48) ?_
          simp only [sz, ss]
          refine tq (i := 2) (d := 49) ?_
          simp only [sz, ss]
          refine tq (i := 3) (d := 50) ?_
          simp only [sz, ss]
          refine tq (i := 4) (d := 51) ?_
          simp only [sz, ss]
          refine wpAnyH_ready (rs := [5]) (by kernel_rfl) (by simp) ?_
          refine AllReadyH.cons rfl (fun K hK => ?_) AllReadyH.nil
          go_simp
          refine (hIn _).mono ?_
          rintro e w1 ⟨rfl, rfl⟩
          dsimp only
          refine hK.out _ _ (by assumption) (fun hHeld => ?_)
          clear hK K
          refine tq (i := 6) (d := 53) ?_
          simp only [sz, ss]
          refine tq (i := 7) (d := 54) ?_
          simp only [sz, ss]
          refine tn (i := 8) (d := 55) ?_
          simp only [sz, ss]
          refine tn (i := 9) (d := 56) ?_
          simp only [sz, ss]
          refine tn (i := 10) (d := 57) ?_
          simp only [sz, ss]
          refine tn (i := 11) (d := 58) ?_
          simp only [sz, ss]
          refine tn (i := 12) (d := 59) ?_
          simp only [sz, ss]
          refine tn (i := 13) (d := 60) ?_
          simp only [sz, ss]
          refine tn (i := 14) (d := 61) ?_
          simp only [sz, ss]
          refine tn (i := 15) (d := 62) ?_
          simp only [sz, ss]
          refine tn (i := 16) (d := 63) ?_
          simp only [sz, ss]
          refine tn (i := 17) (d := 64) ?_
          simp only [sz, ss]
          refine tn (i := 18) (d := 65) ?_
          simp only [sz, ss]
          refine tn (i := 19) (d := 66) ?_
          simp only [sz, ss]
          refine tn (i := 20) (d := 67) ?_
          simp only [sz, ss]
          refine tn (i := 21) (d := 68) ?_
          simp only [sz, ss]
          refine tq (i := 22) (d := 69) ?_
          simp only [sz, ss]
          refine tq (i := 23) (d := 70) ?_
          simp only [sz, ss]
          refine tn (i := 24) (d := 71) ?_
          simp only [sz, ss]
          refine tn (i := 25) (d := 72) ?_
          simp only [sz, ss]
          refine tn (i := 26) (d := 73) ?_
          simp only [sz, ss]
          refine tn (i := 27) (d := 74) ?_
          simp only [sz, ss]
          refine tn (i := 28) (d := 75) ?_
          simp only [sz, ss]
          refine tq (i := 29) (d := 76) ?_
          simp only [sz, ss]
          refine tq (i := 30) (d := 77) ?_
          simp only [sz, ss]
          refine tn (i := 31) (d := 78) ?_
          simp only [sz, ss]
          refine tn (i := 32) (d := 79) ?_
          simp only [sz, ss]
          refine tn (i := 33) (d := 80) ?_
          simp only [sz, ss]
          refine tn (i := 34) (d := 81) ?_
          simp only [sz, ss]
          refine tq (i := 35) (d := 82) ?_
          simp only [sz, ss]
          refine wpAnyH_done (by kernel_rfl) ?_ _
          go_wp2_with fail
          go_ret
          exact ⟨ret_bool HF.out.symm, hbwX.drew⟩
        have hIn : ∀ w, Calls Try.prog 11 #[.int .i64 X.vId, .int .i64 1, .int .i64 (h.vNext - 1)] w fun e w' => e = .returned (.bool true) ∧ w' = w := fun w => by have := l1In_any X.vId 1 (h.vNext - 1) w; rw [hin] at this; exact this
        have Hin2 : Hid _ := hin
        clear hin
        by_cases hrise : Y.vId < X.vId
        rotate_left
        · have HF : Hid (specB h = false) := by show _ = _; rw [specB, hrem.out, Hstep.out, Hprev.out]; simp [riseB, hrise]
          have hr2 : X.vId ≤ Y.vId := by omega
          clear hrise
          go_wp2_with fail
          refine wp_region_held_drew (S := fun w' => w'.cell? ⟨wr.heap.size, 0, none⟩ = some (.int .i64 X.vId) ∧ w'.cell? ⟨wr.heap.size, 1, none⟩ = some (.string X.vTag) ∧ w'.cell? ⟨wr.heap.size, 2, none⟩ = some (.int .i64 X.vParent) ∧ w'.cell? ⟨wr.heap.size, 3, none⟩ = some (.slice p3 X.vKids.length c3) ∧ w'.cell? ⟨wr.heap.size, 4, none⟩ = some (.int .i64 X.vWrapper) ∧ w'.cell? ⟨wr.heap.size, 5, none⟩ = some (.slice p5 X.vListeners.length c5) ∧ w'.cell? ⟨w.heap.size, 0, none⟩ = some (.int .i64 h.vNext) ∧ w'.cell? ⟨w.heap.size, 1, none⟩ = some (.int .i64 h.vDoc) ∧ w'.cell? ⟨w.heap.size, 2, none⟩ = some (.slice (some ⟨bn, offn, none⟩) h.vNodes.length cap2) ∧ w'.cell? ⟨w.heap.size, 3, none⟩ = some (.slice a3 h.vObjs.length cap3) ∧ w'.cell? ⟨w.heap.size, 4, none⟩ = some (.slice a4 h.vGlobals.length cap4) ∧ w'.cell? ⟨bn, offn + i * 6, none⟩ = some (.int .i64 Y.vId)) (by kernel_rfl) (by refine ⟨?_, ?_, ?_, ?_, ?_, ?_, ?_, ?_, ?_, ?_, ?_, ?_⟩ <;> assumption) (fun hHeld => ?_)
          refine tq (i := 0) (d := 47) ?_
          simp only [sz, ss]
          refine tq (i := 1) (d := 48) ?_
          simp only [sz, ss]
          refine tq (i := 2) (d := 49) ?_
          simp only [sz, ss]
          refine tq (i := 3) (d := 50) ?_
          simp only [sz, ss]
          refine tq (i := 4) (d := 51) ?_
          simp only [sz, ss]
          refine wpAnyH_ready (rs := [5]) (by kernel_rfl) (by simp) ?_
          refine AllReadyH.cons rfl (fun K hK => ?_) AllReadyH.nil
          go_simp
          refine (hIn _).mono ?_
          rintro e w1 ⟨rfl, rfl⟩
          dsimp only
          refine hK.out _ _ (by assumption) (fun hHeld => ?_)
          clear hK K
          refine tq (i := 6) (d := 53) ?_
          simp only [sz, ss]
          refine tq (i := 7) (d := 54) ?_
          simp only [sz, ss]
          refine tq (i := 8) (d := 55) ?_
          simp only [sz, ss]
          refine tq (i := 9) (d := 56) ?_
          simp only [sz, ss]
          refine tq (i := 10) (d := 57) ?_
          simp only [sz, ss]
          refine tq (i := 11) (d := 58) ?_
          simp only [sz, ss]
          refine tq (i := 12) (d := 59) ?_
          simp only [sz, ss]
          refine tq (i := 13) (d := 60) ?_
          simp only [sz, ss]
          refine tq (i := 14) (d := 61) ?_
          simp only [sz, ss]
          refine tq (i := 15) (d := 62) ?_
          simp only [sz, ss]
          refine tq (i := 16) (d := 63) ?_
          simp only [sz, ss]
          refine tq (i := 17) (d := 64) ?_
          simp only [sz, ss]
          refine tq (i := 18) (d := 65) ?_
          simp only [sz, ss]
          refine tq (i := 19) (d := 66) ?_
          simp only [sz, ss]
          refine tq (i := 20) (d := 67) ?_
          simp only [sz, ss]
          refine tq (i := 21) (d := 68) ?_
          simp only [sz, ss]
          refine tq (i := 22) (d := 69) ?_
          simp only [sz, ss]
          refine tq (i := 23) (d := 70) ?_
          simp only [sz, ss]
          refine tn (i := 24) (d := 71) ?_
          simp only [sz, ss]
          refine tn (i := 25) (d := 72) ?_
          simp only [sz, ss]
          refine tn (i := 26) (d := 73) ?_
          simp only [sz, ss]
          refine tn (i := 27) (d := 74) ?_
          simp only [sz, ss]
          refine tn (i := 28) (d := 75) ?_
          simp only [sz, ss]
          refine tq (i := 29) (d := 76) ?_
          simp only [sz, ss]
          refine tq (i := 30) (d := 77) ?_
          simp only [sz, ss]
          refine tn (i := 31) (d := 78) ?_
          simp only [sz, ss]
          refine tn (i := 32) (d := 79) ?_
          simp only [sz, ss]
          refine tn (i := 33) (d := 80) ?_
          simp only [sz, ss]
          refine tn (i := 34) (d := 81) ?_
          simp only [sz, ss]
          refine tq (i := 35) (d := 82) ?_
          simp only [sz, ss]
          refine wpAnyH_done (by kernel_rfl) ?_ _
          go_wp2_with fail
          go_ret
          exact ⟨ret_bool HF.out.symm, hbwX.drew⟩
        have hr2 : decide (X.vId ≤ Y.vId) = false := by simp; omega
        have Hrise : Hid (riseB (prevI NodeD.vId h.vNodes (i + 1)) X.vId = true) := by show _ = _; rw [Hprev.out]; simp [riseB, hrise]
        clear hrise
        rcases idxO_is h X.vId with ⟨hidx, hat⟩ | ⟨i', hi', hidx, _, hat⟩
        rotate_left
        · have HF : Hid (specB h = false) := by show _ = _; rw [specB, hrem.out, Hstep.out]; simp [hat]
          have hin0 : (0 : Int) ≤ (i' : Int) := by omega
          clear hat
          go_wp2_with fail
          refine wp_region_held_drew (S := fun w' => w'.cell? ⟨wr.heap.size, 0, none⟩ = some (.int .i64 X.vId) ∧ w'.cell? ⟨wr.heap.size, 1, none⟩ = some (.string X.vTag) ∧ w'.cell? ⟨wr.heap.size, 2, none⟩ = some (.int .i64 X.vParent) ∧ w'.cell? ⟨wr.heap.size, 3, none⟩ = some (.slice p3 X.vKids.length c3) ∧ w'.cell? ⟨wr.heap.size, 4, none⟩ = some (.int .i64 X.vWrapper) ∧ w'.cell? ⟨wr.heap.size, 5, none⟩ = some (.slice p5 X.vListeners.length c5) ∧ w'.cell? ⟨w.heap.size, 0, none⟩ = some (.int .i64 h.vNext) ∧ w'.cell? ⟨w.heap.size, 1, none⟩ = some (.int .i64 h.vDoc) ∧ w'.cell? ⟨w.heap.size, 2, none⟩ = some (.slice (some ⟨bn, offn, none⟩) h.vNodes.length cap2) ∧ w'.cell? ⟨w.heap.size, 3, none⟩ = some (.slice a3 h.vObjs.length cap3) ∧ w'.cell? ⟨w.heap.size, 4, none⟩ = some (.slice a4 h.vGlobals.length cap4) ∧ w'.cell? ⟨bn, offn + i * 6, none⟩ = some (.int .i64 Y.vId)) (by kernel_rfl) (by refine ⟨?_, ?_, ?_, ?_, ?_, ?_, ?_, ?_, ?_, ?_, ?_, ?_⟩ <;> assumption) (fun hHeld => ?_)
          refine tq (i := 0) (d := 47) ?_
          simp only [sz, ss]
          refine tq (i := 1) (d := 48) ?_
          simp only [sz, ss]
          refine tq (i := 2) (d := 49) ?_
          simp only [sz, ss]
          refine tq (i := 3) (d := 50) ?_
          simp only [sz, ss]
          refine tq (i := 4) (d := 51) ?_
          simp only [sz, ss]
          refine wpAnyH_ready (rs := [5]) (by kernel_rfl) (by simp) ?_
          refine AllReadyH.cons rfl (fun K hK => ?_) AllReadyH.nil
          go_simp
          refine (hIn _).mono ?_
          rintro e w1 ⟨rfl, rfl⟩
          dsimp only
          refine hK.out _ _ (by assumption) (fun hHeld => ?_)
          clear hK K
          refine tq (i := 6) (d := 53) ?_
          simp only [sz, ss]
          refine tq (i := 7) (d := 54) ?_
          simp only [sz, ss]
          refine tq (i := 8) (d := 55) ?_
          simp only [sz, ss]
          refine tq (i := 9) (d := 56) ?_
          simp only [sz, ss]
          refine tq (i := 10) (d := 57) ?_
          simp only [sz, ss]
          refine tq (i := 11) (d := 58) ?_
          simp only [sz, ss]
          refine tq (i := 12) (d := 59) ?_
          simp only [sz, ss]
          refine tq (i := 13) (d := 60) ?_
          simp only [sz, ss]
          refine tq (i := 14) (d := 61) ?_
          simp only [sz, ss]
          refine tq (i := 15) (d := 62) ?_
          simp only [sz, ss]
          refine tq (i := 16) (d := 63) ?_
          simp only [sz, ss]
          refine tq (i := 17) (d := 64) ?_
          simp only [sz, ss]
          refine tq (i := 18) (d := 65) ?_
          simp only [sz, ss]
          refine tq (i := 19) (d := 66) ?_
          simp only [sz, ss]
          refine tq (i := 20) (d := 67) ?_
          simp only [sz, ss]
          refine tq (i := 21) (d := 68) ?_
          simp only [sz, ss]
          refine tq (i := 22) (d := 69) ?_
          simp only [sz, ss]
          refine tq (i := 23) (d := 70) ?_
          simp only [sz, ss]
          refine tq (i := 24) (d := 71) ?_
          simp only [sz, ss]
          refine tq (i := 25) (d := 72) ?_
          simp only [sz, ss]
          refine tq (i := 26) (d := 73) ?_
          simp only [sz, ss]
          refine wpAnyH_ready (rs := [27]) (by kernel_rfl) (by simp) ?_
          refine AllReadyH.cons rfl (fun K hK => ?_) AllReadyH.nil
          go_simp
          refine (l2Obj_any (by exact hhX.out)).mono ?_
          rintro e w2 ⟨rfl, hb1⟩
          have hb4 := hb1
          rw [hidx]
          dsimp only
          refine hK.out _ _ ⟨cell_on hb1 hHeld.1, cell_on hb1 hHeld.2.1, cell_on hb1 hHeld.2.2.1, cell_on hb1 hHeld.2.2.2.1, cell_on hb1 hHeld.2.2.2.2.1, cell_on hb1 hHeld.2.2.2.2.2.1, cell_on hb1 hHeld.2.2.2.2.2.2.1, cell_on hb1 hHeld.2.2.2.2.2.2.2.1, cell_on hb1 hHeld.2.2.2.2.2.2.2.2.1, cell_on hb1 hHeld.2.2.2.2.2.2.2.2.2.1, cell_on hb1 hHeld.2.2.2.2.2.2.2.2.2.2.1, cell_on hb1 hHeld.2.2.2.2.2.2.2.2.2.2.2⟩ (fun hHeld => ?_)
          clear hK K
          refine tq (i := 28) (d := 75) ?_
          simp only [sz, ss]
          refine tq (i := 29) (d := 76) ?_
          simp only [sz, ss]
          refine tq (i := 30) (d := 77) ?_
          simp only [sz, ss]
          refine tn (i := 31) (d := 78) ?_
          simp only [sz, ss]
          refine tn (i := 32) (d := 79) ?_
          simp only [sz, ss]
          refine tn (i := 33) (d := 80) ?_
          simp only [sz, ss]
          refine tn (i := 34) (d := 81) ?_
          simp only [sz, ss]
          refine tq (i := 35) (d := 82) ?_
          simp only [sz, ss]
          refine wpAnyH_done (by kernel_rfl) ?_ _
          go_wp2_with fail
          go_ret
          exact ⟨ret_bool HF.out.symm, hb0.trans ((hbX.drew.trans (hb4.mono hzX)).mono (by omega))⟩
        have Hat : Hid _ := hat
        clear hat
        cases hnode : nodeB h X
        · have HF : Hid (specB h = false) := by show _ = _; rw [specB, hrem.out, Hstep.out]; simp [hnode]
          have Hnode : Hid _ := hnode
          clear hnode
          go_wp2_with fail
          refine wp_region_held_drew (S := fun w' => w'.cell? ⟨wr.heap.size, 0, none⟩ = some (.int .i64 X.vId) ∧ w'.cell? ⟨wr.heap.size, 1, none⟩ = some (.string X.vTag) ∧ w'.cell? ⟨wr.heap.size, 2, none⟩ = some (.int .i64 X.vParent) ∧ w'.cell? ⟨wr.heap.size, 3, none⟩ = some (.slice p3 X.vKids.length c3) ∧ w'.cell? ⟨wr.heap.size, 4, none⟩ = some (.int .i64 X.vWrapper) ∧ w'.cell? ⟨wr.heap.size, 5, none⟩ = some (.slice p5 X.vListeners.length c5) ∧ w'.cell? ⟨w.heap.size, 0, none⟩ = some (.int .i64 h.vNext) ∧ w'.cell? ⟨w.heap.size, 1, none⟩ = some (.int .i64 h.vDoc) ∧ w'.cell? ⟨w.heap.size, 2, none⟩ = some (.slice (some ⟨bn, offn, none⟩) h.vNodes.length cap2) ∧ w'.cell? ⟨w.heap.size, 3, none⟩ = some (.slice a3 h.vObjs.length cap3) ∧ w'.cell? ⟨w.heap.size, 4, none⟩ = some (.slice a4 h.vGlobals.length cap4) ∧ w'.cell? ⟨bn, offn + i * 6, none⟩ = some (.int .i64 Y.vId)) (by kernel_rfl) (by refine ⟨?_, ?_, ?_, ?_, ?_, ?_, ?_, ?_, ?_, ?_, ?_, ?_⟩ <;> assumption) (fun hHeld => ?_)
          refine tq (i := 0) (d := 47) ?_
          simp only [sz, ss]
          refine tq (i := 1) (d := 48) ?_
          simp only [sz, ss]
          refine tq (i := 2) (d := 49) ?_
          simp only [sz, ss]
          refine tq (i := 3) (d := 50) ?_
          simp only [sz, ss]
          refine tq (i := 4) (d := 51) ?_
          simp only [sz, ss]
          refine wpAnyH_ready (rs := [5]) (by kernel_rfl) (by simp) ?_
          refine AllReadyH.cons rfl (fun K hK => ?_) AllReadyH.nil
          go_simp
          refine (hIn _).mono ?_
          rintro e w1 ⟨rfl, rfl⟩
          dsimp only
          refine hK.out _ _ (by assumption) (fun hHeld => ?_)
          clear hK K
          refine tq (i := 6) (d := 53) ?_
          simp only [sz, ss]
          refine tq (i := 7) (d := 54) ?_
          simp only [sz, ss]
          refine tq (i := 8) (d := 55) ?_
          simp only [sz, ss]
          refine tq (i := 9) (d := 56) ?_
          simp only [sz, ss]
          refine tq (i := 10) (d := 57) ?_
          simp only [sz, ss]
          refine tq (i := 11) (d := 58) ?_
          simp only [sz, ss]
          refine tq (i := 12) (d := 59) ?_
          simp only [sz, ss]
          refine tq (i := 13) (d := 60) ?_
          simp only [sz, ss]
          refine tq (i := 14) (d := 61) ?_
          simp only [sz, ss]
          refine tq (i := 15) (d := 62) ?_
          simp only [sz, ss]
          refine tq (i := 16) (d := 63) ?_
          simp only [sz, ss]
          refine tq (i := 17) (d := 64) ?_
          simp only [sz, ss]
          refine tq (i := 18) (d := 65) ?_
          simp only [sz, ss]
          refine tq (i := 19) (d := 66) ?_
          simp only [sz, ss]
          refine tq (i := 20) (d := 67) ?_
          simp only [sz, ss]
          refine tq (i := 21) (d := 68) ?_
          simp only [sz, ss]
          refine tq (i := 22) (d := 69) ?_
          simp only [sz, ss]
          refine tq (i := 23) (d := 70) ?_
          simp only [sz, ss]
          refine tq (i := 24) (d := 71) ?_
          simp only [sz, ss]
          refine tq (i := 25) (d := 72) ?_
          simp only [sz, ss]
          refine tq (i := 26) (d := 73) ?_
          simp only [sz, ss]
          refine wpAnyH_ready (rs := [27]) (by kernel_rfl) (by simp) ?_
          refine AllReadyH.cons rfl (fun K hK => ?_) AllReadyH.nil
          go_simp
          refine (l2Obj_any (by exact hhX.out)).mono ?_
          rintro e w2 ⟨rfl, hb1⟩
          have hb4 := hb1
          rw [hidx]
          have hbw2 : Below w.heap.size w w2 := hbwX.drew.trans (hb1.mono hbwX.size)
          have hh2 : Hid (HeapAt w2 lo _ h) := HeapAt_stays _ _ _ lo _ _ (.of_below hbw2) hh'.out
          have hx2n : Hid (NodeAt w2 lo _ X) := NodeAt_stays _ _ _ lo _ _ (.of_below hbw2) hrX.out
          dsimp only
          refine hK.out _ _ ⟨cell_on hb1 hHeld.1, cell_on hb1 hHeld.2.1, cell_on hb1 hHeld.2.2.1, cell_on hb1 hHeld.2.2.2.1, cell_on hb1 hHeld.2.2.2.2.1, cell_on hb1 hHeld.2.2.2.2.2.1, cell_on hb1 hHeld.2.2.2.2.2.2.1, cell_on hb1 hHeld.2.2.2.2.2.2.2.1, cell_on hb1 hHeld.2.2.2.2.2.2.2.2.1, cell_on hb1 hHeld.2.2.2.2.2.2.2.2.2.1, cell_on hb1 hHeld.2.2.2.2.2.2.2.2.2.2.1, cell_on hb1 hHeld.2.2.2.2.2.2.2.2.2.2.2⟩ (fun hHeld => ?_)
          clear hK K
          refine tq (i := 28) (d := 75) ?_
          simp only [sz, ss]
          refine tq (i := 29) (d := 76) ?_
          simp only [sz, ss]
          refine tq (i := 30) (d := 77) ?_
          simp only [sz, ss]
          refine tq (i := 31) (d := 78) ?_
          simp only [sz, ss]
          refine tq (i := 32) (d := 79) ?_
          simp only [sz, ss]
          refine wpAnyH_ready (rs := [33]) (by kernel_rfl) (by simp) ?_
          refine AllReadyH.cons rfl (fun K hK => ?_) AllReadyH.nil
          go_simp
          refine (l2NodeOk_any (by exact hh2.out) (by exact hx2n.out)).mono ?_
          rintro e w3 ⟨rfl, hb1⟩
          have hb5 := hb1
          rw [Hnode.out]
          dsimp only
          refine hK.out _ _ ⟨cell_on hb1 hHeld.1, cell_on hb1 hHeld.2.1, cell_on hb1 hHeld.2.2.1, cell_on hb1 hHeld.2.2.2.1, cell_on hb1 hHeld.2.2.2.2.1, cell_on hb1 hHeld.2.2.2.2.2.1, cell_on hb1 hHeld.2.2.2.2.2.2.1, cell_on hb1 hHeld.2.2.2.2.2.2.2.1, cell_on hb1 hHeld.2.2.2.2.2.2.2.2.1, cell_on hb1 hHeld.2.2.2.2.2.2.2.2.2.1, cell_on hb1 hHeld.2.2.2.2.2.2.2.2.2.2.1, cell_on hb1 hHeld.2.2.2.2.2.2.2.2.2.2.2⟩ (fun hHeld => ?_)
          clear hK K
          refine tq (i := 34) (d := 81) ?_
          simp only [sz, ss]
          refine tq (i := 35) (d := 82) ?_
          simp only [sz, ss]
          refine wpAnyH_done (by kernel_rfl) ?_ _
          have hb6 : Below (w.heap.size + 1) _ w2 := hbX.drew.trans (hb4.mono hzX)
          have hb7 : Below (w.heap.size + 1) _ w3 := hb6.trans (hb5.mono (by have h1 := hb4.size; have h2 : (wr.alloc (.cells (List.toArray [.int .i64 X.vId, .string X.vTag, .int .i64 X.vParent, .slice p3 X.vKids.length c3, .int .i64 X.vWrapper, .slice p5 X.vListeners.length c5]) 69)).drew.heap.size = (wr.alloc (.cells (List.toArray [.int .i64 X.vId, .string X.vTag, .int .i64 X.vParent, .slice p3 X.vKids.length c3, .int .i64 X.vWrapper, .slice p5 X.vListeners.length c5]) 69)).heap.size := rfl; omega))
          go_wp2_with fail
          go_ret
          exact ⟨ret_bool HF.out.symm, hb0.trans (hb7.mono (by omega))⟩
        · have HF : Hid (nodesF h none h.vNodes = nodesF h (prevI NodeD.vId h.vNodes ((i + 1) + 1)) (h.vNodes.drop ((i + 1) + 1))) := by show _ = _; rw [hrem.out, Hstep.out, Hin2.out, Hrise.out, Hat.out, hnode]; simp
          have Hnode : Hid _ := hnode
          clear hnode
          go_wp2_with fail
          refine wp_region_held_drew (S := fun w' => w'.cell? ⟨wr.heap.size, 0, none⟩ = some (.int .i64 X.vId) ∧ w'.cell? ⟨wr.heap.size, 1, none⟩ = some (.string X.vTag) ∧ w'.cell? ⟨wr.heap.size, 2, none⟩ = some (.int .i64 X.vParent) ∧ w'.cell? ⟨wr.heap.size, 3, none⟩ = some (.slice p3 X.vKids.length c3) ∧ w'.cell? ⟨wr.heap.size, 4, none⟩ = some (.int .i64 X.vWrapper) ∧ w'.cell? ⟨wr.heap.size, 5, none⟩ = some (.slice p5 X.vListeners.length c5) ∧ w'.cell? ⟨w.heap.size, 0, none⟩ = some (.int .i64 h.vNext) ∧ w'.cell? ⟨w.heap.size, 1, none⟩ = some (.int .i64 h.vDoc) ∧ w'.cell? ⟨w.heap.size, 2, none⟩ = some (.slice (some ⟨bn, offn, none⟩) h.vNodes.length cap2) ∧ w'.cell? ⟨w.heap.size, 3, none⟩ = some (.slice a3 h.vObjs.length cap3) ∧ w'.cell? ⟨w.heap.size, 4, none⟩ = some (.slice a4 h.vGlobals.length cap4) ∧ w'.cell? ⟨bn, offn + i * 6, none⟩ = some (.int .i64 Y.vId)) (by kernel_rfl) (by refine ⟨?_, ?_, ?_, ?_, ?_, ?_, ?_, ?_, ?_, ?_, ?_, ?_⟩ <;> assumption) (fun hHeld => ?_)
          refine tq (i := 0) (d := 47) ?_
          simp only [sz, ss]
          refine tq (i := 1) (d := 48) ?_
          simp only [sz, ss]
          refine tq (i := 2) (d := 49) ?_
          simp only [sz, ss]
          refine tq (i := 3) (d := 50) ?_
          simp only [sz, ss]
          refine tq (i := 4) (d := 51) ?_
          simp only [sz, ss]
          refine wpAnyH_ready (rs := [5]) (by kernel_rfl) (by simp) ?_
          refine AllReadyH.cons rfl (fun K hK => ?_) AllReadyH.nil
          go_simp
          refine (hIn _).mono ?_
          rintro e w1 ⟨rfl, rfl⟩
          dsimp only
          refine hK.out _ _ (by assumption) (fun hHeld => ?_)
          clear hK K
          refine tq (i := 6) (d := 53) ?_
          simp only [sz, ss]
          refine tq (i := 7) (d := 54) ?_
          simp only [sz, ss]
          refine tq (i := 8) (d := 55) ?_
          simp only [sz, ss]
          refine tq (i := 9) (d := 56) ?_
          simp only [sz, ss]
          refine tq (i := 10) (d := 57) ?_
          simp only [sz, ss]
          refine tq (i := 11) (d := 58) ?_
          simp only [sz, ss]
          refine tq (i := 12) (d := 59) ?_
          simp only [sz, ss]
          refine tq (i := 13) (d := 60) ?_
          simp only [sz, ss]
          refine tq (i := 14) (d := 61) ?_
          simp only [sz, ss]
          refine tq (i := 15) (d := 62) ?_
          simp only [sz, ss]
          refine tq (i := 16) (d := 63) ?_
          simp only [sz, ss]
          refine tq (i := 17) (d := 64) ?_
          simp only [sz, ss]
          refine tq (i := 18) (d := 65) ?_
          simp only [sz, ss]
          refine tq (i := 19) (d := 66) ?_
          simp only [sz, ss]
          refine tq (i := 20) (d := 67) ?_
          simp only [sz, ss]
          refine tq (i := 21) (d := 68) ?_
          simp only [sz, ss]
          refine tq (i := 22) (d := 69) ?_
          simp only [sz, ss]
          refine tq (i := 23) (d := 70) ?_
          simp only [sz, ss]
          refine tq (i := 24) (d := 71) ?_
          simp only [sz, ss]
          refine tq (i := 25) (d := 72) ?_
          simp only [sz, ss]
          refine tq (i := 26) (d := 73) ?_
          simp only [sz, ss]
          refine wpAnyH_ready (rs := [27]) (by kernel_rfl) (by simp) ?_
          refine AllReadyH.cons rfl (fun K hK => ?_) AllReadyH.nil
          go_simp
          refine (l2Obj_any (by exact hhX.out)).mono ?_
          rintro e w2 ⟨rfl, hb1⟩
          have hb4 := hb1
          rw [hidx]
          have hbw2 : Below w.heap.size w w2 := hbwX.drew.trans (hb1.mono hbwX.size)
          have hh2 : Hid (HeapAt w2 lo _ h) := HeapAt_stays _ _ _ lo _ _ (.of_below hbw2) hh'.out
          have hx2n : Hid (NodeAt w2 lo _ X) := NodeAt_stays _ _ _ lo _ _ (.of_below hbw2) hrX.out
          dsimp only
          refine hK.out _ _ ⟨cell_on hb1 hHeld.1, cell_on hb1 hHeld.2.1, cell_on hb1 hHeld.2.2.1, cell_on hb1 hHeld.2.2.2.1, cell_on hb1 hHeld.2.2.2.2.1, cell_on hb1 hHeld.2.2.2.2.2.1, cell_on hb1 hHeld.2.2.2.2.2.2.1, cell_on hb1 hHeld.2.2.2.2.2.2.2.1, cell_on hb1 hHeld.2.2.2.2.2.2.2.2.1, cell_on hb1 hHeld.2.2.2.2.2.2.2.2.2.1, cell_on hb1 hHeld.2.2.2.2.2.2.2.2.2.2.1, cell_on hb1 hHeld.2.2.2.2.2.2.2.2.2.2.2⟩ (fun hHeld => ?_)
          clear hK K
          refine tq (i := 28) (d := 75) ?_
          simp only [sz, ss]
          refine tq (i := 29) (d := 76) ?_
          simp only [sz, ss]
          refine tq (i := 30) (d := 77) ?_
          simp only [sz, ss]
          refine tq (i := 31) (d := 78) ?_
          simp only [sz, ss]
          refine tq (i := 32) (d := 79) ?_
          simp only [sz, ss]
          refine wpAnyH_ready (rs := [33]) (by kernel_rfl) (by simp) ?_
          refine AllReadyH.cons rfl (fun K hK => ?_) AllReadyH.nil
          go_simp
          refine (l2NodeOk_any (by exact hh2.out) (by exact hx2n.out)).mono ?_
          rintro e w3 ⟨rfl, hb1⟩
          have hb5 := hb1
          rw [Hnode.out]
          dsimp only
          refine hK.out _ _ ⟨cell_on hb1 hHeld.1, cell_on hb1 hHeld.2.1, cell_on hb1 hHeld.2.2.1, cell_on hb1 hHeld.2.2.2.1, cell_on hb1 hHeld.2.2.2.2.1, cell_on hb1 hHeld.2.2.2.2.2.1, cell_on hb1 hHeld.2.2.2.2.2.2.1, cell_on hb1 hHeld.2.2.2.2.2.2.2.1, cell_on hb1 hHeld.2.2.2.2.2.2.2.2.1, cell_on hb1 hHeld.2.2.2.2.2.2.2.2.2.1, cell_on hb1 hHeld.2.2.2.2.2.2.2.2.2.2.1, cell_on hb1 hHeld.2.2.2.2.2.2.2.2.2.2.2⟩ (fun hHeld => ?_)
          clear hK K
          refine tq (i := 34) (d := 81) ?_
          simp only [sz, ss]
          refine tq (i := 35) (d := 82) ?_
          simp only [sz, ss]
          refine wpAnyH_done (by kernel_rfl) ?_ _
          have hb6 : Below (w.heap.size + 1) _ w2 := hbX.drew.trans (hb4.mono hzX)
          have hb7 : Below (w.heap.size + 1) _ w3 := hb6.trans (hb5.mono (by have h1 := hb4.size; have h2 : (wr.alloc (.cells (List.toArray [.int .i64 X.vId, .string X.vTag, .int .i64 X.vParent, .slice p3 X.vKids.length c3, .int .i64 X.vWrapper, .slice p5 X.vListeners.length c5]) 69)).drew.heap.size = (wr.alloc (.cells (List.toArray [.int .i64 X.vId, .string X.vTag, .int .i64 X.vParent, .slice p3 X.vKids.length c3, .int .i64 X.vWrapper, .slice p5 X.vListeners.length c5]) 69)).heap.size := rfl; omega))
          go_wp2_with fail
          go_roundw
          case rel => exact ⟨(i + 1) + 1, by omega, by go_num, hb7, HF⟩
          case measure => simp [intOf]; omega
    have HNs : Hid (nodesF h none h.vNodes = true) := by show _ = _; rw [hrem.out, nodesF_end hlt]
    clear hrem
    have hPT : Hid (ParsThere h) := parsThere_of HNs.out
    go_wp2_with fail
    go_loopw [5, 7] (fun i z wr => ∃ (j : Nat), j ≤ h.vObjs.length ∧ i = .int .i64 j ∧ Below (w.heap.size + 1) (w.alloc (.cells (List.toArray [.int .i64 h.vNext, .int .i64 h.vDoc, .slice a2 h.vNodes.length cap2, .slice a3 h.vObjs.length cap3, .slice a4 h.vGlobals.length cap4]) 43)) wr ∧ Hid (objsF h none h.vObjs = objsF h (prevI ObjD.vId h.vObjs j) (h.vObjs.drop j))) (fun i _ _ => h.vObjs.length - (intOf i).toNat)
    case atStart => exact ⟨0, by omega, rfl, hb, rfl⟩
    clear hb hbw hz hlt
    clear t0 t1 t2 t3 t4
    case round =>
      obtain ⟨j, hj, rfl, hb, hrem⟩ := hrel
      have hbw : Below w.heap.size w wr := hb0.trans (hb.mono (by omega))
      have bH := (bH0.out).below hb (by omega)
      have t0 := bH.cell 0 rfl
      have t1 := bH.cell 1 rfl
      have t2 := bH.cell 2 rfl
      have t3 := bH.cell 3 rfl
      have t4 := bH.cell 4 rfl
      have hz : w.heap.size + 1 ≤ wr.heap.size := by have := bH.lt; omega
      clear bH
      by_cases hlt : j < h.vObjs.length
      · obtain ⟨bn, offn, rfl, hlon, hbwn, hcn⟩ := hx3'.out (by omega)
        obtain ⟨csn, hcln, lien, hrn⟩ := hcn j hlt
        have lien1 := Lie.keep (lo := lo) (lo' := lo) lien (.of_below hbw) hlon hbwn
        have hstep := objsF_step hlt
        generalize hX0 : h.vObjs[j] = X at hrn hstep
        have hX : Hid _ := hX0
        have hrX : Hid (ObjAt w lo csn X) := hrn
        obtain ⟨g2, rfl, v2, _⟩ := hrn
        obtain ⟨p2, c2, rfl⟩ := v2.form
        have v2' : Hid (SeqAt 2 FieldAt w lo _ X.vFields) := v2
        clear v2
        have z0 := lie_at lien1 0 rfl
        have z1 := lie_at lien1 1 rfl
        have z2 := lie_at lien1 2 rfl
        simp only [Nat.add_zero] at z0
        have Hstep : Hid _ := hstep
        clear hstep hX0 lien1 hcln
        have hbx : Below wr.heap.size wr (wr.alloc (.cells (List.toArray [.int .i64 X.vId, .int .i64 X.vNode, .slice p2 X.vFields.length c2]) 73)) := (Below.refl _ _).alloc (Nat.le_refl _) _
        have bX : Box (wr.alloc (.cells (List.toArray [.int .i64 X.vId, .int .i64 X.vNode, .slice p2 X.vFields.length c2]) 73)) wr.heap.size [.int .i64 X.vId, .int .i64 X.vNode, .slice p2 X.vFields.length c2] 73 := Box.new wr _ _
        have x0 := bX.cell 0 rfl
        have x1 := bX.cell 1 rfl
        have x2 := bX.cell 2 rfl
        clear bX
        have s0 := cell_on hbx t0
        have s1 := cell_on hbx t1
        have s2 := cell_on hbx t2
        have s3 := cell_on hbx t3
        have s4 := cell_on hbx t4
        have hbX : Below (w.heap.size + 1) _ (wr.alloc (.cells (List.toArray [.int .i64 X.vId, .int .i64 X.vNode, .slice p2 X.vFields.length c2]) 73)) := hb.trans (hbx.mono hz)
        have hbwX : Below w.heap.size w (wr.alloc (.cells (List.toArray [.int .i64 X.vId, .int .i64 X.vNode, .slice p2 X.vFields.length c2]) 73)) := hbw.trans (hbx.mono hbw.size)
        have hzX : w.heap.size + 1 ≤ (wr.alloc (.cells (List.toArray [.int .i64 X.vId, .int .i64 X.vNode, .slice p2 X.vFields.length c2]) 73)).heap.size := by have := hbx.size; omega
        have hhX : Hid (HeapAt (wr.alloc (.cells (List.toArray [.int .i64 X.vId, .int .i64 X.vNode, .slice p2 X.vFields.length c2]) 73)).drew lo _ h) := HeapAt_stays _ _ _ lo _ _ (.of_below hbwX.drew) hh'.out
        cases j with
        | zero =>
          simp only [Nat.zero_mul, Nat.add_zero] at z0 z1 z2
          have hp0 : (0 : Int) < (h.vObjs.length : Int) := by omega
          clear hcn lien
          cases hin : inB X.vId 1 (h.vNext - 1)
          · have HF : Hid (specB h = false) := by show _ = _; rw [specB, hrem.out, Hstep.out]; simp [hin]
            have hIn : ∀ w, Calls Try.prog 11 #[.int .i64 X.vId, .int .i64 1, .int .i64 (h.vNext - 1)] w fun e w' => e = .returned (.bool false) ∧ w' = w := fun w => by have := l1In_any X.vId 1 (h.vNext - 1) w; rw [hin] at this; exact this
            clear hin
            go_wp2_with fail
            refine wp_region_held_drew (S := fun w' => w'.cell? ⟨wr.heap.size, 0, none⟩ = some (.int .i64 X.vId) ∧ w'.cell? ⟨wr.heap.size, 1, none⟩ = some (.int .i64 X.vNode) ∧ w'.cell? ⟨wr.heap.size, 2, none⟩ = some (.slice p2 X.vFields.length c2) ∧ w'.cell? ⟨w.heap.size, 0, none⟩ = some (.int .i64 h.vNext) ∧ w'.cell? ⟨w.heap.size, 1, none⟩ = some (.int .i64 h.vDoc) ∧ w'.cell? ⟨w.heap.size, 2, none⟩ = some (.slice a2 h.vNodes.length cap2) ∧ w'.cell? ⟨w.heap.size, 3, none⟩ = some (.slice (some ⟨bn, offn, none⟩) h.vObjs.length cap3) ∧ w'.cell? ⟨w.heap.size, 4, none⟩ = some (.slice a4 h.vGlobals.length cap4)) (by kernel_rfl) (by refine ⟨?_, ?_, ?_, ?_, ?_, ?_, ?_, ?_⟩ <;> assumption) (fun hHeld => ?_)
            refine tq (i := 0) (d := 95) ?_
            simp only [sz, ss]
            refine tq (i := 1) (d := 96) ?_
            simp only [sz, ss]
            refine tq (i := 2) (d := 97) ?_
            simp only [sz, ss]
            refine tq (i := 3) (d := 98) ?_
            simp only [sz, ss]
            refine tq (i := 4) (d := 99) ?_
            simp only [sz, ss]
            refine wpAnyH_ready (rs := [5]) (by kernel_rfl) (by simp) ?_
            refine AllReadyH.cons rfl (fun K hK => ?_) AllReadyH.nil
            go_simp
            refine (hIn _).mono ?_
            rintro e w1 ⟨rfl, rfl⟩
            dsimp only
            refine hK.out _ _ (by assumption) (fun hHeld => ?_)
            clear hK K
            refine tq (i := 6) (d := 101) ?_
            simp only [sz, ss]
            refine tq (i := 7) (d := 102) ?_
            simp only [sz, ss]
            refine tn (i := 8) (d := 103) ?_
            simp only [sz, ss]
            refine tn (i := 9) (d := 104) ?_
            simp only [sz, ss]
            refine tn (i := 10) (d := 105) ?_
            simp only [sz, ss]
            refine tn (i := 11) (d := 106) ?_
            simp only [sz, ss]
            refine tn (i := 12) (d := 107) ?_
            simp only [sz, ss]
            refine tn (i := 13) (d := 108) ?_
            simp only [sz, ss]
            refine tn (i := 14) (d := 109) ?_
            simp only [sz, ss]
            refine tn (i := 15) (d := 110) ?_
            simp only [sz, ss]
            refine tn (i := 16) (d := 111) ?_
            simp only [sz, ss]
            refine tn (i := 17) (d := 112) ?_
            simp only [sz, ss]
            refine tn (i := 18) (d := 113) ?_
            simp only [sz, ss]
            refine tn (i := 19) (d := 114) ?_
            simp only [sz, ss]
            refine tn (i := 20) (d := 115) ?_
            simp only [sz, ss]
            refine tn (i := 21) (d := 116) ?_
            simp only [sz, ss]
            refine tq (i := 22) (d := 117) ?_
            simp only [sz, ss]
            refine tq (i := 23) (d := 118) ?_
            simp only [sz, ss]
            refine tn (i := 24) (d := 119) ?_
            simp only [sz, ss]
            refine tn (i := 25) (d := 120) ?_
            simp only [sz, ss]
            refine tn (i := 26) (d := 121) ?_
            simp only [sz, ss]
            refine tn (i := 27) (d := 122) ?_
            simp only [sz, ss]
            refine tn (i := 28) (d := 123) ?_
            simp only [sz, ss]
            refine tq (i := 29) (d := 124) ?_
            simp only [sz, ss]
            refine wpAnyH_done (by kernel_rfl) ?_ _
            go_wp2_with fail
            go_ret
            exact ⟨ret_bool HF.out.symm, hbwX.drew⟩
          have hIn : ∀ w, Calls Try.prog 11 #[.int .i64 X.vId, .int .i64 1, .int .i64 (h.vNext - 1)] w fun e w' => e = .returned (.bool true) ∧ w' = w := fun w => by have := l1In_any X.vId 1 (h.vNext - 1) w; rw [hin] at this; exact this
          have Hin2 : Hid _ := hin
          clear hin
          have Hrise : Hid (riseB (prevI ObjD.vId h.vObjs 0) X.vId = true) := rfl
          cases hfs : fieldsB h X.vFields 5
          · have HF : Hid (specB h = false) := by show _ = _; rw [specB, hrem.out, Hstep.out]; simp [hfs]
            have Hfs : Hid _ := hfs
            clear hfs
            go_wp2_with fail
            refine wp_region_held_drew (S := fun w' => w'.cell? ⟨wr.heap.size, 0, none⟩ = some (.int .i64 X.vId) ∧ w'.cell? ⟨wr.heap.size, 1, none⟩ = some (.int .i64 X.vNode) ∧ w'.cell? ⟨wr.heap.size, 2, none⟩ = some (.slice p2 X.vFields.length c2) ∧ w'.cell? ⟨w.heap.size, 0, none⟩ = some (.int .i64 h.vNext) ∧ w'.cell? ⟨w.heap.size, 1, none⟩ = some (.int .i64 h.vDoc) ∧ w'.cell? ⟨w.heap.size, 2, none⟩ = some (.slice a2 h.vNodes.length cap2) ∧ w'.cell? ⟨w.heap.size, 3, none⟩ = some (.slice (some ⟨bn, offn, none⟩) h.vObjs.length cap3) ∧ w'.cell? ⟨w.heap.size, 4, none⟩ = some (.slice a4 h.vGlobals.length cap4)) (by kernel_rfl) (by refine ⟨?_, ?_, ?_, ?_, ?_, ?_, ?_, ?_⟩ <;> assumption) (fun hHeld => ?_)
            refine tq (i := 0) (d := 95) ?_
            simp only [sz, ss]
            refine tq (i := 1) (d := 96) ?_
            simp only [sz, ss]
            refine tq (i := 2) (d := 97) ?_
            simp only [sz, ss]
            refine tq (i := 3) (d := 98) ?_
            simp only [sz, ss]
            refine tq (i := 4) (d := 99) ?_
            simp only [sz, ss]
            refine wpAnyH_ready (rs := [5]) (by kernel_rfl) (by simp) ?_
            refine AllReadyH.cons rfl (fun K hK => ?_) AllReadyH.nil
            go_simp
            refine (hIn _).mono ?_
            rintro e w1 ⟨rfl, rfl⟩
            dsimp only
            refine hK.out _ _ (by assumption) (fun hHeld => ?_)
            clear hK K
            refine tq (i := 6) (d := 101) ?_
            simp only [sz, ss]
            refine tq (i := 7) (d := 102) ?_
            simp only [sz, ss]
            refine tq (i := 8) (d := 103) ?_
            simp only [sz, ss]
            refine tq (i := 9) (d := 104) ?_
            simp only [sz, ss]
            refine tq (i := 10) (d := 105) ?_
            simp only [sz, ss]
            refine tn (i := 11) (d := 106) ?_
            simp only [sz, ss]
            refine tn (i := 12) (d := 107) ?_
            simp only [sz, ss]
            refine tn (i := 13) (d := 108) ?_
            simp only [sz, ss]
            refine tn (i := 14) (d := 109) ?_
            simp only [sz, ss]
            refine tn (i := 15) (d := 110) ?_
            simp only [sz, ss]
            refine tn (i := 16) (d := 111) ?_
            simp only [sz, ss]
            refine tn (i := 17) (d := 112) ?_
            simp only [sz, ss]
            refine tn (i := 18) (d := 113) ?_
            simp only [sz, ss]
            refine tn (i := 19) (d := 114) ?_
            simp only [sz, ss]
            refine tn (i := 20) (d := 115) ?_
            simp only [sz, ss]
            refine tq (i := 21) (d := 116) ?_
            simp only [sz, ss]
            refine tq (i := 22) (d := 117) ?_
            simp only [sz, ss]
            refine tq (i := 23) (d := 118) ?_
            simp only [sz, ss]
            refine tq (i := 24) (d := 119) ?_
            simp only [sz, ss]
            refine tq (i := 25) (d := 120) ?_
            simp only [sz, ss]
            refine tq (i := 26) (d := 121) ?_
            simp only [sz, ss]
            refine wpAnyH_ready (rs := [27]) (by kernel_rfl) (by simp) ?_
            refine AllReadyH.cons rfl (fun K hK => ?_) AllReadyH.nil
            go_simp
            refine (l2Fields_any (most := 5) (by exact hhX.out) (by exact v2'.out.below FieldAt_stays hbwX.drew)).mono ?_
            rintro e w2 ⟨rfl, hb1⟩
            have hb4 := hb1
            rw [Hfs.out]
            dsimp only
            refine hK.out _ _ ⟨cell_on hb1 hHeld.1, cell_on hb1 hHeld.2.1, cell_on hb1 hHeld.2.2.1, cell_on hb1 hHeld.2.2.2.1, cell_on hb1 hHeld.2.2.2.2.1, cell_on hb1 hHeld.2.2.2.2.2.1, cell_on hb1 hHeld.2.2.2.2.2.2.1, cell_on hb1 hHeld.2.2.2.2.2.2.2⟩ (fun hHeld => ?_)
            clear hK K
            refine tq (i := 28) (d := 123) ?_
            simp only [sz, ss]
            refine tq (i := 29) (d := 124) ?_
            simp only [sz, ss]
            refine wpAnyH_done (by kernel_rfl) ?_ _
            have hb6 : Below (w.heap.size + 1) _ w2 := hbX.drew.trans (hb4.mono hzX)
            go_wp2_with fail
            go_ret
            exact ⟨ret_bool HF.out.symm, hb0.trans (hb6.mono (by omega))⟩
          · skip
            have Hfs : Hid _ := hfs
            clear hfs
            go_wp2_with fail
            refine wp_region_held_drew (S := fun w' => w'.cell? ⟨wr.heap.size, 0, none⟩ = some (.int .i64 X.vId) ∧ w'.cell? ⟨wr.heap.size, 1, none⟩ = some (.int .i64 X.vNode) ∧ w'.cell? ⟨wr.heap.size, 2, none⟩ = some (.slice p2 X.vFields.length c2) ∧ w'.cell? ⟨w.heap.size, 0, none⟩ = some (.int .i64 h.vNext) ∧ w'.cell? ⟨w.heap.size, 1, none⟩ = some (.int .i64 h.vDoc) ∧ w'.cell? ⟨w.heap.size, 2, none⟩ = some (.slice a2 h.vNodes.length cap2) ∧ w'.cell? ⟨w.heap.size, 3, none⟩ = some (.slice (some ⟨bn, offn, none⟩) h.vObjs.length cap3) ∧ w'.cell? ⟨w.heap.size, 4, none⟩ = some (.slice a4 h.vGlobals.length cap4)) (by kernel_rfl) (by refine ⟨?_, ?_, ?_, ?_, ?_, ?_, ?_, ?_⟩ <;> assumption) (fun hHeld => ?_)
            refine tq (i := 0) (d := 95) ?_
            simp only [sz, ss]
            refine tq (i := 1) (d := 96) ?_
            simp only [sz, ss]
            refine tq (i := 2) (d := 97) ?_
            simp only [sz, ss]
            refine tq (i := 3) (d := 98) ?_
            simp only [sz, ss]
            refine tq (i := 4) (d := 99) ?_
            simp only [sz, ss]
            refine wpAnyH_ready (rs := [5]) (by kernel_rfl) (by simp) ?_
            refine AllReadyH.cons rfl (fun K hK => ?_) AllReadyH.nil
            go_simp
            refine (hIn _).mono ?_
            rintro e w1 ⟨rfl, rfl⟩
            dsimp only
            refine hK.out _ _ (by assumption) (fun hHeld => ?_)
            clear hK K
            refine tq (i := 6) (d := 101) ?_
            simp only [sz, ss]
            refine tq (i := 7) (d := 102) ?_
            simp only [sz, ss]
            refine tq (i := 8) (d := 103) ?_
            simp only [sz, ss]
            refine tq (i := 9) (d := 104) ?_
            simp only [sz, ss]
            refine tq (i := 10) (d := 105) ?_
            simp only [sz, ss]
            refine tn (i := 11) (d := 106) ?_
            simp only [sz, ss]
            refine tn (i := 12) (d := 107) ?_
            simp only [sz, ss]
            refine tn (i := 13) (d := 108) ?_
            simp only [sz, ss]
            refine tn (i := 14) (d := 109) ?_
            simp only [sz, ss]
            refine tn (i := 15) (d := 110) ?_
            simp only [sz, ss]
            refine tn (i := 16) (d := 111) ?_
            simp only [sz, ss]
            refine tn (i := 17) (d := 112) ?_
            simp only [sz, ss]
            refine tn (i := 18) (d := 113) ?_
            simp only [sz, ss]
            refine tn (i := 19) (d := 114) ?_
            simp only [sz, ss]
            refine tn (i := 20) (d := 115) ?_
            simp only [sz, ss]
            refine tq (i := 21) (d := 116) ?_
            simp only [sz, ss]
            refine tq (i := 22) (d := 117) ?_
            simp only [sz, ss]
            refine tq (i := 23) (d := 118) ?_
            simp only [sz, ss]
            refine tq (i := 24) (d := 119) ?_
            simp only [sz, ss]
            refine tq (i := 25) (d := 120) ?_
            simp only [sz, ss]
            refine tq (i := 26) (d := 121) ?_
            simp only [sz, ss]
            refine wpAnyH_ready (rs := [27]) (by kernel_rfl) (by simp) ?_
            refine AllReadyH.cons rfl (fun K hK => ?_) AllReadyH.nil
            go_simp
            refine (l2Fields_any (most := 5) (by exact hhX.out) (by exact v2'.out.below FieldAt_stays hbwX.drew)).mono ?_
            rintro e w2 ⟨rfl, hb1⟩
            have hb4 := hb1
            rw [Hfs.out]
            dsimp only
            refine hK.out _ _ ⟨cell_on hb1 hHeld.1, cell_on hb1 hHeld.2.1, cell_on hb1 hHeld.2.2.1, cell_on hb1 hHeld.2.2.2.1, cell_on hb1 hHeld.2.2.2.2.1, cell_on hb1 hHeld.2.2.2.2.2.1, cell_on hb1 hHeld.2.2.2.2.2.2.1, cell_on hb1 hHeld.2.2.2.2.2.2.2⟩ (fun hHeld => ?_)
            clear hK K
            refine tq (i := 28) (d := 123) ?_
            simp only [sz, ss]
            refine tq (i := 29) (d := 124) ?_
            simp only [sz, ss]
            refine wpAnyH_done (by kernel_rfl) ?_ _
            have hb6 : Below (w.heap.size + 1) _ w2 := hbX.drew.trans (hb4.mono hzX)
            have hz6 : w.heap.size + 1 ≤ w2.heap.size := by have h1 := hb4.size; have h2 : (wr.alloc (.cells (List.toArray [.int .i64 X.vId, .int .i64 X.vNode, .slice p2 X.vFields.length c2]) 73)).drew.heap.size = (wr.alloc (.cells (List.toArray [.int .i64 X.vId, .int .i64 X.vNode, .slice p2 X.vFields.length c2]) 73)).heap.size := rfl; omega
            have hbw6 : Below w.heap.size w w2 := hb0.trans (hb6.mono (by omega))
            have xx0 := cell_on hb4 x0
            have xx1 := cell_on hb4 x1
            have xx2 := cell_on hb4 x2
            have ss0 := cell_on hb4 s0
            have ss1 := cell_on hb4 s1
            have ss2 := cell_on hb4 s2
            have ss3 := cell_on hb4 s3
            have ss4 := cell_on hb4 s4
            clear x0 x1 x2 s0 s1 s2 s3 s4 t0 t1 t2 t3 t4
            by_cases hn0 : X.vNode = 0
            · have hn1 : (X.vNode != 0) = false := by simpa using hn0
              have hon : oNodeB h X = true := by simp [oNodeB, hn0]
              have HF : Hid (objsF h none h.vObjs = objsF h (prevI ObjD.vId h.vObjs (0 + 1)) (h.vObjs.drop (0 + 1))) := by show _ = _; rw [hrem.out, Hstep.out, Hin2.out, Hrise.out, Hfs.out, hon]; simp
              clear hn0 hon
              go_wp2_with fail
              go_roundw
              case rel => exact ⟨0 + 1, by omega, by go_num, hb6, HF⟩
              case measure => simp [intOf]; omega
            have hn1 : (X.vNode != 0) = true := by simpa using hn0
            have hh6 : Hid (HeapAt w2 lo _ h) := HeapAt_stays _ _ _ lo _ _ (.of_below hbw6) hh'.out
            rcases idxN_is h X.vNode with ⟨hidx, hat⟩ | ⟨i', hi', hidx, _, hat⟩
            · have hon : oNodeB h X = false := by simp [oNodeB, hn0, hat]
              have HF : Hid (specB h = false) := by show _ = _; rw [specB, hrem.out, Hstep.out]; simp [hon]
              clear hn0 hat hon
              go_wp2_with fail
              refine (l2Node_any hh6.out).mono ?_
              rintro e w3 ⟨rfl, hb7⟩
              rw [hidx]
              have hb8 : Below (w.heap.size + 1) _ w3 := hb6.trans (hb7.mono hz6)
              have hbw8 : Below w.heap.size w w3 := hb0.trans (hb8.mono (by omega))
              have q0 := cell_on hb7 xx0
              have q1 := cell_on hb7 xx1
              have q2 := cell_on hb7 xx2
              have r0 := cell_on hb7 ss0
              have r1 := cell_on hb7 ss1
              have r2 := cell_on hb7 ss2
              have r3 := cell_on hb7 ss3
              have r4 := cell_on hb7 ss4
              clear xx0 xx1 xx2 ss0 ss1 ss2 ss3 ss4
              clear hidx
              go_wp2_with fail
              refine wp_region_held_drew (S := fun w' => w'.cell? ⟨w.heap.size, 2, none⟩ = some (.slice a2 h.vNodes.length cap2) ∧ w'.cell? ⟨wr.heap.size, 0, none⟩ = some (.int .i64 X.vId)) (by kernel_rfl) (by refine ⟨?_, ?_⟩ <;> assumption) (fun hHeld => ?_)
              refine tq (i := 0) (d := 132) ?_
              simp only [sz, ss]
              refine tq (i := 1) (d := 133) ?_
              simp only [sz, ss]
              refine tq (i := 2) (d := 134) ?_
              simp only [sz, ss]
              refine tn (i := 3) (d := 135) ?_
              simp only [sz, ss]
              refine tn (i := 4) (d := 136) ?_
              simp only [sz, ss]
              refine tn (i := 5) (d := 137) ?_
              simp only [sz, ss]
              refine tn (i := 6) (d := 138) ?_
              simp only [sz, ss]
              refine tn (i := 7) (d := 139) ?_
              simp only [sz, ss]
              refine tn (i := 8) (d := 140) ?_
              simp only [sz, ss]
              refine tn (i := 9) (d := 141) ?_
              simp only [sz, ss]
              refine tn (i := 10) (d := 142) ?_
              simp only [sz, ss]
              refine tn (i := 11) (d := 143) ?_
              simp only [sz, ss]
              refine tq (i := 12) (d := 144) ?_
              simp only [sz, ss]
              refine wpAnyH_done (by kernel_rfl) ?_ _
              go_wp2_with fail
              go_ret
              exact ⟨ret_bool HF.out.symm, hbw8.drew⟩
            by_cases hwr : h.vNodes[i'].vWrapper = X.vId
            · have hon : oNodeB h X = true := by simp [oNodeB, hn0, hat, hwr]
              have HF : Hid (objsF h none h.vObjs = objsF h (prevI ObjD.vId h.vObjs (0 + 1)) (h.vObjs.drop (0 + 1))) := by show _ = _; rw [hrem.out, Hstep.out, Hin2.out, Hrise.out, Hfs.out, hon]; simp
              clear hn0 hat hon
              go_wp2_with fail
              refine (l2Node_any hh6.out).mono ?_
              rintro e w3 ⟨rfl, hb7⟩
              rw [hidx]
              have hb8 : Below (w.heap.size + 1) _ w3 := hb6.trans (hb7.mono hz6)
              have hbw8 : Below w.heap.size w w3 := hb0.trans (hb8.mono (by omega))
              have q0 := cell_on hb7 xx0
              have q1 := cell_on hb7 xx1
              have q2 := cell_on hb7 xx2
              have r0 := cell_on hb7 ss0
              have r1 := cell_on hb7 ss1
              have r2 := cell_on hb7 ss2
              have r3 := cell_on hb7 ss3
              have r4 := cell_on hb7 ss4
              clear xx0 xx1 xx2 ss0 ss1 ss2 ss3 ss4
              clear hidx
              obtain ⟨bm, offm, rfl, hlom, hbwm, hcm⟩ := hx2'.out (by omega)
              obtain ⟨csm, hclm, liem, hrm⟩ := hcm i' hi'
              have liem1 := Lie.keep (lo := lo) (lo' := lo) liem (.of_below hbw8) hlom hbwm
              generalize hM0 : h.vNodes[i'] = MN at hrm hwr
              clear hM0
              obtain ⟨_, _, rfl, _⟩ := hrm
              have m4 := lie_at liem1 4 rfl
              have hin : (0 : Int) ≤ (i' : Int) := by omega
              have hin2 : (i' : Int) < (h.vNodes.length : Int) := by omega
              clear liem liem1 hclm hcm
              rw [hwr] at m4
              clear hwr
              go_wp2_with fail
              refine wp_region_held_drew (S := fun w' => w'.cell? ⟨w.heap.size, 2, none⟩ = some (.slice (some ⟨bm, offm, none⟩) h.vNodes.length cap2) ∧ w'.cell? ⟨bm, offm + i' * 6 + 4, none⟩ = some (.int .i64 X.vId) ∧ w'.cell? ⟨wr.heap.size, 0, none⟩ = some (.int .i64 X.vId)) (by kernel_rfl) (by refine ⟨?_, ?_, ?_⟩ <;> assumption) (fun hHeld => ?_)
              refine tq (i := 0) (d := 132) ?_
              simp only [sz, ss]
              refine tq (i := 1) (d := 133) ?_
              simp only [sz, ss]
              refine tq (i := 2) (d := 134) ?_
              simp only [sz, ss]
              refine tq (i := 3) (d := 135) ?_
              simp only [sz, ss]
              refine tq (i := 4) (d := 136) ?_
              simp only [sz, ss]
              refine tq (i := 5) (d := 137) ?_
              simp only [sz, ss]
              refine tq (i := 6) (d := 138) ?_
              simp only [sz, ss]
              refine tq (i := 7) (d := 139) ?_
              simp only [sz, ss]
              refine tq (i := 8) (d := 140) ?_
              simp only [sz, ss]
              refine tq (i := 9) (d := 141) ?_
              simp only [sz, ss]
              refine tq (i := 10) (d := 142) ?_
              simp only [sz, ss]
              refine tq (i := 11) (d := 143) ?_
              simp only [sz, ss]
              refine tq (i := 12) (d := 144) ?_
              simp only [sz, ss]
              refine wpAnyH_done (by kernel_rfl) ?_ _
              go_wp2_with fail
              go_roundw
              case rel => exact ⟨0 + 1, by omega, by go_num, hb8.drew, HF⟩
              case measure => simp [intOf]; omega
            · have hon : oNodeB h X = false := by simp [oNodeB, hn0, hat, hwr]
              have HF : Hid (specB h = false) := by show _ = _; rw [specB, hrem.out, Hstep.out]; simp [hon]
              clear hn0 hat hon
              go_wp2_with fail
              refine (l2Node_any hh6.out).mono ?_
              rintro e w3 ⟨rfl, hb7⟩
              rw [hidx]
              have hb8 : Below (w.heap.size + 1) _ w3 := hb6.trans (hb7.mono hz6)
              have hbw8 : Below w.heap.size w w3 := hb0.trans (hb8.mono (by omega))
              have q0 := cell_on hb7 xx0
              have q1 := cell_on hb7 xx1
              have q2 := cell_on hb7 xx2
              have r0 := cell_on hb7 ss0
              have r1 := cell_on hb7 ss1
              have r2 := cell_on hb7 ss2
              have r3 := cell_on hb7 ss3
              have r4 := cell_on hb7 ss4
              clear xx0 xx1 xx2 ss0 ss1 ss2 ss3 ss4
              clear hidx
              obtain ⟨bm, offm, rfl, hlom, hbwm, hcm⟩ := hx2'.out (by omega)
              obtain ⟨csm, hclm, liem, hrm⟩ := hcm i' hi'
              have liem1 := Lie.keep (lo := lo) (lo' := lo) liem (.of_below hbw8) hlom hbwm
              generalize hM0 : h.vNodes[i'] = MN at hrm hwr
              clear hM0
              obtain ⟨_, _, rfl, _⟩ := hrm
              have m4 := lie_at liem1 4 rfl
              have hin : (0 : Int) ≤ (i' : Int) := by omega
              have hin2 : (i' : Int) < (h.vNodes.length : Int) := by omega
              clear liem liem1 hclm hcm
              have hwr2 : (MN.vWrapper != X.vId) = true := by simpa using hwr
              clear hwr
              go_wp2_with fail
              refine wp_region_held_drew (S := fun w' => w'.cell? ⟨w.heap.size, 2, none⟩ = some (.slice (some ⟨bm, offm, none⟩) h.vNodes.length cap2) ∧ w'.cell? ⟨bm, offm + i' * 6 + 4, none⟩ = some (.int .i64 MN.vWrapper) ∧ w'.cell? ⟨wr.heap.size, 0, none⟩ = some (.int .i64 X.vId)) (by kernel_rfl) (by refine ⟨?_, ?_, ?_⟩ <;> assumption) (fun hHeld => ?_)
              refine tq (i := 0) (d := 132) ?_
              simp only [sz, ss]
              refine tq (i := 1) (d := 133) ?_
              simp only [sz, ss]
              refine tq (i := 2) (d := 134) ?_
              simp only [sz, ss]
              refine tq (i := 3) (d := 135) ?_
              simp only [sz, ss]
              refine tq (i := 4) (d := 136) ?_
              simp only [sz, ss]
              refine tq (i := 5) (d := 137) ?_
              simp only [sz, ss]
              refine tq (i := 6) (d := 138) ?_
              simp only [sz, ss]
              refine tq (i := 7) (d := 139) ?_
              simp only [sz, ss]
              refine tq (i := 8) (d := 140) ?_
              simp only [sz, ss]
              refine tq (i := 9) (d := 141) ?_
              simp only [sz, ss]
              refine tq (i := 10) (d := 142) ?_
              simp only [sz, ss]
              refine tq (i := 11) (d := 143) ?_
              simp only [sz, ss]
              refine tq (i := 12) (d := 144) ?_
              simp only [sz, ss]
              refine wpAnyH_done (by kernel_rfl) ?_ _
              go_wp2_with fail
              go_ret
              exact ⟨ret_bool HF.out.symm, hbw8.drew⟩
        | succ i =>
          obtain ⟨csy, hcly, liey, hry⟩ := hcn i (by omega)
          have liey1 := Lie.keep (lo := lo) (lo' := lo) liey (.of_below hbwX) hlon hbwn
          have hprev : prevI ObjD.vId h.vObjs (i + 1) = some h.vObjs[i].vId := prevI_succ (by omega)
          generalize hY0 : h.vObjs[i] = Y at hry hprev
          clear hY0
          obtain ⟨_, rfl, _⟩ := hry
          have y0 := lie_at liey1 0 rfl
          simp only [Nat.add_zero] at y0
          have Hprev : Hid _ := hprev
          have hi0 : (0 : Int) ≤ (i : Int) := by omega
          have hi1 : (i : Int) < (h.vObjs.length : Int) := by omega
          have hi2 : (0 : Int) ≤ (i : Int) + 1 := by omega
          have hi3 : (i : Int) + 1 < (h.vObjs.length : Int) := by omega
          have hi4 : (0 : Int) < (i : Int) + 1 := by omega
          have hwi : IntKind.i64.wrap (i : Int) = (i : Int) := by rw [IntKind.wrap_i64]; omega
          clear hcn lien liey liey1 hcly hprev
          cases hin : inB X.vId 1 (h.vNext - 1)
          · have HF : Hid (specB h = false) := by show _ = _; rw [specB, hrem.out, Hstep.out]; simp [hin]
            have hIn : ∀ w, Calls Try.prog 11 #[.int .i64 X.vId, .int .i64 1, .int .i64 (h.vNext - 1)] w fun e w' => e = .returned (.bool false) ∧ w' = w := fun w => by have := l1In_any X.vId 1 (h.vNext - 1) w; rw [hin] at this; exact this
            clear hin
            go_wp2_with fail
            refine wp_region_held_drew (S := fun w' => w'.cell? ⟨wr.heap.size, 0, none⟩ = some (.int .i64 X.vId) ∧ w'.cell? ⟨wr.heap.size, 1, none⟩ = some (.int .i64 X.vNode) ∧ w'.cell? ⟨wr.heap.size, 2, none⟩ = some (.slice p2 X.vFields.length c2) ∧ w'.cell? ⟨w.heap.size, 0, none⟩ = some (.int .i64 h.vNext) ∧ w'.cell? ⟨w.heap.size, 1, none⟩ = some (.int .i64 h.vDoc) ∧ w'.cell? ⟨w.heap.size, 2, none⟩ = some (.slice a2 h.vNodes.length cap2) ∧ w'.cell? ⟨w.heap.size, 3, none⟩ = some (.slice (some ⟨bn, offn, none⟩) h.vObjs.length cap3) ∧ w'.cell? ⟨w.heap.size, 4, none⟩ = some (.slice a4 h.vGlobals.length cap4) ∧ w'.cell? ⟨bn, offn + i * 3, none⟩ = some (.int .i64 Y.vId)) (by kernel_rfl) (by refine ⟨?_, ?_, ?_, ?_, ?_, ?_, ?_, ?_, ?_⟩ <;> assumption) (fun hHeld => ?_)
            refine tq (i := 0) (d := 95) ?_
            simp only [sz, ss]
            refine tq (i := 1) (d := 96) ?_
            simp only [sz, ss]
            refine tq (i := 2) (d := 97) ?_
            simp only [sz, ss]
            refine tq (i := 3) (d := 98) ?_
            simp only [sz, ss]
            refine tq (i := 4) (d := 99) ?_
            simp only [sz, ss]
            refine wpAnyH_ready (rs := [5]) (by kernel_rfl) (by simp) ?_
            refine AllReadyH.cons rfl (fun K hK => ?_) AllReadyH.nil
            go_simp
            refine (hIn _).mono ?_
            rintro e w1 ⟨rfl, rfl⟩
            dsimp only
            refine hK.out _ _ (by assumption) (fun hHeld => ?_)
            clear hK K
            refine tq (i := 6) (d := 101) ?_
            simp only [sz, ss]
            refine tq (i := 7) (d := 102) ?_
            simp only [sz, ss]
            refine tn (i := 8) (d := 103) ?_
            simp only [sz, ss]
            refine tn (i := 9) (d := 104) ?_
            simp only [sz, ss]
            refine tn (i := 10) (d := 105) ?_
            simp only [sz, ss]
            refine tn (i := 11) (d := 106) ?_
            simp only [sz, ss]
            refine tn (i := 12) (d := 107) ?_
            simp only [sz, ss]
            refine tn (i := 13) (d := 108) ?_
            simp only [sz, ss]
            refine tn (i := 14) (d := 109) ?_
            simp only [sz, ss]
            refine tn (i := 15) (d := 110) ?_
            simp only [sz, ss]
            refine tn (i := 16) (d := 111) ?_
            simp only [sz, ss]
            refine tn (i := 17) (d := 112) ?_
            simp only [sz, ss]
            refine tn (i := 18) (d := 113) ?_
            simp only [sz, ss]
            refine tn (i := 19) (d := 114) ?_
            simp only [sz, ss]
            refine tn (i := 20) (d := 115) ?_
            simp only [sz, ss]
            refine tn (i := 21) (d := 116) ?_
            simp only [sz, ss]
            refine tq (i := 22) (d := 117) ?_
            simp only [sz, ss]
            refine tq (i := 23) (d := 118) ?_
            simp only [sz, ss]
            refine tn (i := 24) (d := 119) ?_
            simp only [sz, ss]
            refine tn (i := 25) (d := 120) ?_
            simp only [sz, ss]
            refine tn (i := 26) (d := 121) ?_
            simp only [sz, ss]
            refine tn (i := 27) (d := 122) ?_
            simp only [sz, ss]
            refine tn (i := 28) (d := 123) ?_
            simp only [sz, ss]
            refine tq (i := 29) (d := 124) ?_
            simp only [sz, ss]
            refine wpAnyH_done (by kernel_rfl) ?_ _
            go_wp2_with fail
            go_ret
            exact ⟨ret_bool HF.out.symm, hbwX.drew⟩
          have hIn : ∀ w, Calls Try.prog 11 #[.int .i64 X.vId, .int .i64 1, .int .i64 (h.vNext - 1)] w fun e w' => e = .returned (.bool true) ∧ w' = w := fun w => by have := l1In_any X.vId 1 (h.vNext - 1) w; rw [hin] at this; exact this
          have Hin2 : Hid _ := hin
          clear hin
          by_cases hrise : Y.vId < X.vId
          rotate_left
          · have HF : Hid (specB h = false) := by show _ = _; rw [specB, hrem.out, Hstep.out, Hprev.out]; simp [riseB, hrise]
            have hr2 : X.vId ≤ Y.vId := by omega
            clear hrise
            go_wp2_with fail
            refine wp_region_held_drew (S := fun w' => w'.cell? ⟨wr.heap.size, 0, none⟩ = some (.int .i64 X.vId) ∧ w'.cell? ⟨wr.heap.size, 1, none⟩ = some (.int .i64 X.vNode) ∧ w'.cell? ⟨wr.heap.size, 2, none⟩ = some (.slice p2 X.vFields.length c2) ∧ w'.cell? ⟨w.heap.size, 0, none⟩ = some (.int .i64 h.vNext) ∧ w'.cell? ⟨w.heap.size, 1, none⟩ = some (.int .i64 h.vDoc) ∧ w'.cell? ⟨w.heap.size, 2, none⟩ = some (.slice a2 h.vNodes.length cap2) ∧ w'.cell? ⟨w.heap.size, 3, none⟩ = some (.slice (some ⟨bn, offn, none⟩) h.vObjs.length cap3) ∧ w'.cell? ⟨w.heap.size, 4, none⟩ = some (.slice a4 h.vGlobals.length cap4) ∧ w'.cell? ⟨bn, offn + i * 3, none⟩ = some (.int .i64 Y.vId)) (by kernel_rfl) (by refine ⟨?_, ?_, ?_, ?_, ?_, ?_, ?_, ?_, ?_⟩ <;> assumption) (fun hHeld => ?_)
            refine tq (i := 0) (d := 95) ?_
            simp only [sz, ss]
            refine tq (i := 1) (d := 96) ?_
            simp only [sz, ss]
            refine tq (i := 2) (d := 97) ?_
            simp only [sz, ss]
            refine tq (i := 3) (d := 98) ?_
            simp only [sz, ss]
            refine tq (i := 4) (d := 99) ?_
            simp only [sz, ss]
            refine wpAnyH_ready (rs := [5]) (by kernel_rfl) (by simp) ?_
            refine AllReadyH.cons rfl (fun K hK => ?_) AllReadyH.nil
            go_simp
            refine (hIn _).mono ?_
            rintro e w1 ⟨rfl, rfl⟩
            dsimp only
            refine hK.out _ _ (by assumption) (fun hHeld => ?_)
            clear hK K
            refine tq (i := 6) (d := 101) ?_
            simp only [sz, ss]
            refine tq (i := 7) (d := 102) ?_
            simp only [sz, ss]
            refine tq (i := 8) (d := 103) ?_
            simp only [sz, ss]
            refine tq (i := 9) (d := 104) ?_
            simp only [sz, ss]
            refine tq (i := 10) (d := 105) ?_
            simp only [sz, ss]
            refine tq (i := 11) (d := 106) ?_
            simp only [sz, ss]
            refine tq (i := 12) (d := 107) ?_
            simp only [sz, ss]
            refine tq (i := 13) (d := 108) ?_
            simp only [sz, ss]
            refine tq (i := 14) (d := 109) ?_
            simp only [sz, ss]
            refine tq (i := 15) (d := 110) ?_
            simp only [sz, ss]
            refine tq (i := 16) (d := 111) ?_
            simp only [sz, ss]
            refine tq (i := 17) (d := 112) ?_
            simp only [sz, ss]
            refine tq (i := 18) (d := 113) ?_
            simp only [sz, ss]
            refine tq (i := 19) (d := 114) ?_
            simp only [sz, ss]
            refine tq (i := 20) (d := 115) ?_
            simp only [sz, ss]
            refine tq (i := 21) (d := 116) ?_
            simp only [sz, ss]
            refine tq (i := 22) (d := 117) ?_
            simp only [sz, ss]
            refine tq (i := 23) (d := 118) ?_
            simp only [sz, ss]
            refine tn (i := 24) (d := 119) ?_
            simp only [sz, ss]
            refine tn (i := 25) (d := 120) ?_
            simp only [sz, ss]
            refine tn (i := 26) (d := 121) ?_
            simp only [sz, ss]
            refine tn (i := 27) (d := 122) ?_
            simp only [sz, ss]
            refine tn (i := 28) (d := 123) ?_
            simp only [sz, ss]
            refine tq (i := 29) (d := 124) ?_
            simp only [sz, ss]
            refine wpAnyH_done (by kernel_rfl) ?_ _
            go_wp2_with fail
            go_ret
            exact ⟨ret_bool HF.out.symm, hbwX.drew⟩
          have hr2 : decide (X.vId ≤ Y.vId) = false := by simp; omega
          have Hrise : Hid (riseB (prevI ObjD.vId h.vObjs (i + 1)) X.vId = true) := by show _ = _; rw [Hprev.out]; simp [riseB, hrise]
          clear hrise
          cases hfs : fieldsB h X.vFields 5
          · have HF : Hid (specB h = false) := by show _ = _; rw [specB, hrem.out, Hstep.out]; simp [hfs]
            have Hfs : Hid _ := hfs
            clear hfs
            go_wp2_with fail
            refine wp_region_held_drew (S := fun w' => w'.cell? ⟨wr.heap.size, 0, none⟩ = some (.int .i64 X.vId) ∧ w'.cell? ⟨wr.heap.size, 1, none⟩ = some (.int .i64 X.vNode) ∧ w'.cell? ⟨wr.heap.size, 2, none⟩ = some (.slice p2 X.vFields.length c2) ∧ w'.cell? ⟨w.heap.size, 0, none⟩ = some (.int .i64 h.vNext) ∧ w'.cell? ⟨w.heap.size, 1, none⟩ = some (.int .i64 h.vDoc) ∧ w'.cell? ⟨w.heap.size, 2, none⟩ = some (.slice a2 h.vNodes.length cap2) ∧ w'.cell? ⟨w.heap.size, 3, none⟩ = some (.slice (some ⟨bn, offn, none⟩) h.vObjs.length cap3) ∧ w'.cell? ⟨w.heap.size, 4, none⟩ = some (.slice a4 h.vGlobals.length cap4) ∧ w'.cell? ⟨bn, offn + i * 3, none⟩ = some (.int .i64 Y.vId)) (by kernel_rfl) (by refine ⟨?_, ?_, ?_, ?_, ?_, ?_, ?_, ?_, ?_⟩ <;> assumption) (fun hHeld => ?_)
            refine tq (i := 0) (d := 95) ?_
            simp only [sz, ss]
            refine tq (i := 1) (d := 96) ?_
            simp only [sz, ss]
            refine tq (i := 2) (d := 97) ?_
            simp only [sz, ss]
            refine tq (i := 3) (d := 98) ?_
            simp only [sz, ss]
            refine tq (i := 4) (d := 99) ?_
            simp only [sz, ss]
            refine wpAnyH_ready (rs := [5]) (by kernel_rfl) (by simp) ?_
            refine AllReadyH.cons rfl (fun K hK => ?_) AllReadyH.nil
            go_simp
            refine (hIn _).mono ?_
            rintro e w1 ⟨rfl, rfl⟩
            dsimp only
            refine hK.out _ _ (by assumption) (fun hHeld => ?_)
            clear hK K
            refine tq (i := 6) (d := 101) ?_
            simp only [sz, ss]
            refine tq (i := 7) (d := 102) ?_
            simp only [sz, ss]
            refine tq (i := 8) (d := 103) ?_
            simp only [sz, ss]
            refine tq (i := 9) (d := 104) ?_
            simp only [sz, ss]
            refine tq (i := 10) (d := 105) ?_
            simp only [sz, ss]
            refine tq (i := 11) (d := 106) ?_
            simp only [sz, ss]
            refine tq (i := 12) (d := 107) ?_
            simp only [sz, ss]
            refine tq (i := 13) (d := 108) ?_
            simp only [sz, ss]
            refine tq (i := 14) (d := 109) ?_
            simp only [sz, ss]
            refine tq (i := 15) (d := 110) ?_
            simp only [sz, ss]
            refine tq (i := 16) (d := 111) ?_
            simp only [sz, ss]
            refine tq (i := 17) (d := 112) ?_
            simp only [sz, ss]
            refine tq (i := 18) (d := 113) ?_
            simp only [sz, ss]
            refine tq (i := 19) (d := 114) ?_
            simp only [sz, ss]
            refine tq (i := 20) (d := 115) ?_
            simp only [sz, ss]
            refine tq (i := 21) (d := 116) ?_
            simp only [sz, ss]
            refine tq (i := 22) (d := 117) ?_
            simp only [sz, ss]
            refine tq (i := 23) (d := 118) ?_
            simp only [sz, ss]
            refine tq (i := 24) (d := 119) ?_
            simp only [sz, ss]
            refine tq (i := 25) (d := 120) ?_
            simp only [sz, ss]
            refine tq (i := 26) (d := 121) ?_
            simp only [sz, ss]
            refine wpAnyH_ready (rs := [27]) (by kernel_rfl) (by simp) ?_
            refine AllReadyH.cons rfl (fun K hK => ?_) AllReadyH.nil
            go_simp
            refine (l2Fields_any (most := 5) (by exact hhX.out) (by exact v2'.out.below FieldAt_stays hbwX.drew)).mono ?_
            rintro e w2 ⟨rfl, hb1⟩
            have hb4 := hb1
            rw [Hfs.out]
            dsimp only
            refine hK.out _ _ ⟨cell_on hb1 hHeld.1, cell_on hb1 hHeld.2.1, cell_on hb1 hHeld.2.2.1, cell_on hb1 hHeld.2.2.2.1, cell_on hb1 hHeld.2.2.2.2.1, cell_on hb1 hHeld.2.2.2.2.2.1, cell_on hb1 hHeld.2.2.2.2.2.2.1, cell_on hb1 hHeld.2.2.2.2.2.2.2.1, cell_on hb1 hHeld.2.2.2.2.2.2.2.2⟩ (fun hHeld => ?_)
            clear hK K
            refine tq (i := 28) (d := 123) ?_
            simp only [sz, ss]
            refine tq (i := 29) (d := 124) ?_
            simp only [sz, ss]
            refine wpAnyH_done (by kernel_rfl) ?_ _
            have hb6 : Below (w.heap.size + 1) _ w2 := hbX.drew.trans (hb4.mono hzX)
            go_wp2_with fail
            go_ret
            exact ⟨ret_bool HF.out.symm, hb0.trans (hb6.mono (by omega))⟩
          · skip
            have Hfs : Hid _ := hfs
            clear hfs
            go_wp2_with fail
            refine wp_region_held_drew (S := fun w' => w'.cell? ⟨wr.heap.size, 0, none⟩ = some (.int .i64 X.vId) ∧ w'.cell? ⟨wr.heap.size, 1, none⟩ = some (.int .i64 X.vNode) ∧ w'.cell? ⟨wr.heap.size, 2, none⟩ = some (.slice p2 X.vFields.length c2) ∧ w'.cell? ⟨w.heap.size, 0, none⟩ = some (.int .i64 h.vNext) ∧ w'.cell? ⟨w.heap.size, 1, none⟩ = some (.int .i64 h.vDoc) ∧ w'.cell? ⟨w.heap.size, 2, none⟩ = some (.slice a2 h.vNodes.length cap2) ∧ w'.cell? ⟨w.heap.size, 3, none⟩ = some (.slice (some ⟨bn, offn, none⟩) h.vObjs.length cap3) ∧ w'.cell? ⟨w.heap.size, 4, none⟩ = some (.slice a4 h.vGlobals.length cap4) ∧ w'.cell? ⟨bn, offn + i * 3, none⟩ = some (.int .i64 Y.vId)) (by kernel_rfl) (by refine ⟨?_, ?_, ?_, ?_, ?_, ?_, ?_, ?_, ?_⟩ <;> assumption) (fun hHeld => ?_)
            refine tq (i := 0) (d := 95) ?_
            simp only [sz, ss]
            refine tq (i := 1) (d := 96) ?_
            simp only [sz, ss]
            refine tq (i := 2) (d := 97) ?_
            simp only [sz, ss]
            refine tq (i := 3) (d := 98) ?_
            simp only [sz, ss]
            refine tq (i := 4) (d := 99) ?_
            simp only [sz, ss]
            refine wpAnyH_ready (rs := [5]) (by kernel_rfl) (by simp) ?_
            refine AllReadyH.cons rfl (fun K hK => ?_) AllReadyH.nil
            go_simp
            refine (hIn _).mono ?_
            rintro e w1 ⟨rfl, rfl⟩
            dsimp only
            refine hK.out _ _ (by assumption) (fun hHeld => ?_)
            clear hK K
            refine tq (i := 6) (d := 101) ?_
            simp only [sz, ss]
            refine tq (i := 7) (d := 102) ?_
            simp only [sz, ss]
            refine tq (i := 8) (d := 103) ?_
            simp only [sz, ss]
            refine tq (i := 9) (d := 104) ?_
            simp only [sz, ss]
            refine tq (i := 10) (d := 105) ?_
            simp only [sz, ss]
            refine tq (i := 11) (d := 106) ?_
            simp only [sz, ss]
            refine tq (i := 12) (d := 107) ?_
            simp only [sz, ss]
            refine tq (i := 13) (d := 108) ?_
            simp only [sz, ss]
            refine tq (i := 14) (d := 109) ?_
            simp only [sz, ss]
            refine tq (i := 15) (d := 110) ?_
            simp only [sz, ss]
            refine tq (i := 16) (d := 111) ?_
            simp only [sz, ss]
            refine tq (i := 17) (d := 112) ?_
            simp only [sz, ss]
            refine tq (i := 18) (d := 113) ?_
            simp only [sz, ss]
            refine tq (i := 19) (d := 114) ?_
            simp only [sz, ss]
            refine tq (i := 20) (d := 115) ?_
            simp only [sz, ss]
            refine tq (i := 21) (d := 116) ?_
            simp only [sz, ss]
            refine tq (i := 22) (d := 117) ?_
            simp only [sz, ss]
            refine tq (i := 23) (d := 118) ?_
            simp only [sz, ss]
            refine tq (i := 24) (d := 119) ?_
            simp only [sz, ss]
            refine tq (i := 25) (d := 120) ?_
            simp only [sz, ss]
            refine tq (i := 26) (d := 121) ?_
            simp only [sz, ss]
            refine wpAnyH_ready (rs := [27]) (by kernel_rfl) (by simp) ?_
            refine AllReadyH.cons rfl (fun K hK => ?_) AllReadyH.nil
            go_simp
            refine (l2Fields_any (most := 5) (by exact hhX.out) (by exact v2'.out.below FieldAt_stays hbwX.drew)).mono ?_
            rintro e w2 ⟨rfl, hb1⟩
            have hb4 := hb1
            rw [Hfs.out]
            dsimp only
            refine hK.out _ _ ⟨cell_on hb1 hHeld.1, cell_on hb1 hHeld.2.1, cell_on hb1 hHeld.2.2.1, cell_on hb1 hHeld.2.2.2.1, cell_on hb1 hHeld.2.2.2.2.1, cell_on hb1 hHeld.2.2.2.2.2.1, cell_on hb1 hHeld.2.2.2.2.2.2.1, cell_on hb1 hHeld.2.2.2.2.2.2.2.1, cell_on hb1 hHeld.2.2.2.2.2.2.2.2⟩ (fun hHeld => ?_)
            clear hK K
            refine tq (i := 28) (d := 123) ?_
            simp only [sz, ss]
            refine tq (i := 29) (d := 124) ?_
            simp only [sz, ss]
            refine wpAnyH_done (by kernel_rfl) ?_ _
            have hb6 : Below (w.heap.size + 1) _ w2 := hbX.drew.trans (hb4.mono hzX)
            have hz6 : w.heap.size + 1 ≤ w2.heap.size := by have h1 := hb4.size; have h2 : (wr.alloc (.cells (List.toArray [.int .i64 X.vId, .int .i64 X.vNode, .slice p2 X.vFields.length c2]) 73)).drew.heap.size = (wr.alloc (.cells (List.toArray [.int .i64 X.vId, .int .i64 X.vNode, .slice p2 X.vFields.length c2]) 73)).heap.size := rfl; omega
            have hbw6 : Below w.heap.size w w2 := hb0.trans (hb6.mono (by omega))
            have xx0 := cell_on hb4 x0
            have xx1 := cell_on hb4 x1
            have xx2 := cell_on hb4 x2
            have ss0 := cell_on hb4 s0
            have ss1 := cell_on hb4 s1
            have ss2 := cell_on hb4 s2
            have ss3 := cell_on hb4 s3
            have ss4 := cell_on hb4 s4
            clear x0 x1 x2 s0 s1 s2 s3 s4 t0 t1 t2 t3 t4
            by_cases hn0 : X.vNode = 0
            · have hn1 : (X.vNode != 0) = false := by simpa using hn0
              have hon : oNodeB h X = true := by simp [oNodeB, hn0]
              have HF : Hid (objsF h none h.vObjs = objsF h (prevI ObjD.vId h.vObjs ((i + 1) + 1)) (h.vObjs.drop ((i + 1) + 1))) := by show _ = _; rw [hrem.out, Hstep.out, Hin2.out, Hrise.out, Hfs.out, hon]; simp
              clear hn0 hon
              go_wp2_with fail
              go_roundw
              case rel => exact ⟨(i + 1) + 1, by omega, by go_num, hb6, HF⟩
              case measure => simp [intOf]; omega
            have hn1 : (X.vNode != 0) = true := by simpa using hn0
            have hh6 : Hid (HeapAt w2 lo _ h) := HeapAt_stays _ _ _ lo _ _ (.of_below hbw6) hh'.out
            rcases idxN_is h X.vNode with ⟨hidx, hat⟩ | ⟨i', hi', hidx, _, hat⟩
            · have hon : oNodeB h X = false := by simp [oNodeB, hn0, hat]
              have HF : Hid (specB h = false) := by show _ = _; rw [specB, hrem.out, Hstep.out]; simp [hon]
              clear hn0 hat hon
              go_wp2_with fail
              refine (l2Node_any hh6.out).mono ?_
              rintro e w3 ⟨rfl, hb7⟩
              rw [hidx]
              have hb8 : Below (w.heap.size + 1) _ w3 := hb6.trans (hb7.mono hz6)
              have hbw8 : Below w.heap.size w w3 := hb0.trans (hb8.mono (by omega))
              have q0 := cell_on hb7 xx0
              have q1 := cell_on hb7 xx1
              have q2 := cell_on hb7 xx2
              have r0 := cell_on hb7 ss0
              have r1 := cell_on hb7 ss1
              have r2 := cell_on hb7 ss2
              have r3 := cell_on hb7 ss3
              have r4 := cell_on hb7 ss4
              clear xx0 xx1 xx2 ss0 ss1 ss2 ss3 ss4
              clear hidx
              go_wp2_with fail
              refine wp_region_held_drew (S := fun w' => w'.cell? ⟨w.heap.size, 2, none⟩ = some (.slice a2 h.vNodes.length cap2) ∧ w'.cell? ⟨wr.heap.size, 0, none⟩ = some (.int .i64 X.vId)) (by kernel_rfl) (by refine ⟨?_, ?_⟩ <;> assumption) (fun hHeld => ?_)
              refine tq (i := 0) (d := 132) ?_
              simp only [sz, ss]
              refine tq (i := 1) (d := 133) ?_
              simp only [sz, ss]
              refine tq (i := 2) (d := 134) ?_
              simp only [sz, ss]
              refine tn (i := 3) (d := 135) ?_
              simp only [sz, ss]
              refine tn (i := 4) (d := 136) ?_
              simp only [sz, ss]
              refine tn (i := 5) (d := 137) ?_
              simp only [sz, ss]
              refine tn (i := 6) (d := 138) ?_
              simp only [sz, ss]
              refine tn (i := 7) (d := 139) ?_
              simp only [sz, ss]
              refine tn (i := 8) (d := 140) ?_
              simp only [sz, ss]
              refine tn (i := 9) (d := 141) ?_
              simp only [sz, ss]
              refine tn (i := 10) (d := 142) ?_
              simp only [sz, ss]
              refine tn (i := 11) (d := 143) ?_
              simp only [sz, ss]
              refine tq (i := 12) (d := 144) ?_
              simp only [sz, ss]
              refine wpAnyH_done (by kernel_rfl) ?_ _
              go_wp2_with fail
              go_ret
              exact ⟨ret_bool HF.out.symm, hbw8.drew⟩
            by_cases hwr : h.vNodes[i'].vWrapper = X.vId
            · have hon : oNodeB h X = true := by simp [oNodeB, hn0, hat, hwr]
              have HF : Hid (objsF h none h.vObjs = objsF h (prevI ObjD.vId h.vObjs ((i + 1) + 1)) (h.vObjs.drop ((i + 1) + 1))) := by show _ = _; rw [hrem.out, Hstep.out, Hin2.out, Hrise.out, Hfs.out, hon]; simp
              clear hn0 hat hon
              go_wp2_with fail
              refine (l2Node_any hh6.out).mono ?_
              rintro e w3 ⟨rfl, hb7⟩
              rw [hidx]
              have hb8 : Below (w.heap.size + 1) _ w3 := hb6.trans (hb7.mono hz6)
              have hbw8 : Below w.heap.size w w3 := hb0.trans (hb8.mono (by omega))
              have q0 := cell_on hb7 xx0
              have q1 := cell_on hb7 xx1
              have q2 := cell_on hb7 xx2
              have r0 := cell_on hb7 ss0
              have r1 := cell_on hb7 ss1
              have r2 := cell_on hb7 ss2
              have r3 := cell_on hb7 ss3
              have r4 := cell_on hb7 ss4
              clear xx0 xx1 xx2 ss0 ss1 ss2 ss3 ss4
              clear hidx
              obtain ⟨bm, offm, rfl, hlom, hbwm, hcm⟩ := hx2'.out (by omega)
              obtain ⟨csm, hclm, liem, hrm⟩ := hcm i' hi'
              have liem1 := Lie.keep (lo := lo) (lo' := lo) liem (.of_below hbw8) hlom hbwm
              generalize hM0 : h.vNodes[i'] = MN at hrm hwr
              clear hM0
              obtain ⟨_, _, rfl, _⟩ := hrm
              have m4 := lie_at liem1 4 rfl
              have hin : (0 : Int) ≤ (i' : Int) := by omega
              have hin2 : (i' : Int) < (h.vNodes.length : Int) := by omega
              clear liem liem1 hclm hcm
              rw [hwr] at m4
              clear hwr
              go_wp2_with fail
              refine wp_region_held_drew (S := fun w' => w'.cell? ⟨w.heap.size, 2, none⟩ = some (.slice (some ⟨bm, offm, none⟩) h.vNodes.length cap2) ∧ w'.cell? ⟨bm, offm + i' * 6 + 4, none⟩ = some (.int .i64 X.vId) ∧ w'.cell? ⟨wr.heap.size, 0, none⟩ = some (.int .i64 X.vId)) (by kernel_rfl) (by refine ⟨?_, ?_, ?_⟩ <;> assumption) (fun hHeld => ?_)
              refine tq (i := 0) (d := 132) ?_
              simp only [sz, ss]
              refine tq (i := 1) (d := 133) ?_
              simp only [sz, ss]
              refine tq (i := 2) (d := 134) ?_
              simp only [sz, ss]
              refine tq (i := 3) (d := 135) ?_
              simp only [sz, ss]
              refine tq (i := 4) (d := 136) ?_
              simp only [sz, ss]
              refine tq (i := 5) (d := 137) ?_
              simp only [sz, ss]
              refine tq (i := 6) (d := 138) ?_
              simp only [sz, ss]
              refine tq (i := 7) (d := 139) ?_
              simp only [sz, ss]
              refine tq (i := 8) (d := 140) ?_
              simp only [sz, ss]
              refine tq (i := 9) (d := 141) ?_
              simp only [sz, ss]
              refine tq (i := 10) (d := 142) ?_
              simp only [sz, ss]
              refine tq (i := 11) (d := 143) ?_
              simp only [sz, ss]
              refine tq (i := 12) (d := 144) ?_
              simp only [sz, ss]
              refine wpAnyH_done (by kernel_rfl) ?_ _
              go_wp2_with fail
              go_roundw
              case rel => exact ⟨(i + 1) + 1, by omega, by go_num, hb8.drew, HF⟩
              case measure => simp [intOf]; omega
            · have hon : oNodeB h X = false := by simp [oNodeB, hn0, hat, hwr]
              have HF : Hid (specB h = false) := by show _ = _; rw [specB, hrem.out, Hstep.out]; simp [hon]
              clear hn0 hat hon
              go_wp2_with fail
              refine (l2Node_any hh6.out).mono ?_
              rintro e w3 ⟨rfl, hb7⟩
              rw [hidx]
              have hb8 : Below (w.heap.size + 1) _ w3 := hb6.trans (hb7.mono hz6)
              have hbw8 : Below w.heap.size w w3 := hb0.trans (hb8.mono (by omega))
              have q0 := cell_on hb7 xx0
              have q1 := cell_on hb7 xx1
              have q2 := cell_on hb7 xx2
              have r0 := cell_on hb7 ss0
              have r1 := cell_on hb7 ss1
              have r2 := cell_on hb7 ss2
              have r3 := cell_on hb7 ss3
              have r4 := cell_on hb7 ss4
              clear xx0 xx1 xx2 ss0 ss1 ss2 ss3 ss4
              clear hidx
              obtain ⟨bm, offm, rfl, hlom, hbwm, hcm⟩ := hx2'.out (by omega)
              obtain ⟨csm, hclm, liem, hrm⟩ := hcm i' hi'
              have liem1 := Lie.keep (lo := lo) (lo' := lo) liem (.of_below hbw8) hlom hbwm
              generalize hM0 : h.vNodes[i'] = MN at hrm hwr
              clear hM0
              obtain ⟨_, _, rfl, _⟩ := hrm
              have m4 := lie_at liem1 4 rfl
              have hin : (0 : Int) ≤ (i' : Int) := by omega
              have hin2 : (i' : Int) < (h.vNodes.length : Int) := by omega
              clear liem liem1 hclm hcm
              have hwr2 : (MN.vWrapper != X.vId) = true := by simpa using hwr
              clear hwr
              go_wp2_with fail
              refine wp_region_held_drew (S := fun w' => w'.cell? ⟨w.heap.size, 2, none⟩ = some (.slice (some ⟨bm, offm, none⟩) h.vNodes.length cap2) ∧ w'.cell? ⟨bm, offm + i' * 6 + 4, none⟩ = some (.int .i64 MN.vWrapper) ∧ w'.cell? ⟨wr.heap.size, 0, none⟩ = some (.int .i64 X.vId)) (by kernel_rfl) (by refine ⟨?_, ?_, ?_⟩ <;> assumption) (fun hHeld => ?_)
              refine tq (i := 0) (d := 132) ?_
              simp only [sz, ss]
              refine tq (i := 1) (d := 133) ?_
              simp only [sz, ss]
              refine tq (i := 2) (d := 134) ?_
              simp only [sz, ss]
              refine tq (i := 3) (d := 135) ?_
              simp only [sz, ss]
              refine tq (i := 4) (d := 136) ?_
              simp only [sz, ss]
              refine tq (i := 5) (d := 137) ?_
              simp only [sz, ss]
              refine tq (i := 6) (d := 138) ?_
              simp only [sz, ss]
              refine tq (i := 7) (d := 139) ?_
              simp only [sz, ss]
              refine tq (i := 8) (d := 140) ?_
              simp only [sz, ss]
              refine tq (i := 9) (d := 141) ?_
              simp only [sz, ss]
              refine tq (i := 10) (d := 142) ?_
              simp only [sz, ss]
              refine tq (i := 11) (d := 143) ?_
              simp only [sz, ss]
              refine tq (i := 12) (d := 144) ?_
              simp only [sz, ss]
              refine wpAnyH_done (by kernel_rfl) ?_ _
              go_wp2_with fail
              go_ret
              exact ⟨ret_bool HF.out.symm, hbw8.drew⟩
      have HOs : Hid (objsF h none h.vObjs = true) := by show _ = _; rw [hrem.out, objsF_end hlt]
      clear hrem
      go_wp2_with fail
      go_loopw [8, 9, 10] (fun i z1 z2 wr => ∃ (j : Nat), j ≤ h.vNodes.length ∧ i = .int .i64 j ∧ Below (w.heap.size + 1) (w.alloc (.cells (List.toArray [.int .i64 h.vNext, .int .i64 h.vDoc, .slice a2 h.vNodes.length cap2, .slice a3 h.vObjs.length cap3, .slice a4 h.vGlobals.length cap4]) 43)) wr ∧ Hid (upsF h h.vNodes = upsF h (h.vNodes.drop j))) (fun i _ _ _ => h.vNodes.length - (intOf i).toNat)
      case atStart => exact ⟨0, by omega, rfl, hb, rfl⟩
      clear hb hbw hz hlt
      clear t0 t1 t2 t3 t4
      case round =>
        obtain ⟨j, hj, rfl, hb, hrem⟩ := hrel
        have hbw : Below w.heap.size w wr := hb0.trans (hb.mono (by omega))
        have bH := (bH0.out).below hb (by omega)
        have t0 := bH.cell 0 rfl
        have t1 := bH.cell 1 rfl
        have t2 := bH.cell 2 rfl
        have t3 := bH.cell 3 rfl
        have t4 := bH.cell 4 rfl
        have hz : w.heap.size + 1 ≤ wr.heap.size := by have := bH.lt; omega
        clear bH
        by_cases hlt : j < h.vNodes.length
        · obtain ⟨bn, offn, rfl, hlon, hbwn, hcn⟩ := hx2'.out (by omega)
          obtain ⟨csn, hcln, lien, hrn⟩ := hcn j hlt
          have lien1 := Lie.keep (lo := lo) (lo' := lo) lien (.of_below hbw) hlon hbwn
          have hstep := upsF_step (h := h) hlt
          have hsm : (nodeAt h h.vNodes[j].vId).isSome = true := getI_mem hlt
          generalize hX0 : h.vNodes[j] = X at hrn hstep hsm
          clear hX0
          obtain ⟨_, _, rfl, _⟩ := hrn
          have z0 := lie_at lien1 0 rfl
          simp only [Nat.add_zero] at z0
          have Hstep : Hid _ := hstep
          have Hsm : Hid _ := hsm
          have hj0 : (0 : Int) ≤ (j : Int) := by omega
          have hj1 : (j : Int) < (h.vNodes.length : Int) := by omega
          have hhX : Hid (HeapAt wr.drew lo _ h) := HeapAt_stays _ _ _ lo _ _ (.of_below hbw.drew) hh'.out
          clear hstep hsm lien lien1 hcln hcn
          cases hup : upF h h.vNodes.length X.vId
          · have HF : Hid (specB h = false) := by show _ = _; rw [specB, hrem.out, Hstep.out, hup]; simp
            have Hup : Hid _ := hup
            clear hup
            go_wp2_with fail
            refine wp_region_held_drew (S := fun w' => w'.cell? ⟨w.heap.size, 0, none⟩ = some (.int .i64 h.vNext) ∧ w'.cell? ⟨w.heap.size, 1, none⟩ = some (.int .i64 h.vDoc) ∧ w'.cell? ⟨w.heap.size, 2, none⟩ = some (.slice (some ⟨bn, offn, none⟩) h.vNodes.length cap2) ∧ w'.cell? ⟨w.heap.size, 3, none⟩ = some (.slice a3 h.vObjs.length cap3) ∧ w'.cell? ⟨w.heap.size, 4, none⟩ = some (.slice a4 h.vGlobals.length cap4) ∧ w'.cell? ⟨bn, offn + j * 6, none⟩ = some (.int .i64 X.vId)) (by kernel_rfl) (by refine ⟨?_, ?_, ?_, ?_, ?_, ?_⟩ <;> assumption) (fun hHeld => ?_)
            refine tq (i := 0) (d := 153) ?_
            simp only [sz, ss]
            refine tq (i := 1) (d := 154) ?_
            simp only [sz, ss]
            refine tq (i := 2) (d := 155) ?_
            simp only [sz, ss]
            refine tq (i := 3) (d := 156) ?_
            simp only [sz, ss]
            refine tq (i := 4) (d := 157) ?_
            simp only [sz, ss]
            refine tq (i := 5) (d := 158) ?_
            simp only [sz, ss]
            refine tq (i := 6) (d := 159) ?_
            simp only [sz, ss]
            refine wpAnyH_ready (rs := [7]) (by kernel_rfl) (by simp) ?_
            refine AllReadyH.cons rfl (fun K hK => ?_) AllReadyH.nil
            go_simp
            refine (l2Up_any (by exact hhX.out) hn16 hPT.out (fun _ => Hsm.out)).mono ?_
            rintro e w2 ⟨⟨v, rfl⟩, hb1⟩
            have hb4 := hb1
            rw [Hup.out]
            dsimp only
            refine hK.out _ _ ⟨cell_on hb1 hHeld.1, cell_on hb1 hHeld.2.1, cell_on hb1 hHeld.2.2.1, cell_on hb1 hHeld.2.2.2.1, cell_on hb1 hHeld.2.2.2.2.1, cell_on hb1 hHeld.2.2.2.2.2⟩ (fun hHeld => ?_)
            clear hK K
            refine tq (i := 8) (d := 152) ?_
            simp only [sz, ss]
            refine tq (i := 9) (d := 161) ?_
            simp only [sz, ss]
            refine tq (i := 10) (d := 162) ?_
            simp only [sz, ss]
            refine tq (i := 11) (d := 9) ?_
            simp only [sz, ss]
            refine tq (i := 12) (d := 10) ?_
            simp only [sz, ss]
            refine wpAnyH_done (by kernel_rfl) ?_ _
            have hb6 : Below (w.heap.size + 1) _ w2 := hb.drew.trans (hb4.mono hz)
            go_wp2_with fail
            go_ret
            exact ⟨ret_bool HF.out.symm, hb0.trans (hb6.mono (by omega))⟩
          · have HF : Hid (upsF h h.vNodes = upsF h (h.vNodes.drop (j + 1))) := by show _ = _; rw [hrem.out, Hstep.out, hup]; simp
            have Hup : Hid _ := hup
            clear hup
            go_wp2_with fail
            refine wp_region_held_drew (S := fun w' => w'.cell? ⟨w.heap.size, 0, none⟩ = some (.int .i64 h.vNext) ∧ w'.cell? ⟨w.heap.size, 1, none⟩ = some (.int .i64 h.vDoc) ∧ w'.cell? ⟨w.heap.size, 2, none⟩ = some (.slice (some ⟨bn, offn, none⟩) h.vNodes.length cap2) ∧ w'.cell? ⟨w.heap.size, 3, none⟩ = some (.slice a3 h.vObjs.length cap3) ∧ w'.cell? ⟨w.heap.size, 4, none⟩ = some (.slice a4 h.vGlobals.length cap4) ∧ w'.cell? ⟨bn, offn + j * 6, none⟩ = some (.int .i64 X.vId)) (by kernel_rfl) (by refine ⟨?_, ?_, ?_, ?_, ?_, ?_⟩ <;> assumption) (fun hHeld => ?_)
            refine tq (i := 0) (d := 153) ?_
            simp only [sz, ss]
            refine tq (i := 1) (d := 154) ?_
            simp only [sz, ss]
            refine tq (i := 2) (d := 155) ?_
            simp only [sz, ss]
            refine tq (i := 3) (d := 156) ?_
            simp only [sz, ss]
            refine tq (i := 4) (d := 157) ?_
            simp only [sz, ss]
            refine tq (i := 5) (d := 158) ?_
            simp only [sz, ss]
            refine tq (i := 6) (d := 159) ?_
            simp only [sz, ss]
            refine wpAnyH_ready (rs := [7]) (by kernel_rfl) (by simp) ?_
            refine AllReadyH.cons rfl (fun K hK => ?_) AllReadyH.nil
            go_simp
            refine (l2Up_any (by exact hhX.out) hn16 hPT.out (fun _ => Hsm.out)).mono ?_
            rintro e w2 ⟨⟨v, rfl⟩, hb1⟩
            have hb4 := hb1
            rw [Hup.out]
            dsimp only
            refine hK.out _ _ ⟨cell_on hb1 hHeld.1, cell_on hb1 hHeld.2.1, cell_on hb1 hHeld.2.2.1, cell_on hb1 hHeld.2.2.2.1, cell_on hb1 hHeld.2.2.2.2.1, cell_on hb1 hHeld.2.2.2.2.2⟩ (fun hHeld => ?_)
            clear hK K
            refine tq (i := 8) (d := 152) ?_
            simp only [sz, ss]
            refine tq (i := 9) (d := 161) ?_
            simp only [sz, ss]
            refine tq (i := 10) (d := 162) ?_
            simp only [sz, ss]
            refine tq (i := 11) (d := 9) ?_
            simp only [sz, ss]
            refine tq (i := 12) (d := 10) ?_
            simp only [sz, ss]
            refine wpAnyH_done (by kernel_rfl) ?_ _
            have hb6 : Below (w.heap.size + 1) _ w2 := hb.drew.trans (hb4.mono hz)
            go_wp2_with fail
            go_roundw
            case rel => exact ⟨j + 1, by omega, by go_num, hb6, HF⟩
            case measure => simp [intOf]; omega
        have HUs : Hid (upsF h h.vNodes = true) := by show _ = _; rw [hrem.out, upsF_end hlt]
        clear hrem
        have HB : Hid (specB h = docB h) := by show _ = _; rw [specB, Hin.out, Hfl.out, HNs.out, HOs.out, HUs.out]; simp [hn16, ho16]
        have hhD : Hid (HeapAt wr lo _ h) := HeapAt_stays _ _ _ lo _ _ (.of_below hbw) hh'.out
        rcases idxN_is h h.vDoc with ⟨hidx, hat⟩ | ⟨i', hi', hidx, _, hat⟩
        · have HF : Hid (specB h = false) := by show _ = _; rw [HB.out]; simp [docB, hat]
          clear hat
          go_wp2_with fail
          refine (l2Node_any hhD.out).mono ?_
          rintro e w2 ⟨rfl, hb2⟩
          rw [hidx]
          have hb3 : Below w.heap.size w w2 := hbw.trans (hb2.mono hbw.size)
          clear hidx
          go_wp2_with fail
          go_ret
          exact ⟨ret_bool HF.out.symm, hb3⟩
        by_cases hpz : h.vNodes[i'].vParent = 0
        · have HF : Hid (specB h = true) := by show _ = _; rw [HB.out]; simp [docB, hat, hpz]
          clear hat
          go_wp2_with fail
          refine (l2Node_any hhD.out).mono ?_
          rintro e w2 ⟨rfl, hb2⟩
          rw [hidx]
          have hb3 : Below w.heap.size w w2 := hbw.trans (hb2.mono hbw.size)
          have r2 := cell_on hb2 t2
          clear hidx t2
          obtain ⟨bn, offn, rfl, hlon, hbwn, hcn⟩ := hx2'.out (by omega)
          obtain ⟨csn, hcln, lien, hrn⟩ := hcn i' hi'
          have lien1 := Lie.keep (lo := lo) (lo' := lo) lien (.of_below hb3) hlon hbwn
          generalize hX0 : h.vNodes[i'] = X at hrn hpz
          clear hX0
          obtain ⟨_, _, rfl, _⟩ := hrn
          have z2 := lie_at lien1 2 rfl
          have hj0 : (0 : Int) ≤ (i' : Int) := by omega
          have hj1 : (i' : Int) < (h.vNodes.length : Int) := by omega
          have hpz2 : (X.vParent == 0) = true := by simpa using hpz
          clear lien lien1 hcln hcn hpz
          go_wp2_with fail
          go_ret
          exact ⟨ret_bool HF.out.symm, hb3⟩
        · have HF : Hid (specB h = false) := by show _ = _; rw [HB.out]; simp [docB, hat, hpz]
          clear hat
          go_wp2_with fail
          refine (l2Node_any hhD.out).mono ?_
          rintro e w2 ⟨rfl, hb2⟩
          rw [hidx]
          have hb3 : Below w.heap.size w w2 := hbw.trans (hb2.mono hbw.size)
          have r2 := cell_on hb2 t2
          clear hidx t2
          obtain ⟨bn, offn, rfl, hlon, hbwn, hcn⟩ := hx2'.out (by omega)
          obtain ⟨csn, hcln, lien, hrn⟩ := hcn i' hi'
          have lien1 := Lie.keep (lo := lo) (lo' := lo) lien (.of_below hb3) hlon hbwn
          generalize hX0 : h.vNodes[i'] = X at hrn hpz
          clear hX0
          obtain ⟨_, _, rfl, _⟩ := hrn
          have z2 := lie_at lien1 2 rfl
          have hj0 : (0 : Int) ≤ (i' : Int) := by omega
          have hj1 : (i' : Int) < (h.vNodes.length : Int) := by omega
          have hpz2 : (X.vParent == 0) = false := by simpa using hpz
          clear lien lien1 hcln hcn hpz
          go_wp2_with fail
          go_ret
          exact ⟨ret_bool HF.out.symm, hb3⟩
end Go.Proofs.Ytbodeijffpepfaa
