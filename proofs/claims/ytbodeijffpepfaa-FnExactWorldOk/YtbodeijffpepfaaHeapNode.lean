/- l2NodeOk of the specification, walked. -/
import Derived.Test.YtbodeijffpepfaaHeapFields
namespace Go.Proofs.Ytbodeijffpepfaa
open Go.RowKit
set_option maxHeartbeats 8000000 in
theorem l2NodeOk_any {w : World} {lo : Nat} {cs cs2 : List Value} {h : HeapD} {x : NodeD} (hh : HeapAt w lo cs h) (hx : NodeAt w lo cs2 x) :
    Calls Try.prog 25 #[.agg cs.toArray, .agg cs2.toArray] w fun e w' => e = .returned (.bool (nodeB h x)) ∧ Below w.heap.size w w' := by
  have hh' : Hid (HeapAt w lo cs h) := hh
  have hx' : Hid (NodeAt w lo cs2 x) := hx
  obtain ⟨k2, k3, k4, rfl, s2, s3, s4, rNext, rDoc, _⟩ := hh
  obtain ⟨q3, q5, rfl, u3, u5, rId, rTag, rParent, rWrapper, _⟩ := hx
  have s2' : Hid (SeqAt 6 NodeAt w lo k2 h.vNodes) := s2
  have s3' : Hid (SeqAt 3 ObjAt w lo k3 h.vObjs) := s3
  obtain ⟨a2, cap2, rfl, hm2, hx2⟩ := s2
  obtain ⟨a3, cap3, rfl, hm3, hx3⟩ := s3
  have u3' : Hid (SeqAt 1 IntAt w lo q3 x.vKids) := u3
  obtain ⟨b3, d3, rfl, hm4, hx4⟩ := u3
  obtain ⟨b5, d5, rfl, hm5, hx5⟩ := u5
  unfold maxLen at hm2 hm3 hm4 hm5
  have hx2' : Hid _ := hx2
  have hx3' : Hid _ := hx3
  have hx4' : Hid _ := hx4
  have hx5' : Hid _ := hx5
  have rTag' : Hid _ := rTag
  clear hx2 hx3 hx4 hx5 s4 rNext rDoc rId rParent rWrapper rTag
  have hb0 : Below w.heap.size w ((w.alloc (.cells (List.toArray [.int .i64 h.vNext, .int .i64 h.vDoc, .slice a2 h.vNodes.length cap2, .slice a3 h.vObjs.length cap3, k4]) 43)).alloc (.cells (List.toArray [.int .i64 x.vId, .string x.vTag, .int .i64 x.vParent, .slice b3 x.vKids.length d3, .int .i64 x.vWrapper, .slice b5 x.vListeners.length d5]) 69)) := ((Below.refl _ _).alloc (Nat.le_refl _) _).alloc (by simp) _
  have bH0 : Hid (Box ((w.alloc (.cells (List.toArray [.int .i64 h.vNext, .int .i64 h.vDoc, .slice a2 h.vNodes.length cap2, .slice a3 h.vObjs.length cap3, k4]) 43)).alloc (.cells (List.toArray [.int .i64 x.vId, .string x.vTag, .int .i64 x.vParent, .slice b3 x.vKids.length d3, .int .i64 x.vWrapper, .slice b5 x.vListeners.length d5]) 69)) w.heap.size [.int .i64 h.vNext, .int .i64 h.vDoc, .slice a2 h.vNodes.length cap2, .slice a3 h.vObjs.length cap3, k4] 43) := (Box.new w _ _).alloc _
  have bN0 : Hid (Box ((w.alloc (.cells (List.toArray [.int .i64 h.vNext, .int .i64 h.vDoc, .slice a2 h.vNodes.length cap2, .slice a3 h.vObjs.length cap3, k4]) 43)).alloc (.cells (List.toArray [.int .i64 x.vId, .string x.vTag, .int .i64 x.vParent, .slice b3 x.vKids.length d3, .int .i64 x.vWrapper, .slice b5 x.vListeners.length d5]) 69)) (w.heap.size + 1) [.int .i64 x.vId, .string x.vTag, .int .i64 x.vParent, .slice b3 x.vKids.length d3, .int .i64 x.vWrapper, .slice b5 x.vListeners.length d5] 69) := by have := Box.new (w.alloc (.cells (List.toArray [.int .i64 h.vNext, .int .i64 h.vDoc, .slice a2 h.vNodes.length cap2, .slice a3 h.vObjs.length cap3, k4]) 43)) [.int .i64 x.vId, .string x.vTag, .int .i64 x.vParent, .slice b3 x.vKids.length d3, .int .i64 x.vWrapper, .slice b5 x.vListeners.length d5] 69; simpa [Hid] using this
  go_enter Try.func25, Try.ntmps25
  go_wp2_with fail
  refine (specNameOk_any _ _ rTag'.out).mono ?_
  rintro e w1 ⟨rfl, rfl⟩
  cases hn : nmB x.vTag
  · have HF : Hid (nodeB h x = false) := by show _ = _; simp [nodeB, hn]
    unfold nmB at hn
    rw [hn]
    go_wp2_with fail
    go_ret
    exact ⟨ret_bool HF.out.symm, hb0⟩
  have Hn : Hid (nmB x.vTag = true) := hn
  unfold nmB at hn
  rw [hn]
  clear hn
  by_cases hl4 : x.vListeners.length ≤ 4
  rotate_left
  · have HF : Hid (nodeB h x = false) := by show _ = _; simp [nodeB, hl4]
    have hl5 : (4 : Int) < (x.vListeners.length : Int) := by omega
    go_wp2_with fail
    go_ret
    exact ⟨ret_bool HF.out.symm, hb0⟩
  have hl5 : ¬ (4 : Int) < (x.vListeners.length : Int) := by omega
  go_wp2_with fail
  go_loopw [5] (fun i wr => ∃ (j : Nat), j ≤ x.vListeners.length ∧ i = .int .i64 j ∧ Below (w.heap.size + 2) ((w.alloc (.cells (List.toArray [.int .i64 h.vNext, .int .i64 h.vDoc, .slice a2 h.vNodes.length cap2, .slice a3 h.vObjs.length cap3, k4]) 43)).alloc (.cells (List.toArray [.int .i64 x.vId, .string x.vTag, .int .i64 x.vParent, .slice b3 x.vKids.length d3, .int .i64 x.vWrapper, .slice b5 x.vListeners.length d5]) 69)) wr ∧ Hid (lissB x.vListeners = lissB (x.vListeners.drop j))) (fun i _ => x.vListeners.length - (intOf i).toNat)
  case atStart => exact ⟨0, by omega, rfl, Below.refl _ _, rfl⟩
  case round =>
    obtain ⟨j, hj, rfl, hb, hrem⟩ := hrel
    have hbw : Below w.heap.size w wr := hb0.trans (hb.mono (by omega))
    have bH := (bH0.out).below hb (by omega)
    have bN := (bN0.out).below hb (by omega)
    have t0 := bH.cell 0 rfl
    have t1 := bH.cell 1 rfl
    have t2 := bH.cell 2 rfl
    have t3 := bH.cell 3 rfl
    have t4 := bH.cell 4 rfl
    have n0 := bN.cell 0 rfl
    have n1 := bN.cell 1 rfl
    have n2 := bN.cell 2 rfl
    have n3 := bN.cell 3 rfl
    have n4 := bN.cell 4 rfl
    have n5 := bN.cell 5 rfl
    have hz : w.heap.size + 2 ≤ wr.heap.size := by have := bN.lt; omega
    clear bH bN
    by_cases hlt : j < x.vListeners.length
    · obtain ⟨b, off, rfl, hlo, hbw2, hc⟩ := hx5'.out (by omega)
      obtain ⟨cs, hcl, lie, hr⟩ := hc j hlt
      have lie1 := Lie.keep (lo := lo) (lo' := lo) lie (.of_below hbw) hlo hbw2
      have hr2 := ListenerAt_stays _ _ _ lo _ _ (.of_below hbw) hr
      generalize hX0 : x.vListeners[j] = X at hr2
      have hX : Hid _ := hX0
      have hr3 : Hid (ListenerAt wr lo cs X) := hr2
      obtain ⟨rfl, _⟩ := hr2
      have z0 := lie_at lie1 0 rfl
      have z1 := lie_at lie1 1 rfl
      have z2 := lie_at lie1 2 rfl
      have z3 := lie_at lie1 3 rfl
      have z4 := lie_at lie1 4 rfl
      simp only [Nat.add_zero] at z0
      clear lie lie1 hcl hc hr hX0 hx5'
      go_wp2_with fail
      refine (l2Listener_any hr3.out).mono ?_
      rintro e w2 ⟨rfl, hb2⟩
      have hb3 : Below (w.heap.size + 2) _ w2 := hb.trans (hb2.mono hz)
      cases hq : lisB X
      · have HF : Hid (nodeB h x = false) := by show _ = _; rw [nodeB, hrem.out, lissB_no hlt (by rw [hX.out]; exact hq)]; simp
        clear hq
        go_wp2_with fail
        go_ret
        exact ⟨ret_bool HF.out.symm, hb0.trans (hb3.mono (by omega))⟩
      · have HO : Hid _ := lissB_on hlt (by rw [hX.out]; exact hq)
        clear hq
        go_wp2_with fail
        go_roundw
        case rel => exact ⟨j + 1, by omega, by go_num, hb3, by show _ = _; rw [hrem.out, HO.out]⟩
        case measure => simp [intOf]; omega
    have HL : Hid (lissB x.vListeners = true) := by show _ = _; rw [hrem.out, lissB_end hlt]
    clear hrem hx5'
    go_wp2_with fail
    go_loopw [6, 7] (fun i z wr => ∃ (j : Nat), j ≤ x.vKids.length ∧ i = .int .i64 j ∧ Below (w.heap.size + 2) ((w.alloc (.cells (List.toArray [.int .i64 h.vNext, .int .i64 h.vDoc, .slice a2 h.vNodes.length cap2, .slice a3 h.vObjs.length cap3, k4]) 43)).alloc (.cells (List.toArray [.int .i64 x.vId, .string x.vTag, .int .i64 x.vParent, .slice b3 x.vKids.length d3, .int .i64 x.vWrapper, .slice b5 x.vListeners.length d5]) 69)) wr ∧ Hid (kidsB h x = kidsF h x.vId (x.vKids.take j) (x.vKids.drop j))) (fun i _ _ => x.vKids.length - (intOf i).toNat)
    case atStart => exact ⟨0, by omega, rfl, hb, rfl⟩
    clear t0 t1 t2 t3 t4 n0 n1 n2 n3 n4 n5
    case round =>
      obtain ⟨j2, hj2, rfl, hb1, hrem⟩ := hrel
      have hbwa : Below w.heap.size w wr := hb0.trans (hb1.mono (by omega))
      have bHa := (bH0.out).below hb1 (by omega)
      have bNa := (bN0.out).below hb1 (by omega)
      have t0a := bHa.cell 0 rfl
      have t1a := bHa.cell 1 rfl
      have t2a := bHa.cell 2 rfl
      have t3a := bHa.cell 3 rfl
      have t4a := bHa.cell 4 rfl
      have n0a := bNa.cell 0 rfl
      have n1a := bNa.cell 1 rfl
      have n2a := bNa.cell 2 rfl
      have n3a := bNa.cell 3 rfl
      have n4a := bNa.cell 4 rfl
      have n5a := bNa.cell 5 rfl
      have hza : w.heap.size + 2 ≤ wr.heap.size := by have := bNa.lt; omega
      clear bHa bNa
      by_cases hlt2 : j2 < x.vKids.length
      · obtain ⟨b, off, rfl, hlo, hbwk, hc⟩ := hx4'.out (by omega)
        obtain ⟨cs, hcl, lie, hr⟩ := hc j2 hlt2
        have lie1 := Lie.keep (lo := lo) (lo' := lo) lie (.of_below hbwa) hlo hbwk
        generalize hK0 : x.vKids[j2] = K at hr
        have hK1 : Hid _ := hK0
        obtain ⟨rfl, hKI⟩ := hr
        have z0 := lie_at lie1 0 rfl
        simp only [Nat.add_zero, Nat.mul_one] at z0
        have hj3 : (0 : Int) ≤ (j2 : Int) := by omega
        have hj4 : (j2 : Int) < (x.vKids.length : Int) := by omega
        have hj5 : (j2 : Int) ≤ (d3 : Int) := by omega
        clear lie lie1 hcl hc hK0
        have hhd : Hid (HeapAt wr.drew lo _ h) := HeapAt_stays _ _ _ lo _ _ (.of_below hbwa.drew) hh'.out
        have hbq := hb1
        have hzq := hza
        rcases idxN_is h K with ⟨hidx, hat⟩ | ⟨i', hi', hidx, _, hat⟩
        · have HF : Hid (nodeB h x = false) := by show _ = _; rw [nodeB, hrem.out, kidsF_no hlt2 (by rw [hK1.out]; simp [kidB, hat])]; simp
          clear hat
          go_wp2_with fail
          refine wp_region_held_drew (S := fun w' => w'.cell? ⟨w.heap.size, 0, none⟩ = some (.int .i64 h.vNext) ∧ w'.cell? ⟨w.heap.size, 1, none⟩ = some (.int .i64 h.vDoc) ∧ w'.cell? ⟨w.heap.size, 2, none⟩ = some (.slice a2 h.vNodes.length cap2) ∧ w'.cell? ⟨w.heap.size, 3, none⟩ = some (.slice a3 h.vObjs.length cap3) ∧ w'.cell? ⟨w.heap.size, 4, none⟩ = some (k4) ∧ w'.cell? ⟨w.heap.size + 1, 3, none⟩ = some (.slice (some ⟨b, off, none⟩) x.vKids.length d3) ∧ w'.cell? ⟨b, off + j2, none⟩ = some (.int .i64 K)) (by kernel_rfl) (by refine ⟨?_, ?_, ?_, ?_, ?_, ?_, ?_⟩ <;> assumption) (fun hHeld => ?_)
          refine tq (i := 0) (d := 41) ?_
          simp only [sz, ss]
          refine tq (i := 1) (d := 42) ?_
          simp only [sz, ss]
          refine tq (i := 2) (d := 43) ?_
          simp only [sz, ss]
          refine tq (i := 3) (d := 44) ?_
          simp only [sz, ss]
          refine tq (i := 4) (d := 45) ?_
          simp only [sz, ss]
          refine tq (i := 5) (d := 46) ?_
          simp only [sz, ss]
          refine wpAnyH_ready (rs := [6]) (by kernel_rfl) (by simp) ?_
          refine AllReadyH.cons rfl (fun K hK => ?_) AllReadyH.nil
          go_simp
          refine (l2Node_any (by exact hhd.out)).mono ?_
          rintro e w2 ⟨rfl, hb1'⟩
          have hb1 := hb1'
          have hb3 : Below (w.heap.size + 2) _ w2 := hbq.drew.trans (hb1.mono hzq)
          rw [hidx]
          dsimp only
          refine hK.out _ _ ⟨cell_on hb1 hHeld.1, cell_on hb1 hHeld.2.1, cell_on hb1 hHeld.2.2.1, cell_on hb1 hHeld.2.2.2.1, cell_on hb1 hHeld.2.2.2.2.1, cell_on hb1 hHeld.2.2.2.2.2.1, cell_on hb1 hHeld.2.2.2.2.2.2⟩ (fun hHeld => ?_)
          clear hK K
          refine tq (i := 7) (d := 7) ?_
          simp only [sz, ss]
          refine wpAnyH_done (by kernel_rfl) ?_ _
          clear hb1 hidx
          clear t0a t1a t2a t3a t4a n0a n1a n2a n3a n4a n5a
          have hbwb : Below w.heap.size w w2 := hb0.trans (hb3.mono (by omega))
          have bHb := (bH0.out).below hb3 (by omega)
          have bNb := (bN0.out).below hb3 (by omega)
          have t0b := bHb.cell 0 rfl
          have t1b := bHb.cell 1 rfl
          have t2b := bHb.cell 2 rfl
          have t3b := bHb.cell 3 rfl
          have t4b := bHb.cell 4 rfl
          have n0b := bNb.cell 0 rfl
          have n1b := bNb.cell 1 rfl
          have n2b := bNb.cell 2 rfl
          have n3b := bNb.cell 3 rfl
          have n4b := bNb.cell 4 rfl
          have n5b := bNb.cell 5 rfl
          have hzb : w.heap.size + 2 ≤ w2.heap.size := by have := bNb.lt; omega
          clear bHb bNb
          have zz := cell_on hb1' z0
          clear z0
          go_wp2_with fail
          refine wp_region_held_drew (S := fun w' => w'.cell? ⟨w.heap.size, 2, none⟩ = some (.slice a2 h.vNodes.length cap2) ∧ w'.cell? ⟨w.heap.size + 1, 0, none⟩ = some (.int .i64 x.vId) ∧ w'.cell? ⟨w.heap.size + 1, 3, none⟩ = some (.slice (some ⟨b, off, none⟩) x.vKids.length d3) ∧ w'.cell? ⟨b, off + j2, none⟩ = some (.int .i64 K)) (by kernel_rfl) (by refine ⟨?_, ?_, ?_, ?_⟩ <;> assumption) (fun hHeld => ?_)
          refine tq (i := 0) (d := 48) ?_
          simp only [sz, ss]
          refine tq (i := 1) (d := 49) ?_
          simp only [sz, ss]
          refine tq (i := 2) (d := 50) ?_
          simp only [sz, ss]
          refine tn (i := 3) (d := 51) ?_
          simp only [sz, ss]
          refine tn (i := 4) (d := 52) ?_
          simp only [sz, ss]
          refine tn (i := 5) (d := 53) ?_
          simp only [sz, ss]
          refine tn (i := 6) (d := 54) ?_
          simp only [sz, ss]
          refine tn (i := 7) (d := 55) ?_
          simp only [sz, ss]
          refine tn (i := 8) (d := 56) ?_
          simp only [sz, ss]
          refine tn (i := 9) (d := 57) ?_
          simp only [sz, ss]
          refine tn (i := 10) (d := 58) ?_
          simp only [sz, ss]
          refine tn (i := 11) (d := 59) ?_
          simp only [sz, ss]
          refine tq (i := 12) (d := 60) ?_
          simp only [sz, ss]
          refine tq (i := 13) (d := 61) ?_
          simp only [sz, ss]
          refine tn (i := 14) (d := 62) ?_
          simp only [sz, ss]
          refine tn (i := 15) (d := 63) ?_
          simp only [sz, ss]
          refine tn (i := 16) (d := 64) ?_
          simp only [sz, ss]
          refine tn (i := 17) (d := 65) ?_
          simp only [sz, ss]
          refine tn (i := 18) (d := 66) ?_
          simp only [sz, ss]
          refine tn (i := 19) (d := 67) ?_
          simp only [sz, ss]
          refine tn (i := 20) (d := 68) ?_
          simp only [sz, ss]
          refine tn (i := 21) (d := 69) ?_
          simp only [sz, ss]
          refine tn (i := 22) (d := 70) ?_
          simp only [sz, ss]
          refine tn (i := 23) (d := 71) ?_
          simp only [sz, ss]
          refine tq (i := 24) (d := 72) ?_
          simp only [sz, ss]
          refine wpAnyH_done (by kernel_rfl) ?_ _
          go_wp2_with fail
          go_ret
          exact ⟨ret_bool (by exact HF.out.symm), hbwb.drew⟩
        have hat0 : Hid _ := hat
        by_cases hpar : h.vNodes[i'].vParent = x.vId
        rotate_left
        · have HF : Hid (nodeB h x = false) := by show _ = _; rw [nodeB, hrem.out, kidsF_no hlt2 (by rw [hK1.out]; simp [kidB, hat, hpar])]; simp
          go_wp2_with fail
          refine wp_region_held_drew (S := fun w' => w'.cell? ⟨w.heap.size, 0, none⟩ = some (.int .i64 h.vNext) ∧ w'.cell? ⟨w.heap.size, 1, none⟩ = some (.int .i64 h.vDoc) ∧ w'.cell? ⟨w.heap.size, 2, none⟩ = some (.slice a2 h.vNodes.length cap2) ∧ w'.cell? ⟨w.heap.size, 3, none⟩ = some (.slice a3 h.vObjs.length cap3) ∧ w'.cell? ⟨w.heap.size, 4, none⟩ = some (k4) ∧ w'.cell? ⟨w.heap.size + 1, 3, none⟩ = some (.slice (some ⟨b, off, none⟩) x.vKids.length d3) ∧ w'.cell? ⟨b, off + j2, none⟩ = some (.int .i64 K)) (by kernel_rfl) (by refine ⟨?_, ?_, ?_, ?_, ?_, ?_, ?_⟩ <;> assumption) (fun hHeld => ?_)
          refine tq (i := 0) (d := 41) ?_
          simp only [sz, ss]
          refine tq (i := 1) (d := 42) ?_
          simp only [sz, ss]
          refine tq (i := 2) (d := 43) ?_
          simp only [sz, ss]
          refine tq (i := 3) (d := 44) ?_
          simp only [sz, ss]
          refine tq (i := 4) (d := 45) ?_
          simp only [sz, ss]
          refine tq (i := 5) (d := 46) ?_
          simp only [sz, ss]
          refine wpAnyH_ready (rs := [6]) (by kernel_rfl) (by simp) ?_
          refine AllReadyH.cons rfl (fun K hK => ?_) AllReadyH.nil
          go_simp
          refine (l2Node_any (by exact hhd.out)).mono ?_
          rintro e w2 ⟨rfl, hb1'⟩
          have hb1 := hb1'
          have hb3 : Below (w.heap.size + 2) _ w2 := hbq.drew.trans (hb1.mono hzq)
          rw [hidx]
          dsimp only
          refine hK.out _ _ ⟨cell_on hb1 hHeld.1, cell_on hb1 hHeld.2.1, cell_on hb1 hHeld.2.2.1, cell_on hb1 hHeld.2.2.2.1, cell_on hb1 hHeld.2.2.2.2.1, cell_on hb1 hHeld.2.2.2.2.2.1, cell_on hb1 hHeld.2.2.2.2.2.2⟩ (fun hHeld => ?_)
          clear hK K
          refine tq (i := 7) (d := 7) ?_
          simp only [sz, ss]
          refine wpAnyH_done (by kernel_rfl) ?_ _
          clear hb1 hidx
          clear t0a t1a t2a t3a t4a n0a n1a n2a n3a n4a n5a
          have hbwb : Below w.heap.size w w2 := hb0.trans (hb3.mono (by omega))
          have bHb := (bH0.out).below hb3 (by omega)
          have bNb := (bN0.out).below hb3 (by omega)
          have t0b := bHb.cell 0 rfl
          have t1b := bHb.cell 1 rfl
          have t2b := bHb.cell 2 rfl
          have t3b := bHb.cell 3 rfl
          have t4b := bHb.cell 4 rfl
          have n0b := bNb.cell 0 rfl
          have n1b := bNb.cell 1 rfl
          have n2b := bNb.cell 2 rfl
          have n3b := bNb.cell 3 rfl
          have n4b := bNb.cell 4 rfl
          have n5b := bNb.cell 5 rfl
          have hzb : w.heap.size + 2 ≤ w2.heap.size := by have := bNb.lt; omega
          clear bHb bNb
          obtain ⟨bn, offn, rfl, hlon, hbwn, hcn⟩ := hx2'.out (by omega)
          obtain ⟨csn, hcln, lien, hrn⟩ := hcn i' hi'
          have lien1 := Lie.keep (lo := lo) (lo' := lo) lien (.of_below hbwb) hlon hbwn
          generalize hP0 : h.vNodes[i'] = PN at hrn hpar
          clear hP0
          obtain ⟨g3, g5, rfl, v3, v5, _⟩ := hrn
          have y2 := lie_at lien1 2 rfl
          have hin : (0 : Int) ≤ (i' : Int) := by omega
          have hin2 : (i' : Int) < (h.vNodes.length : Int) := by omega
          clear lien lien1 hcln hcn
          have zz := cell_on hb1' z0
          have hpar2 : (PN.vParent != x.vId) = true := by simpa using hpar
          clear z0 hpar hat
          go_wp2_with fail
          refine wp_region_held_drew (S := fun w' => w'.cell? ⟨w.heap.size, 2, none⟩ = some (.slice (some ⟨bn, offn, none⟩) h.vNodes.length cap2) ∧ w'.cell? ⟨bn, offn + i' * 6 + 2, none⟩ = some (.int .i64 PN.vParent) ∧ w'.cell? ⟨w.heap.size + 1, 0, none⟩ = some (.int .i64 x.vId) ∧ w'.cell? ⟨w.heap.size + 1, 3, none⟩ = some (.slice (some ⟨b, off, none⟩) x.vKids.length d3) ∧ w'.cell? ⟨b, off + j2, none⟩ = some (.int .i64 K)) (by kernel_rfl) (by refine ⟨?_, ?_, ?_, ?_, ?_⟩ <;> assumption) (fun hHeld => ?_)
          refine tq (i := 0) (d := 48) ?_
          simp only [sz, ss]
          refine tq (i := 1) (d := 49) ?_
          simp only [sz, ss]
          refine tq (i := 2) (d := 50) ?_
          simp only [sz, ss]
          refine tq (i := 3) (d := 51) ?_
          simp only [sz, ss]
          refine tq (i := 4) (d := 52) ?_
          simp only [sz, ss]
          refine tq (i := 5) (d := 53) ?_
          simp only [sz, ss]
          refine tq (i := 6) (d := 54) ?_
          simp only [sz, ss]
          refine tq (i := 7) (d := 55) ?_
          simp only [sz, ss]
          refine tq (i := 8) (d := 56) ?_
          simp only [sz, ss]
          refine tq (i := 9) (d := 57) ?_
          simp only [sz, ss]
          refine tq (i := 10) (d := 58) ?_
          simp only [sz, ss]
          refine tq (i := 11) (d := 59) ?_
          simp only [sz, ss]
          refine tq (i := 12) (d := 60) ?_
          simp only [sz, ss]
          refine tq (i := 13) (d := 61) ?_
          simp only [sz, ss]
          refine tn (i := 14) (d := 62) ?_
          simp only [sz, ss]
          refine tn (i := 15) (d := 63) ?_
          simp only [sz, ss]
          refine tn (i := 16) (d := 64) ?_
          simp only [sz, ss]
          refine tn (i := 17) (d := 65) ?_
          simp only [sz, ss]
          refine tn (i := 18) (d := 66) ?_
          simp only [sz, ss]
          refine tn (i := 19) (d := 67) ?_
          simp only [sz, ss]
          refine tn (i := 20) (d := 68) ?_
          simp only [sz, ss]
          refine tn (i := 21) (d := 69) ?_
          simp only [sz, ss]
          refine tn (i := 22) (d := 70) ?_
          simp only [sz, ss]
          refine tn (i := 23) (d := 71) ?_
          simp only [sz, ss]
          refine tq (i := 24) (d := 72) ?_
          simp only [sz, ss]
          refine wpAnyH_done (by kernel_rfl) ?_ _
          go_wp2_with fail
          go_ret
          exact ⟨ret_bool (by exact HF.out.symm), hbwb.drew⟩
        cases hhas : hasB (x.vKids.take j2) K
        · have HF : Hid _ := kidsF_on (h := h) (id := x.vId) hlt2 (by rw [hK1.out]; simp [kidB, hat, hpar, hhas])
          have Hhas : Hid _ := hhas
          clear hhas
          go_wp2_with fail
          refine wp_region_held_drew (S := fun w' => w'.cell? ⟨w.heap.size, 0, none⟩ = some (.int .i64 h.vNext) ∧ w'.cell? ⟨w.heap.size, 1, none⟩ = some (.int .i64 h.vDoc) ∧ w'.cell? ⟨w.heap.size, 2, none⟩ = some (.slice a2 h.vNodes.length cap2) ∧ w'.cell? ⟨w.heap.size, 3, none⟩ = some (.slice a3 h.vObjs.length cap3) ∧ w'.cell? ⟨w.heap.size, 4, none⟩ = some (k4) ∧ w'.cell? ⟨w.heap.size + 1, 3, none⟩ = some (.slice (some ⟨b, off, none⟩) x.vKids.length d3) ∧ w'.cell? ⟨b, off + j2, none⟩ = some (.int .i64 K)) (by kernel_rfl) (by refine ⟨?_, ?_, ?_, ?_, ?_, ?_, ?_⟩ <;> assumption) (fun hHeld => ?_)
          refine tq (i := 0) (d := 41) ?_
          simp only [sz, ss]
          refine tq (i := 1) (d := 42) ?_
          simp only [sz, ss]
          refine tq (i := 2) (d := 43) ?_
          simp only [sz, ss]
          refine tq (i := 3) (d := 44) ?_
          simp only [sz, ss]
          refine tq (i := 4) (d := 45) ?_
          simp only [sz, ss]
          refine tq (i := 5) (d := 46) ?_
          simp only [sz, ss]
          refine wpAnyH_ready (rs := [6]) (by kernel_rfl) (by simp) ?_
          refine AllReadyH.cons rfl (fun K hK => ?_) AllReadyH.nil
          go_simp
          refine (l2Node_any (by exact hhd.out)).mono ?_
          rintro e w2 ⟨rfl, hb1'⟩
          have hb1 := hb1'
          have hb3 : Below (w.heap.size + 2) _ w2 := hbq.drew.trans (hb1.mono hzq)
          rw [hidx]
          dsimp only
          refine hK.out _ _ ⟨cell_on hb1 hHeld.1, cell_on hb1 hHeld.2.1, cell_on hb1 hHeld.2.2.1, cell_on hb1 hHeld.2.2.2.1, cell_on hb1 hHeld.2.2.2.2.1, cell_on hb1 hHeld.2.2.2.2.2.1, cell_on hb1 hHeld.2.2.2.2.2.2⟩ (fun hHeld => ?_)
          clear hK K
          refine tq (i := 7) (d := 7) ?_
          simp only [sz, ss]
          refine wpAnyH_done (by kernel_rfl) ?_ _
          clear hb1 hidx
          clear t0a t1a t2a t3a t4a n0a n1a n2a n3a n4a n5a
          have hbwb : Below w.heap.size w w2 := hb0.trans (hb3.mono (by omega))
          have bHb := (bH0.out).below hb3 (by omega)
          have bNb := (bN0.out).below hb3 (by omega)
          have t0b := bHb.cell 0 rfl
          have t1b := bHb.cell 1 rfl
          have t2b := bHb.cell 2 rfl
          have t3b := bHb.cell 3 rfl
          have t4b := bHb.cell 4 rfl
          have n0b := bNb.cell 0 rfl
          have n1b := bNb.cell 1 rfl
          have n2b := bNb.cell 2 rfl
          have n3b := bNb.cell 3 rfl
          have n4b := bNb.cell 4 rfl
          have n5b := bNb.cell 5 rfl
          have hzb : w.heap.size + 2 ≤ w2.heap.size := by have := bNb.lt; omega
          clear bHb bNb
          obtain ⟨bn, offn, rfl, hlon, hbwn, hcn⟩ := hx2'.out (by omega)
          obtain ⟨csn, hcln, lien, hrn⟩ := hcn i' hi'
          have lien1 := Lie.keep (lo := lo) (lo' := lo) lien (.of_below hbwb) hlon hbwn
          generalize hP0 : h.vNodes[i'] = PN at hrn hpar
          clear hP0
          obtain ⟨g3, g5, rfl, v3, v5, _⟩ := hrn
          have y2 := lie_at lien1 2 rfl
          have hin : (0 : Int) ≤ (i' : Int) := by omega
          have hin2 : (i' : Int) < (h.vNodes.length : Int) := by omega
          clear lien lien1 hcln hcn
          have zz := cell_on hb1' z0
          have hpar2 : (PN.vParent == x.vId) = true := by simpa using hpar
          rw [hpar] at y2
          clear z0 hpar hat hpar2
          have hHas : ∀ W : World, Below w.heap.size w W → Calls Try.prog 42 #[.slice (some ⟨b, off, none⟩) j2 d3, .int .i64 K] W fun e w' => e = .returned (.bool false) ∧ w' = W := fun W hW => by have := l2Has_any (id := K) ((u3'.out.below intAt_stays hW).take j2 (by omega)); rw [Hhas.out] at this; exact this
          go_wp2_with fail
          refine wp_region_held_drew (S := fun w' => w'.cell? ⟨w.heap.size, 2, none⟩ = some (.slice (some ⟨bn, offn, none⟩) h.vNodes.length cap2) ∧ w'.cell? ⟨bn, offn + i' * 6 + 2, none⟩ = some (.int .i64 x.vId) ∧ w'.cell? ⟨w.heap.size + 1, 0, none⟩ = some (.int .i64 x.vId) ∧ w'.cell? ⟨w.heap.size + 1, 3, none⟩ = some (.slice (some ⟨b, off, none⟩) x.vKids.length d3) ∧ w'.cell? ⟨b, off + j2, none⟩ = some (.int .i64 K)) (by kernel_rfl) (by refine ⟨?_, ?_, ?_, ?_, ?_⟩ <;> assumption) (fun hHeld => ?_)
          refine tq (i := 0) (d := 48) ?_
          simp only [sz, ss]
          refine tq (i := 1) (d := 49) ?_
          simp only [sz, ss]
          refine tq (i := 2) (d := 50) ?_
          simp only [sz, ss]
          refine tq (i := 3) (d := 51) ?_
          simp only [sz, ss]
          refine tq (i := 4) (d := 52) ?_
          simp only [sz, ss]
          refine tq (i := 5) (d := 53) ?_
          simp only [sz, ss]
          refine tq (i := 6) (d := 54) ?_
          simp only [sz, ss]
          refine tq (i := 7) (d := 55) ?_
          simp only [sz, ss]
          refine tq (i := 8) (d := 56) ?_
          simp only [sz, ss]
          refine tq (i := 9) (d := 57) ?_
          simp only [sz, ss]
          refine tq (i := 10) (d := 58) ?_
          simp only [sz, ss]
          refine tq (i := 11) (d := 59) ?_
          simp only [sz, ss]
          refine tq (i := 12) (d := 60) ?_
          simp only [sz, ss]
          refine tq (i := 13) (d := 61) ?_
          simp only [sz, ss]
          refine tq (i := 14) (d := 62) ?_
          simp only [sz, ss]
          refine tq (i := 15) (d := 63) ?_
          simp only [sz, ss]
          refine tq (i := 16) (d := 64) ?_
          simp only [sz, ss]
          refine tq (i := 17) (d := 65) ?_
          simp only [sz, ss]
          refine tq (i := 18) (d := 66) ?_
          simp only [sz, ss]
          refine tq (i := 19) (d := 67) ?_
          simp only [sz, ss]
          refine tq (i := 20) (d := 68) ?_
          simp only [sz, ss]
          refine tq (i := 21) (d := 69) ?_
          simp only [sz, ss]
          refine tq (i := 22) (d := 70) ?_
          simp only [sz, ss]
          refine wpAnyH_ready (rs := [23]) (by kernel_rfl) (by simp) ?_
          refine AllReadyH.cons rfl (fun K hK => ?_) AllReadyH.nil
          go_simp
          refine (hHas _ (by exact hbwb.drew)).mono ?_
          rintro e w3 ⟨rfl, rfl⟩
          dsimp only
          refine hK.out _ _ (by assumption) (fun hHeld => ?_)
          clear hK K
          refine tq (i := 24) (d := 72) ?_
          simp only [sz, ss]
          refine wpAnyH_done (by kernel_rfl) ?_ _
          go_wp2_with fail
          go_roundw
          case rel => exact ⟨j2 + 1, by omega, by go_num, hb3.drew, by show _ = _; rw [hrem.out, HF.out]⟩
          case measure => simp [intOf]; omega
        · have HF : Hid (nodeB h x = false) := by show _ = _; rw [nodeB, hrem.out, kidsF_no hlt2 (by rw [hK1.out]; simp [kidB, hat, hpar, hhas])]; simp
          have Hhas : Hid _ := hhas
          clear hhas
          go_wp2_with fail
          refine wp_region_held_drew (S := fun w' => w'.cell? ⟨w.heap.size, 0, none⟩ = some (.int .i64 h.vNext) ∧ w'.cell? ⟨w.heap.size, 1, none⟩ = some (.int .i64 h.vDoc) ∧ w'.cell? ⟨w.heap.size, 2, none⟩ = some (.slice a2 h.vNodes.length cap2) ∧ w'.cell? ⟨w.heap.size, 3, none⟩ = some (.slice a3 h.vObjs.length cap3) ∧ w'.cell? ⟨w.heap.size, 4, none⟩ = some (k4) ∧ w'.cell? ⟨w.heap.size + 1, 3, none⟩ = some (.slice (some ⟨b, off, none⟩) x.vKids.length d3) ∧ w'.cell? ⟨b, off + j2, none⟩ = some (.int .i64 K)) (by kernel_rfl) (by refine ⟨?_, ?_, ?_, ?_, ?_, ?_, ?_⟩ <;> assumption) (fun hHeld => ?_)
          refine tq (i := 0) (d := 41) ?_
          simp only [sz, ss]
          refine tq (i := 1) (d := 42) ?_
          simp only [sz, ss]
          refine tq (i := 2) (d := 43) ?_
          simp only [sz, ss]
          refine tq (i := 3) (d := 44) ?_
          simp only [sz, ss]
          refine tq (i := 4) (d := 45) ?_
          simp only [sz, ss]
          refine tq (i := 5) (d := 46) ?_
          simp only [sz, ss]
          refine wpAnyH_ready (rs := [6]) (by kernel_rfl) (by simp) ?_
          refine AllReadyH.cons rfl (fun K hK => ?_) AllReadyH.nil
          go_simp
          refine (l2Node_any (by exact hhd.out)).mono ?_
          rintro e w2 ⟨rfl, hb1'⟩
          have hb1 := hb1'
          have hb3 : Below (w.heap.size + 2) _ w2 := hbq.drew.trans (hb1.mono hzq)
          rw [hidx]
          dsimp only
          refine hK.out _ _ ⟨cell_on hb1 hHeld.1, cell_on hb1 hHeld.2.1, cell_on hb1 hHeld.2.2.1, cell_on hb1 hHeld.2.2.2.1, cell_on hb1 hHeld.2.2.2.2.1, cell_on hb1 hHeld.2.2.2.2.2.1, cell_on hb1 hHeld.2.2.2.2.2.2⟩ (fun hHeld => ?_)
          clear hK K
          refine tq (i := 7) (d := 7) ?_
          simp only [sz, ss]
          refine wpAnyH_done (by kernel_rfl) ?_ _
          clear hb1 hidx
          clear t0a t1a t2a t3a t4a n0a n1a n2a n3a n4a n5a
          have hbwb : Below w.heap.size w w2 := hb0.trans (hb3.mono (by omega))
          have bHb := (bH0.out).below hb3 (by omega)
          have bNb := (bN0.out).below hb3 (by omega)
          have t0b := bHb.cell 0 rfl
          have t1b := bHb.cell 1 rfl
          have t2b := bHb.cell 2 rfl
          have t3b := bHb.cell 3 rfl
          have t4b := bHb.cell 4 rfl
          have n0b := bNb.cell 0 rfl
          have n1b := bNb.cell 1 rfl
          have n2b := bNb.cell 2 rfl
          have n3b := bNb.cell 3 rfl
          have n4b := bNb.cell 4 rfl
          have n5b := bNb.cell 5 rfl
          have hzb : w.heap.size + 2 ≤ w2.heap.size := by have := bNb.lt; omega
          clear bHb bNb
          obtain ⟨bn, offn, rfl, hlon, hbwn, hcn⟩ := hx2'.out (by omega)
          obtain ⟨csn, hcln, lien, hrn⟩ := hcn i' hi'
          have lien1 := Lie.keep (lo := lo) (lo' := lo) lien (.of_below hbwb) hlon hbwn
          generalize hP0 : h.vNodes[i'] = PN at hrn hpar
          clear hP0
          obtain ⟨g3, g5, rfl, v3, v5, _⟩ := hrn
          have y2 := lie_at lien1 2 rfl
          have hin : (0 : Int) ≤ (i' : Int) := by omega
          have hin2 : (i' : Int) < (h.vNodes.length : Int) := by omega
          clear lien lien1 hcln hcn
          have zz := cell_on hb1' z0
          have hpar2 : (PN.vParent == x.vId) = true := by simpa using hpar
          rw [hpar] at y2
          clear z0 hpar hat hpar2
          have hHas : ∀ W : World, Below w.heap.size w W → Calls Try.prog 42 #[.slice (some ⟨b, off, none⟩) j2 d3, .int .i64 K] W fun e w' => e = .returned (.bool true) ∧ w' = W := fun W hW => by have := l2Has_any (id := K) ((u3'.out.below intAt_stays hW).take j2 (by omega)); rw [Hhas.out] at this; exact this
          go_wp2_with fail
          refine wp_region_held_drew (S := fun w' => w'.cell? ⟨w.heap.size, 2, none⟩ = some (.slice (some ⟨bn, offn, none⟩) h.vNodes.length cap2) ∧ w'.cell? ⟨bn, offn + i' * 6 + 2, none⟩ = some (.int .i64 x.vId) ∧ w'.cell? ⟨w.heap.size + 1, 0, none⟩ = some (.int .i64 x.vId) ∧ w'.cell? ⟨w.heap.size + 1, 3, none⟩ = some (.slice (some ⟨b, off, none⟩) x.vKids.length d3) ∧ w'.cell? ⟨b, off + j2, none⟩ = some (.int .i64 K)) (by kernel_rfl) (by refine ⟨?_, ?_, ?_, ?_, ?_⟩ <;> assumption) (fun hHeld => ?_)
          refine tq (i := 0) (d := 48) ?_
          simp only [sz, ss]
          refine tq (i := 1) (d := 49) ?_
          simp only [sz, ss]
          refine tq (i := 2) (d := 50) ?_
          simp only [sz, ss]
          refine tq (i := 3) (d := 51) ?_
          simp only [sz, ss]
          refine tq (i := 4) (d := 52) ?_
          simp only [sz, ss]
          refine tq (i := 5) (d := 53) ?_
          simp only [sz, ss]
          refine tq (i := 6) (d := 54) ?_
          simp only [sz, ss]
          refine tq (i := 7) (d := 55) ?_
          simp only [sz, ss]
          refine tq (i := 8) (d := 56) ?_
          simp only [sz, ss]
          refine tq (i := 9) (d := 57) ?_
          simp only [sz, ss]
          refine tq (i := 10) (d := 58) ?_
          simp only [sz, ss]
          refine tq (i := 11) (d := 59) ?_
          simp only [sz, ss]
          refine tq (i := 12) (d := 60) ?_
          simp only [sz, ss]
          refine tq (i := 13) (d := 61) ?_
          simp only [sz, ss]
          refine tq (i := 14) (d := 62) ?_
          simp only [sz, ss]
          refine tq (i := 15) (d := 63) ?_
          simp only [sz, ss]
          refine tq (i := 16) (d := 64) ?_
          simp only [sz, ss]
          refine tq (i := 17) (d := 65) ?_
          simp only [sz, ss]
          refine tq (i := 18) (d := 66) ?_
          simp only [sz, ss]
          refine tq (i := 19) (d := 67) ?_
          simp only [sz, ss]
          refine tq (i := 20) (d := 68) ?_
          simp only [sz, ss]
          refine tq (i := 21) (d := 69) ?_
          simp only [sz, ss]
          refine tq (i := 22) (d := 70) ?_
          simp only [sz, ss]
          refine wpAnyH_ready (rs := [23]) (by kernel_rfl) (by simp) ?_
          refine AllReadyH.cons rfl (fun K hK => ?_) AllReadyH.nil
          go_simp
          refine (hHas _ (by exact hbwb.drew)).mono ?_
          rintro e w3 ⟨rfl, rfl⟩
          dsimp only
          refine hK.out _ _ (by assumption) (fun hHeld => ?_)
          clear hK K
          refine tq (i := 24) (d := 72) ?_
          simp only [sz, ss]
          refine wpAnyH_done (by kernel_rfl) ?_ _
          go_wp2_with fail
          go_ret
          exact ⟨ret_bool (by exact HF.out.symm), hbwb.drew⟩
      have HK : Hid (kidsB h x = true) := by show _ = _; rw [hrem.out, kidsF_end hlt2]
      clear hrem hx4'
      have HB : Hid (nodeB h x = (parB h x && wrapB h x)) := by show _ = _; rw [nodeB, Hn.out, HL.out, HK.out]; simp [hl4]
      by_cases hp : x.vParent = 0
      · have hp' : (x.vParent != 0) = false := by simpa using hp
        have HB2 : Hid (nodeB h x = wrapB h x) := by show _ = _; rw [HB.out]; simp [parB, hp]
        clear hp
        by_cases hw : x.vWrapper = 0
        · have hw' : (x.vWrapper != 0) = false := by simpa using hw
          have HF : Hid (nodeB h x = true) := by show _ = _; rw [HB2.out]; simp [wrapB, hw]
          clear hw
          go_wp2_with fail
          go_ret
          exact ⟨ret_bool HF.out.symm, hbwa⟩
        have hw' : (x.vWrapper != 0) = true := by simpa using hw
        have hhaw : Hid (HeapAt wr lo _ h) := HeapAt_stays _ _ _ lo _ _ (.of_below hbwa) hh'.out
        rcases idxO_is h x.vWrapper with ⟨hidx, hat⟩ | ⟨i', hi', hidx, _, hat⟩
        · have HF : Hid (nodeB h x = false) := by show _ = _; rw [HB2.out]; simp [wrapB, hw, hat]
          clear hw hat
          go_wp2_with fail
          refine (l2Obj_any hhaw.out).mono ?_
          rintro e w5 ⟨rfl, hb5⟩
          rw [hidx]
          have hb6 : Below (w.heap.size + 2) _ w5 := hb1.trans (hb5.mono hza)
          clear hidx
          clear t0a t1a t2a t3a t4a n0a n1a n2a n3a n4a n5a
          have hbwf : Below w.heap.size w w5 := hb0.trans (hb6.mono (by omega))
          have bHf := (bH0.out).below hb6 (by omega)
          have bNf := (bN0.out).below hb6 (by omega)
          have t0f := bHf.cell 0 rfl
          have t1f := bHf.cell 1 rfl
          have t2f := bHf.cell 2 rfl
          have t3f := bHf.cell 3 rfl
          have t4f := bHf.cell 4 rfl
          have n0f := bNf.cell 0 rfl
          have n1f := bNf.cell 1 rfl
          have n2f := bNf.cell 2 rfl
          have n3f := bNf.cell 3 rfl
          have n4f := bNf.cell 4 rfl
          have n5f := bNf.cell 5 rfl
          have hzf : w.heap.size + 2 ≤ w5.heap.size := by have := bNf.lt; omega
          clear bHf bNf
          go_wp2_with fail
          refine wp_region_held_drew (S := fun w' => w'.cell? ⟨w.heap.size, 3, none⟩ = some (.slice a3 h.vObjs.length cap3) ∧ w'.cell? ⟨w.heap.size + 1, 0, none⟩ = some (.int .i64 x.vId)) (by kernel_rfl) (by refine ⟨?_, ?_⟩ <;> assumption) (fun hHeld => ?_)
          refine tq (i := 0) (d := 101) ?_
          simp only [sz, ss]
          refine tq (i := 1) (d := 102) ?_
          simp only [sz, ss]
          refine tq (i := 2) (d := 103) ?_
          simp only [sz, ss]
          refine tn (i := 3) (d := 104) ?_
          simp only [sz, ss]
          refine tn (i := 4) (d := 105) ?_
          simp only [sz, ss]
          refine tn (i := 5) (d := 106) ?_
          simp only [sz, ss]
          refine tn (i := 6) (d := 107) ?_
          simp only [sz, ss]
          refine tn (i := 7) (d := 108) ?_
          simp only [sz, ss]
          refine tn (i := 8) (d := 109) ?_
          simp only [sz, ss]
          refine tn (i := 9) (d := 110) ?_
          simp only [sz, ss]
          refine tn (i := 10) (d := 111) ?_
          simp only [sz, ss]
          refine tn (i := 11) (d := 112) ?_
          simp only [sz, ss]
          refine tq (i := 12) (d := 113) ?_
          simp only [sz, ss]
          refine tq (i := 13) (d := 4) ?_
          simp only [sz, ss]
          refine wpAnyH_done (by kernel_rfl) ?_ _
          go_wp2_with fail
          go_ret
          exact ⟨ret_bool (by exact HF.out.symm), hbwf.drew⟩
        by_cases hno : h.vObjs[i'].vNode = x.vId
        · have HF : Hid (nodeB h x = true) := by show _ = _; rw [HB2.out]; simp [wrapB, hw, hat, hno]
          clear hw hat
          go_wp2_with fail
          refine (l2Obj_any hhaw.out).mono ?_
          rintro e w5 ⟨rfl, hb5⟩
          rw [hidx]
          have hb6 : Below (w.heap.size + 2) _ w5 := hb1.trans (hb5.mono hza)
          clear hidx
          clear t0a t1a t2a t3a t4a n0a n1a n2a n3a n4a n5a
          have hbwf : Below w.heap.size w w5 := hb0.trans (hb6.mono (by omega))
          have bHf := (bH0.out).below hb6 (by omega)
          have bNf := (bN0.out).below hb6 (by omega)
          have t0f := bHf.cell 0 rfl
          have t1f := bHf.cell 1 rfl
          have t2f := bHf.cell 2 rfl
          have t3f := bHf.cell 3 rfl
          have t4f := bHf.cell 4 rfl
          have n0f := bNf.cell 0 rfl
          have n1f := bNf.cell 1 rfl
          have n2f := bNf.cell 2 rfl
          have n3f := bNf.cell 3 rfl
          have n4f := bNf.cell 4 rfl
          have n5f := bNf.cell 5 rfl
          have hzf : w.heap.size + 2 ≤ w5.heap.size := by have := bNf.lt; omega
          clear bHf bNf
          obtain ⟨bo, offo, rfl, hloo, hbwo, hco⟩ := hx3'.out (by omega)
          obtain ⟨cso, hclo, lieo, hro⟩ := hco i' hi'
          have lieo1 := Lie.keep (lo := lo) (lo' := lo) lieo (.of_below hbwf) hloo hbwo
          generalize hO0 : h.vObjs[i'] = ON at hro hno
          clear hO0
          obtain ⟨g2, rfl, _⟩ := hro
          have y1 := lie_at lieo1 1 rfl
          have hin : (0 : Int) ≤ (i' : Int) := by omega
          have hin2 : (i' : Int) < (h.vObjs.length : Int) := by omega
          clear lieo lieo1 hclo hco
          have hno2 : (ON.vNode == x.vId) = true := by simpa using hno
          rw [hno] at y1
          clear hno hno2
          go_wp2_with fail
          refine wp_region_held_drew (S := fun w' => w'.cell? ⟨w.heap.size, 3, none⟩ = some (.slice (some ⟨bo, offo, none⟩) h.vObjs.length cap3) ∧ w'.cell? ⟨bo, offo + i' * 3 + 1, none⟩ = some (.int .i64 x.vId) ∧ w'.cell? ⟨w.heap.size + 1, 0, none⟩ = some (.int .i64 x.vId)) (by kernel_rfl) (by refine ⟨?_, ?_, ?_⟩ <;> assumption) (fun hHeld => ?_)
          refine tq (i := 0) (d := 101) ?_
          simp only [sz, ss]
          refine tq (i := 1) (d := 102) ?_
          simp only [sz, ss]
          refine tq (i := 2) (d := 103) ?_
          simp only [sz, ss]
          refine tq (i := 3) (d := 104) ?_
          simp only [sz, ss]
          refine tq (i := 4) (d := 105) ?_
          simp only [sz, ss]
          refine tq (i := 5) (d := 106) ?_
          simp only [sz, ss]
          refine tq (i := 6) (d := 107) ?_
          simp only [sz, ss]
          refine tq (i := 7) (d := 108) ?_
          simp only [sz, ss]
          refine tq (i := 8) (d := 109) ?_
          simp only [sz, ss]
          refine tq (i := 9) (d := 110) ?_
          simp only [sz, ss]
          refine tq (i := 10) (d := 111) ?_
          simp only [sz, ss]
          refine tq (i := 11) (d := 112) ?_
          simp only [sz, ss]
          refine tq (i := 12) (d := 113) ?_
          simp only [sz, ss]
          refine tq (i := 13) (d := 4) ?_
          simp only [sz, ss]
          refine wpAnyH_done (by kernel_rfl) ?_ _
          go_wp2_with fail
          go_ret
          exact ⟨ret_bool (by exact HF.out.symm), hbwf.drew⟩
        · have HF : Hid (nodeB h x = false) := by show _ = _; rw [HB2.out]; simp [wrapB, hw, hat, hno]
          clear hw hat
          go_wp2_with fail
          refine (l2Obj_any hhaw.out).mono ?_
          rintro e w5 ⟨rfl, hb5⟩
          rw [hidx]
          have hb6 : Below (w.heap.size + 2) _ w5 := hb1.trans (hb5.mono hza)
          clear hidx
          clear t0a t1a t2a t3a t4a n0a n1a n2a n3a n4a n5a
          have hbwf : Below w.heap.size w w5 := hb0.trans (hb6.mono (by omega))
          have bHf := (bH0.out).below hb6 (by omega)
          have bNf := (bN0.out).below hb6 (by omega)
          have t0f := bHf.cell 0 rfl
          have t1f := bHf.cell 1 rfl
          have t2f := bHf.cell 2 rfl
          have t3f := bHf.cell 3 rfl
          have t4f := bHf.cell 4 rfl
          have n0f := bNf.cell 0 rfl
          have n1f := bNf.cell 1 rfl
          have n2f := bNf.cell 2 rfl
          have n3f := bNf.cell 3 rfl
          have n4f := bNf.cell 4 rfl
          have n5f := bNf.cell 5 rfl
          have hzf : w.heap.size + 2 ≤ w5.heap.size := by have := bNf.lt; omega
          clear bHf bNf
          obtain ⟨bo, offo, rfl, hloo, hbwo, hco⟩ := hx3'.out (by omega)
          obtain ⟨cso, hclo, lieo, hro⟩ := hco i' hi'
          have lieo1 := Lie.keep (lo := lo) (lo' := lo) lieo (.of_below hbwf) hloo hbwo
          generalize hO0 : h.vObjs[i'] = ON at hro hno
          clear hO0
          obtain ⟨g2, rfl, _⟩ := hro
          have y1 := lie_at lieo1 1 rfl
          have hin : (0 : Int) ≤ (i' : Int) := by omega
          have hin2 : (i' : Int) < (h.vObjs.length : Int) := by omega
          clear lieo lieo1 hclo hco
          have hno2 : (ON.vNode == x.vId) = false := by simpa using hno
          clear hno
          go_wp2_with fail
          refine wp_region_held_drew (S := fun w' => w'.cell? ⟨w.heap.size, 3, none⟩ = some (.slice (some ⟨bo, offo, none⟩) h.vObjs.length cap3) ∧ w'.cell? ⟨bo, offo + i' * 3 + 1, none⟩ = some (.int .i64 ON.vNode) ∧ w'.cell? ⟨w.heap.size + 1, 0, none⟩ = some (.int .i64 x.vId)) (by kernel_rfl) (by refine ⟨?_, ?_, ?_⟩ <;> assumption) (fun hHeld => ?_)
          refine tq (i := 0) (d := 101) ?_
          simp only [sz, ss]
          refine tq (i := 1) (d := 102) ?_
          simp only [sz, ss]
          refine tq (i := 2) (d := 103) ?_
          simp only [sz, ss]
          refine tq (i := 3) (d := 104) ?_
          simp only [sz, ss]
          refine tq (i := 4) (d := 105) ?_
          simp only [sz, ss]
          refine tq (i := 5) (d := 106) ?_
          simp only [sz, ss]
          refine tq (i := 6) (d := 107) ?_
          simp only [sz, ss]
          refine tq (i := 7) (d := 108) ?_
          simp only [sz, ss]
          refine tq (i := 8) (d := 109) ?_
          simp only [sz, ss]
          refine tq (i := 9) (d := 110) ?_
          simp only [sz, ss]
          refine tq (i := 10) (d := 111) ?_
          simp only [sz, ss]
          refine tq (i := 11) (d := 112) ?_
          simp only [sz, ss]
          refine tq (i := 12) (d := 113) ?_
          simp only [sz, ss]
          refine tq (i := 13) (d := 4) ?_
          simp only [sz, ss]
          refine wpAnyH_done (by kernel_rfl) ?_ _
          go_wp2_with fail
          go_ret
          exact ⟨ret_bool (by exact HF.out.symm), hbwf.drew⟩
      have hp' : (x.vParent != 0) = true := by simpa using hp
      have hhp : Hid (HeapAt wr lo _ h) := HeapAt_stays _ _ _ lo _ _ (.of_below hbwa) hh'.out
      rcases idxN_is h x.vParent with ⟨hidx, hat⟩ | ⟨i', hi', hidx, _, hat⟩
      · have HF : Hid (nodeB h x = false) := by show _ = _; rw [HB.out]; simp [parB, hp, hat]
        clear hp hat
        go_wp2_with fail
        refine (l2Node_any hhp.out).mono ?_
        rintro e w3 ⟨rfl, hb3⟩
        rw [hidx]
        have hb4 : Below (w.heap.size + 2) _ w3 := hb1.trans (hb3.mono hza)
        clear hidx
        clear t0a t1a t2a t3a t4a n0a n1a n2a n3a n4a n5a
        have hbwc : Below w.heap.size w w3 := hb0.trans (hb4.mono (by omega))
        have bHc := (bH0.out).below hb4 (by omega)
        have bNc := (bN0.out).below hb4 (by omega)
        have t0c := bHc.cell 0 rfl
        have t1c := bHc.cell 1 rfl
        have t2c := bHc.cell 2 rfl
        have t3c := bHc.cell 3 rfl
        have t4c := bHc.cell 4 rfl
        have n0c := bNc.cell 0 rfl
        have n1c := bNc.cell 1 rfl
        have n2c := bNc.cell 2 rfl
        have n3c := bNc.cell 3 rfl
        have n4c := bNc.cell 4 rfl
        have n5c := bNc.cell 5 rfl
        have hzc : w.heap.size + 2 ≤ w3.heap.size := by have := bNc.lt; omega
        clear bHc bNc
        go_wp2_with fail
        refine wp_region_held_drew (S := fun w' => w'.cell? ⟨w.heap.size, 2, none⟩ = some (.slice a2 h.vNodes.length cap2) ∧ w'.cell? ⟨w.heap.size + 1, 0, none⟩ = some (.int .i64 x.vId)) (by kernel_rfl) (by refine ⟨?_, ?_⟩ <;> assumption) (fun hHeld => ?_)
        refine tq (i := 0) (d := 80) ?_
        simp only [sz, ss]
        refine tq (i := 1) (d := 81) ?_
        simp only [sz, ss]
        refine tq (i := 2) (d := 82) ?_
        simp only [sz, ss]
        refine tn (i := 3) (d := 83) ?_
        simp only [sz, ss]
        refine tn (i := 4) (d := 84) ?_
        simp only [sz, ss]
        refine tn (i := 5) (d := 85) ?_
        simp only [sz, ss]
        refine tn (i := 6) (d := 86) ?_
        simp only [sz, ss]
        refine tn (i := 7) (d := 87) ?_
        simp only [sz, ss]
        refine tn (i := 8) (d := 88) ?_
        simp only [sz, ss]
        refine tn (i := 9) (d := 89) ?_
        simp only [sz, ss]
        refine tn (i := 10) (d := 90) ?_
        simp only [sz, ss]
        refine tn (i := 11) (d := 91) ?_
        simp only [sz, ss]
        refine tn (i := 12) (d := 92) ?_
        simp only [sz, ss]
        refine tq (i := 13) (d := 93) ?_
        simp only [sz, ss]
        refine wpAnyH_done (by kernel_rfl) ?_ _
        go_wp2_with fail
        go_ret
        exact ⟨ret_bool (by exact HF.out.symm), hbwc.drew⟩
      have hi'' := hi'
      obtain ⟨bn, offn, rfl, hlon, hbwn, hcn⟩ := hx2'.out (by omega)
      obtain ⟨csn, hcln, lien, hrn⟩ := hcn i' hi'
      cases hhas : hasB h.vNodes[i'].vKids x.vId
      · have HF : Hid (nodeB h x = false) := by show _ = _; rw [HB.out]; simp [parB, hp, hat, hhas]
        clear hp hat
        go_wp2_with fail
        refine (l2Node_any hhp.out).mono ?_
        rintro e w3 ⟨rfl, hb3⟩
        rw [hidx]
        have hb4 : Below (w.heap.size + 2) _ w3 := hb1.trans (hb3.mono hza)
        clear hidx
        clear t0a t1a t2a t3a t4a n0a n1a n2a n3a n4a n5a
        have hbwc : Below w.heap.size w w3 := hb0.trans (hb4.mono (by omega))
        have bHc := (bH0.out).below hb4 (by omega)
        have bNc := (bN0.out).below hb4 (by omega)
        have t0c := bHc.cell 0 rfl
        have t1c := bHc.cell 1 rfl
        have t2c := bHc.cell 2 rfl
        have t3c := bHc.cell 3 rfl
        have t4c := bHc.cell 4 rfl
        have n0c := bNc.cell 0 rfl
        have n1c := bNc.cell 1 rfl
        have n2c := bNc.cell 2 rfl
        have n3c := bNc.cell 3 rfl
        have n4c := bNc.cell 4 rfl
        have n5c := bNc.cell 5 rfl
        have hzc : w.heap.size + 2 ≤ w3.heap.size := by have := bNc.lt; omega
        clear bHc bNc
        have lien1 := Lie.keep (lo := lo) (lo' := lo) lien (.of_below hbwc) hlon hbwn
        generalize hP0 : h.vNodes[i'] = PN at hrn hhas
        clear hP0
        obtain ⟨g3, g5, rfl, v3, v5, _⟩ := hrn
        have y3 := lie_at lien1 3 rfl
        have hin : (0 : Int) ≤ (i' : Int) := by omega
        have hin2 : (i' : Int) < (h.vNodes.length : Int) := by omega
        have v3' : Hid (SeqAt 1 IntAt w lo g3 PN.vKids) := v3
        have Hhas : Hid _ := hhas
        clear lien lien1 hcln hcn v3 v5 hhas
        have hHas : ∀ W : World, Below w.heap.size w W → Calls Try.prog 42 #[g3, .int .i64 x.vId] W fun e w' => e = .returned (.bool false) ∧ w' = W := fun W hW => by have := l2Has_any (id := x.vId) (v3'.out.below intAt_stays hW); rw [Hhas.out] at this; exact this
        go_wp2_with fail
        refine wp_region_held_drew (S := fun w' => w'.cell? ⟨w.heap.size, 2, none⟩ = some (.slice (some ⟨bn, offn, none⟩) h.vNodes.length cap2) ∧ w'.cell? ⟨bn, offn + i' * 6 + 3, none⟩ = some (g3) ∧ w'.cell? ⟨w.heap.size + 1, 0, none⟩ = some (.int .i64 x.vId)) (by kernel_rfl) (by refine ⟨?_, ?_, ?_⟩ <;> assumption) (fun hHeld => ?_)
        refine tq (i := 0) (d := 80) ?_
        simp only [sz, ss]
        refine tq (i := 1) (d := 81) ?_
        simp only [sz, ss]
        refine tq (i := 2) (d := 82) ?_
        simp only [sz, ss]
        refine tq (i := 3) (d := 83) ?_
        simp only [sz, ss]
        refine tq (i := 4) (d := 84) ?_
        simp only [sz, ss]
        refine tq (i := 5) (d := 85) ?_
        simp only [sz, ss]
        refine tq (i := 6) (d := 86) ?_
        simp only [sz, ss]
        refine tq (i := 7) (d := 87) ?_
        simp only [sz, ss]
        refine tq (i := 8) (d := 88) ?_
        simp only [sz, ss]
        refine tq (i := 9) (d := 89) ?_
        simp only [sz, ss]
        refine tq (i := 10) (d := 90) ?_
        simp only [sz, ss]
        refine wpAnyH_ready (rs := [11]) (by kernel_rfl) (by simp) ?_
        refine AllReadyH.cons rfl (fun K hK => ?_) AllReadyH.nil
        go_simp
        refine (hHas _ (by exact hbwc.drew)).mono ?_
        rintro e w4 ⟨rfl, rfl⟩
        dsimp only
        refine hK.out _ _ (by assumption) (fun hHeld => ?_)
        clear hK K
        refine tq (i := 12) (d := 92) ?_
        simp only [sz, ss]
        refine tq (i := 13) (d := 93) ?_
        simp only [sz, ss]
        refine wpAnyH_done (by kernel_rfl) ?_ _
        go_wp2_with fail
        go_ret
        exact ⟨ret_bool (by exact HF.out.symm), hbwc.drew⟩
      · have HB2 : Hid (nodeB h x = wrapB h x) := by show _ = _; rw [HB.out]; simp [parB, hp, hat, hhas]
        clear hp hat
        go_wp2_with fail
        refine (l2Node_any hhp.out).mono ?_
        rintro e w3 ⟨rfl, hb3⟩
        rw [hidx]
        have hb4 : Below (w.heap.size + 2) _ w3 := hb1.trans (hb3.mono hza)
        clear hidx
        clear t0a t1a t2a t3a t4a n0a n1a n2a n3a n4a n5a
        have hbwc : Below w.heap.size w w3 := hb0.trans (hb4.mono (by omega))
        have bHc := (bH0.out).below hb4 (by omega)
        have bNc := (bN0.out).below hb4 (by omega)
        have t0c := bHc.cell 0 rfl
        have t1c := bHc.cell 1 rfl
        have t2c := bHc.cell 2 rfl
        have t3c := bHc.cell 3 rfl
        have t4c := bHc.cell 4 rfl
        have n0c := bNc.cell 0 rfl
        have n1c := bNc.cell 1 rfl
        have n2c := bNc.cell 2 rfl
        have n3c := bNc.cell 3 rfl
        have n4c := bNc.cell 4 rfl
        have n5c := bNc.cell 5 rfl
        have hzc : w.heap.size + 2 ≤ w3.heap.size := by have := bNc.lt; omega
        clear bHc bNc
        have lien1 := Lie.keep (lo := lo) (lo' := lo) lien (.of_below hbwc) hlon hbwn
        generalize hP0 : h.vNodes[i'] = PN at hrn hhas
        clear hP0
        obtain ⟨g3, g5, rfl, v3, v5, _⟩ := hrn
        have y3 := lie_at lien1 3 rfl
        have hin : (0 : Int) ≤ (i' : Int) := by omega
        have hin2 : (i' : Int) < (h.vNodes.length : Int) := by omega
        have v3' : Hid (SeqAt 1 IntAt w lo g3 PN.vKids) := v3
        have Hhas : Hid _ := hhas
        clear lien lien1 hcln hcn v3 v5 hhas
        have hHas : ∀ W : World, Below w.heap.size w W → Calls Try.prog 42 #[g3, .int .i64 x.vId] W fun e w' => e = .returned (.bool true) ∧ w' = W := fun W hW => by have := l2Has_any (id := x.vId) (v3'.out.below intAt_stays hW); rw [Hhas.out] at this; exact this
        go_wp2_with fail
        refine wp_region_held_drew (S := fun w' => w'.cell? ⟨w.heap.size, 2, none⟩ = some (.slice (some ⟨bn, offn, none⟩) h.vNodes.length cap2) ∧ w'.cell? ⟨bn, offn + i' * 6 + 3, none⟩ = some (g3) ∧ w'.cell? ⟨w.heap.size + 1, 0, none⟩ = some (.int .i64 x.vId)) (by kernel_rfl) (by refine ⟨?_, ?_, ?_⟩ <;> assumption) (fun hHeld => ?_)
        refine tq (i := 0) (d := 80) ?_
        simp only [sz, ss]
        refine tq (i := 1) (d := 81) ?_
        simp only [sz, ss]
        refine tq (i := 2) (d := 82) ?_
        simp only [sz, ss]
        refine tq (i := 3) (d := 83) ?_
        simp only [sz, ss]
        refine tq (i := 4) (d := 84) ?_
        simp only [sz, ss]
        refine tq (i := 5) (d := 85) ?_
        simp only [sz, ss]
        refine tq (i := 6) (d := 86) ?_
        simp only [sz, ss]
        refine tq (i := 7) (d := 87) ?_
        simp only [sz, ss]
        refine tq (i := 8) (d := 88) ?_
        simp only [sz, ss]
        refine tq (i := 9) (d := 89) ?_
        simp only [sz, ss]
        refine tq (i := 10) (d := 90) ?_
        simp only [sz, ss]
        refine wpAnyH_ready (rs := [11]) (by kernel_rfl) (by simp) ?_
        refine AllReadyH.cons rfl (fun K hK => ?_) AllReadyH.nil
        go_simp
        refine (hHas _ (by exact hbwc.drew)).mono ?_
        rintro e w4 ⟨rfl, rfl⟩
        dsimp only
        refine hK.out _ _ (by assumption) (fun hHeld => ?_)
        clear hK K
        refine tq (i := 12) (d := 92) ?_
        simp only [sz, ss]
        refine tq (i := 13) (d := 93) ?_
        simp only [sz, ss]
        refine wpAnyH_done (by kernel_rfl) ?_ _
        clear t0c t1c t2c t3c t4c n0c n1c n2c n3c n4c n5c
        have hb7 : Below (w.heap.size + 2) _ w3.drew := hb4.drew
        have hbwd : Below w.heap.size w w3.drew := hb0.trans (hb7.mono (by omega))
        have bHd := (bH0.out).below hb7 (by omega)
        have bNd := (bN0.out).below hb7 (by omega)
        have t0d := bHd.cell 0 rfl
        have t1d := bHd.cell 1 rfl
        have t2d := bHd.cell 2 rfl
        have t3d := bHd.cell 3 rfl
        have t4d := bHd.cell 4 rfl
        have n0d := bNd.cell 0 rfl
        have n1d := bNd.cell 1 rfl
        have n2d := bNd.cell 2 rfl
        have n3d := bNd.cell 3 rfl
        have n4d := bNd.cell 4 rfl
        have n5d := bNd.cell 5 rfl
        have hzd : w.heap.size + 2 ≤ w3.drew.heap.size := by have := bNd.lt; omega
        clear bHd bNd
        by_cases hw : x.vWrapper = 0
        · have hw' : (x.vWrapper != 0) = false := by simpa using hw
          have HF : Hid (nodeB h x = true) := by show _ = _; rw [HB2.out]; simp [wrapB, hw]
          clear hw
          go_wp2_with fail
          go_ret
          exact ⟨ret_bool HF.out.symm, hbwd⟩
        have hw' : (x.vWrapper != 0) = true := by simpa using hw
        have hhdw : Hid (HeapAt w3.drew lo _ h) := HeapAt_stays _ _ _ lo _ _ (.of_below hbwd) hh'.out
        rcases idxO_is h x.vWrapper with ⟨hidx, hat⟩ | ⟨i', hi', hidx, _, hat⟩
        · have HF : Hid (nodeB h x = false) := by show _ = _; rw [HB2.out]; simp [wrapB, hw, hat]
          clear hw hat
          go_wp2_with fail
          refine (l2Obj_any hhdw.out).mono ?_
          rintro e w5 ⟨rfl, hb5⟩
          rw [hidx]
          have hb6 : Below (w.heap.size + 2) _ w5 := hb7.trans (hb5.mono hzd)
          clear hidx
          clear t0d t1d t2d t3d t4d n0d n1d n2d n3d n4d n5d
          have hbwf : Below w.heap.size w w5 := hb0.trans (hb6.mono (by omega))
          have bHf := (bH0.out).below hb6 (by omega)
          have bNf := (bN0.out).below hb6 (by omega)
          have t0f := bHf.cell 0 rfl
          have t1f := bHf.cell 1 rfl
          have t2f := bHf.cell 2 rfl
          have t3f := bHf.cell 3 rfl
          have t4f := bHf.cell 4 rfl
          have n0f := bNf.cell 0 rfl
          have n1f := bNf.cell 1 rfl
          have n2f := bNf.cell 2 rfl
          have n3f := bNf.cell 3 rfl
          have n4f := bNf.cell 4 rfl
          have n5f := bNf.cell 5 rfl
          have hzf : w.heap.size + 2 ≤ w5.heap.size := by have := bNf.lt; omega
          clear bHf bNf
          go_wp2_with fail
          refine wp_region_held_drew (S := fun w' => w'.cell? ⟨w.heap.size, 3, none⟩ = some (.slice a3 h.vObjs.length cap3) ∧ w'.cell? ⟨w.heap.size + 1, 0, none⟩ = some (.int .i64 x.vId)) (by kernel_rfl) (by refine ⟨?_, ?_⟩ <;> assumption) (fun hHeld => ?_)
          refine tq (i := 0) (d := 101) ?_
          simp only [sz, ss]
          refine tq (i := 1) (d := 102) ?_
          simp only [sz, ss]
          refine tq (i := 2) (d := 103) ?_
          simp only [sz, ss]
          refine tn (i := 3) (d := 104) ?_
          simp only [sz, ss]
          refine tn (i := 4) (d := 105) ?_
          simp only [sz, ss]
          refine tn (i := 5) (d := 106) ?_
          simp only [sz, ss]
          refine tn (i := 6) (d := 107) ?_
          simp only [sz, ss]
          refine tn (i := 7) (d := 108) ?_
          simp only [sz, ss]
          refine tn (i := 8) (d := 109) ?_
          simp only [sz, ss]
          refine tn (i := 9) (d := 110) ?_
          simp only [sz, ss]
          refine tn (i := 10) (d := 111) ?_
          simp only [sz, ss]
          refine tn (i := 11) (d := 112) ?_
          simp only [sz, ss]
          refine tq (i := 12) (d := 113) ?_
          simp only [sz, ss]
          refine tq (i := 13) (d := 4) ?_
          simp only [sz, ss]
          refine wpAnyH_done (by kernel_rfl) ?_ _
          go_wp2_with fail
          go_ret
          exact ⟨ret_bool (by exact HF.out.symm), hbwf.drew⟩
        by_cases hno : h.vObjs[i'].vNode = x.vId
        · have HF : Hid (nodeB h x = true) := by show _ = _; rw [HB2.out]; simp [wrapB, hw, hat, hno]
          clear hw hat
          go_wp2_with fail
          refine (l2Obj_any hhdw.out).mono ?_
          rintro e w5 ⟨rfl, hb5⟩
          rw [hidx]
          have hb6 : Below (w.heap.size + 2) _ w5 := hb7.trans (hb5.mono hzd)
          clear hidx
          clear t0d t1d t2d t3d t4d n0d n1d n2d n3d n4d n5d
          have hbwf : Below w.heap.size w w5 := hb0.trans (hb6.mono (by omega))
          have bHf := (bH0.out).below hb6 (by omega)
          have bNf := (bN0.out).below hb6 (by omega)
          have t0f := bHf.cell 0 rfl
          have t1f := bHf.cell 1 rfl
          have t2f := bHf.cell 2 rfl
          have t3f := bHf.cell 3 rfl
          have t4f := bHf.cell 4 rfl
          have n0f := bNf.cell 0 rfl
          have n1f := bNf.cell 1 rfl
          have n2f := bNf.cell 2 rfl
          have n3f := bNf.cell 3 rfl
          have n4f := bNf.cell 4 rfl
          have n5f := bNf.cell 5 rfl
          have hzf : w.heap.size + 2 ≤ w5.heap.size := by have := bNf.lt; omega
          clear bHf bNf
          obtain ⟨bo, offo, rfl, hloo, hbwo, hco⟩ := hx3'.out (by omega)
          obtain ⟨cso, hclo, lieo, hro⟩ := hco i' hi'
          have lieo1 := Lie.keep (lo := lo) (lo' := lo) lieo (.of_below hbwf) hloo hbwo
          generalize hO0 : h.vObjs[i'] = ON at hro hno
          clear hO0
          obtain ⟨g2, rfl, _⟩ := hro
          have y1 := lie_at lieo1 1 rfl
          have hin : (0 : Int) ≤ (i' : Int) := by omega
          have hin2 : (i' : Int) < (h.vObjs.length : Int) := by omega
          clear lieo lieo1 hclo hco
          have hno2 : (ON.vNode == x.vId) = true := by simpa using hno
          rw [hno] at y1
          clear hno hno2
          go_wp2_with fail
          refine wp_region_held_drew (S := fun w' => w'.cell? ⟨w.heap.size, 3, none⟩ = some (.slice (some ⟨bo, offo, none⟩) h.vObjs.length cap3) ∧ w'.cell? ⟨bo, offo + i' * 3 + 1, none⟩ = some (.int .i64 x.vId) ∧ w'.cell? ⟨w.heap.size + 1, 0, none⟩ = some (.int .i64 x.vId)) (by kernel_rfl) (by refine ⟨?_, ?_, ?_⟩ <;> assumption) (fun hHeld => ?_)
          refine tq (i := 0) (d := 101) ?_
          simp only [sz, ss]
          refine tq (i := 1) (d := 102) ?_
          simp only [sz, ss]
          refine tq (i := 2) (d := 103) ?_
          simp only [sz, ss]
          refine tq (i := 3) (d := 104) ?_
          simp only [sz, ss]
          refine tq (i := 4) (d := 105) ?_
          simp only [sz, ss]
          refine tq (i := 5) (d := 106) ?_
          simp only [sz, ss]
          refine tq (i := 6) (d := 107) ?_
          simp only [sz, ss]
          refine tq (i := 7) (d := 108) ?_
          simp only [sz, ss]
          refine tq (i := 8) (d := 109) ?_
          simp only [sz, ss]
          refine tq (i := 9) (d := 110) ?_
          simp only [sz, ss]
          refine tq (i := 10) (d := 111) ?_
          simp only [sz, ss]
          refine tq (i := 11) (d := 112) ?_
          simp only [sz, ss]
          refine tq (i := 12) (d := 113) ?_
          simp only [sz, ss]
          refine tq (i := 13) (d := 4) ?_
          simp only [sz, ss]
          refine wpAnyH_done (by kernel_rfl) ?_ _
          go_wp2_with fail
          go_ret
          exact ⟨ret_bool (by exact HF.out.symm), hbwf.drew⟩
        · have HF : Hid (nodeB h x = false) := by show _ = _; rw [HB2.out]; simp [wrapB, hw, hat, hno]
          clear hw hat
          go_wp2_with fail
          refine (l2Obj_any hhdw.out).mono ?_
          rintro e w5 ⟨rfl, hb5⟩
          rw [hidx]
          have hb6 : Below (w.heap.size + 2) _ w5 := hb7.trans (hb5.mono hzd)
          clear hidx
          clear t0d t1d t2d t3d t4d n0d n1d n2d n3d n4d n5d
          have hbwf : Below w.heap.size w w5 := hb0.trans (hb6.mono (by omega))
          have bHf := (bH0.out).below hb6 (by omega)
          have bNf := (bN0.out).below hb6 (by omega)
          have t0f := bHf.cell 0 rfl
          have t1f := bHf.cell 1 rfl
          have t2f := bHf.cell 2 rfl
          have t3f := bHf.cell 3 rfl
          have t4f := bHf.cell 4 rfl
          have n0f := bNf.cell 0 rfl
          have n1f := bNf.cell 1 rfl
          have n2f := bNf.cell 2 rfl
          have n3f := bNf.cell 3 rfl
          have n4f := bNf.cell 4 rfl
          have n5f := bNf.cell 5 rfl
          have hzf : w.heap.size + 2 ≤ w5.heap.size := by have := bNf.lt; omega
          clear bHf bNf
          obtain ⟨bo, offo, rfl, hloo, hbwo, hco⟩ := hx3'.out (by omega)
          obtain ⟨cso, hclo, lieo, hro⟩ := hco i' hi'
          have lieo1 := Lie.keep (lo := lo) (lo' := lo) lieo (.of_below hbwf) hloo hbwo
          generalize hO0 : h.vObjs[i'] = ON at hro hno
          clear hO0
          obtain ⟨g2, rfl, _⟩ := hro
          have y1 := lie_at lieo1 1 rfl
          have hin : (0 : Int) ≤ (i' : Int) := by omega
          have hin2 : (i' : Int) < (h.vObjs.length : Int) := by omega
          clear lieo lieo1 hclo hco
          have hno2 : (ON.vNode == x.vId) = false := by simpa using hno
          clear hno
          go_wp2_with fail
          refine wp_region_held_drew (S := fun w' => w'.cell? ⟨w.heap.size, 3, none⟩ = some (.slice (some ⟨bo, offo, none⟩) h.vObjs.length cap3) ∧ w'.cell? ⟨bo, offo + i' * 3 + 1, none⟩ = some (.int .i64 ON.vNode) ∧ w'.cell? ⟨w.heap.size + 1, 0, none⟩ = some (.int .i64 x.vId)) (by kernel_rfl) (by refine ⟨?_, ?_, ?_⟩ <;> assumption) (fun hHeld => ?_)
          refine tq (i := 0) (d := 101) ?_
          simp only [sz, ss]
          refine tq (i := 1) (d := 102) ?_
          simp only [sz, ss]
          refine tq (i := 2) (d := 103) ?_
          simp only [sz, ss]
          refine tq (i := 3) (d := 104) ?_
          simp only [sz, ss]
          refine tq (i := 4) (d := 105) ?_
          simp only [sz, ss]
          refine tq (i := 5) (d := 106) ?_
          simp only [sz, ss]
          refine tq (i := 6) (d := 107) ?_
          simp only [sz, ss]
          refine tq (i := 7) (d := 108) ?_
          simp only [sz, ss]
          refine tq (i := 8) (d := 109) ?_
          simp only [sz, ss]
          refine tq (i := 9) (d := 110) ?_
          simp only [sz, ss]
          refine tq (i := 10) (d := 111) ?_
          simp only [sz, ss]
          refine tq (i := 11) (d := 112) ?_
          simp only [sz, ss]
          refine tq (i := 12) (d := 113) ?_
          simp only [sz, ss]
          refine tq (i := 13) (d := 4) ?_
          simp only [sz, ss]
          refine wpAnyH_done (by kernel_rfl) ?_ _
          go_wp2_with fail
          go_ret
          exact ⟨ret_bool (by exact HF.out.symm), hbwf.drew⟩
end Go.Proofs.Ytbodeijffpepfaa
