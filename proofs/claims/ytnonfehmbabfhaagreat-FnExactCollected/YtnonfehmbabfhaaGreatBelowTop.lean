/- Which are there, what is below some, walked: of the specification and of the program. -/
import Derived.Test.YtnonfehmbabfhaaGreatReachedPlain
namespace Go.Proofs.YtnonfehmbabfhaaGreat
open Go.RowKit
def thereB (h : HeapD) (ids : List Int) : Bool := ids.all (isT h) && decide (ids.length ≤ 100)
theorem isT_idx (h : HeapD) (k : Int) : isT h k = (decide (0 ≤ idxN h k) || decide (0 ≤ idxO h k)) := by
  unfold isT nodeAt objAt idxN idxO
  rw [some_of_idx, some_of_idx]
set_option maxRecDepth 100000 in
set_option maxHeartbeats 4000000 in
theorem l6There_any {w : World} {lo : Nat} {cs : List Value} {h : HeapD} {k : Value} {ids : List Int} (hh : HeapAt w lo cs h) (hk : SeqAt 1 IntAt w lo k ids) (hl : ids.length ≤ 1048576) :
    Calls Tryz.prog 41 #[.agg cs.toArray, k] w fun e w' => e = .returned (.bool (thereB h ids)) ∧ Below w.heap.size w w' := by
  have hh' : Hid (HeapAt w lo cs h) := hh
  obtain ⟨k2, k3, k4, rfl, s2, s3, s4, _⟩ := hh
  obtain ⟨a2, cap2, rfl⟩ := s2.form
  obtain ⟨a3, cap3, rfl⟩ := s3.form
  obtain ⟨a4, cap4, rfl⟩ := s4.form
  clear s2 s3 s4
  have hb1 : Below w.heap.size w (w.alloc (.cells #[.int .i64 h.vNext, .int .i64 h.vDoc, .slice a2 h.vNodes.length cap2, .slice a3 h.vObjs.length cap3, .slice a4 h.vGlobals.length cap4] 32)) := (Below.refl _ _).alloc (Nat.le_refl _) _
  have bH0 : Hid (Box (w.alloc (.cells #[.int .i64 h.vNext, .int .i64 h.vDoc, .slice a2 h.vNodes.length cap2, .slice a3 h.vObjs.length cap3, .slice a4 h.vGlobals.length cap4] 32)) w.heap.size [.int .i64 h.vNext, .int .i64 h.vDoc, .slice a2 h.vNodes.length cap2, .slice a3 h.vObjs.length cap3, .slice a4 h.vGlobals.length cap4] 32) := Box.new w [.int .i64 h.vNext, .int .i64 h.vDoc, .slice a2 h.vNodes.length cap2, .slice a3 h.vObjs.length cap3, .slice a4 h.vGlobals.length cap4] 32
  obtain ⟨ak, ck, rfl, hmk, hxk⟩ := hk
  have hxk' : Hid _ := hxk
  clear hxk hmk
  go_enter Tryz.func41, Tryz.ntmps41
  go_wp2_with fail
  go_loopw [5] (fun i wr => ∃ (j : Nat), j ≤ ids.length ∧ i = .int .i64 j ∧ Hid (∀ x ∈ ids.take j, isT h x = true) ∧ Hid (Box wr w.heap.size [.int .i64 h.vNext, .int .i64 h.vDoc, .slice a2 h.vNodes.length cap2, .slice a3 h.vObjs.length cap3, .slice a4 h.vGlobals.length cap4] 32) ∧ Below w.heap.size w wr) (fun i _ => ids.length - (intOf i).toNat)
  case atStart => exact ⟨0, by omega, rfl, fun x hx => (by cases hx), bH0, hb1⟩
  case round =>
    clear bH0 hb1
    obtain ⟨j, hj, rfl, hall, bHr, hbr⟩ := hrel
    have hzr : w.heap.size + 1 ≤ wr.heap.size := bHr.out.lt
    by_cases hlt : j < ids.length
    · obtain ⟨b, off, rfl, hlo, hbw, hc⟩ := hxk'.out (by omega)
      obtain ⟨cs, hcl, lie, hr⟩ := hc j hlt
      have lie1 := Lie.keep (lo := lo) (lo' := lo) lie (.of_below hbr) hlo hbw
      have hstep : Hid (ids.take (j + 1) = ids.take j ++ [ids[j]]) := List.take_succ_eq_append_getElem hlt
      have hmem : Hid (ids[j] ∈ ids) := List.getElem_mem hlt
      generalize hQ : ids[j] = Q at hr hstep hmem
      obtain ⟨rfl, hIQ⟩ := hr
      have z0 := lie1 0 (by simp)
      simp only [List.getElem?_cons_zero, Nat.add_zero, Nat.mul_one] at z0
      have hlt' : (j : Int) < (ids.length : Int) := by omega
      have hj0 : (0 : Int) ≤ (j : Int) := by omega
      have c0 := bHr.out.cell 0 rfl
      have c1 := bHr.out.cell 1 rfl
      have c2 := bHr.out.cell 2 rfl
      have c3 := bHr.out.cell 3 rfl
      have c4 := bHr.out.cell 4 rfl
      have hhd : Hid (HeapAt wr.drew lo _ h) := HeapAt_stays _ _ _ lo _ _ (.of_below hbr.drew) hh'.out
      clear lie lie1 hcl hc hQ
      rcases idxN_is h Q with ⟨hidx, hat⟩ | ⟨i', hi1, hidx, hid1, hat⟩
      rotate_left
      · have hyes : Hid (isT h Q = true) := by show _ = _; rw [isT_idx, hidx]; simp
        have hp0 : decide ((i' : Int) < 0) = false := by simp
        clear hat hid1
        go_wp2_with fail
        refine wp_region_held_drew (S := fun w' => w'.cell? ⟨w.heap.size, 0, none⟩ = some (.int .i64 h.vNext) ∧ w'.cell? ⟨w.heap.size, 1, none⟩ = some (.int .i64 h.vDoc) ∧ w'.cell? ⟨w.heap.size, 2, none⟩ = some (.slice a2 h.vNodes.length cap2) ∧ w'.cell? ⟨w.heap.size, 3, none⟩ = some (.slice a3 h.vObjs.length cap3) ∧ w'.cell? ⟨w.heap.size, 4, none⟩ = some (.slice a4 h.vGlobals.length cap4) ∧ w'.cell? ⟨b, off + j, none⟩ = some (.int .i64 Q)) (by kernel_rfl) (by refine ⟨?_, ?_, ?_, ?_, ?_, ?_⟩ <;> assumption) (fun hHeld => ?_)
        refine tq (i := 0) (d := 12) ?_
        simp only [sz, ss]
        refine tq (i := 1) (d := 13) ?_
        simp only [sz, ss]
        refine tq (i := 2) (d := 14) ?_
        simp only [sz, ss]
        refine tq (i := 3) (d := 15) ?_
        simp only [sz, ss]
        refine tq (i := 4) (d := 16) ?_
        simp only [sz, ss]
        refine wpAnyH_ready (rs := [5]) (by kernel_rfl) (by simp) ?_
        refine AllReadyH.cons rfl (fun K hK => ?_) AllReadyH.nil
        go_simp
        refine (l2Node_any (by exact hhd.out)).mono ?_
        rintro e w2 ⟨rfl, hb1⟩
        have hbN := hb1
        rw [hidx]
        dsimp only
        refine hK.out _ _ ⟨cell_on hb1 hHeld.1, cell_on hb1 hHeld.2.1, cell_on hb1 hHeld.2.2.1, cell_on hb1 hHeld.2.2.2.1, cell_on hb1 hHeld.2.2.2.2.1, cell_on hb1 hHeld.2.2.2.2.2⟩ (fun hHeld => ?_)
        clear hK K
        refine tq (i := 6) (d := 18) ?_
        simp only [sz, ss]
        refine tq (i := 7) (d := 19) ?_
        simp only [sz, ss]
        refine tn (i := 8) (d := 20) ?_
        simp only [sz, ss]
        refine tn (i := 9) (d := 21) ?_
        simp only [sz, ss]
        refine tn (i := 10) (d := 22) ?_
        simp only [sz, ss]
        refine tn (i := 11) (d := 23) ?_
        simp only [sz, ss]
        refine tn (i := 12) (d := 24) ?_
        simp only [sz, ss]
        refine tn (i := 13) (d := 25) ?_
        simp only [sz, ss]
        refine tn (i := 14) (d := 26) ?_
        simp only [sz, ss]
        refine tq (i := 15) (d := 27) ?_
        simp only [sz, ss]
        refine wpAnyH_done (by kernel_rfl) ?_ _
        have hbr2 : Below w.heap.size w w2 := hbr.drew.trans (hbN.mono hbr.size)
        have bH2 : Hid (Box w2 w.heap.size [.int .i64 h.vNext, .int .i64 h.vDoc, .slice a2 h.vNodes.length cap2, .slice a3 h.vObjs.length cap3, .slice a4 h.vGlobals.length cap4] 32) := (Box.below bHr.out (undrew hbN) (by omega))
        clear c0 c1 c2 c3 c4 z0 hbN
        go_wp2_with fail
        go_roundw
        case rel => exact ⟨j + 1, by omega, by go_num, fun x hx => by rw [hstep.out] at hx; rcases List.mem_append.1 hx with q | q; exact hall.out x q; simp at q; exact q ▸ hyes.out, bH2, hbr2⟩
        case measure => simp [intOf]; omega
      rcases idxO_is h Q with ⟨hidxO, hatO⟩ | ⟨i', hi1, hidxO, hid1, hatO⟩
      · have hno : Hid (thereB h ids = false) := by
          show _ = _
          have hq : isT h Q = false := by rw [isT_idx, hidx, hidxO]; rfl
          have hq2 : ids.all (isT h) = false := by
            rw [List.all_eq_false]
            exact ⟨Q, hmem.out, by rw [hq]; simp⟩
          simp [thereB, hq2]
        clear hat hatO
        go_wp2_with fail
        refine wp_region_held_drew (S := fun w' => w'.cell? ⟨w.heap.size, 0, none⟩ = some (.int .i64 h.vNext) ∧ w'.cell? ⟨w.heap.size, 1, none⟩ = some (.int .i64 h.vDoc) ∧ w'.cell? ⟨w.heap.size, 2, none⟩ = some (.slice a2 h.vNodes.length cap2) ∧ w'.cell? ⟨w.heap.size, 3, none⟩ = some (.slice a3 h.vObjs.length cap3) ∧ w'.cell? ⟨w.heap.size, 4, none⟩ = some (.slice a4 h.vGlobals.length cap4) ∧ w'.cell? ⟨b, off + j, none⟩ = some (.int .i64 Q)) (by kernel_rfl) (by refine ⟨?_, ?_, ?_, ?_, ?_, ?_⟩ <;> assumption) (fun hHeld => ?_)
        refine tq (i := 0) (d := 12) ?_
        simp only [sz, ss]
        refine tq (i := 1) (d := 13) ?_
        simp only [sz, ss]
        refine tq (i := 2) (d := 14) ?_
        simp only [sz, ss]
        refine tq (i := 3) (d := 15) ?_
        simp only [sz, ss]
        refine tq (i := 4) (d := 16) ?_
        simp only [sz, ss]
        refine wpAnyH_ready (rs := [5]) (by kernel_rfl) (by simp) ?_
        refine AllReadyH.cons rfl (fun K hK => ?_) AllReadyH.nil
        go_simp
        refine (l2Node_any (by exact hhd.out)).mono ?_
        rintro e w2 ⟨rfl, hb1⟩
        have hbN := hb1
        rw [hidx]
        dsimp only
        refine hK.out _ _ ⟨cell_on hb1 hHeld.1, cell_on hb1 hHeld.2.1, cell_on hb1 hHeld.2.2.1, cell_on hb1 hHeld.2.2.2.1, cell_on hb1 hHeld.2.2.2.2.1, cell_on hb1 hHeld.2.2.2.2.2⟩ (fun hHeld => ?_)
        clear hK K
        refine tq (i := 6) (d := 18) ?_
        simp only [sz, ss]
        refine tq (i := 7) (d := 19) ?_
        simp only [sz, ss]
        refine tq (i := 8) (d := 20) ?_
        simp only [sz, ss]
        refine tq (i := 9) (d := 21) ?_
        simp only [sz, ss]
        refine tq (i := 10) (d := 22) ?_
        simp only [sz, ss]
        refine tq (i := 11) (d := 23) ?_
        simp only [sz, ss]
        refine tq (i := 12) (d := 24) ?_
        simp only [sz, ss]
        refine wpAnyH_ready (rs := [13]) (by kernel_rfl) (by simp) ?_
        refine AllReadyH.cons rfl (fun K hK => ?_) AllReadyH.nil
        go_simp
        refine (l2Obj_any (by exact HeapAt_stays _ _ _ lo _ _ (.of_below hbN) hhd.out)).mono ?_
        rintro e w3 ⟨rfl, hb1⟩
        have hbO := hb1
        rw [hidxO]
        dsimp only
        refine hK.out _ _ ⟨cell_on hb1 hHeld.1, cell_on hb1 hHeld.2.1, cell_on hb1 hHeld.2.2.1, cell_on hb1 hHeld.2.2.2.1, cell_on hb1 hHeld.2.2.2.2.1, cell_on hb1 hHeld.2.2.2.2.2⟩ (fun hHeld => ?_)
        clear hK K
        refine tq (i := 14) (d := 26) ?_
        simp only [sz, ss]
        refine tq (i := 15) (d := 27) ?_
        simp only [sz, ss]
        refine wpAnyH_done (by kernel_rfl) ?_ _
        have hbr2 : Below w.heap.size w w3 := (hbr.drew.trans (hbN.mono hbr.size)).trans (hbO.mono (by have := hbN.size; have := hbr.size; simp at *; omega))
        clear c0 c1 c2 c3 c4 z0 hbN hbO
        go_wp2_with fail
        go_ret
        exact ⟨ret_bool hno.out.symm, hbr2⟩
      · have hyes : Hid (isT h Q = true) := by show _ = _; rw [isT_idx, hidxO]; simp
        have hp0 : decide ((i' : Int) < 0) = false := by simp
        clear hat hatO hid1
        go_wp2_with fail
        refine wp_region_held_drew (S := fun w' => w'.cell? ⟨w.heap.size, 0, none⟩ = some (.int .i64 h.vNext) ∧ w'.cell? ⟨w.heap.size, 1, none⟩ = some (.int .i64 h.vDoc) ∧ w'.cell? ⟨w.heap.size, 2, none⟩ = some (.slice a2 h.vNodes.length cap2) ∧ w'.cell? ⟨w.heap.size, 3, none⟩ = some (.slice a3 h.vObjs.length cap3) ∧ w'.cell? ⟨w.heap.size, 4, none⟩ = some (.slice a4 h.vGlobals.length cap4) ∧ w'.cell? ⟨b, off + j, none⟩ = some (.int .i64 Q)) (by kernel_rfl) (by refine ⟨?_, ?_, ?_, ?_, ?_, ?_⟩ <;> assumption) (fun hHeld => ?_)
        refine tq (i := 0) (d := 12) ?_
        simp only [sz, ss]
        refine tq (i := 1) (d := 13) ?_
        simp only [sz, ss]
        refine tq (i := 2) (d := 14) ?_
        simp only [sz, ss]
        refine tq (i := 3) (d := 15) ?_
        simp only [sz, ss]
        refine tq (i := 4) (d := 16) ?_
        simp only [sz, ss]
        refine wpAnyH_ready (rs := [5]) (by kernel_rfl) (by simp) ?_
        refine AllReadyH.cons rfl (fun K hK => ?_) AllReadyH.nil
        go_simp
        refine (l2Node_any (by exact hhd.out)).mono ?_
        rintro e w2 ⟨rfl, hb1⟩
        have hbN := hb1
        rw [hidx]
        dsimp only
        refine hK.out _ _ ⟨cell_on hb1 hHeld.1, cell_on hb1 hHeld.2.1, cell_on hb1 hHeld.2.2.1, cell_on hb1 hHeld.2.2.2.1, cell_on hb1 hHeld.2.2.2.2.1, cell_on hb1 hHeld.2.2.2.2.2⟩ (fun hHeld => ?_)
        clear hK K
        refine tq (i := 6) (d := 18) ?_
        simp only [sz, ss]
        refine tq (i := 7) (d := 19) ?_
        simp only [sz, ss]
        refine tq (i := 8) (d := 20) ?_
        simp only [sz, ss]
        refine tq (i := 9) (d := 21) ?_
        simp only [sz, ss]
        refine tq (i := 10) (d := 22) ?_
        simp only [sz, ss]
        refine tq (i := 11) (d := 23) ?_
        simp only [sz, ss]
        refine tq (i := 12) (d := 24) ?_
        simp only [sz, ss]
        refine wpAnyH_ready (rs := [13]) (by kernel_rfl) (by simp) ?_
        refine AllReadyH.cons rfl (fun K hK => ?_) AllReadyH.nil
        go_simp
        refine (l2Obj_any (by exact HeapAt_stays _ _ _ lo _ _ (.of_below hbN) hhd.out)).mono ?_
        rintro e w3 ⟨rfl, hb1⟩
        have hbO := hb1
        rw [hidxO]
        dsimp only
        refine hK.out _ _ ⟨cell_on hb1 hHeld.1, cell_on hb1 hHeld.2.1, cell_on hb1 hHeld.2.2.1, cell_on hb1 hHeld.2.2.2.1, cell_on hb1 hHeld.2.2.2.2.1, cell_on hb1 hHeld.2.2.2.2.2⟩ (fun hHeld => ?_)
        clear hK K
        refine tq (i := 14) (d := 26) ?_
        simp only [sz, ss]
        refine tq (i := 15) (d := 27) ?_
        simp only [sz, ss]
        refine wpAnyH_done (by kernel_rfl) ?_ _
        have hbr2 : Below w.heap.size w w3 := (hbr.drew.trans (hbN.mono hbr.size)).trans (hbO.mono (by have := hbN.size; have := hbr.size; simp at *; omega))
        have bH2 : Hid (Box w3 w.heap.size [.int .i64 h.vNext, .int .i64 h.vDoc, .slice a2 h.vNodes.length cap2, .slice a3 h.vObjs.length cap3, .slice a4 h.vGlobals.length cap4] 32) := (Box.below (Box.below bHr.out (undrew hbN) (by omega)) hbO (by have := hbN.size; simp at *; omega))
        clear c0 c1 c2 c3 c4 z0 hbN hbO
        go_wp2_with fail
        go_roundw
        case rel => exact ⟨j + 1, by omega, by go_num, fun x hx => by rw [hstep.out] at hx; rcases List.mem_append.1 hx with q | q; exact hall.out x q; simp at q; exact q ▸ hyes.out, bH2, hbr2⟩
        case measure => simp [intOf]; omega
    obtain rfl : j = ids.length := by omega
    have hT : Hid (thereB h ids = decide (ids.length ≤ 100)) := by
      show _ = _
      have q : ids.all (isT h) = true := List.all_eq_true.2 fun x hx => hall.out x (by rw [List.take_length]; exact hx)
      simp [thereB, q]
    by_cases h100 : ids.length ≤ 100
    · have h100' : (ids.length : Int) ≤ 100 := by omega
      have hT2 : Hid (thereB h ids = true) := by show _ = _; rw [hT.out]; simp [h100]
      clear h100
      go_wp2_with fail
      go_ret
      exact ⟨ret_bool (by rw [hT2.out]), hbr⟩
    · have h100' : decide ((ids.length : Int) ≤ 100) = false := by simp; omega
      have hT2 : Hid (thereB h ids = false) := by show _ = _; rw [hT.out]; simp [h100]
      clear h100
      go_wp2_with fail
      go_ret
      exact ⟨ret_bool (by rw [hT2.out]), hbr⟩
end Go.Proofs.YtnonfehmbabfhaaGreat
