/- l2Fields of the specification, walked. -/
import Derived.Test.YtbodeijffpepfaaHeapSmall
import Derived.Deep.RegionHeld3
namespace Go.Proofs.Ytbodeijffpepfaa
open Go.RowKit
set_option maxHeartbeats 4000000 in
theorem l2Fields_any {w : World} {lo : Nat} {cs : List Value} {h : HeapD} {k : Value} {xs : List FieldD} {most : Int} (hh : HeapAt w lo cs h) (hk : SeqAt 2 FieldAt w lo k xs) :
    Calls Try.prog 23 #[.agg cs.toArray, k, .int .i64 most] w fun e w' => e = .returned (.bool (fieldsB h xs most)) ∧ Below w.heap.size w w' := by
  have hh' : Hid (HeapAt w lo cs h) := hh
  obtain ⟨k2, k3, k4, rfl, s2, s3, s4, rNext, rDoc, _⟩ := hh
  obtain ⟨a, cap, rfl, hm, hx⟩ := hk
  unfold maxLen at hm
  have hx' : Hid _ := hx
  clear hx s2 s3 s4 rNext rDoc
  have hb0 : Below w.heap.size w (w.alloc (.cells #[.int .i64 h.vNext, .int .i64 h.vDoc, k2, k3, k4] 43)) := (Below.refl _ _).alloc (Nat.le_refl _) _
  go_enter Try.func23, Try.ntmps23
  go_wp2_with fail
  go_loopw [7] (fun i wr => ∃ (j : Nat), j ≤ xs.length ∧ i = .int .i64 j ∧ Below (w.heap.size + 1) (w.alloc (.cells #[.int .i64 h.vNext, .int .i64 h.vDoc, k2, k3, k4] 43)) wr ∧ Hid (fldsB h none xs = fldsB h (prevN xs j) (xs.drop j))) (fun i _ => xs.length - (intOf i).toNat)
  case atStart => exact ⟨0, by omega, rfl, Below.refl _ _, rfl⟩
  case round =>
    obtain ⟨j, hj, rfl, hb, hrem⟩ := hrel
    have hbw' : Below w.heap.size w wr := hb0.trans (hb.mono (by omega))
    have hhr : Hid (HeapAt wr.drew lo [.int .i64 h.vNext, .int .i64 h.vDoc, k2, k3, k4] h) := HeapAt_stays _ _ _ lo _ _ (.of_below hbw'.drew) hh'.out
    by_cases hlt : j < xs.length
    · obtain ⟨b, off, rfl, hlo, hbw, hc⟩ := hx'.out (by omega)
      obtain ⟨cs, hcl, lie, hr⟩ := hc j hlt
      have lie1 := Lie.keep (lo := lo) (lo' := lo) lie (.of_below hbw') hlo hbw
      cases j with
      | zero =>
        have hp0 : (0 : Int) < (xs.length : Int) := by omega
        generalize hX0 : xs[0] = X at hr
        have hX : Hid _ := hX0
        clear hX0
        obtain ⟨rfl, rName, rObj, _⟩ := hr
        have z0 := lie_at lie1 0 rfl
        have z1 := lie_at lie1 1 rfl
        simp only [Nat.add_zero, Nat.zero_mul] at z0 z1
        have bx0 : Box wr w.heap.size [.int .i64 h.vNext, .int .i64 h.vDoc, k2, k3, k4] 43 := (Box.new w _ _).below hb (by omega)
        have t0 := bx0.cell 0 rfl
        have t1 := bx0.cell 1 rfl
        have t2 := bx0.cell 2 rfl
        have t3 := bx0.cell 3 rfl
        have t4 := bx0.cell 4 rfl
        have hbz : w.heap.size + 1 ≤ wr.heap.size := bx0.lt
        clear bx0
        clear hc lie lie1 hcl hx'
        cases hn : nmB X.vName
        · have HF : Hid _ := fldsB_noName (h := h) hlt (by rw [hX.out]; exact hn)
          have hN : ∀ w, Calls Try.prog 40 #[.string X.vName] w fun e w' => e = .returned (.bool false) ∧ w' = w := fun w => by have := specNameOk_any X.vName w rName; unfold nmB at hn; rw [hn] at this; exact this
          clear hn
          go_wp2_with fail
          refine wp_region_held_drew (S := fun w' => w'.cell? ⟨b, off, none⟩ = some (.string X.vName) ∧ w'.cell? ⟨b, off + 1, none⟩ = some (.int .i64 X.vObj) ∧ w'.cell? ⟨w.heap.size, 0, none⟩ = some (.int .i64 h.vNext) ∧ w'.cell? ⟨w.heap.size, 1, none⟩ = some (.int .i64 h.vDoc) ∧ w'.cell? ⟨w.heap.size, 2, none⟩ = some (k2) ∧ w'.cell? ⟨w.heap.size, 3, none⟩ = some (k3) ∧ w'.cell? ⟨w.heap.size, 4, none⟩ = some (k4)) (by kernel_rfl) (by refine ⟨?_, ?_, ?_, ?_, ?_, ?_, ?_⟩ <;> assumption) (fun hHeld => ?_)
          refine tq (i := 0) (d := 14) ?_
          simp only [sz, ss]
          refine tq (i := 1) (d := 15) ?_
          simp only [sz, ss]
          refine tq (i := 2) (d := 16) ?_
          simp only [sz, ss]
          refine tq (i := 3) (d := 17) ?_
          simp only [sz, ss]
          refine tq (i := 4) (d := 18) ?_
          simp only [sz, ss]
          refine wpAnyH_ready (rs := [5]) (by kernel_rfl) (by simp) ?_
          refine AllReadyH.cons rfl (fun K hK => ?_) AllReadyH.nil
          go_simp
          refine (hN _).mono ?_
          rintro e w1 ⟨rfl, rfl⟩
          dsimp only
          refine hK.out _ _ (by assumption) (fun hHeld => ?_)
          clear hK K
          refine tq (i := 6) (d := 20) ?_
          simp only [sz, ss]
          refine tq (i := 7) (d := 21) ?_
          simp only [sz, ss]
          refine tn (i := 8) (d := 22) ?_
          simp only [sz, ss]
          refine tn (i := 9) (d := 23) ?_
          simp only [sz, ss]
          refine tn (i := 10) (d := 24) ?_
          simp only [sz, ss]
          refine tn (i := 11) (d := 25) ?_
          simp only [sz, ss]
          refine tn (i := 12) (d := 26) ?_
          simp only [sz, ss]
          refine tn (i := 13) (d := 27) ?_
          simp only [sz, ss]
          refine tn (i := 14) (d := 28) ?_
          simp only [sz, ss]
          refine tn (i := 15) (d := 29) ?_
          simp only [sz, ss]
          refine tn (i := 16) (d := 30) ?_
          simp only [sz, ss]
          refine tn (i := 17) (d := 31) ?_
          simp only [sz, ss]
          refine tn (i := 18) (d := 32) ?_
          simp only [sz, ss]
          refine tn (i := 19) (d := 33) ?_
          simp only [sz, ss]
          refine tn (i := 20) (d := 34) ?_
          simp only [sz, ss]
          refine tn (i := 21) (d := 35) ?_
          simp only [sz, ss]
          refine tn (i := 22) (d := 36) ?_
          simp only [sz, ss]
          refine tn (i := 23) (d := 37) ?_
          simp only [sz, ss]
          refine tq (i := 24) (d := 38) ?_
          simp only [sz, ss]
          refine tq (i := 25) (d := 39) ?_
          simp only [sz, ss]
          refine tn (i := 26) (d := 40) ?_
          simp only [sz, ss]
          refine tn (i := 27) (d := 41) ?_
          simp only [sz, ss]
          refine tn (i := 28) (d := 42) ?_
          simp only [sz, ss]
          refine tn (i := 29) (d := 43) ?_
          simp only [sz, ss]
          refine tn (i := 30) (d := 44) ?_
          simp only [sz, ss]
          refine tn (i := 31) (d := 45) ?_
          simp only [sz, ss]
          refine tn (i := 32) (d := 46) ?_
          simp only [sz, ss]
          refine tn (i := 33) (d := 47) ?_
          simp only [sz, ss]
          refine tq (i := 34) (d := 48) ?_
          simp only [sz, ss]
          refine wpAnyH_done (by kernel_rfl) ?_ _
          go_wp2_with fail
          go_ret
          exact ⟨ret_bool (by rw [fieldsB, hrem.out, HF.out]; rfl), hbw'.drew⟩
        have hN : ∀ w, Calls Try.prog 40 #[.string X.vName] w fun e w' => e = .returned (.bool true) ∧ w' = w := fun w => by have := specNameOk_any X.vName w rName; unfold nmB at hn; rw [hn] at this; exact this
        have Hn : Hid (nmB X.vName = true) := hn
        clear hn
        have hlo2 := idxO_lo h X.vObj
        by_cases ho : idxO h X.vObj < 0
        · have HF : Hid _ := fldsB_noObj (h := h) hlt (by rw [hX.out]; exact ho)
          have ho1 : decide (idxO h X.vObj < 0) = true := by simpa using ho
          go_wp2_with fail
          refine wp_region_held_drew (S := fun w' => w'.cell? ⟨b, off, none⟩ = some (.string X.vName) ∧ w'.cell? ⟨b, off + 1, none⟩ = some (.int .i64 X.vObj) ∧ w'.cell? ⟨w.heap.size, 0, none⟩ = some (.int .i64 h.vNext) ∧ w'.cell? ⟨w.heap.size, 1, none⟩ = some (.int .i64 h.vDoc) ∧ w'.cell? ⟨w.heap.size, 2, none⟩ = some (k2) ∧ w'.cell? ⟨w.heap.size, 3, none⟩ = some (k3) ∧ w'.cell? ⟨w.heap.size, 4, none⟩ = some (k4)) (by kernel_rfl) (by refine ⟨?_, ?_, ?_, ?_, ?_, ?_, ?_⟩ <;> assumption) (fun hHeld => ?_)
          refine tq (i := 0) (d := 14) ?_
          simp only [sz, ss]
          refine tq (i := 1) (d := 15) ?_
          simp only [sz, ss]
          refine tq (i := 2) (d := 16) ?_
          simp only [sz, ss]
          refine tq (i := 3) (d := 17) ?_
          simp only [sz, ss]
          refine tq (i := 4) (d := 18) ?_
          simp only [sz, ss]
          refine wpAnyH_ready (rs := [5]) (by kernel_rfl) (by simp) ?_
          refine AllReadyH.cons rfl (fun K hK => ?_) AllReadyH.nil
          go_simp
          refine (hN _).mono ?_
          rintro e w1 ⟨rfl, rfl⟩
          dsimp only
          refine hK.out _ _ (by assumption) (fun hHeld => ?_)
          clear hK K
          refine tq (i := 6) (d := 20) ?_
          simp only [sz, ss]
          refine tq (i := 7) (d := 21) ?_
          simp only [sz, ss]
          refine tq (i := 8) (d := 22) ?_
          simp only [sz, ss]
          refine tq (i := 9) (d := 23) ?_
          simp only [sz, ss]
          refine tq (i := 10) (d := 24) ?_
          simp only [sz, ss]
          refine tn (i := 11) (d := 25) ?_
          simp only [sz, ss]
          refine tn (i := 12) (d := 26) ?_
          simp only [sz, ss]
          refine tn (i := 13) (d := 27) ?_
          simp only [sz, ss]
          refine tn (i := 14) (d := 28) ?_
          simp only [sz, ss]
          refine tn (i := 15) (d := 29) ?_
          simp only [sz, ss]
          refine tn (i := 16) (d := 30) ?_
          simp only [sz, ss]
          refine tn (i := 17) (d := 31) ?_
          simp only [sz, ss]
          refine tn (i := 18) (d := 32) ?_
          simp only [sz, ss]
          refine tn (i := 19) (d := 33) ?_
          simp only [sz, ss]
          refine tn (i := 20) (d := 34) ?_
          simp only [sz, ss]
          refine tn (i := 21) (d := 35) ?_
          simp only [sz, ss]
          refine tn (i := 22) (d := 36) ?_
          simp only [sz, ss]
          refine tq (i := 23) (d := 37) ?_
          simp only [sz, ss]
          refine tq (i := 24) (d := 38) ?_
          simp only [sz, ss]
          refine tq (i := 25) (d := 39) ?_
          simp only [sz, ss]
          refine tq (i := 26) (d := 40) ?_
          simp only [sz, ss]
          refine tq (i := 27) (d := 41) ?_
          simp only [sz, ss]
          refine tq (i := 28) (d := 42) ?_
          simp only [sz, ss]
          refine tq (i := 29) (d := 43) ?_
          simp only [sz, ss]
          refine tq (i := 30) (d := 44) ?_
          simp only [sz, ss]
          refine tq (i := 31) (d := 45) ?_
          simp only [sz, ss]
          refine wpAnyH_ready (rs := [32]) (by kernel_rfl) (by simp) ?_
          refine AllReadyH.cons rfl (fun K hK => ?_) AllReadyH.nil
          go_simp
          refine (l2Obj_any (by exact hhr.out)).mono ?_
          rintro e w1 ⟨rfl, hb1⟩
          have hb2 : Below (w.heap.size + 1) (w.alloc (.cells #[.int .i64 h.vNext, .int .i64 h.vDoc, k2, k3, k4] 43)) w1 := hb.drew.trans (hb1.mono hbz)
          dsimp only
          refine hK.out _ _ ⟨cell_on hb1 hHeld.1, cell_on hb1 hHeld.2.1, cell_on hb1 hHeld.2.2.1, cell_on hb1 hHeld.2.2.2.1, cell_on hb1 hHeld.2.2.2.2.1, cell_on hb1 hHeld.2.2.2.2.2.1, cell_on hb1 hHeld.2.2.2.2.2.2⟩ (fun hHeld => ?_)
          clear hK K
          refine tq (i := 33) (d := 47) ?_
          simp only [sz, ss]
          refine tq (i := 34) (d := 48) ?_
          simp only [sz, ss]
          refine wpAnyH_done (by kernel_rfl) ?_ _
          go_wp2_with fail
          go_ret
          exact ⟨ret_bool (by rw [fieldsB, hrem.out, HF.out]; rfl), hb0.trans (hb2.mono (by omega))⟩
        have HF : Hid _ := fldsB_on (h := h) hlt (by rw [hX.out]; exact Hn.out) (by rfl) (by rw [hX.out]; omega)
        have ho' : 0 ≤ idxO h X.vObj := by omega
        have ho1 : decide (idxO h X.vObj < 0) = false := by simpa using ho
        clear hlo2
        go_wp2_with fail
        refine wp_region_held_drew (S := fun w' => w'.cell? ⟨b, off, none⟩ = some (.string X.vName) ∧ w'.cell? ⟨b, off + 1, none⟩ = some (.int .i64 X.vObj) ∧ w'.cell? ⟨w.heap.size, 0, none⟩ = some (.int .i64 h.vNext) ∧ w'.cell? ⟨w.heap.size, 1, none⟩ = some (.int .i64 h.vDoc) ∧ w'.cell? ⟨w.heap.size, 2, none⟩ = some (k2) ∧ w'.cell? ⟨w.heap.size, 3, none⟩ = some (k3) ∧ w'.cell? ⟨w.heap.size, 4, none⟩ = some (k4)) (by kernel_rfl) (by refine ⟨?_, ?_, ?_, ?_, ?_, ?_, ?_⟩ <;> assumption) (fun hHeld => ?_)
        refine tq (i := 0) (d := 14) ?_
        simp only [sz, ss]
        refine tq (i := 1) (d := 15) ?_
        simp only [sz, ss]
        refine tq (i := 2) (d := 16) ?_
        simp only [sz, ss]
        refine tq (i := 3) (d := 17) ?_
        simp only [sz, ss]
        refine tq (i := 4) (d := 18) ?_
        simp only [sz, ss]
        refine wpAnyH_ready (rs := [5]) (by kernel_rfl) (by simp) ?_
        refine AllReadyH.cons rfl (fun K hK => ?_) AllReadyH.nil
        go_simp
        refine (hN _).mono ?_
        rintro e w1 ⟨rfl, rfl⟩
        dsimp only
        refine hK.out _ _ (by assumption) (fun hHeld => ?_)
        clear hK K
        refine tq (i := 6) (d := 20) ?_
        simp only [sz, ss]
        refine tq (i := 7) (d := 21) ?_
        simp only [sz, ss]
        refine tq (i := 8) (d := 22) ?_
        simp only [sz, ss]
        refine tq (i := 9) (d := 23) ?_
        simp only [sz, ss]
        refine tq (i := 10) (d := 24) ?_
        simp only [sz, ss]
        refine tn (i := 11) (d := 25) ?_
        simp only [sz, ss]
        refine tn (i := 12) (d := 26) ?_
        simp only [sz, ss]
        refine tn (i := 13) (d := 27) ?_
        simp only [sz, ss]
        refine tn (i := 14) (d := 28) ?_
        simp only [sz, ss]
        refine tn (i := 15) (d := 29) ?_
        simp only [sz, ss]
        refine tn (i := 16) (d := 30) ?_
        simp only [sz, ss]
        refine tn (i := 17) (d := 31) ?_
        simp only [sz, ss]
        refine tn (i := 18) (d := 32) ?_
        simp only [sz, ss]
        refine tn (i := 19) (d := 33) ?_
        simp only [sz, ss]
        refine tn (i := 20) (d := 34) ?_
        simp only [sz, ss]
        refine tn (i := 21) (d := 35) ?_
        simp only [sz, ss]
        refine tn (i := 22) (d := 36) ?_
        simp only [sz, ss]
        refine tq (i := 23) (d := 37) ?_
        simp only [sz, ss]
        refine tq (i := 24) (d := 38) ?_
        simp only [sz, ss]
        refine tq (i := 25) (d := 39) ?_
        simp only [sz, ss]
        refine tq (i := 26) (d := 40) ?_
        simp only [sz, ss]
        refine tq (i := 27) (d := 41) ?_
        simp only [sz, ss]
        refine tq (i := 28) (d := 42) ?_
        simp only [sz, ss]
        refine tq (i := 29) (d := 43) ?_
        simp only [sz, ss]
        refine tq (i := 30) (d := 44) ?_
        simp only [sz, ss]
        refine tq (i := 31) (d := 45) ?_
        simp only [sz, ss]
        refine wpAnyH_ready (rs := [32]) (by kernel_rfl) (by simp) ?_
        refine AllReadyH.cons rfl (fun K hK => ?_) AllReadyH.nil
        go_simp
        refine (l2Obj_any (by exact hhr.out)).mono ?_
        rintro e w1 ⟨rfl, hb1⟩
        have hb2 : Below (w.heap.size + 1) (w.alloc (.cells #[.int .i64 h.vNext, .int .i64 h.vDoc, k2, k3, k4] 43)) w1 := hb.drew.trans (hb1.mono hbz)
        dsimp only
        refine hK.out _ _ ⟨cell_on hb1 hHeld.1, cell_on hb1 hHeld.2.1, cell_on hb1 hHeld.2.2.1, cell_on hb1 hHeld.2.2.2.1, cell_on hb1 hHeld.2.2.2.2.1, cell_on hb1 hHeld.2.2.2.2.2.1, cell_on hb1 hHeld.2.2.2.2.2.2⟩ (fun hHeld => ?_)
        clear hK K
        refine tq (i := 33) (d := 47) ?_
        simp only [sz, ss]
        refine tq (i := 34) (d := 48) ?_
        simp only [sz, ss]
        refine wpAnyH_done (by kernel_rfl) ?_ _
        go_wp2_with fail
        go_roundw
        case rel => exact ⟨0 + 1, by omega, by go_num, hb2, by show _ = _; rw [hrem.out, HF.out]⟩
        case measure => simp [intOf]; omega
      | succ i =>
        obtain ⟨cs0, hcl0, lie0, hr0⟩ := hc i (by omega)
        have lie2 := Lie.keep (lo := lo) (lo' := lo) lie0 (.of_below hbw') hlo hbw
        generalize hX0 : xs[i + 1] = X at hr
        generalize hY0 : xs[i] = Y at hr0
        have hX : Hid _ := hX0
        have hY : Hid _ := hY0
        clear hX0 hY0
        obtain ⟨rfl, rName, rObj, _⟩ := hr
        obtain ⟨rfl, _⟩ := hr0
        have z0 := lie_at lie1 0 rfl
        have z1 := lie_at lie1 1 rfl
        have y0 := lie_at lie2 0 rfl
        simp only [Nat.add_zero] at z0 y0
        have hi0 : (0 : Int) ≤ (i : Int) := by omega
        have hi1 : (i : Int) < (xs.length : Int) := by omega
        have hi2 : (0 : Int) ≤ (i : Int) + 1 := by omega
        have hi3 : (i : Int) + 1 < (xs.length : Int) := by omega
        have hi4 : (0 : Int) < (i : Int) + 1 := by omega
        have hwi : IntKind.i64.wrap (i : Int) = (i : Int) := by rw [IntKind.wrap_i64]; omega
        have bx0 : Box wr w.heap.size [.int .i64 h.vNext, .int .i64 h.vDoc, k2, k3, k4] 43 := (Box.new w _ _).below hb (by omega)
        have t0 := bx0.cell 0 rfl
        have t1 := bx0.cell 1 rfl
        have t2 := bx0.cell 2 rfl
        have t3 := bx0.cell 3 rfl
        have t4 := bx0.cell 4 rfl
        have hbz : w.heap.size + 1 ≤ wr.heap.size := bx0.lt
        clear bx0
        clear hc lie lie0 lie1 lie2 hcl hcl0 hx'
        cases hn : nmB X.vName
        · have HF : Hid _ := fldsB_noName (h := h) hlt (by rw [hX.out]; exact hn)
          have hN : ∀ w, Calls Try.prog 40 #[.string X.vName] w fun e w' => e = .returned (.bool false) ∧ w' = w := fun w => by have := specNameOk_any X.vName w rName; unfold nmB at hn; rw [hn] at this; exact this
          clear hn
          go_wp2_with fail
          refine wp_region_held_drew (S := fun w' => w'.cell? ⟨b, off + (i + 1) * 2, none⟩ = some (.string X.vName) ∧ w'.cell? ⟨b, off + (i + 1) * 2 + 1, none⟩ = some (.int .i64 X.vObj) ∧ w'.cell? ⟨b, off + i * 2, none⟩ = some (.string Y.vName) ∧ w'.cell? ⟨w.heap.size, 0, none⟩ = some (.int .i64 h.vNext) ∧ w'.cell? ⟨w.heap.size, 1, none⟩ = some (.int .i64 h.vDoc) ∧ w'.cell? ⟨w.heap.size, 2, none⟩ = some (k2) ∧ w'.cell? ⟨w.heap.size, 3, none⟩ = some (k3) ∧ w'.cell? ⟨w.heap.size, 4, none⟩ = some (k4)) (by kernel_rfl) (by refine ⟨?_, ?_, ?_, ?_, ?_, ?_, ?_, ?_⟩ <;> assumption) (fun hHeld => ?_)
          refine tq (i := 0) (d := 14) ?_
          simp only [sz, ss]
          refine tq (i := 1) (d := 15) ?_
          simp only [sz, ss]
          refine tq (i := 2) (d := 16) ?_
          simp only [sz, ss]
          refine tq (i := 3) (d := 17) ?_
          simp only [sz, ss]
          refine tq (i := 4) (d := 18) ?_
          simp only [sz, ss]
          refine wpAnyH_ready (rs := [5]) (by kernel_rfl) (by simp) ?_
          refine AllReadyH.cons rfl (fun K hK => ?_) AllReadyH.nil
          go_simp
          refine (hN _).mono ?_
          rintro e w1 ⟨rfl, rfl⟩
          dsimp only
          refine hK.out _ _ (by assumption) (fun hHeld => ?_)
          clear hK K
          refine tq (i := 6) (d := 20) ?_
          simp only [sz, ss]
          refine tq (i := 7) (d := 21) ?_
          simp only [sz, ss]
          refine tn (i := 8) (d := 22) ?_
          simp only [sz, ss]
          refine tn (i := 9) (d := 23) ?_
          simp only [sz, ss]
          refine tn (i := 10) (d := 24) ?_
          simp only [sz, ss]
          refine tn (i := 11) (d := 25) ?_
          simp only [sz, ss]
          refine tn (i := 12) (d := 26) ?_
          simp only [sz, ss]
          refine tn (i := 13) (d := 27) ?_
          simp only [sz, ss]
          refine tn (i := 14) (d := 28) ?_
          simp only [sz, ss]
          refine tn (i := 15) (d := 29) ?_
          simp only [sz, ss]
          refine tn (i := 16) (d := 30) ?_
          simp only [sz, ss]
          refine tn (i := 17) (d := 31) ?_
          simp only [sz, ss]
          refine tn (i := 18) (d := 32) ?_
          simp only [sz, ss]
          refine tn (i := 19) (d := 33) ?_
          simp only [sz, ss]
          refine tn (i := 20) (d := 34) ?_
          simp only [sz, ss]
          refine tn (i := 21) (d := 35) ?_
          simp only [sz, ss]
          refine tn (i := 22) (d := 36) ?_
          simp only [sz, ss]
          refine tn (i := 23) (d := 37) ?_
          simp only [sz, ss]
          refine tq (i := 24) (d := 38) ?_
          simp only [sz, ss]
          refine tq (i := 25) (d := 39) ?_
          simp only [sz, ss]
          refine tn (i := 26) (d := 40) ?_
          simp only [sz, ss]
          refine tn (i := 27) (d := 41) ?_
          simp only [sz, ss]
          refine tn (i := 28) (d := 42) ?_
          simp only [sz, ss]
          refine tn (i := 29) (d := 43) ?_
          simp only [sz, ss]
          refine tn (i := 30) (d := 44) ?_
          simp only [sz, ss]
          refine tn (i := 31) (d := 45) ?_
          simp only [sz, ss]
          refine tn (i := 32) (d := 46) ?_
          simp only [sz, ss]
          refine tn (i := 33) (d := 47) ?_
          simp only [sz, ss]
          refine tq (i := 34) (d := 48) ?_
          simp only [sz, ss]
          refine wpAnyH_done (by kernel_rfl) ?_ _
          go_wp2_with fail
          go_ret
          exact ⟨ret_bool (by rw [fieldsB, hrem.out, HF.out]; rfl), hbw'.drew⟩
        have hN : ∀ w, Calls Try.prog 40 #[.string X.vName] w fun e w' => e = .returned (.bool true) ∧ w' = w := fun w => by have := specNameOk_any X.vName w rName; unfold nmB at hn; rw [hn] at this; exact this
        have Hn : Hid (nmB X.vName = true) := hn
        clear hn
        cases hl : ltS Y.vName X.vName
        · have HF : Hid _ := fldsB_noRise (h := h) hlt (by rw [hX.out, hY.out]; exact hl)
          unfold ltS at hl
          go_wp2_with fail
          refine wp_region_held_drew (S := fun w' => w'.cell? ⟨b, off + (i + 1) * 2, none⟩ = some (.string X.vName) ∧ w'.cell? ⟨b, off + (i + 1) * 2 + 1, none⟩ = some (.int .i64 X.vObj) ∧ w'.cell? ⟨b, off + i * 2, none⟩ = some (.string Y.vName) ∧ w'.cell? ⟨w.heap.size, 0, none⟩ = some (.int .i64 h.vNext) ∧ w'.cell? ⟨w.heap.size, 1, none⟩ = some (.int .i64 h.vDoc) ∧ w'.cell? ⟨w.heap.size, 2, none⟩ = some (k2) ∧ w'.cell? ⟨w.heap.size, 3, none⟩ = some (k3) ∧ w'.cell? ⟨w.heap.size, 4, none⟩ = some (k4)) (by kernel_rfl) (by refine ⟨?_, ?_, ?_, ?_, ?_, ?_, ?_, ?_⟩ <;> assumption) (fun hHeld => ?_)
          refine tq (i := 0) (d := 14) ?_
          simp only [sz, ss]
          refine tq (i := 1) (d := 15) ?_
          simp only [sz, ss]
          refine tq (i := 2) (d := 16) ?_
          simp only [sz, ss]
          refine tq (i := 3) (d := 17) ?_
          simp only [sz, ss]
          refine tq (i := 4) (d := 18) ?_
          simp only [sz, ss]
          refine wpAnyH_ready (rs := [5]) (by kernel_rfl) (by simp) ?_
          refine AllReadyH.cons rfl (fun K hK => ?_) AllReadyH.nil
          go_simp
          refine (hN _).mono ?_
          rintro e w1 ⟨rfl, rfl⟩
          dsimp only
          refine hK.out _ _ (by assumption) (fun hHeld => ?_)
          clear hK K
          refine tq (i := 6) (d := 20) ?_
          simp only [sz, ss]
          refine tq (i := 7) (d := 21) ?_
          simp only [sz, ss]
          refine tq (i := 8) (d := 22) ?_
          simp only [sz, ss]
          refine tq (i := 9) (d := 23) ?_
          simp only [sz, ss]
          refine tq (i := 10) (d := 24) ?_
          simp only [sz, ss]
          refine tq (i := 11) (d := 25) ?_
          simp only [sz, ss]
          refine tq (i := 12) (d := 26) ?_
          simp only [sz, ss]
          refine tq (i := 13) (d := 27) ?_
          simp only [sz, ss]
          refine tq (i := 14) (d := 28) ?_
          simp only [sz, ss]
          refine tq (i := 15) (d := 29) ?_
          simp only [sz, ss]
          refine tq (i := 16) (d := 30) ?_
          simp only [sz, ss]
          refine tq (i := 17) (d := 31) ?_
          simp only [sz, ss]
          refine tq (i := 18) (d := 32) ?_
          simp only [sz, ss]
          refine tq (i := 19) (d := 33) ?_
          simp only [sz, ss]
          refine tq (i := 20) (d := 34) ?_
          simp only [sz, ss]
          refine tq (i := 21) (d := 35) ?_
          simp only [sz, ss]
          refine tq (i := 22) (d := 36) ?_
          simp only [sz, ss]
          refine tq (i := 23) (d := 37) ?_
          simp only [sz, ss]
          refine tq (i := 24) (d := 38) ?_
          simp only [sz, ss]
          refine tq (i := 25) (d := 39) ?_
          simp only [sz, ss]
          refine tn (i := 26) (d := 40) ?_
          simp only [sz, ss]
          refine tn (i := 27) (d := 41) ?_
          simp only [sz, ss]
          refine tn (i := 28) (d := 42) ?_
          simp only [sz, ss]
          refine tn (i := 29) (d := 43) ?_
          simp only [sz, ss]
          refine tn (i := 30) (d := 44) ?_
          simp only [sz, ss]
          refine tn (i := 31) (d := 45) ?_
          simp only [sz, ss]
          refine tn (i := 32) (d := 46) ?_
          simp only [sz, ss]
          refine tn (i := 33) (d := 47) ?_
          simp only [sz, ss]
          refine tq (i := 34) (d := 48) ?_
          simp only [sz, ss]
          refine wpAnyH_done (by kernel_rfl) ?_ _
          go_wp2_with fail
          go_ret
          exact ⟨ret_bool (by rw [fieldsB, hrem.out, HF.out]; rfl), hbw'.drew⟩
        have Hl : Hid (ltS Y.vName X.vName = true) := hl
        unfold ltS at hl
        have hlo2 := idxO_lo h X.vObj
        by_cases ho : idxO h X.vObj < 0
        · have HF : Hid _ := fldsB_noObj (h := h) hlt (by rw [hX.out]; exact ho)
          have ho1 : decide (idxO h X.vObj < 0) = true := by simpa using ho
          go_wp2_with fail
          refine wp_region_held_drew (S := fun w' => w'.cell? ⟨b, off + (i + 1) * 2, none⟩ = some (.string X.vName) ∧ w'.cell? ⟨b, off + (i + 1) * 2 + 1, none⟩ = some (.int .i64 X.vObj) ∧ w'.cell? ⟨b, off + i * 2, none⟩ = some (.string Y.vName) ∧ w'.cell? ⟨w.heap.size, 0, none⟩ = some (.int .i64 h.vNext) ∧ w'.cell? ⟨w.heap.size, 1, none⟩ = some (.int .i64 h.vDoc) ∧ w'.cell? ⟨w.heap.size, 2, none⟩ = some (k2) ∧ w'.cell? ⟨w.heap.size, 3, none⟩ = some (k3) ∧ w'.cell? ⟨w.heap.size, 4, none⟩ = some (k4)) (by kernel_rfl) (by refine ⟨?_, ?_, ?_, ?_, ?_, ?_, ?_, ?_⟩ <;> assumption) (fun hHeld => ?_)
          refine tq (i := 0) (d := 14) ?_
          simp only [sz, ss]
          refine tq (i := 1) (d := 15) ?_
          simp only [sz, ss]
          refine tq (i := 2) (d := 16) ?_
          simp only [sz, ss]
          refine tq (i := 3) (d := 17) ?_
          simp only [sz, ss]
          refine tq (i := 4) (d := 18) ?_
          simp only [sz, ss]
          refine wpAnyH_ready (rs := [5]) (by kernel_rfl) (by simp) ?_
          refine AllReadyH.cons rfl (fun K hK => ?_) AllReadyH.nil
          go_simp
          refine (hN _).mono ?_
          rintro e w1 ⟨rfl, rfl⟩
          dsimp only
          refine hK.out _ _ (by assumption) (fun hHeld => ?_)
          clear hK K
          refine tq (i := 6) (d := 20) ?_
          simp only [sz, ss]
          refine tq (i := 7) (d := 21) ?_
          simp only [sz, ss]
          refine tq (i := 8) (d := 22) ?_
          simp only [sz, ss]
          refine tq (i := 9) (d := 23) ?_
          simp only [sz, ss]
          refine tq (i := 10) (d := 24) ?_
          simp only [sz, ss]
          refine tq (i := 11) (d := 25) ?_
          simp only [sz, ss]
          refine tq (i := 12) (d := 26) ?_
          simp only [sz, ss]
          refine tq (i := 13) (d := 27) ?_
          simp only [sz, ss]
          refine tq (i := 14) (d := 28) ?_
          simp only [sz, ss]
          refine tq (i := 15) (d := 29) ?_
          simp only [sz, ss]
          refine tq (i := 16) (d := 30) ?_
          simp only [sz, ss]
          refine tq (i := 17) (d := 31) ?_
          simp only [sz, ss]
          refine tq (i := 18) (d := 32) ?_
          simp only [sz, ss]
          refine tq (i := 19) (d := 33) ?_
          simp only [sz, ss]
          refine tq (i := 20) (d := 34) ?_
          simp only [sz, ss]
          refine tq (i := 21) (d := 35) ?_
          simp only [sz, ss]
          refine tq (i := 22) (d := 36) ?_
          simp only [sz, ss]
          refine tq (i := 23) (d := 37) ?_
          simp only [sz, ss]
          refine tq (i := 24) (d := 38) ?_
          simp only [sz, ss]
          refine tq (i := 25) (d := 39) ?_
          simp only [sz, ss]
          refine tq (i := 26) (d := 40) ?_
          simp only [sz, ss]
          refine tq (i := 27) (d := 41) ?_
          simp only [sz, ss]
          refine tq (i := 28) (d := 42) ?_
          simp only [sz, ss]
          refine tq (i := 29) (d := 43) ?_
          simp only [sz, ss]
          refine tq (i := 30) (d := 44) ?_
          simp only [sz, ss]
          refine tq (i := 31) (d := 45) ?_
          simp only [sz, ss]
          refine wpAnyH_ready (rs := [32]) (by kernel_rfl) (by simp) ?_
          refine AllReadyH.cons rfl (fun K hK => ?_) AllReadyH.nil
          go_simp
          refine (l2Obj_any (by exact hhr.out)).mono ?_
          rintro e w1 ⟨rfl, hb1⟩
          have hb2 : Below (w.heap.size + 1) (w.alloc (.cells #[.int .i64 h.vNext, .int .i64 h.vDoc, k2, k3, k4] 43)) w1 := hb.drew.trans (hb1.mono hbz)
          dsimp only
          refine hK.out _ _ ⟨cell_on hb1 hHeld.1, cell_on hb1 hHeld.2.1, cell_on hb1 hHeld.2.2.1, cell_on hb1 hHeld.2.2.2.1, cell_on hb1 hHeld.2.2.2.2.1, cell_on hb1 hHeld.2.2.2.2.2.1, cell_on hb1 hHeld.2.2.2.2.2.2.1, cell_on hb1 hHeld.2.2.2.2.2.2.2⟩ (fun hHeld => ?_)
          clear hK K
          refine tq (i := 33) (d := 47) ?_
          simp only [sz, ss]
          refine tq (i := 34) (d := 48) ?_
          simp only [sz, ss]
          refine wpAnyH_done (by kernel_rfl) ?_ _
          go_wp2_with fail
          go_ret
          exact ⟨ret_bool (by rw [fieldsB, hrem.out, HF.out]; rfl), hb0.trans (hb2.mono (by omega))⟩
        have HF : Hid _ := fldsB_on (h := h) hlt (by rw [hX.out]; exact Hn.out) (by rw [prevN_succ (by omega), hX.out, hY.out]; simpa using Hl.out) (by rw [hX.out]; omega)
        have ho' : 0 ≤ idxO h X.vObj := by omega
        have ho1 : decide (idxO h X.vObj < 0) = false := by simpa using ho
        clear hlo2
        go_wp2_with fail
        refine wp_region_held_drew (S := fun w' => w'.cell? ⟨b, off + (i + 1) * 2, none⟩ = some (.string X.vName) ∧ w'.cell? ⟨b, off + (i + 1) * 2 + 1, none⟩ = some (.int .i64 X.vObj) ∧ w'.cell? ⟨b, off + i * 2, none⟩ = some (.string Y.vName) ∧ w'.cell? ⟨w.heap.size, 0, none⟩ = some (.int .i64 h.vNext) ∧ w'.cell? ⟨w.heap.size, 1, none⟩ = some (.int .i64 h.vDoc) ∧ w'.cell? ⟨w.heap.size, 2, none⟩ = some (k2) ∧ w'.cell? ⟨w.heap.size, 3, none⟩ = some (k3) ∧ w'.cell? ⟨w.heap.size, 4, none⟩ = some (k4)) (by kernel_rfl) (by refine ⟨?_, ?_, ?_, ?_, ?_, ?_, ?_, ?_⟩ <;> assumption) (fun hHeld => ?_)
        refine tq (i := 0) (d := 14) ?_
        simp only [sz, ss]
        refine tq (i := 1) (d := 15) ?_
        simp only [sz, ss]
        refine tq (i := 2) (d := 16) ?_
        simp only [sz, ss]
        refine tq (i := 3) (d := 17) ?_
        simp only [sz, ss]
        refine tq (i := 4) (d := 18) ?_
        simp only [sz, ss]
        refine wpAnyH_ready (rs := [5]) (by kernel_rfl) (by simp) ?_
        refine AllReadyH.cons rfl (fun K hK => ?_) AllReadyH.nil
        go_simp
        refine (hN _).mono ?_
        rintro e w1 ⟨rfl, rfl⟩
        dsimp only
        refine hK.out _ _ (by assumption) (fun hHeld => ?_)
        clear hK K
        refine tq (i := 6) (d := 20) ?_
        simp only [sz, ss]
        refine tq (i := 7) (d := 21) ?_
        simp only [sz, ss]
        refine tq (i := 8) (d := 22) ?_
        simp only [sz, ss]
        refine tq (i := 9) (d := 23) ?_
        simp only [sz, ss]
        refine tq (i := 10) (d := 24) ?_
        simp only [sz, ss]
        refine tq (i := 11) (d := 25) ?_
        simp only [sz, ss]
        refine tq (i := 12) (d := 26) ?_
        simp only [sz, ss]
        refine tq (i := 13) (d := 27) ?_
        simp only [sz, ss]
        refine tq (i := 14) (d := 28) ?_
        simp only [sz, ss]
        refine tq (i := 15) (d := 29) ?_
        simp only [sz, ss]
        refine tq (i := 16) (d := 30) ?_
        simp only [sz, ss]
        refine tq (i := 17) (d := 31) ?_
        simp only [sz, ss]
        refine tq (i := 18) (d := 32) ?_
        simp only [sz, ss]
        refine tq (i := 19) (d := 33) ?_
        simp only [sz, ss]
        refine tq (i := 20) (d := 34) ?_
        simp only [sz, ss]
        refine tq (i := 21) (d := 35) ?_
        simp only [sz, ss]
        refine tq (i := 22) (d := 36) ?_
        simp only [sz, ss]
        refine tq (i := 23) (d := 37) ?_
        simp only [sz, ss]
        refine tq (i := 24) (d := 38) ?_
        simp only [sz, ss]
        refine tq (i := 25) (d := 39) ?_
        simp only [sz, ss]
        refine tq (i := 26) (d := 40) ?_
        simp only [sz, ss]
        refine tq (i := 27) (d := 41) ?_
        simp only [sz, ss]
        refine tq (i := 28) (d := 42) ?_
        simp only [sz, ss]
        refine tq (i := 29) (d := 43) ?_
        simp only [sz, ss]
        refine tq (i := 30) (d := 44) ?_
        simp only [sz, ss]
        refine tq (i := 31) (d := 45) ?_
        simp only [sz, ss]
        refine wpAnyH_ready (rs := [32]) (by kernel_rfl) (by simp) ?_
        refine AllReadyH.cons rfl (fun K hK => ?_) AllReadyH.nil
        go_simp
        refine (l2Obj_any (by exact hhr.out)).mono ?_
        rintro e w1 ⟨rfl, hb1⟩
        have hb2 : Below (w.heap.size + 1) (w.alloc (.cells #[.int .i64 h.vNext, .int .i64 h.vDoc, k2, k3, k4] 43)) w1 := hb.drew.trans (hb1.mono hbz)
        dsimp only
        refine hK.out _ _ ⟨cell_on hb1 hHeld.1, cell_on hb1 hHeld.2.1, cell_on hb1 hHeld.2.2.1, cell_on hb1 hHeld.2.2.2.1, cell_on hb1 hHeld.2.2.2.2.1, cell_on hb1 hHeld.2.2.2.2.2.1, cell_on hb1 hHeld.2.2.2.2.2.2.1, cell_on hb1 hHeld.2.2.2.2.2.2.2⟩ (fun hHeld => ?_)
        clear hK K
        refine tq (i := 33) (d := 47) ?_
        simp only [sz, ss]
        refine tq (i := 34) (d := 48) ?_
        simp only [sz, ss]
        refine wpAnyH_done (by kernel_rfl) ?_ _
        go_wp2_with fail
        go_roundw
        case rel => exact ⟨(i + 1) + 1, by omega, by go_num, hb2, by show _ = _; rw [hrem.out, HF.out]⟩
        case measure => simp [intOf]; omega
    · have H2 : Hid _ := fldsB_end (h := h) hlt
      go_wp2_with fail
      go_ret
      exact ⟨ret_bool (by rw [fieldsB, hrem.out, H2.out]; simp), hbw'⟩
end Go.Proofs.Ytbodeijffpepfaa
