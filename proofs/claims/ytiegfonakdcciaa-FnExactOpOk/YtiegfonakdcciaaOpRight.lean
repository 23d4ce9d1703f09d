/- The program's test of an op, walked. -/
import Derived.Test.YtiegfonakdcciaaOpAct
namespace Go.Proofs.Ytiegfonakdcciaa
open Go.RowKit
def nameFormRest (x : OpD) : Prop := x.vOther.toList = [] ∧ x.vWord.toList = [] ∧ x.vType.toList = [] ∧ x.vCapture = false ∧ x.vOnce = false ∧ x.vStop = 0 ∧ x.vLname.toList = []
instance nameFormDec (x : OpD) : Decidable (nameFormRest x) := by unfold nameFormRest; infer_instance
def wordFormRest (x : OpD) : Prop := x.vOther.toList = [] ∧ x.vType.toList = [] ∧ x.vCapture = false ∧ x.vOnce = false ∧ x.vStop = 0 ∧ x.vLname.toList = []
instance wordFormDec (x : OpD) : Decidable (wordFormRest x) := by unfold wordFormRest; infer_instance
def otherFormRest (x : OpD) : Prop := x.vWord.toList = [] ∧ x.vType.toList = [] ∧ x.vCapture = false ∧ x.vOnce = false ∧ x.vStop = 0 ∧ x.vLname.toList = []
instance otherFormDec (x : OpD) : Decidable (otherFormRest x) := by unfold otherFormRest; infer_instance
def fieldFormRest (x : OpD) : Prop := x.vType.toList = [] ∧ x.vCapture = false ∧ x.vOnce = false ∧ x.vStop = 0 ∧ x.vLname.toList = []
instance fieldFormDec (x : OpD) : Decidable (fieldFormRest x) := by unfold fieldFormRest; infer_instance
def listenerFormRest (x : OpD) : Prop := x.vOther.toList = [] ∧ x.vWord.toList = []
instance listenerFormDec (x : OpD) : Decidable (listenerFormRest x) := by unfold listenerFormRest; infer_instance
set_option maxHeartbeats 1600000 in
theorem rightAction1 {w : World} {x : OpD} (hx : x.fits) :
    Calls Try.prog 12 #[.agg #[.int .i64 1, .string x.vName, .string x.vOther, .string x.vWord, .string x.vType, .bool x.vCapture, .bool x.vOnce, .int .i64 x.vStop, .string x.vLname]] w fun e w' => e = .returned (.tuple #[.iface 53 (.agg #[.string x.vName, .string x.vWord]), .bool (decide (wordFormRest x) && wordFormB x)]) ∧ Below w.heap.size w w' := by
  have hx' : Hid x.fits := hx
  clear hx
  have hb0 : Below w.heap.size w (w.alloc (.cells #[.int .i64 1, .string x.vName, .string x.vOther, .string x.vWord, .string x.vType, .bool x.vCapture, .bool x.vOnce, .int .i64 x.vStop, .string x.vLname] 30)) := (Below.refl _ _).alloc (Nat.le_refl _) _
  have bO0 : Hid (Box (w.alloc (.cells #[.int .i64 1, .string x.vName, .string x.vOther, .string x.vWord, .string x.vType, .bool x.vCapture, .bool x.vOnce, .int .i64 x.vStop, .string x.vLname] 30)) w.heap.size [.int .i64 1, .string x.vName, .string x.vOther, .string x.vWord, .string x.vType, .bool x.vCapture, .bool x.vOnce, .int .i64 x.vStop, .string x.vLname] 30) := Box.new w [.int .i64 1, .string x.vName, .string x.vOther, .string x.vWord, .string x.vType, .bool x.vCapture, .bool x.vOnce, .int .i64 x.vStop, .string x.vLname] 30
  go_enter Try.func12, Try.ntmps12
  go_wp2_with fail
  refine actionOfB1.mono ?_
  rintro e w1 ⟨rfl, hb1⟩
  have bO1 := bO0.out.below hb1 (by simp)
  have hB1 : Below w.heap.size w w1 := hb0.trans (hb1.mono hb0.size)
  have c0 := bO1.cell 0 rfl
  have g0 := bO1.unfrozen 0
  have bO2 : Hid (Box (w1.setCell ⟨w.heap.size, 0, none⟩ (.int .i64 0)) w.heap.size [.int .i64 0, .string x.vName, .string x.vOther, .string x.vWord, .string x.vType, .bool x.vCapture, .bool x.vOnce, .int .i64 x.vStop, .string x.vLname] 30) := bO1.set (i := 0) (.int .i64 0)
  have hB2 : Below w.heap.size w (w1.setCell ⟨w.heap.size, 0, none⟩ (.int .i64 0)) := hB1.setCell (by simp) _
  clear bO1 bO0 hb0 hb1
  go_wp2_with fail
  generalize w1.setCell ⟨w.heap.size, 0, none⟩ (.int .i64 0) = w2 at *
  clear c0 g0 hB1 w1
  by_cases hR : wordFormRest x
  · have HT : Hid ((decide (wordFormRest x) && wordFormB x) = wordFormB x) := by show _ = _; simp [hR]
    obtain ⟨z0, z1, z2, z3, z4, z5⟩ := hR
    refine wp_region_held_drew (S := fun w' => w'.cell? ⟨w.heap.size, 0, none⟩ = some (.int .i64 0) ∧ w'.cell? ⟨w.heap.size, 1, none⟩ = some (.string x.vName) ∧ w'.cell? ⟨w.heap.size, 2, none⟩ = some (.string x.vOther) ∧ w'.cell? ⟨w.heap.size, 3, none⟩ = some (.string x.vWord) ∧ w'.cell? ⟨w.heap.size, 4, none⟩ = some (.string x.vType) ∧ w'.cell? ⟨w.heap.size, 5, none⟩ = some (.bool x.vCapture) ∧ w'.cell? ⟨w.heap.size, 6, none⟩ = some (.bool x.vOnce) ∧ w'.cell? ⟨w.heap.size, 7, none⟩ = some (.int .i64 x.vStop) ∧ w'.cell? ⟨w.heap.size, 8, none⟩ = some (.string x.vLname)) (by kernel_rfl) ⟨bO2.out.cell 0 rfl, bO2.out.cell 1 rfl, bO2.out.cell 2 rfl, bO2.out.cell 3 rfl, bO2.out.cell 4 rfl, bO2.out.cell 5 rfl, bO2.out.cell 6 rfl, bO2.out.cell 7 rfl, bO2.out.cell 8 rfl⟩ (fun hHeld => ?_)
    refine take_lit (i := 0) (d := 14) (v := ?_) rfl rfl (by kernel_rfl) (by kernel_rfl) (by kernel_rfl) (fun _ _ _ h => h) (Or.inl ⟨by rfl, ?_⟩) (by assumption) ?_
    rotate_left
    · (intro w hSw; (try dsimp only at hSw); first | (go_simp; done) | (go_simp; with_reducible rfl))
    simp only [List.set_cons_zero, List.set_cons_succ]
    refine take_lit (i := 1) (d := 15) (v := ?_) rfl rfl (by kernel_rfl) (by kernel_rfl) (by kernel_rfl) (fun _ _ _ h => h) (Or.inl ⟨by rfl, ?_⟩) (by assumption) ?_
    rotate_left
    · (intro w hSw; (try dsimp only at hSw); first | (go_simp; done) | (go_simp; with_reducible rfl))
    simp only [List.set_cons_zero, List.set_cons_succ]
    refine take_lit (i := 3) (d := 17) (v := ?_) rfl rfl (by kernel_rfl) (by kernel_rfl) (by kernel_rfl) (fun _ _ _ h => h) (Or.inl ⟨by rfl, ?_⟩) (by assumption) ?_
    rotate_left
    · (intro w hSw; (try dsimp only at hSw); first | (go_simp; done) | (go_simp; with_reducible rfl))
    simp only [List.set_cons_zero, List.set_cons_succ]
    refine wpAnyH_ready (rs := [2]) (by kernel_rfl) (by simp) ?_
    refine AllReadyH.cons rfl (fun K hK => ?_) AllReadyH.nil
    go_simp
    refine wordForm_fieldsB.mono ?_
    rintro e w1 ⟨rfl, hb1⟩
    have hB3 : Below w.heap.size w w1 := hB2.drew.trans (hb1.mono (by exact hB2.size))
    refine hK.out _ _ ⟨cell_on hb1 hHeld.1, cell_on hb1 hHeld.2.1, cell_on hb1 hHeld.2.2.1, cell_on hb1 hHeld.2.2.2.1, cell_on hb1 hHeld.2.2.2.2.1, cell_on hb1 hHeld.2.2.2.2.2.1, cell_on hb1 hHeld.2.2.2.2.2.2.1, cell_on hb1 hHeld.2.2.2.2.2.2.2.1, cell_on hb1 hHeld.2.2.2.2.2.2.2.2⟩ (fun hHeld => ?_)
    clear hK K
    refine take_lit (i := 4) (d := 18) (v := .bool true) rfl rfl (by kernel_rfl) (by kernel_rfl) (by kernel_rfl) (fun _ _ _ h => h) (Or.inl ⟨by rfl, ?_⟩) (by assumption) ?_
    · (intro w' hSw; (try dsimp only at hSw); go_simp)
    simp only [List.set_cons_zero, List.set_cons_succ]
    refine take_lit (i := 5) (d := 19) (v := ?_) rfl rfl (by kernel_rfl) (by kernel_rfl) (by kernel_rfl) (fun _ _ _ h => h) (Or.inl ⟨by rfl, ?_⟩) (by assumption) ?_
    rotate_left
    · (intro w hSw; (try dsimp only at hSw); first | (go_simp; done) | (go_simp; with_reducible rfl))
    simp only [List.set_cons_zero, List.set_cons_succ]
    refine take_lit (i := 6) (d := 20) (v := ?_) rfl rfl (by kernel_rfl) (by kernel_rfl) (by kernel_rfl) (fun _ _ _ h => h) (Or.inl ⟨by rfl, ?_⟩) (by assumption) ?_
    rotate_left
    · (intro w hSw; (try dsimp only at hSw); first | (go_simp; done) | (go_simp; with_reducible rfl))
    simp only [List.set_cons_zero, List.set_cons_succ]
    refine wpAnyH_ready (rs := [7]) (by kernel_rfl) (by simp) ?_
    refine AllReadyH.cons rfl (fun K hK => ?_) AllReadyH.nil
    go_simp
    refine (wordForm_right hx'.out).mono ?_
    rintro e w1 ⟨rfl, hb1⟩
    have hB4 : Below w.heap.size w w1 := hB3.trans (hb1.mono hB3.size)
    refine hK.out _ _ ⟨cell_on hb1 hHeld.1, cell_on hb1 hHeld.2.1, cell_on hb1 hHeld.2.2.1, cell_on hb1 hHeld.2.2.2.1, cell_on hb1 hHeld.2.2.2.2.1, cell_on hb1 hHeld.2.2.2.2.2.1, cell_on hb1 hHeld.2.2.2.2.2.2.1, cell_on hb1 hHeld.2.2.2.2.2.2.2.1, cell_on hb1 hHeld.2.2.2.2.2.2.2.2⟩ (fun hHeld => ?_)
    clear hK K
    refine take_lit (i := 8) (d := 22) (v := ?_) rfl rfl (by kernel_rfl) (by kernel_rfl) (by kernel_rfl) (fun _ _ _ h => h) (Or.inl ⟨by rfl, ?_⟩) (by assumption) ?_
    rotate_left
    · (intro w hSw; (try dsimp only at hSw); first | (go_simp; done) | (go_simp; with_reducible rfl))
    simp only [List.set_cons_zero, List.set_cons_succ]
    refine take_lit (i := 9) (d := 2) (v := ?_) rfl rfl (by kernel_rfl) (by kernel_rfl) (by kernel_rfl) (fun _ _ _ h => h) (Or.inl ⟨by rfl, ?_⟩) (by assumption) ?_
    rotate_left
    · (intro w hSw; (try dsimp only at hSw); first | (go_simp; done) | (go_simp; with_reducible rfl))
    simp only [List.set_cons_zero, List.set_cons_succ]
    refine take_lit (i := 10) (d := 3) (v := ?_) rfl rfl (by kernel_rfl) (by kernel_rfl) (by kernel_rfl) (fun _ _ _ h => h) (Or.inl ⟨by rfl, ?_⟩) (by assumption) ?_
    rotate_left
    · (intro w hSw; (try dsimp only at hSw); first | (go_simp; done) | (go_simp; with_reducible rfl))
    simp only [List.set_cons_zero, List.set_cons_succ]
    refine wpAnyH_done (by kernel_rfl) ?_ _
    go_wp2_with fail
    go_ret2
    exact ⟨by rw [HT.out]; rfl, hB4⟩
  · have HT : Hid ((decide (wordFormRest x) && wordFormB x) = false) := by show _ = _; simp [hR]
    have hR' : Hid (¬ wordFormRest x) := hR
    clear hR
    refine wp_region_held_drew (S := fun w' => w'.cell? ⟨w.heap.size, 0, none⟩ = some (.int .i64 0) ∧ w'.cell? ⟨w.heap.size, 1, none⟩ = some (.string x.vName) ∧ w'.cell? ⟨w.heap.size, 2, none⟩ = some (.string x.vOther) ∧ w'.cell? ⟨w.heap.size, 3, none⟩ = some (.string x.vWord) ∧ w'.cell? ⟨w.heap.size, 4, none⟩ = some (.string x.vType) ∧ w'.cell? ⟨w.heap.size, 5, none⟩ = some (.bool x.vCapture) ∧ w'.cell? ⟨w.heap.size, 6, none⟩ = some (.bool x.vOnce) ∧ w'.cell? ⟨w.heap.size, 7, none⟩ = some (.int .i64 x.vStop) ∧ w'.cell? ⟨w.heap.size, 8, none⟩ = some (.string x.vLname)) (by kernel_rfl) ⟨bO2.out.cell 0 rfl, bO2.out.cell 1 rfl, bO2.out.cell 2 rfl, bO2.out.cell 3 rfl, bO2.out.cell 4 rfl, bO2.out.cell 5 rfl, bO2.out.cell 6 rfl, bO2.out.cell 7 rfl, bO2.out.cell 8 rfl⟩ (fun hHeld => ?_)
    refine take_lit (i := 0) (d := 14) (v := ?_) rfl rfl (by kernel_rfl) (by kernel_rfl) (by kernel_rfl) (fun _ _ _ h => h) (Or.inl ⟨by rfl, ?_⟩) (by assumption) ?_
    rotate_left
    · (intro w hSw; (try dsimp only at hSw); first | (go_simp; done) | (go_simp; with_reducible rfl))
    simp only [List.set_cons_zero, List.set_cons_succ]
    refine take_lit (i := 1) (d := 15) (v := ?_) rfl rfl (by kernel_rfl) (by kernel_rfl) (by kernel_rfl) (fun _ _ _ h => h) (Or.inl ⟨by rfl, ?_⟩) (by assumption) ?_
    rotate_left
    · (intro w hSw; (try dsimp only at hSw); first | (go_simp; done) | (go_simp; with_reducible rfl))
    simp only [List.set_cons_zero, List.set_cons_succ]
    refine take_lit (i := 3) (d := 17) (v := ?_) rfl rfl (by kernel_rfl) (by kernel_rfl) (by kernel_rfl) (fun _ _ _ h => h) (Or.inl ⟨by rfl, ?_⟩) (by assumption) ?_
    rotate_left
    · (intro w hSw; (try dsimp only at hSw); first | (go_simp; done) | (go_simp; with_reducible rfl))
    simp only [List.set_cons_zero, List.set_cons_succ]
    refine wpAnyH_ready (rs := [2]) (by kernel_rfl) (by simp) ?_
    refine AllReadyH.cons rfl (fun K hK => ?_) AllReadyH.nil
    go_simp
    refine wordForm_fieldsB.mono ?_
    rintro e w1 ⟨rfl, hb1⟩
    have hB3 : Below w.heap.size w w1 := hB2.drew.trans (hb1.mono (by exact hB2.size))
    refine hK.out _ _ ⟨cell_on hb1 hHeld.1, cell_on hb1 hHeld.2.1, cell_on hb1 hHeld.2.2.1, cell_on hb1 hHeld.2.2.2.1, cell_on hb1 hHeld.2.2.2.2.1, cell_on hb1 hHeld.2.2.2.2.2.1, cell_on hb1 hHeld.2.2.2.2.2.2.1, cell_on hb1 hHeld.2.2.2.2.2.2.2.1, cell_on hb1 hHeld.2.2.2.2.2.2.2.2⟩ (fun hHeld => ?_)
    clear hK K
    refine take_lit (i := 4) (d := 18) (v := .bool false) rfl rfl (by kernel_rfl) (by kernel_rfl) (by kernel_rfl) (fun _ _ _ h => h) (Or.inl ⟨by rfl, ?_⟩) (by assumption) ?_
    · (intro w' hSw; (try dsimp only at hSw); go_simp; clear hSw; refine Classical.byContradiction fun hcon => hR'.out ?_; unfold wordFormRest; clear hHeld hb1 hB3 hB2 bO2 HT hx'; simp_all)
    simp only [List.set_cons_zero, List.set_cons_succ]
    refine take_lit (i := 5) (d := 19) (v := ?_) rfl rfl (by kernel_rfl) (by kernel_rfl) (by kernel_rfl) (fun _ _ _ h => h) (Or.inl ⟨by rfl, ?_⟩) (by assumption) ?_
    rotate_left
    · (intro w hSw; (try dsimp only at hSw); first | (go_simp; done) | (go_simp; with_reducible rfl))
    simp only [List.set_cons_zero, List.set_cons_succ]
    refine take_lit (i := 6) (d := 20) (v := undef) rfl rfl (by kernel_rfl) (by kernel_rfl) (by kernel_rfl) (fun _ _ _ h => h) (Or.inr ⟨by rfl, rfl⟩) (by assumption) ?_
    simp only [List.set_cons_zero, List.set_cons_succ]
    refine take_lit (i := 7) (d := 21) (v := undef) rfl rfl (by kernel_rfl) (by kernel_rfl) (by kernel_rfl) (fun _ _ _ h => h) (Or.inr ⟨by rfl, rfl⟩) (by assumption) ?_
    simp only [List.set_cons_zero, List.set_cons_succ]
    refine take_lit (i := 8) (d := 22) (v := ?_) rfl rfl (by kernel_rfl) (by kernel_rfl) (by kernel_rfl) (fun _ _ _ h => h) (Or.inl ⟨by rfl, ?_⟩) (by assumption) ?_
    rotate_left
    · (intro w hSw; (try dsimp only at hSw); first | (go_simp; done) | (go_simp; with_reducible rfl))
    simp only [List.set_cons_zero, List.set_cons_succ]
    refine take_lit (i := 9) (d := 2) (v := ?_) rfl rfl (by kernel_rfl) (by kernel_rfl) (by kernel_rfl) (fun _ _ _ h => h) (Or.inl ⟨by rfl, ?_⟩) (by assumption) ?_
    rotate_left
    · (intro w hSw; (try dsimp only at hSw); first | (go_simp; done) | (go_simp; with_reducible rfl))
    simp only [List.set_cons_zero, List.set_cons_succ]
    refine take_lit (i := 10) (d := 3) (v := ?_) rfl rfl (by kernel_rfl) (by kernel_rfl) (by kernel_rfl) (fun _ _ _ h => h) (Or.inl ⟨by rfl, ?_⟩) (by assumption) ?_
    rotate_left
    · (intro w hSw; (try dsimp only at hSw); first | (go_simp; done) | (go_simp; with_reducible rfl))
    simp only [List.set_cons_zero, List.set_cons_succ]
    refine wpAnyH_done (by kernel_rfl) ?_ _
    go_wp2_with fail
    go_ret2
    exact ⟨by rw [HT.out]; rfl, hB3⟩
set_option maxHeartbeats 1600000 in
theorem rightAction2 {w : World} {x : OpD} (hx : x.fits) :
    Calls Try.prog 12 #[.agg #[.int .i64 2, .string x.vName, .string x.vOther, .string x.vWord, .string x.vType, .bool x.vCapture, .bool x.vOnce, .int .i64 x.vStop, .string x.vLname]] w fun e w' => e = .returned (.tuple #[.iface 55 (.agg #[.string x.vName]), .bool (decide (nameFormRest x) && nameFormB x)]) ∧ Below w.heap.size w w' := by
  have hx' : Hid x.fits := hx
  clear hx
  have hb0 : Below w.heap.size w (w.alloc (.cells #[.int .i64 2, .string x.vName, .string x.vOther, .string x.vWord, .string x.vType, .bool x.vCapture, .bool x.vOnce, .int .i64 x.vStop, .string x.vLname] 30)) := (Below.refl _ _).alloc (Nat.le_refl _) _
  have bO0 : Hid (Box (w.alloc (.cells #[.int .i64 2, .string x.vName, .string x.vOther, .string x.vWord, .string x.vType, .bool x.vCapture, .bool x.vOnce, .int .i64 x.vStop, .string x.vLname] 30)) w.heap.size [.int .i64 2, .string x.vName, .string x.vOther, .string x.vWord, .string x.vType, .bool x.vCapture, .bool x.vOnce, .int .i64 x.vStop, .string x.vLname] 30) := Box.new w [.int .i64 2, .string x.vName, .string x.vOther, .string x.vWord, .string x.vType, .bool x.vCapture, .bool x.vOnce, .int .i64 x.vStop, .string x.vLname] 30
  go_enter Try.func12, Try.ntmps12
  go_wp2_with fail
  refine actionOfB2.mono ?_
  rintro e w1 ⟨rfl, hb1⟩
  have bO1 := bO0.out.below hb1 (by simp)
  have hB1 : Below w.heap.size w w1 := hb0.trans (hb1.mono hb0.size)
  have c0 := bO1.cell 0 rfl
  have g0 := bO1.unfrozen 0
  have bO2 : Hid (Box (w1.setCell ⟨w.heap.size, 0, none⟩ (.int .i64 0)) w.heap.size [.int .i64 0, .string x.vName, .string x.vOther, .string x.vWord, .string x.vType, .bool x.vCapture, .bool x.vOnce, .int .i64 x.vStop, .string x.vLname] 30) := bO1.set (i := 0) (.int .i64 0)
  have hB2 : Below w.heap.size w (w1.setCell ⟨w.heap.size, 0, none⟩ (.int .i64 0)) := hB1.setCell (by simp) _
  clear bO1 bO0 hb0 hb1
  go_wp2_with fail
  generalize w1.setCell ⟨w.heap.size, 0, none⟩ (.int .i64 0) = w2 at *
  clear c0 g0 hB1 w1
  by_cases hR : nameFormRest x
  · have HT : Hid ((decide (nameFormRest x) && nameFormB x) = nameFormB x) := by show _ = _; simp [hR]
    obtain ⟨z0, z1, z2, z3, z4, z5, z6⟩ := hR
    refine wp_region_held_drew (S := fun w' => w'.cell? ⟨w.heap.size, 0, none⟩ = some (.int .i64 0) ∧ w'.cell? ⟨w.heap.size, 1, none⟩ = some (.string x.vName) ∧ w'.cell? ⟨w.heap.size, 2, none⟩ = some (.string x.vOther) ∧ w'.cell? ⟨w.heap.size, 3, none⟩ = some (.string x.vWord) ∧ w'.cell? ⟨w.heap.size, 4, none⟩ = some (.string x.vType) ∧ w'.cell? ⟨w.heap.size, 5, none⟩ = some (.bool x.vCapture) ∧ w'.cell? ⟨w.heap.size, 6, none⟩ = some (.bool x.vOnce) ∧ w'.cell? ⟨w.heap.size, 7, none⟩ = some (.int .i64 x.vStop) ∧ w'.cell? ⟨w.heap.size, 8, none⟩ = some (.string x.vLname)) (by kernel_rfl) ⟨bO2.out.cell 0 rfl, bO2.out.cell 1 rfl, bO2.out.cell 2 rfl, bO2.out.cell 3 rfl, bO2.out.cell 4 rfl, bO2.out.cell 5 rfl, bO2.out.cell 6 rfl, bO2.out.cell 7 rfl, bO2.out.cell 8 rfl⟩ (fun hHeld => ?_)
    refine take_lit (i := 0) (d := 14) (v := ?_) rfl rfl (by kernel_rfl) (by kernel_rfl) (by kernel_rfl) (fun _ _ _ h => h) (Or.inl ⟨by rfl, ?_⟩) (by assumption) ?_
    rotate_left
    · (intro w hSw; (try dsimp only at hSw); first | (go_simp; done) | (go_simp; with_reducible rfl))
    simp only [List.set_cons_zero, List.set_cons_succ]
    refine take_lit (i := 1) (d := 15) (v := ?_) rfl rfl (by kernel_rfl) (by kernel_rfl) (by kernel_rfl) (fun _ _ _ h => h) (Or.inl ⟨by rfl, ?_⟩) (by assumption) ?_
    rotate_left
    · (intro w hSw; (try dsimp only at hSw); first | (go_simp; done) | (go_simp; with_reducible rfl))
    simp only [List.set_cons_zero, List.set_cons_succ]
    refine take_lit (i := 3) (d := 17) (v := ?_) rfl rfl (by kernel_rfl) (by kernel_rfl) (by kernel_rfl) (fun _ _ _ h => h) (Or.inl ⟨by rfl, ?_⟩) (by assumption) ?_
    rotate_left
    · (intro w hSw; (try dsimp only at hSw); first | (go_simp; done) | (go_simp; with_reducible rfl))
    simp only [List.set_cons_zero, List.set_cons_succ]
    refine wpAnyH_ready (rs := [2]) (by kernel_rfl) (by simp) ?_
    refine AllReadyH.cons rfl (fun K hK => ?_) AllReadyH.nil
    go_simp
    refine nameForm_fieldsB.mono ?_
    rintro e w1 ⟨rfl, hb1⟩
    have hB3 : Below w.heap.size w w1 := hB2.drew.trans (hb1.mono (by exact hB2.size))
    refine hK.out _ _ ⟨cell_on hb1 hHeld.1, cell_on hb1 hHeld.2.1, cell_on hb1 hHeld.2.2.1, cell_on hb1 hHeld.2.2.2.1, cell_on hb1 hHeld.2.2.2.2.1, cell_on hb1 hHeld.2.2.2.2.2.1, cell_on hb1 hHeld.2.2.2.2.2.2.1, cell_on hb1 hHeld.2.2.2.2.2.2.2.1, cell_on hb1 hHeld.2.2.2.2.2.2.2.2⟩ (fun hHeld => ?_)
    clear hK K
    refine take_lit (i := 4) (d := 18) (v := .bool true) rfl rfl (by kernel_rfl) (by kernel_rfl) (by kernel_rfl) (fun _ _ _ h => h) (Or.inl ⟨by rfl, ?_⟩) (by assumption) ?_
    · (intro w' hSw; (try dsimp only at hSw); go_simp)
    simp only [List.set_cons_zero, List.set_cons_succ]
    refine take_lit (i := 5) (d := 19) (v := ?_) rfl rfl (by kernel_rfl) (by kernel_rfl) (by kernel_rfl) (fun _ _ _ h => h) (Or.inl ⟨by rfl, ?_⟩) (by assumption) ?_
    rotate_left
    · (intro w hSw; (try dsimp only at hSw); first | (go_simp; done) | (go_simp; with_reducible rfl))
    simp only [List.set_cons_zero, List.set_cons_succ]
    refine take_lit (i := 6) (d := 20) (v := ?_) rfl rfl (by kernel_rfl) (by kernel_rfl) (by kernel_rfl) (fun _ _ _ h => h) (Or.inl ⟨by rfl, ?_⟩) (by assumption) ?_
    rotate_left
    · (intro w hSw; (try dsimp only at hSw); first | (go_simp; done) | (go_simp; with_reducible rfl))
    simp only [List.set_cons_zero, List.set_cons_succ]
    refine wpAnyH_ready (rs := [7]) (by kernel_rfl) (by simp) ?_
    refine AllReadyH.cons rfl (fun K hK => ?_) AllReadyH.nil
    go_simp
    refine (nameForm_right hx'.out).mono ?_
    rintro e w1 ⟨rfl, hb1⟩
    have hB4 : Below w.heap.size w w1 := hB3.trans (hb1.mono hB3.size)
    refine hK.out _ _ ⟨cell_on hb1 hHeld.1, cell_on hb1 hHeld.2.1, cell_on hb1 hHeld.2.2.1, cell_on hb1 hHeld.2.2.2.1, cell_on hb1 hHeld.2.2.2.2.1, cell_on hb1 hHeld.2.2.2.2.2.1, cell_on hb1 hHeld.2.2.2.2.2.2.1, cell_on hb1 hHeld.2.2.2.2.2.2.2.1, cell_on hb1 hHeld.2.2.2.2.2.2.2.2⟩ (fun hHeld => ?_)
    clear hK K
    refine take_lit (i := 8) (d := 22) (v := ?_) rfl rfl (by kernel_rfl) (by kernel_rfl) (by kernel_rfl) (fun _ _ _ h => h) (Or.inl ⟨by rfl, ?_⟩) (by assumption) ?_
    rotate_left
    · (intro w hSw; (try dsimp only at hSw); first | (go_simp; done) | (go_simp; with_reducible rfl))
    simp only [List.set_cons_zero, List.set_cons_succ]
    refine take_lit (i := 9) (d := 2) (v := ?_) rfl rfl (by kernel_rfl) (by kernel_rfl) (by kernel_rfl) (fun _ _ _ h => h) (Or.inl ⟨by rfl, ?_⟩) (by assumption) ?_
    rotate_left
    · (intro w hSw; (try dsimp only at hSw); first | (go_simp; done) | (go_simp; with_reducible rfl))
    simp only [List.set_cons_zero, List.set_cons_succ]
    refine take_lit (i := 10) (d := 3) (v := ?_) rfl rfl (by kernel_rfl) (by kernel_rfl) (by kernel_rfl) (fun _ _ _ h => h) (Or.inl ⟨by rfl, ?_⟩) (by assumption) ?_
    rotate_left
    · (intro w hSw; (try dsimp only at hSw); first | (go_simp; done) | (go_simp; with_reducible rfl))
    simp only [List.set_cons_zero, List.set_cons_succ]
    refine wpAnyH_done (by kernel_rfl) ?_ _
    go_wp2_with fail
    go_ret2
    exact ⟨by rw [HT.out]; rfl, hB4⟩
  · have HT : Hid ((decide (nameFormRest x) && nameFormB x) = false) := by show _ = _; simp [hR]
    have hR' : Hid (¬ nameFormRest x) := hR
    clear hR
    refine wp_region_held_drew (S := fun w' => w'.cell? ⟨w.heap.size, 0, none⟩ = some (.int .i64 0) ∧ w'.cell? ⟨w.heap.size, 1, none⟩ = some (.string x.vName) ∧ w'.cell? ⟨w.heap.size, 2, none⟩ = some (.string x.vOther) ∧ w'.cell? ⟨w.heap.size, 3, none⟩ = some (.string x.vWord) ∧ w'.cell? ⟨w.heap.size, 4, none⟩ = some (.string x.vType) ∧ w'.cell? ⟨w.heap.size, 5, none⟩ = some (.bool x.vCapture) ∧ w'.cell? ⟨w.heap.size, 6, none⟩ = some (.bool x.vOnce) ∧ w'.cell? ⟨w.heap.size, 7, none⟩ = some (.int .i64 x.vStop) ∧ w'.cell? ⟨w.heap.size, 8, none⟩ = some (.string x.vLname)) (by kernel_rfl) ⟨bO2.out.cell 0 rfl, bO2.out.cell 1 rfl, bO2.out.cell 2 rfl, bO2.out.cell 3 rfl, bO2.out.cell 4 rfl, bO2.out.cell 5 rfl, bO2.out.cell 6 rfl, bO2.out.cell 7 rfl, bO2.out.cell 8 rfl⟩ (fun hHeld => ?_)
    refine take_lit (i := 0) (d := 14) (v := ?_) rfl rfl (by kernel_rfl) (by kernel_rfl) (by kernel_rfl) (fun _ _ _ h => h) (Or.inl ⟨by rfl, ?_⟩) (by assumption) ?_
    rotate_left
    · (intro w hSw; (try dsimp only at hSw); first | (go_simp; done) | (go_simp; with_reducible rfl))
    simp only [List.set_cons_zero, List.set_cons_succ]
    refine take_lit (i := 1) (d := 15) (v := ?_) rfl rfl (by kernel_rfl) (by kernel_rfl) (by kernel_rfl) (fun _ _ _ h => h) (Or.inl ⟨by rfl, ?_⟩) (by assumption) ?_
    rotate_left
    · (intro w hSw; (try dsimp only at hSw); first | (go_simp; done) | (go_simp; with_reducible rfl))
    simp only [List.set_cons_zero, List.set_cons_succ]
    refine take_lit (i := 3) (d := 17) (v := ?_) rfl rfl (by kernel_rfl) (by kernel_rfl) (by kernel_rfl) (fun _ _ _ h => h) (Or.inl ⟨by rfl, ?_⟩) (by assumption) ?_
    rotate_left
    · (intro w hSw; (try dsimp only at hSw); first | (go_simp; done) | (go_simp; with_reducible rfl))
    simp only [List.set_cons_zero, List.set_cons_succ]
    refine wpAnyH_ready (rs := [2]) (by kernel_rfl) (by simp) ?_
    refine AllReadyH.cons rfl (fun K hK => ?_) AllReadyH.nil
    go_simp
    refine nameForm_fieldsB.mono ?_
    rintro e w1 ⟨rfl, hb1⟩
    have hB3 : Below w.heap.size w w1 := hB2.drew.trans (hb1.mono (by exact hB2.size))
    refine hK.out _ _ ⟨cell_on hb1 hHeld.1, cell_on hb1 hHeld.2.1, cell_on hb1 hHeld.2.2.1, cell_on hb1 hHeld.2.2.2.1, cell_on hb1 hHeld.2.2.2.2.1, cell_on hb1 hHeld.2.2.2.2.2.1, cell_on hb1 hHeld.2.2.2.2.2.2.1, cell_on hb1 hHeld.2.2.2.2.2.2.2.1, cell_on hb1 hHeld.2.2.2.2.2.2.2.2⟩ (fun hHeld => ?_)
    clear hK K
    refine take_lit (i := 4) (d := 18) (v := .bool false) rfl rfl (by kernel_rfl) (by kernel_rfl) (by kernel_rfl) (fun _ _ _ h => h) (Or.inl ⟨by rfl, ?_⟩) (by assumption) ?_
    · (intro w' hSw; (try dsimp only at hSw); go_simp; clear hSw; refine Classical.byContradiction fun hcon => hR'.out ?_; unfold nameFormRest; clear hHeld hb1 hB3 hB2 bO2 HT hx'; simp_all)
    simp only [List.set_cons_zero, List.set_cons_succ]
    refine take_lit (i := 5) (d := 19) (v := ?_) rfl rfl (by kernel_rfl) (by kernel_rfl) (by kernel_rfl) (fun _ _ _ h => h) (Or.inl ⟨by rfl, ?_⟩) (by assumption) ?_
    rotate_left
    · (intro w hSw; (try dsimp only at hSw); first | (go_simp; done) | (go_simp; with_reducible rfl))
    simp only [List.set_cons_zero, List.set_cons_succ]
    refine take_lit (i := 6) (d := 20) (v := undef) rfl rfl (by kernel_rfl) (by kernel_rfl) (by kernel_rfl) (fun _ _ _ h => h) (Or.inr ⟨by rfl, rfl⟩) (by assumption) ?_
    simp only [List.set_cons_zero, List.set_cons_succ]
    refine take_lit (i := 7) (d := 21) (v := undef) rfl rfl (by kernel_rfl) (by kernel_rfl) (by kernel_rfl) (fun _ _ _ h => h) (Or.inr ⟨by rfl, rfl⟩) (by assumption) ?_
    simp only [List.set_cons_zero, List.set_cons_succ]
    refine take_lit (i := 8) (d := 22) (v := ?_) rfl rfl (by kernel_rfl) (by kernel_rfl) (by kernel_rfl) (fun _ _ _ h => h) (Or.inl ⟨by rfl, ?_⟩) (by assumption) ?_
    rotate_left
    · (intro w hSw; (try dsimp only at hSw); first | (go_simp; done) | (go_simp; with_reducible rfl))
    simp only [List.set_cons_zero, List.set_cons_succ]
    refine take_lit (i := 9) (d := 2) (v := ?_) rfl rfl (by kernel_rfl) (by kernel_rfl) (by kernel_rfl) (fun _ _ _ h => h) (Or.inl ⟨by rfl, ?_⟩) (by assumption) ?_
    rotate_left
    · (intro w hSw; (try dsimp only at hSw); first | (go_simp; done) | (go_simp; with_reducible rfl))
    simp only [List.set_cons_zero, List.set_cons_succ]
    refine take_lit (i := 10) (d := 3) (v := ?_) rfl rfl (by kernel_rfl) (by kernel_rfl) (by kernel_rfl) (fun _ _ _ h => h) (Or.inl ⟨by rfl, ?_⟩) (by assumption) ?_
    rotate_left
    · (intro w hSw; (try dsimp only at hSw); first | (go_simp; done) | (go_simp; with_reducible rfl))
    simp only [List.set_cons_zero, List.set_cons_succ]
    refine wpAnyH_done (by kernel_rfl) ?_ _
    go_wp2_with fail
    go_ret2
    exact ⟨by rw [HT.out]; rfl, hB3⟩
set_option maxHeartbeats 1600000 in
theorem rightAction3 {w : World} {x : OpD} (hx : x.fits) :
    Calls Try.prog 12 #[.agg #[.int .i64 3, .string x.vName, .string x.vOther, .string x.vWord, .string x.vType, .bool x.vCapture, .bool x.vOnce, .int .i64 x.vStop, .string x.vLname]] w fun e w' => e = .returned (.tuple #[.iface 57 (.agg #[.string x.vName, .string x.vWord, .string x.vOther]), .bool (decide (fieldFormRest x) && fieldFormB x)]) ∧ Below w.heap.size w w' := by
  have hx' : Hid x.fits := hx
  clear hx
  have hb0 : Below w.heap.size w (w.alloc (.cells #[.int .i64 3, .string x.vName, .string x.vOther, .string x.vWord, .string x.vType, .bool x.vCapture, .bool x.vOnce, .int .i64 x.vStop, .string x.vLname] 30)) := (Below.refl _ _).alloc (Nat.le_refl _) _
  have bO0 : Hid (Box (w.alloc (.cells #[.int .i64 3, .string x.vName, .string x.vOther, .string x.vWord, .string x.vType, .bool x.vCapture, .bool x.vOnce, .int .i64 x.vStop, .string x.vLname] 30)) w.heap.size [.int .i64 3, .string x.vName, .string x.vOther, .string x.vWord, .string x.vType, .bool x.vCapture, .bool x.vOnce, .int .i64 x.vStop, .string x.vLname] 30) := Box.new w [.int .i64 3, .string x.vName, .string x.vOther, .string x.vWord, .string x.vType, .bool x.vCapture, .bool x.vOnce, .int .i64 x.vStop, .string x.vLname] 30
  go_enter Try.func12, Try.ntmps12
  go_wp2_with fail
  refine actionOfB3.mono ?_
  rintro e w1 ⟨rfl, hb1⟩
  have bO1 := bO0.out.below hb1 (by simp)
  have hB1 : Below w.heap.size w w1 := hb0.trans (hb1.mono hb0.size)
  have c0 := bO1.cell 0 rfl
  have g0 := bO1.unfrozen 0
  have bO2 : Hid (Box (w1.setCell ⟨w.heap.size, 0, none⟩ (.int .i64 0)) w.heap.size [.int .i64 0, .string x.vName, .string x.vOther, .string x.vWord, .string x.vType, .bool x.vCapture, .bool x.vOnce, .int .i64 x.vStop, .string x.vLname] 30) := bO1.set (i := 0) (.int .i64 0)
  have hB2 : Below w.heap.size w (w1.setCell ⟨w.heap.size, 0, none⟩ (.int .i64 0)) := hB1.setCell (by simp) _
  clear bO1 bO0 hb0 hb1
  go_wp2_with fail
  generalize w1.setCell ⟨w.heap.size, 0, none⟩ (.int .i64 0) = w2 at *
  clear c0 g0 hB1 w1
  by_cases hR : fieldFormRest x
  · have HT : Hid ((decide (fieldFormRest x) && fieldFormB x) = fieldFormB x) := by show _ = _; simp [hR]
    obtain ⟨z0, z1, z2, z3, z4⟩ := hR
    refine wp_region_held_drew (S := fun w' => w'.cell? ⟨w.heap.size, 0, none⟩ = some (.int .i64 0) ∧ w'.cell? ⟨w.heap.size, 1, none⟩ = some (.string x.vName) ∧ w'.cell? ⟨w.heap.size, 2, none⟩ = some (.string x.vOther) ∧ w'.cell? ⟨w.heap.size, 3, none⟩ = some (.string x.vWord) ∧ w'.cell? ⟨w.heap.size, 4, none⟩ = some (.string x.vType) ∧ w'.cell? ⟨w.heap.size, 5, none⟩ = some (.bool x.vCapture) ∧ w'.cell? ⟨w.heap.size, 6, none⟩ = some (.bool x.vOnce) ∧ w'.cell? ⟨w.heap.size, 7, none⟩ = some (.int .i64 x.vStop) ∧ w'.cell? ⟨w.heap.size, 8, none⟩ = some (.string x.vLname)) (by kernel_rfl) ⟨bO2.out.cell 0 rfl, bO2.out.cell 1 rfl, bO2.out.cell 2 rfl, bO2.out.cell 3 rfl, bO2.out.cell 4 rfl, bO2.out.cell 5 rfl, bO2.out.cell 6 rfl, bO2.out.cell 7 rfl, bO2.out.cell 8 rfl⟩ (fun hHeld => ?_)
    refine take_lit (i := 0) (d := 14) (v := ?_) rfl rfl (by kernel_rfl) (by kernel_rfl) (by kernel_rfl) (fun _ _ _ h => h) (Or.inl ⟨by rfl, ?_⟩) (by assumption) ?_
    rotate_left
    · (intro w hSw; (try dsimp only at hSw); first | (go_simp; done) | (go_simp; with_reducible rfl))
    simp only [List.set_cons_zero, List.set_cons_succ]
    refine take_lit (i := 1) (d := 15) (v := ?_) rfl rfl (by kernel_rfl) (by kernel_rfl) (by kernel_rfl) (fun _ _ _ h => h) (Or.inl ⟨by rfl, ?_⟩) (by assumption) ?_
    rotate_left
    · (intro w hSw; (try dsimp only at hSw); first | (go_simp; done) | (go_simp; with_reducible rfl))
    simp only [List.set_cons_zero, List.set_cons_succ]
    refine take_lit (i := 3) (d := 17) (v := ?_) rfl rfl (by kernel_rfl) (by kernel_rfl) (by kernel_rfl) (fun _ _ _ h => h) (Or.inl ⟨by rfl, ?_⟩) (by assumption) ?_
    rotate_left
    · (intro w hSw; (try dsimp only at hSw); first | (go_simp; done) | (go_simp; with_reducible rfl))
    simp only [List.set_cons_zero, List.set_cons_succ]
    refine wpAnyH_ready (rs := [2]) (by kernel_rfl) (by simp) ?_
    refine AllReadyH.cons rfl (fun K hK => ?_) AllReadyH.nil
    go_simp
    refine fieldForm_fieldsB.mono ?_
    rintro e w1 ⟨rfl, hb1⟩
    have hB3 : Below w.heap.size w w1 := hB2.drew.trans (hb1.mono (by exact hB2.size))
    refine hK.out _ _ ⟨cell_on hb1 hHeld.1, cell_on hb1 hHeld.2.1, cell_on hb1 hHeld.2.2.1, cell_on hb1 hHeld.2.2.2.1, cell_on hb1 hHeld.2.2.2.2.1, cell_on hb1 hHeld.2.2.2.2.2.1, cell_on hb1 hHeld.2.2.2.2.2.2.1, cell_on hb1 hHeld.2.2.2.2.2.2.2.1, cell_on hb1 hHeld.2.2.2.2.2.2.2.2⟩ (fun hHeld => ?_)
    clear hK K
    refine take_lit (i := 4) (d := 18) (v := .bool true) rfl rfl (by kernel_rfl) (by kernel_rfl) (by kernel_rfl) (fun _ _ _ h => h) (Or.inl ⟨by rfl, ?_⟩) (by assumption) ?_
    · (intro w' hSw; (try dsimp only at hSw); go_simp)
    simp only [List.set_cons_zero, List.set_cons_succ]
    refine take_lit (i := 5) (d := 19) (v := ?_) rfl rfl (by kernel_rfl) (by kernel_rfl) (by kernel_rfl) (fun _ _ _ h => h) (Or.inl ⟨by rfl, ?_⟩) (by assumption) ?_
    rotate_left
    · (intro w hSw; (try dsimp only at hSw); first | (go_simp; done) | (go_simp; with_reducible rfl))
    simp only [List.set_cons_zero, List.set_cons_succ]
    refine take_lit (i := 6) (d := 20) (v := ?_) rfl rfl (by kernel_rfl) (by kernel_rfl) (by kernel_rfl) (fun _ _ _ h => h) (Or.inl ⟨by rfl, ?_⟩) (by assumption) ?_
    rotate_left
    · (intro w hSw; (try dsimp only at hSw); first | (go_simp; done) | (go_simp; with_reducible rfl))
    simp only [List.set_cons_zero, List.set_cons_succ]
    refine wpAnyH_ready (rs := [7]) (by kernel_rfl) (by simp) ?_
    refine AllReadyH.cons rfl (fun K hK => ?_) AllReadyH.nil
    go_simp
    refine (fieldForm_right hx'.out).mono ?_
    rintro e w1 ⟨rfl, hb1⟩
    have hB4 : Below w.heap.size w w1 := hB3.trans (hb1.mono hB3.size)
    refine hK.out _ _ ⟨cell_on hb1 hHeld.1, cell_on hb1 hHeld.2.1, cell_on hb1 hHeld.2.2.1, cell_on hb1 hHeld.2.2.2.1, cell_on hb1 hHeld.2.2.2.2.1, cell_on hb1 hHeld.2.2.2.2.2.1, cell_on hb1 hHeld.2.2.2.2.2.2.1, cell_on hb1 hHeld.2.2.2.2.2.2.2.1, cell_on hb1 hHeld.2.2.2.2.2.2.2.2⟩ (fun hHeld => ?_)
    clear hK K
    refine take_lit (i := 8) (d := 22) (v := ?_) rfl rfl (by kernel_rfl) (by kernel_rfl) (by kernel_rfl) (fun _ _ _ h => h) (Or.inl ⟨by rfl, ?_⟩) (by assumption) ?_
    rotate_left
    · (intro w hSw; (try dsimp only at hSw); first | (go_simp; done) | (go_simp; with_reducible rfl))
    simp only [List.set_cons_zero, List.set_cons_succ]
    refine take_lit (i := 9) (d := 2) (v := ?_) rfl rfl (by kernel_rfl) (by kernel_rfl) (by kernel_rfl) (fun _ _ _ h => h) (Or.inl ⟨by rfl, ?_⟩) (by assumption) ?_
    rotate_left
    · (intro w hSw; (try dsimp only at hSw); first | (go_simp; done) | (go_simp; with_reducible rfl))
    simp only [List.set_cons_zero, List.set_cons_succ]
    refine take_lit (i := 10) (d := 3) (v := ?_) rfl rfl (by kernel_rfl) (by kernel_rfl) (by kernel_rfl) (fun _ _ _ h => h) (Or.inl ⟨by rfl, ?_⟩) (by assumption) ?_
    rotate_left
    · (intro w hSw; (try dsimp only at hSw); first | (go_simp; done) | (go_simp; with_reducible rfl))
    simp only [List.set_cons_zero, List.set_cons_succ]
    refine wpAnyH_done (by kernel_rfl) ?_ _
    go_wp2_with fail
    go_ret2
    exact ⟨by rw [HT.out]; rfl, hB4⟩
  · have HT : Hid ((decide (fieldFormRest x) && fieldFormB x) = false) := by show _ = _; simp [hR]
    have hR' : Hid (¬ fieldFormRest x) := hR
    clear hR
    refine wp_region_held_drew (S := fun w' => w'.cell? ⟨w.heap.size, 0, none⟩ = some (.int .i64 0) ∧ w'.cell? ⟨w.heap.size, 1, none⟩ = some (.string x.vName) ∧ w'.cell? ⟨w.heap.size, 2, none⟩ = some (.string x.vOther) ∧ w'.cell? ⟨w.heap.size, 3, none⟩ = some (.string x.vWord) ∧ w'.cell? ⟨w.heap.size, 4, none⟩ = some (.string x.vType) ∧ w'.cell? ⟨w.heap.size, 5, none⟩ = some (.bool x.vCapture) ∧ w'.cell? ⟨w.heap.size, 6, none⟩ = some (.bool x.vOnce) ∧ w'.cell? ⟨w.heap.size, 7, none⟩ = some (.int .i64 x.vStop) ∧ w'.cell? ⟨w.heap.size, 8, none⟩ = some (.string x.vLname)) (by kernel_rfl) ⟨bO2.out.cell 0 rfl, bO2.out.cell 1 rfl, bO2.out.cell 2 rfl, bO2.out.cell 3 rfl, bO2.out.cell 4 rfl, bO2.out.cell 5 rfl, bO2.out.cell 6 rfl, bO2.out.cell 7 rfl, bO2.out.cell 8 rfl⟩ (fun hHeld => ?_)
    refine take_lit (i := 0) (d := 14) (v := ?_) rfl rfl (by kernel_rfl) (by kernel_rfl) (by kernel_rfl) (fun _ _ _ h => h) (Or.inl ⟨by rfl, ?_⟩) (by assumption) ?_
    rotate_left
    · (intro w hSw; (try dsimp only at hSw); first | (go_simp; done) | (go_simp; with_reducible rfl))
    simp only [List.set_cons_zero, List.set_cons_succ]
    refine take_lit (i := 1) (d := 15) (v := ?_) rfl rfl (by kernel_rfl) (by kernel_rfl) (by kernel_rfl) (fun _ _ _ h => h) (Or.inl ⟨by rfl, ?_⟩) (by assumption) ?_
    rotate_left
    · (intro w hSw; (try dsimp only at hSw); first | (go_simp; done) | (go_simp; with_reducible rfl))
    simp only [List.set_cons_zero, List.set_cons_succ]
    refine take_lit (i := 3) (d := 17) (v := ?_) rfl rfl (by kernel_rfl) (by kernel_rfl) (by kernel_rfl) (fun _ _ _ h => h) (Or.inl ⟨by rfl, ?_⟩) (by assumption) ?_
    rotate_left
    · (intro w hSw; (try dsimp only at hSw); first | (go_simp; done) | (go_simp; with_reducible rfl))
    simp only [List.set_cons_zero, List.set_cons_succ]
    refine wpAnyH_ready (rs := [2]) (by kernel_rfl) (by simp) ?_
    refine AllReadyH.cons rfl (fun K hK => ?_) AllReadyH.nil
    go_simp
    refine fieldForm_fieldsB.mono ?_
    rintro e w1 ⟨rfl, hb1⟩
    have hB3 : Below w.heap.size w w1 := hB2.drew.trans (hb1.mono (by exact hB2.size))
    refine hK.out _ _ ⟨cell_on hb1 hHeld.1, cell_on hb1 hHeld.2.1, cell_on hb1 hHeld.2.2.1, cell_on hb1 hHeld.2.2.2.1, cell_on hb1 hHeld.2.2.2.2.1, cell_on hb1 hHeld.2.2.2.2.2.1, cell_on hb1 hHeld.2.2.2.2.2.2.1, cell_on hb1 hHeld.2.2.2.2.2.2.2.1, cell_on hb1 hHeld.2.2.2.2.2.2.2.2⟩ (fun hHeld => ?_)
    clear hK K
    refine take_lit (i := 4) (d := 18) (v := .bool false) rfl rfl (by kernel_rfl) (by kernel_rfl) (by kernel_rfl) (fun _ _ _ h => h) (Or.inl ⟨by rfl, ?_⟩) (by assumption) ?_
    · (intro w' hSw; (try dsimp only at hSw); go_simp; clear hSw; refine Classical.byContradiction fun hcon => hR'.out ?_; unfold fieldFormRest; clear hHeld hb1 hB3 hB2 bO2 HT hx'; simp_all)
    simp only [List.set_cons_zero, List.set_cons_succ]
    refine take_lit (i := 5) (d := 19) (v := ?_) rfl rfl (by kernel_rfl) (by kernel_rfl) (by kernel_rfl) (fun _ _ _ h => h) (Or.inl ⟨by rfl, ?_⟩) (by assumption) ?_
    rotate_left
    · (intro w hSw; (try dsimp only at hSw); first | (go_simp; done) | (go_simp; with_reducible rfl))
    simp only [List.set_cons_zero, List.set_cons_succ]
    refine take_lit (i := 6) (d := 20) (v := undef) rfl rfl (by kernel_rfl) (by kernel_rfl) (by kernel_rfl) (fun _ _ _ h => h) (Or.inr ⟨by rfl, rfl⟩) (by assumption) ?_
    simp only [List.set_cons_zero, List.set_cons_succ]
    refine take_lit (i := 7) (d := 21) (v := undef) rfl rfl (by kernel_rfl) (by kernel_rfl) (by kernel_rfl) (fun _ _ _ h => h) (Or.inr ⟨by rfl, rfl⟩) (by assumption) ?_
    simp only [List.set_cons_zero, List.set_cons_succ]
    refine take_lit (i := 8) (d := 22) (v := ?_) rfl rfl (by kernel_rfl) (by kernel_rfl) (by kernel_rfl) (fun _ _ _ h => h) (Or.inl ⟨by rfl, ?_⟩) (by assumption) ?_
    rotate_left
    · (intro w hSw; (try dsimp only at hSw); first | (go_simp; done) | (go_simp; with_reducible rfl))
    simp only [List.set_cons_zero, List.set_cons_succ]
    refine take_lit (i := 9) (d := 2) (v := ?_) rfl rfl (by kernel_rfl) (by kernel_rfl) (by kernel_rfl) (fun _ _ _ h => h) (Or.inl ⟨by rfl, ?_⟩) (by assumption) ?_
    rotate_left
    · (intro w hSw; (try dsimp only at hSw); first | (go_simp; done) | (go_simp; with_reducible rfl))
    simp only [List.set_cons_zero, List.set_cons_succ]
    refine take_lit (i := 10) (d := 3) (v := ?_) rfl rfl (by kernel_rfl) (by kernel_rfl) (by kernel_rfl) (fun _ _ _ h => h) (Or.inl ⟨by rfl, ?_⟩) (by assumption) ?_
    rotate_left
    · (intro w hSw; (try dsimp only at hSw); first | (go_simp; done) | (go_simp; with_reducible rfl))
    simp only [List.set_cons_zero, List.set_cons_succ]
    refine wpAnyH_done (by kernel_rfl) ?_ _
    go_wp2_with fail
    go_ret2
    exact ⟨by rw [HT.out]; rfl, hB3⟩
set_option maxHeartbeats 1600000 in
theorem rightAction4 {w : World} {x : OpD} (hx : x.fits) :
    Calls Try.prog 12 #[.agg #[.int .i64 4, .string x.vName, .string x.vOther, .string x.vWord, .string x.vType, .bool x.vCapture, .bool x.vOnce, .int .i64 x.vStop, .string x.vLname]] w fun e w' => e = .returned (.tuple #[.iface 58 (.agg #[.string x.vName, .string x.vWord, .string x.vOther]), .bool (decide (fieldFormRest x) && fieldFormB x)]) ∧ Below w.heap.size w w' := by
  have hx' : Hid x.fits := hx
  clear hx
  have hb0 : Below w.heap.size w (w.alloc (.cells #[.int .i64 4, .string x.vName, .string x.vOther, .string x.vWord, .string x.vType, .bool x.vCapture, .bool x.vOnce, .int .i64 x.vStop, .string x.vLname] 30)) := (Below.refl _ _).alloc (Nat.le_refl _) _
  have bO0 : Hid (Box (w.alloc (.cells #[.int .i64 4, .string x.vName, .string x.vOther, .string x.vWord, .string x.vType, .bool x.vCapture, .bool x.vOnce, .int .i64 x.vStop, .string x.vLname] 30)) w.heap.size [.int .i64 4, .string x.vName, .string x.vOther, .string x.vWord, .string x.vType, .bool x.vCapture, .bool x.vOnce, .int .i64 x.vStop, .string x.vLname] 30) := Box.new w [.int .i64 4, .string x.vName, .string x.vOther, .string x.vWord, .string x.vType, .bool x.vCapture, .bool x.vOnce, .int .i64 x.vStop, .string x.vLname] 30
  go_enter Try.func12, Try.ntmps12
  go_wp2_with fail
  refine actionOfB4.mono ?_
  rintro e w1 ⟨rfl, hb1⟩
  have bO1 := bO0.out.below hb1 (by simp)
  have hB1 : Below w.heap.size w w1 := hb0.trans (hb1.mono hb0.size)
  have c0 := bO1.cell 0 rfl
  have g0 := bO1.unfrozen 0
  have bO2 : Hid (Box (w1.setCell ⟨w.heap.size, 0, none⟩ (.int .i64 0)) w.heap.size [.int .i64 0, .string x.vName, .string x.vOther, .string x.vWord, .string x.vType, .bool x.vCapture, .bool x.vOnce, .int .i64 x.vStop, .string x.vLname] 30) := bO1.set (i := 0) (.int .i64 0)
  have hB2 : Below w.heap.size w (w1.setCell ⟨w.heap.size, 0, none⟩ (.int .i64 0)) := hB1.setCell (by simp) _
  clear bO1 bO0 hb0 hb1
  go_wp2_with fail
  generalize w1.setCell ⟨w.heap.size, 0, none⟩ (.int .i64 0) = w2 at *
  clear c0 g0 hB1 w1
  by_cases hR : fieldFormRest x
  · have HT : Hid ((decide (fieldFormRest x) && fieldFormB x) = fieldFormB x) := by show _ = _; simp [hR]
    obtain ⟨z0, z1, z2, z3, z4⟩ := hR
    refine wp_region_held_drew (S := fun w' => w'.cell? ⟨w.heap.size, 0, none⟩ = some (.int .i64 0) ∧ w'.cell? ⟨w.heap.size, 1, none⟩ = some (.string x.vName) ∧ w'.cell? ⟨w.heap.size, 2, none⟩ = some (.string x.vOther) ∧ w'.cell? ⟨w.heap.size, 3, none⟩ = some (.string x.vWord) ∧ w'.cell? ⟨w.heap.size, 4, none⟩ = some (.string x.vType) ∧ w'.cell? ⟨w.heap.size, 5, none⟩ = some (.bool x.vCapture) ∧ w'.cell? ⟨w.heap.size, 6, none⟩ = some (.bool x.vOnce) ∧ w'.cell? ⟨w.heap.size, 7, none⟩ = some (.int .i64 x.vStop) ∧ w'.cell? ⟨w.heap.size, 8, none⟩ = some (.string x.vLname)) (by kernel_rfl) ⟨bO2.out.cell 0 rfl, bO2.out.cell 1 rfl, bO2.out.cell 2 rfl, bO2.out.cell 3 rfl, bO2.out.cell 4 rfl, bO2.out.cell 5 rfl, bO2.out.cell 6 rfl, bO2.out.cell 7 rfl, bO2.out.cell 8 rfl⟩ (fun hHeld => ?_)
    refine take_lit (i := 0) (d := 14) (v := ?_) rfl rfl (by kernel_rfl) (by kernel_rfl) (by kernel_rfl) (fun _ _ _ h => h) (Or.inl ⟨by rfl, ?_⟩) (by assumption) ?_
    rotate_left
    · (intro w hSw; (try dsimp only at hSw); first | (go_simp; done) | (go_simp; with_reducible rfl))
    simp only [List.set_cons_zero, List.set_cons_succ]
    refine take_lit (i := 1) (d := 15) (v := ?_) rfl rfl (by kernel_rfl) (by kernel_rfl) (by kernel_rfl) (fun _ _ _ h => h) (Or.inl ⟨by rfl, ?_⟩) (by assumption) ?_
    rotate_left
    · (intro w hSw; (try dsimp only at hSw); first | (go_simp; done) | (go_simp; with_reducible rfl))
    simp only [List.set_cons_zero, List.set_cons_succ]
    refine take_lit (i := 3) (d := 17) (v := ?_) rfl rfl (by kernel_rfl) (by kernel_rfl) (by kernel_rfl) (fun _ _ _ h => h) (Or.inl ⟨by rfl, ?_⟩) (by assumption) ?_
    rotate_left
    · (intro w hSw; (try dsimp only at hSw); first | (go_simp; done) | (go_simp; with_reducible rfl))
    simp only [List.set_cons_zero, List.set_cons_succ]
    refine wpAnyH_ready (rs := [2]) (by kernel_rfl) (by simp) ?_
    refine AllReadyH.cons rfl (fun K hK => ?_) AllReadyH.nil
    go_simp
    refine fieldForm_fieldsB.mono ?_
    rintro e w1 ⟨rfl, hb1⟩
    have hB3 : Below w.heap.size w w1 := hB2.drew.trans (hb1.mono (by exact hB2.size))
    refine hK.out _ _ ⟨cell_on hb1 hHeld.1, cell_on hb1 hHeld.2.1, cell_on hb1 hHeld.2.2.1, cell_on hb1 hHeld.2.2.2.1, cell_on hb1 hHeld.2.2.2.2.1, cell_on hb1 hHeld.2.2.2.2.2.1, cell_on hb1 hHeld.2.2.2.2.2.2.1, cell_on hb1 hHeld.2.2.2.2.2.2.2.1, cell_on hb1 hHeld.2.2.2.2.2.2.2.2⟩ (fun hHeld => ?_)
    clear hK K
    refine take_lit (i := 4) (d := 18) (v := .bool true) rfl rfl (by kernel_rfl) (by kernel_rfl) (by kernel_rfl) (fun _ _ _ h => h) (Or.inl ⟨by rfl, ?_⟩) (by assumption) ?_
    · (intro w' hSw; (try dsimp only at hSw); go_simp)
    simp only [List.set_cons_zero, List.set_cons_succ]
    refine take_lit (i := 5) (d := 19) (v := ?_) rfl rfl (by kernel_rfl) (by kernel_rfl) (by kernel_rfl) (fun _ _ _ h => h) (Or.inl ⟨by rfl, ?_⟩) (by assumption) ?_
    rotate_left
    · (intro w hSw; (try dsimp only at hSw); first | (go_simp; done) | (go_simp; with_reducible rfl))
    simp only [List.set_cons_zero, List.set_cons_succ]
    refine take_lit (i := 6) (d := 20) (v := ?_) rfl rfl (by kernel_rfl) (by kernel_rfl) (by kernel_rfl) (fun _ _ _ h => h) (Or.inl ⟨by rfl, ?_⟩) (by assumption) ?_
    rotate_left
    · (intro w hSw; (try dsimp only at hSw); first | (go_simp; done) | (go_simp; with_reducible rfl))
    simp only [List.set_cons_zero, List.set_cons_succ]
    refine wpAnyH_ready (rs := [7]) (by kernel_rfl) (by simp) ?_
    refine AllReadyH.cons rfl (fun K hK => ?_) AllReadyH.nil
    go_simp
    refine (fieldForm_right hx'.out).mono ?_
    rintro e w1 ⟨rfl, hb1⟩
    have hB4 : Below w.heap.size w w1 := hB3.trans (hb1.mono hB3.size)
    refine hK.out _ _ ⟨cell_on hb1 hHeld.1, cell_on hb1 hHeld.2.1, cell_on hb1 hHeld.2.2.1, cell_on hb1 hHeld.2.2.2.1, cell_on hb1 hHeld.2.2.2.2.1, cell_on hb1 hHeld.2.2.2.2.2.1, cell_on hb1 hHeld.2.2.2.2.2.2.1, cell_on hb1 hHeld.2.2.2.2.2.2.2.1, cell_on hb1 hHeld.2.2.2.2.2.2.2.2⟩ (fun hHeld => ?_)
    clear hK K
    refine take_lit (i := 8) (d := 22) (v := ?_) rfl rfl (by kernel_rfl) (by kernel_rfl) (by kernel_rfl) (fun _ _ _ h => h) (Or.inl ⟨by rfl, ?_⟩) (by assumption) ?_
    rotate_left
    · (intro w hSw; (try dsimp only at hSw); first | (go_simp; done) | (go_simp; with_reducible rfl))
    simp only [List.set_cons_zero, List.set_cons_succ]
    refine take_lit (i := 9) (d := 2) (v := ?_) rfl rfl (by kernel_rfl) (by kernel_rfl) (by kernel_rfl) (fun _ _ _ h => h) (Or.inl ⟨by rfl, ?_⟩) (by assumption) ?_
    rotate_left
    · (intro w hSw; (try dsimp only at hSw); first | (go_simp; done) | (go_simp; with_reducible rfl))
    simp only [List.set_cons_zero, List.set_cons_succ]
    refine take_lit (i := 10) (d := 3) (v := ?_) rfl rfl (by kernel_rfl) (by kernel_rfl) (by kernel_rfl) (fun _ _ _ h => h) (Or.inl ⟨by rfl, ?_⟩) (by assumption) ?_
    rotate_left
    · (intro w hSw; (try dsimp only at hSw); first | (go_simp; done) | (go_simp; with_reducible rfl))
    simp only [List.set_cons_zero, List.set_cons_succ]
    refine wpAnyH_done (by kernel_rfl) ?_ _
    go_wp2_with fail
    go_ret2
    exact ⟨by rw [HT.out]; rfl, hB4⟩
  · have HT : Hid ((decide (fieldFormRest x) && fieldFormB x) = false) := by show _ = _; simp [hR]
    have hR' : Hid (¬ fieldFormRest x) := hR
    clear hR
    refine wp_region_held_drew (S := fun w' => w'.cell? ⟨w.heap.size, 0, none⟩ = some (.int .i64 0) ∧ w'.cell? ⟨w.heap.size, 1, none⟩ = some (.string x.vName) ∧ w'.cell? ⟨w.heap.size, 2, none⟩ = some (.string x.vOther) ∧ w'.cell? ⟨w.heap.size, 3, none⟩ = some (.string x.vWord) ∧ w'.cell? ⟨w.heap.size, 4, none⟩ = some (.string x.vType) ∧ w'.cell? ⟨w.heap.size, 5, none⟩ = some (.bool x.vCapture) ∧ w'.cell? ⟨w.heap.size, 6, none⟩ = some (.bool x.vOnce) ∧ w'.cell? ⟨w.heap.size, 7, none⟩ = some (.int .i64 x.vStop) ∧ w'.cell? ⟨w.heap.size, 8, none⟩ = some (.string x.vLname)) (by kernel_rfl) ⟨bO2.out.cell 0 rfl, bO2.out.cell 1 rfl, bO2.out.cell 2 rfl, bO2.out.cell 3 rfl, bO2.out.cell 4 rfl, bO2.out.cell 5 rfl, bO2.out.cell 6 rfl, bO2.out.cell 7 rfl, bO2.out.cell 8 rfl⟩ (fun hHeld => ?_)
    refine take_lit (i := 0) (d := 14) (v := ?_) rfl rfl (by kernel_rfl) (by kernel_rfl) (by kernel_rfl) (fun _ _ _ h => h) (Or.inl ⟨by rfl, ?_⟩) (by assumption) ?_
    rotate_left
    · (intro w hSw; (try dsimp only at hSw); first | (go_simp; done) | (go_simp; with_reducible rfl))
    simp only [List.set_cons_zero, List.set_cons_succ]
    refine take_lit (i := 1) (d := 15) (v := ?_) rfl rfl (by kernel_rfl) (by kernel_rfl) (by kernel_rfl) (fun _ _ _ h => h) (Or.inl ⟨by rfl, ?_⟩) (by assumption) ?_
    rotate_left
    · (intro w hSw; (try dsimp only at hSw); first | (go_simp; done) | (go_simp; with_reducible rfl))
    simp only [List.set_cons_zero, List.set_cons_succ]
    refine take_lit (i := 3) (d := 17) (v := ?_) rfl rfl (by kernel_rfl) (by kernel_rfl) (by kernel_rfl) (fun _ _ _ h => h) (Or.inl ⟨by rfl, ?_⟩) (by assumption) ?_
    rotate_left
    · (intro w hSw; (try dsimp only at hSw); first | (go_simp; done) | (go_simp; with_reducible rfl))
    simp only [List.set_cons_zero, List.set_cons_succ]
    refine wpAnyH_ready (rs := [2]) (by kernel_rfl) (by simp) ?_
    refine AllReadyH.cons rfl (fun K hK => ?_) AllReadyH.nil
    go_simp
    refine fieldForm_fieldsB.mono ?_
    rintro e w1 ⟨rfl, hb1⟩
    have hB3 : Below w.heap.size w w1 := hB2.drew.trans (hb1.mono (by exact hB2.size))
    refine hK.out _ _ ⟨cell_on hb1 hHeld.1, cell_on hb1 hHeld.2.1, cell_on hb1 hHeld.2.2.1, cell_on hb1 hHeld.2.2.2.1, cell_on hb1 hHeld.2.2.2.2.1, cell_on hb1 hHeld.2.2.2.2.2.1, cell_on hb1 hHeld.2.2.2.2.2.2.1, cell_on hb1 hHeld.2.2.2.2.2.2.2.1, cell_on hb1 hHeld.2.2.2.2.2.2.2.2⟩ (fun hHeld => ?_)
    clear hK K
    refine take_lit (i := 4) (d := 18) (v := .bool false) rfl rfl (by kernel_rfl) (by kernel_rfl) (by kernel_rfl) (fun _ _ _ h => h) (Or.inl ⟨by rfl, ?_⟩) (by assumption) ?_
    · (intro w' hSw; (try dsimp only at hSw); go_simp; clear hSw; refine Classical.byContradiction fun hcon => hR'.out ?_; unfold fieldFormRest; clear hHeld hb1 hB3 hB2 bO2 HT hx'; simp_all)
    simp only [List.set_cons_zero, List.set_cons_succ]
    refine take_lit (i := 5) (d := 19) (v := ?_) rfl rfl (by kernel_rfl) (by kernel_rfl) (by kernel_rfl) (fun _ _ _ h => h) (Or.inl ⟨by rfl, ?_⟩) (by assumption) ?_
    rotate_left
    · (intro w hSw; (try dsimp only at hSw); first | (go_simp; done) | (go_simp; with_reducible rfl))
    simp only [List.set_cons_zero, List.set_cons_succ]
    refine take_lit (i := 6) (d := 20) (v := undef) rfl rfl (by kernel_rfl) (by kernel_rfl) (by kernel_rfl) (fun _ _ _ h => h) (Or.inr ⟨by rfl, rfl⟩) (by assumption) ?_
    simp only [List.set_cons_zero, List.set_cons_succ]
    refine take_lit (i := 7) (d := 21) (v := undef) rfl rfl (by kernel_rfl) (by kernel_rfl) (by kernel_rfl) (fun _ _ _ h => h) (Or.inr ⟨by rfl, rfl⟩) (by assumption) ?_
    simp only [List.set_cons_zero, List.set_cons_succ]
    refine take_lit (i := 8) (d := 22) (v := ?_) rfl rfl (by kernel_rfl) (by kernel_rfl) (by kernel_rfl) (fun _ _ _ h => h) (Or.inl ⟨by rfl, ?_⟩) (by assumption) ?_
    rotate_left
    · (intro w hSw; (try dsimp only at hSw); first | (go_simp; done) | (go_simp; with_reducible rfl))
    simp only [List.set_cons_zero, List.set_cons_succ]
    refine take_lit (i := 9) (d := 2) (v := ?_) rfl rfl (by kernel_rfl) (by kernel_rfl) (by kernel_rfl) (fun _ _ _ h => h) (Or.inl ⟨by rfl, ?_⟩) (by assumption) ?_
    rotate_left
    · (intro w hSw; (try dsimp only at hSw); first | (go_simp; done) | (go_simp; with_reducible rfl))
    simp only [List.set_cons_zero, List.set_cons_succ]
    refine take_lit (i := 10) (d := 3) (v := ?_) rfl rfl (by kernel_rfl) (by kernel_rfl) (by kernel_rfl) (fun _ _ _ h => h) (Or.inl ⟨by rfl, ?_⟩) (by assumption) ?_
    rotate_left
    · (intro w hSw; (try dsimp only at hSw); first | (go_simp; done) | (go_simp; with_reducible rfl))
    simp only [List.set_cons_zero, List.set_cons_succ]
    refine wpAnyH_done (by kernel_rfl) ?_ _
    go_wp2_with fail
    go_ret2
    exact ⟨by rw [HT.out]; rfl, hB3⟩
set_option maxHeartbeats 1600000 in
theorem rightAction5 {w : World} {x : OpD} (hx : x.fits) :
    Calls Try.prog 12 #[.agg #[.int .i64 5, .string x.vName, .string x.vOther, .string x.vWord, .string x.vType, .bool x.vCapture, .bool x.vOnce, .int .i64 x.vStop, .string x.vLname]] w fun e w' => e = .returned (.tuple #[.iface 59 (.agg #[.string x.vName, .string x.vWord]), .bool (decide (wordFormRest x) && wordFormB x)]) ∧ Below w.heap.size w w' := by
  have hx' : Hid x.fits := hx
  clear hx
  have hb0 : Below w.heap.size w (w.alloc (.cells #[.int .i64 5, .string x.vName, .string x.vOther, .string x.vWord, .string x.vType, .bool x.vCapture, .bool x.vOnce, .int .i64 x.vStop, .string x.vLname] 30)) := (Below.refl _ _).alloc (Nat.le_refl _) _
  have bO0 : Hid (Box (w.alloc (.cells #[.int .i64 5, .string x.vName, .string x.vOther, .string x.vWord, .string x.vType, .bool x.vCapture, .bool x.vOnce, .int .i64 x.vStop, .string x.vLname] 30)) w.heap.size [.int .i64 5, .string x.vName, .string x.vOther, .string x.vWord, .string x.vType, .bool x.vCapture, .bool x.vOnce, .int .i64 x.vStop, .string x.vLname] 30) := Box.new w [.int .i64 5, .string x.vName, .string x.vOther, .string x.vWord, .string x.vType, .bool x.vCapture, .bool x.vOnce, .int .i64 x.vStop, .string x.vLname] 30
  go_enter Try.func12, Try.ntmps12
  go_wp2_with fail
  refine actionOfB5.mono ?_
  rintro e w1 ⟨rfl, hb1⟩
  have bO1 := bO0.out.below hb1 (by simp)
  have hB1 : Below w.heap.size w w1 := hb0.trans (hb1.mono hb0.size)
  have c0 := bO1.cell 0 rfl
  have g0 := bO1.unfrozen 0
  have bO2 : Hid (Box (w1.setCell ⟨w.heap.size, 0, none⟩ (.int .i64 0)) w.heap.size [.int .i64 0, .string x.vName, .string x.vOther, .string x.vWord, .string x.vType, .bool x.vCapture, .bool x.vOnce, .int .i64 x.vStop, .string x.vLname] 30) := bO1.set (i := 0) (.int .i64 0)
  have hB2 : Below w.heap.size w (w1.setCell ⟨w.heap.size, 0, none⟩ (.int .i64 0)) := hB1.setCell (by simp) _
  clear bO1 bO0 hb0 hb1
  go_wp2_with fail
  generalize w1.setCell ⟨w.heap.size, 0, none⟩ (.int .i64 0) = w2 at *
  clear c0 g0 hB1 w1
  by_cases hR : wordFormRest x
  · have HT : Hid ((decide (wordFormRest x) && wordFormB x) = wordFormB x) := by show _ = _; simp [hR]
    obtain ⟨z0, z1, z2, z3, z4, z5⟩ := hR
    refine wp_region_held_drew (S := fun w' => w'.cell? ⟨w.heap.size, 0, none⟩ = some (.int .i64 0) ∧ w'.cell? ⟨w.heap.size, 1, none⟩ = some (.string x.vName) ∧ w'.cell? ⟨w.heap.size, 2, none⟩ = some (.string x.vOther) ∧ w'.cell? ⟨w.heap.size, 3, none⟩ = some (.string x.vWord) ∧ w'.cell? ⟨w.heap.size, 4, none⟩ = some (.string x.vType) ∧ w'.cell? ⟨w.heap.size, 5, none⟩ = some (.bool x.vCapture) ∧ w'.cell? ⟨w.heap.size, 6, none⟩ = some (.bool x.vOnce) ∧ w'.cell? ⟨w.heap.size, 7, none⟩ = some (.int .i64 x.vStop) ∧ w'.cell? ⟨w.heap.size, 8, none⟩ = some (.string x.vLname)) (by kernel_rfl) ⟨bO2.out.cell 0 rfl, bO2.out.cell 1 rfl, bO2.out.cell 2 rfl, bO2.out.cell 3 rfl, bO2.out.cell 4 rfl, bO2.out.cell 5 rfl, bO2.out.cell 6 rfl, bO2.out.cell 7 rfl, bO2.out.cell 8 rfl⟩ (fun hHeld => ?_)
    refine take_lit (i := 0) (d := 14) (v := ?_) rfl rfl (by kernel_rfl) (by kernel_rfl) (by kernel_rfl) (fun _ _ _ h => h) (Or.inl ⟨by rfl, ?_⟩) (by assumption) ?_
    rotate_left
    · (intro w hSw; (try dsimp only at hSw); first | (go_simp; done) | (go_simp; with_reducible rfl))
    simp only [List.set_cons_zero, List.set_cons_succ]
    refine take_lit (i := 1) (d := 15) (v := ?_) rfl rfl (by kernel_rfl) (by kernel_rfl) (by kernel_rfl) (fun _ _ _ h => h) (Or.inl ⟨by rfl, ?_⟩) (by assumption) ?_
    rotate_left
    · (intro w hSw; (try dsimp only at hSw); first | (go_simp; done) | (go_simp; with_reducible rfl))
    simp only [List.set_cons_zero, List.set_cons_succ]
    refine take_lit (i := 3) (d := 17) (v := ?_) rfl rfl (by kernel_rfl) (by kernel_rfl) (by kernel_rfl) (fun _ _ _ h => h) (Or.inl ⟨by rfl, ?_⟩) (by assumption) ?_
    rotate_left
    · (intro w hSw; (try dsimp only at hSw); first | (go_simp; done) | (go_simp; with_reducible rfl))
    simp only [List.set_cons_zero, List.set_cons_succ]
    refine wpAnyH_ready (rs := [2]) (by kernel_rfl) (by simp) ?_
    refine AllReadyH.cons rfl (fun K hK => ?_) AllReadyH.nil
    go_simp
    refine wordForm_fieldsB.mono ?_
    rintro e w1 ⟨rfl, hb1⟩
    have hB3 : Below w.heap.size w w1 := hB2.drew.trans (hb1.mono (by exact hB2.size))
    refine hK.out _ _ ⟨cell_on hb1 hHeld.1, cell_on hb1 hHeld.2.1, cell_on hb1 hHeld.2.2.1, cell_on hb1 hHeld.2.2.2.1, cell_on hb1 hHeld.2.2.2.2.1, cell_on hb1 hHeld.2.2.2.2.2.1, cell_on hb1 hHeld.2.2.2.2.2.2.1, cell_on hb1 hHeld.2.2.2.2.2.2.2.1, cell_on hb1 hHeld.2.2.2.2.2.2.2.2⟩ (fun hHeld => ?_)
    clear hK K
    refine take_lit (i := 4) (d := 18) (v := .bool true) rfl rfl (by kernel_rfl) (by kernel_rfl) (by kernel_rfl) (fun _ _ _ h => h) (Or.inl ⟨by rfl, ?_⟩) (by assumption) ?_
    · (intro w' hSw; (try dsimp only at hSw); go_simp)
    simp only [List.set_cons_zero, List.set_cons_succ]
    refine take_lit (i := 5) (d := 19) (v := ?_) rfl rfl (by kernel_rfl) (by kernel_rfl) (by kernel_rfl) (fun _ _ _ h => h) (Or.inl ⟨by rfl, ?_⟩) (by assumption) ?_
    rotate_left
    · (intro w hSw; (try dsimp only at hSw); first | (go_simp; done) | (go_simp; with_reducible rfl))
    simp only [List.set_cons_zero, List.set_cons_succ]
    refine take_lit (i := 6) (d := 20) (v := ?_) rfl rfl (by kernel_rfl) (by kernel_rfl) (by kernel_rfl) (fun _ _ _ h => h) (Or.inl ⟨by rfl, ?_⟩) (by assumption) ?_
    rotate_left
    · (intro w hSw; (try dsimp only at hSw); first | (go_simp; done) | (go_simp; with_reducible rfl))
    simp only [List.set_cons_zero, List.set_cons_succ]
    refine wpAnyH_ready (rs := [7]) (by kernel_rfl) (by simp) ?_
    refine AllReadyH.cons rfl (fun K hK => ?_) AllReadyH.nil
    go_simp
    refine (wordForm_right hx'.out).mono ?_
    rintro e w1 ⟨rfl, hb1⟩
    have hB4 : Below w.heap.size w w1 := hB3.trans (hb1.mono hB3.size)
    refine hK.out _ _ ⟨cell_on hb1 hHeld.1, cell_on hb1 hHeld.2.1, cell_on hb1 hHeld.2.2.1, cell_on hb1 hHeld.2.2.2.1, cell_on hb1 hHeld.2.2.2.2.1, cell_on hb1 hHeld.2.2.2.2.2.1, cell_on hb1 hHeld.2.2.2.2.2.2.1, cell_on hb1 hHeld.2.2.2.2.2.2.2.1, cell_on hb1 hHeld.2.2.2.2.2.2.2.2⟩ (fun hHeld => ?_)
    clear hK K
    refine take_lit (i := 8) (d := 22) (v := ?_) rfl rfl (by kernel_rfl) (by kernel_rfl) (by kernel_rfl) (fun _ _ _ h => h) (Or.inl ⟨by rfl, ?_⟩) (by assumption) ?_
    rotate_left
    · (intro w hSw; (try dsimp only at hSw); first | (go_simp; done) | (go_simp; with_reducible rfl))
    simp only [List.set_cons_zero, List.set_cons_succ]
    refine take_lit (i := 9) (d := 2) (v := ?_) rfl rfl (by kernel_rfl) (by kernel_rfl) (by kernel_rfl) (fun _ _ _ h => h) (Or.inl ⟨by rfl, ?_⟩) (by assumption) ?_
    rotate_left
    · (intro w hSw; (try dsimp only at hSw); first | (go_simp; done) | (go_simp; with_reducible rfl))
    simp only [List.set_cons_zero, List.set_cons_succ]
    refine take_lit (i := 10) (d := 3) (v := ?_) rfl rfl (by kernel_rfl) (by kernel_rfl) (by kernel_rfl) (fun _ _ _ h => h) (Or.inl ⟨by rfl, ?_⟩) (by assumption) ?_
    rotate_left
    · (intro w hSw; (try dsimp only at hSw); first | (go_simp; done) | (go_simp; with_reducible rfl))
    simp only [List.set_cons_zero, List.set_cons_succ]
    refine wpAnyH_done (by kernel_rfl) ?_ _
    go_wp2_with fail
    go_ret2
    exact ⟨by rw [HT.out]; rfl, hB4⟩
  · have HT : Hid ((decide (wordFormRest x) && wordFormB x) = false) := by show _ = _; simp [hR]
    have hR' : Hid (¬ wordFormRest x) := hR
    clear hR
    refine wp_region_held_drew (S := fun w' => w'.cell? ⟨w.heap.size, 0, none⟩ = some (.int .i64 0) ∧ w'.cell? ⟨w.heap.size, 1, none⟩ = some (.string x.vName) ∧ w'.cell? ⟨w.heap.size, 2, none⟩ = some (.string x.vOther) ∧ w'.cell? ⟨w.heap.size, 3, none⟩ = some (.string x.vWord) ∧ w'.cell? ⟨w.heap.size, 4, none⟩ = some (.string x.vType) ∧ w'.cell? ⟨w.heap.size, 5, none⟩ = some (.bool x.vCapture) ∧ w'.cell? ⟨w.heap.size, 6, none⟩ = some (.bool x.vOnce) ∧ w'.cell? ⟨w.heap.size, 7, none⟩ = some (.int .i64 x.vStop) ∧ w'.cell? ⟨w.heap.size, 8, none⟩ = some (.string x.vLname)) (by kernel_rfl) ⟨bO2.out.cell 0 rfl, bO2.out.cell 1 rfl, bO2.out.cell 2 rfl, bO2.out.cell 3 rfl, bO2.out.cell 4 rfl, bO2.out.cell 5 rfl, bO2.out.cell 6 rfl, bO2.out.cell 7 rfl, bO2.out.cell 8 rfl⟩ (fun hHeld => ?_)
    refine take_lit (i := 0) (d := 14) (v := ?_) rfl rfl (by kernel_rfl) (by kernel_rfl) (by kernel_rfl) (fun _ _ _ h => h) (Or.inl ⟨by rfl, ?_⟩) (by assumption) ?_
    rotate_left
    · (intro w hSw; (try dsimp only at hSw); first | (go_simp; done) | (go_simp; with_reducible rfl))
    simp only [List.set_cons_zero, List.set_cons_succ]
    refine take_lit (i := 1) (d := 15) (v := ?_) rfl rfl (by kernel_rfl) (by kernel_rfl) (by kernel_rfl) (fun _ _ _ h => h) (Or.inl ⟨by rfl, ?_⟩) (by assumption) ?_
    rotate_left
    · (intro w hSw; (try dsimp only at hSw); first | (go_simp; done) | (go_simp; with_reducible rfl))
    simp only [List.set_cons_zero, List.set_cons_succ]
    refine take_lit (i := 3) (d := 17) (v := ?_) rfl rfl (by kernel_rfl) (by kernel_rfl) (by kernel_rfl) (fun _ _ _ h => h) (Or.inl ⟨by rfl, ?_⟩) (by assumption) ?_
    rotate_left
    · (intro w hSw; (try dsimp only at hSw); first | (go_simp; done) | (go_simp; with_reducible rfl))
    simp only [List.set_cons_zero, List.set_cons_succ]
    refine wpAnyH_ready (rs := [2]) (by kernel_rfl) (by simp) ?_
    refine AllReadyH.cons rfl (fun K hK => ?_) AllReadyH.nil
    go_simp
    refine wordForm_fieldsB.mono ?_
    rintro e w1 ⟨rfl, hb1⟩
    have hB3 : Below w.heap.size w w1 := hB2.drew.trans (hb1.mono (by exact hB2.size))
    refine hK.out _ _ ⟨cell_on hb1 hHeld.1, cell_on hb1 hHeld.2.1, cell_on hb1 hHeld.2.2.1, cell_on hb1 hHeld.2.2.2.1, cell_on hb1 hHeld.2.2.2.2.1, cell_on hb1 hHeld.2.2.2.2.2.1, cell_on hb1 hHeld.2.2.2.2.2.2.1, cell_on hb1 hHeld.2.2.2.2.2.2.2.1, cell_on hb1 hHeld.2.2.2.2.2.2.2.2⟩ (fun hHeld => ?_)
    clear hK K
    refine take_lit (i := 4) (d := 18) (v := .bool false) rfl rfl (by kernel_rfl) (by kernel_rfl) (by kernel_rfl) (fun _ _ _ h => h) (Or.inl ⟨by rfl, ?_⟩) (by assumption) ?_
    · (intro w' hSw; (try dsimp only at hSw); go_simp; clear hSw; refine Classical.byContradiction fun hcon => hR'.out ?_; unfold wordFormRest; clear hHeld hb1 hB3 hB2 bO2 HT hx'; simp_all)
    simp only [List.set_cons_zero, List.set_cons_succ]
    refine take_lit (i := 5) (d := 19) (v := ?_) rfl rfl (by kernel_rfl) (by kernel_rfl) (by kernel_rfl) (fun _ _ _ h => h) (Or.inl ⟨by rfl, ?_⟩) (by assumption) ?_
    rotate_left
    · (intro w hSw; (try dsimp only at hSw); first | (go_simp; done) | (go_simp; with_reducible rfl))
    simp only [List.set_cons_zero, List.set_cons_succ]
    refine take_lit (i := 6) (d := 20) (v := undef) rfl rfl (by kernel_rfl) (by kernel_rfl) (by kernel_rfl) (fun _ _ _ h => h) (Or.inr ⟨by rfl, rfl⟩) (by assumption) ?_
    simp only [List.set_cons_zero, List.set_cons_succ]
    refine take_lit (i := 7) (d := 21) (v := undef) rfl rfl (by kernel_rfl) (by kernel_rfl) (by kernel_rfl) (fun _ _ _ h => h) (Or.inr ⟨by rfl, rfl⟩) (by assumption) ?_
    simp only [List.set_cons_zero, List.set_cons_succ]
    refine take_lit (i := 8) (d := 22) (v := ?_) rfl rfl (by kernel_rfl) (by kernel_rfl) (by kernel_rfl) (fun _ _ _ h => h) (Or.inl ⟨by rfl, ?_⟩) (by assumption) ?_
    rotate_left
    · (intro w hSw; (try dsimp only at hSw); first | (go_simp; done) | (go_simp; with_reducible rfl))
    simp only [List.set_cons_zero, List.set_cons_succ]
    refine take_lit (i := 9) (d := 2) (v := ?_) rfl rfl (by kernel_rfl) (by kernel_rfl) (by kernel_rfl) (fun _ _ _ h => h) (Or.inl ⟨by rfl, ?_⟩) (by assumption) ?_
    rotate_left
    · (intro w hSw; (try dsimp only at hSw); first | (go_simp; done) | (go_simp; with_reducible rfl))
    simp only [List.set_cons_zero, List.set_cons_succ]
    refine take_lit (i := 10) (d := 3) (v := ?_) rfl rfl (by kernel_rfl) (by kernel_rfl) (by kernel_rfl) (fun _ _ _ h => h) (Or.inl ⟨by rfl, ?_⟩) (by assumption) ?_
    rotate_left
    · (intro w hSw; (try dsimp only at hSw); first | (go_simp; done) | (go_simp; with_reducible rfl))
    simp only [List.set_cons_zero, List.set_cons_succ]
    refine wpAnyH_done (by kernel_rfl) ?_ _
    go_wp2_with fail
    go_ret2
    exact ⟨by rw [HT.out]; rfl, hB3⟩
set_option maxHeartbeats 1600000 in
theorem rightAction6 {w : World} {x : OpD} (hx : x.fits) :
    Calls Try.prog 12 #[.agg #[.int .i64 6, .string x.vName, .string x.vOther, .string x.vWord, .string x.vType, .bool x.vCapture, .bool x.vOnce, .int .i64 x.vStop, .string x.vLname]] w fun e w' => e = .returned (.tuple #[.iface 60 (.agg #[.string x.vName]), .bool (decide (nameFormRest x) && nameFormB x)]) ∧ Below w.heap.size w w' := by
  have hx' : Hid x.fits := hx
  clear hx
  have hb0 : Below w.heap.size w (w.alloc (.cells #[.int .i64 6, .string x.vName, .string x.vOther, .string x.vWord, .string x.vType, .bool x.vCapture, .bool x.vOnce, .int .i64 x.vStop, .string x.vLname] 30)) := (Below.refl _ _).alloc (Nat.le_refl _) _
  have bO0 : Hid (Box (w.alloc (.cells #[.int .i64 6, .string x.vName, .string x.vOther, .string x.vWord, .string x.vType, .bool x.vCapture, .bool x.vOnce, .int .i64 x.vStop, .string x.vLname] 30)) w.heap.size [.int .i64 6, .string x.vName, .string x.vOther, .string x.vWord, .string x.vType, .bool x.vCapture, .bool x.vOnce, .int .i64 x.vStop, .string x.vLname] 30) := Box.new w [.int .i64 6, .string x.vName, .string x.vOther, .string x.vWord, .string x.vType, .bool x.vCapture, .bool x.vOnce, .int .i64 x.vStop, .string x.vLname] 30
  go_enter Try.func12, Try.ntmps12
  go_wp2_with fail
  refine actionOfB6.mono ?_
  rintro e w1 ⟨rfl, hb1⟩
  have bO1 := bO0.out.below hb1 (by simp)
  have hB1 : Below w.heap.size w w1 := hb0.trans (hb1.mono hb0.size)
  have c0 := bO1.cell 0 rfl
  have g0 := bO1.unfrozen 0
  have bO2 : Hid (Box (w1.setCell ⟨w.heap.size, 0, none⟩ (.int .i64 0)) w.heap.size [.int .i64 0, .string x.vName, .string x.vOther, .string x.vWord, .string x.vType, .bool x.vCapture, .bool x.vOnce, .int .i64 x.vStop, .string x.vLname] 30) := bO1.set (i := 0) (.int .i64 0)
  have hB2 : Below w.heap.size w (w1.setCell ⟨w.heap.size, 0, none⟩ (.int .i64 0)) := hB1.setCell (by simp) _
  clear bO1 bO0 hb0 hb1
  go_wp2_with fail
  generalize w1.setCell ⟨w.heap.size, 0, none⟩ (.int .i64 0) = w2 at *
  clear c0 g0 hB1 w1
  by_cases hR : nameFormRest x
  · have HT : Hid ((decide (nameFormRest x) && nameFormB x) = nameFormB x) := by show _ = _; simp [hR]
    obtain ⟨z0, z1, z2, z3, z4, z5, z6⟩ := hR
    refine wp_region_held_drew (S := fun w' => w'.cell? ⟨w.heap.size, 0, none⟩ = some (.int .i64 0) ∧ w'.cell? ⟨w.heap.size, 1, none⟩ = some (.string x.vName) ∧ w'.cell? ⟨w.heap.size, 2, none⟩ = some (.string x.vOther) ∧ w'.cell? ⟨w.heap.size, 3, none⟩ = some (.string x.vWord) ∧ w'.cell? ⟨w.heap.size, 4, none⟩ = some (.string x.vType) ∧ w'.cell? ⟨w.heap.size, 5, none⟩ = some (.bool x.vCapture) ∧ w'.cell? ⟨w.heap.size, 6, none⟩ = some (.bool x.vOnce) ∧ w'.cell? ⟨w.heap.size, 7, none⟩ = some (.int .i64 x.vStop) ∧ w'.cell? ⟨w.heap.size, 8, none⟩ = some (.string x.vLname)) (by kernel_rfl) ⟨bO2.out.cell 0 rfl, bO2.out.cell 1 rfl, bO2.out.cell 2 rfl, bO2.out.cell 3 rfl, bO2.out.cell 4 rfl, bO2.out.cell 5 rfl, bO2.out.cell 6 rfl, bO2.out.cell 7 rfl, bO2.out.cell 8 rfl⟩ (fun hHeld => ?_)
    refine take_lit (i := 0) (d := 14) (v := ?_) rfl rfl (by kernel_rfl) (by kernel_rfl) (by kernel_rfl) (fun _ _ _ h => h) (Or.inl ⟨by rfl, ?_⟩) (by assumption) ?_
    rotate_left
    · (intro w hSw; (try dsimp only at hSw); first | (go_simp; done) | (go_simp; with_reducible rfl))
    simp only [List.set_cons_zero, List.set_cons_succ]
    refine take_lit (i := 1) (d := 15) (v := ?_) rfl rfl (by kernel_rfl) (by kernel_rfl) (by kernel_rfl) (fun _ _ _ h => h) (Or.inl ⟨by rfl, ?_⟩) (by assumption) ?_
    rotate_left
    · (intro w hSw; (try dsimp only at hSw); first | (go_simp; done) | (go_simp; with_reducible rfl))
    simp only [List.set_cons_zero, List.set_cons_succ]
    refine take_lit (i := 3) (d := 17) (v := ?_) rfl rfl (by kernel_rfl) (by kernel_rfl) (by kernel_rfl) (fun _ _ _ h => h) (Or.inl ⟨by rfl, ?_⟩) (by assumption) ?_
    rotate_left
    · (intro w hSw; (try dsimp only at hSw); first | (go_simp; done) | (go_simp; with_reducible rfl))
    simp only [List.set_cons_zero, List.set_cons_succ]
    refine wpAnyH_ready (rs := [2]) (by kernel_rfl) (by simp) ?_
    refine AllReadyH.cons rfl (fun K hK => ?_) AllReadyH.nil
    go_simp
    refine nameForm_fieldsB.mono ?_
    rintro e w1 ⟨rfl, hb1⟩
    have hB3 : Below w.heap.size w w1 := hB2.drew.trans (hb1.mono (by exact hB2.size))
    refine hK.out _ _ ⟨cell_on hb1 hHeld.1, cell_on hb1 hHeld.2.1, cell_on hb1 hHeld.2.2.1, cell_on hb1 hHeld.2.2.2.1, cell_on hb1 hHeld.2.2.2.2.1, cell_on hb1 hHeld.2.2.2.2.2.1, cell_on hb1 hHeld.2.2.2.2.2.2.1, cell_on hb1 hHeld.2.2.2.2.2.2.2.1, cell_on hb1 hHeld.2.2.2.2.2.2.2.2⟩ (fun hHeld => ?_)
    clear hK K
    refine take_lit (i := 4) (d := 18) (v := .bool true) rfl rfl (by kernel_rfl) (by kernel_rfl) (by kernel_rfl) (fun _ _ _ h => h) (Or.inl ⟨by rfl, ?_⟩) (by assumption) ?_
    · (intro w' hSw; (try dsimp only at hSw); go_simp)
    simp only [List.set_cons_zero, List.set_cons_succ]
    refine take_lit (i := 5) (d := 19) (v := ?_) rfl rfl (by kernel_rfl) (by kernel_rfl) (by kernel_rfl) (fun _ _ _ h => h) (Or.inl ⟨by rfl, ?_⟩) (by assumption) ?_
    rotate_left
    · (intro w hSw; (try dsimp only at hSw); first | (go_simp; done) | (go_simp; with_reducible rfl))
    simp only [List.set_cons_zero, List.set_cons_succ]
    refine take_lit (i := 6) (d := 20) (v := ?_) rfl rfl (by kernel_rfl) (by kernel_rfl) (by kernel_rfl) (fun _ _ _ h => h) (Or.inl ⟨by rfl, ?_⟩) (by assumption) ?_
    rotate_left
    · (intro w hSw; (try dsimp only at hSw); first | (go_simp; done) | (go_simp; with_reducible rfl))
    simp only [List.set_cons_zero, List.set_cons_succ]
    refine wpAnyH_ready (rs := [7]) (by kernel_rfl) (by simp) ?_
    refine AllReadyH.cons rfl (fun K hK => ?_) AllReadyH.nil
    go_simp
    refine (nameForm_right hx'.out).mono ?_
    rintro e w1 ⟨rfl, hb1⟩
    have hB4 : Below w.heap.size w w1 := hB3.trans (hb1.mono hB3.size)
    refine hK.out _ _ ⟨cell_on hb1 hHeld.1, cell_on hb1 hHeld.2.1, cell_on hb1 hHeld.2.2.1, cell_on hb1 hHeld.2.2.2.1, cell_on hb1 hHeld.2.2.2.2.1, cell_on hb1 hHeld.2.2.2.2.2.1, cell_on hb1 hHeld.2.2.2.2.2.2.1, cell_on hb1 hHeld.2.2.2.2.2.2.2.1, cell_on hb1 hHeld.2.2.2.2.2.2.2.2⟩ (fun hHeld => ?_)
    clear hK K
    refine take_lit (i := 8) (d := 22) (v := ?_) rfl rfl (by kernel_rfl) (by kernel_rfl) (by kernel_rfl) (fun _ _ _ h => h) (Or.inl ⟨by rfl, ?_⟩) (by assumption) ?_
    rotate_left
    · (intro w hSw; (try dsimp only at hSw); first | (go_simp; done) | (go_simp; with_reducible rfl))
    simp only [List.set_cons_zero, List.set_cons_succ]
    refine take_lit (i := 9) (d := 2) (v := ?_) rfl rfl (by kernel_rfl) (by kernel_rfl) (by kernel_rfl) (fun _ _ _ h => h) (Or.inl ⟨by rfl, ?_⟩) (by assumption) ?_
    rotate_left
    · (intro w hSw; (try dsimp only at hSw); first | (go_simp; done) | (go_simp; with_reducible rfl))
    simp only [List.set_cons_zero, List.set_cons_succ]
    refine take_lit (i := 10) (d := 3) (v := ?_) rfl rfl (by kernel_rfl) (by kernel_rfl) (by kernel_rfl) (fun _ _ _ h => h) (Or.inl ⟨by rfl, ?_⟩) (by assumption) ?_
    rotate_left
    · (intro w hSw; (try dsimp only at hSw); first | (go_simp; done) | (go_simp; with_reducible rfl))
    simp only [List.set_cons_zero, List.set_cons_succ]
    refine wpAnyH_done (by kernel_rfl) ?_ _
    go_wp2_with fail
    go_ret2
    exact ⟨by rw [HT.out]; rfl, hB4⟩
  · have HT : Hid ((decide (nameFormRest x) && nameFormB x) = false) := by show _ = _; simp [hR]
    have hR' : Hid (¬ nameFormRest x) := hR
    clear hR
    refine wp_region_held_drew (S := fun w' => w'.cell? ⟨w.heap.size, 0, none⟩ = some (.int .i64 0) ∧ w'.cell? ⟨w.heap.size, 1, none⟩ = some (.string x.vName) ∧ w'.cell? ⟨w.heap.size, 2, none⟩ = some (.string x.vOther) ∧ w'.cell? ⟨w.heap.size, 3, none⟩ = some (.string x.vWord) ∧ w'.cell? ⟨w.heap.size, 4, none⟩ = some (.string x.vType) ∧ w'.cell? ⟨w.heap.size, 5, none⟩ = some (.bool x.vCapture) ∧ w'.cell? ⟨w.heap.size, 6, none⟩ = some (.bool x.vOnce) ∧ w'.cell? ⟨w.heap.size, 7, none⟩ = some (.int .i64 x.vStop) ∧ w'.cell? ⟨w.heap.size, 8, none⟩ = some (.string x.vLname)) (by kernel_rfl) ⟨bO2.out.cell 0 rfl, bO2.out.cell 1 rfl, bO2.out.cell 2 rfl, bO2.out.cell 3 rfl, bO2.out.cell 4 rfl, bO2.out.cell 5 rfl, bO2.out.cell 6 rfl, bO2.out.cell 7 rfl, bO2.out.cell 8 rfl⟩ (fun hHeld => ?_)
    refine take_lit (i := 0) (d := 14) (v := ?_) rfl rfl (by kernel_rfl) (by kernel_rfl) (by kernel_rfl) (fun _ _ _ h => h) (Or.inl ⟨by rfl, ?_⟩) (by assumption) ?_
    rotate_left
    · (intro w hSw; (try dsimp only at hSw); first | (go_simp; done) | (go_simp; with_reducible rfl))
    simp only [List.set_cons_zero, List.set_cons_succ]
    refine take_lit (i := 1) (d := 15) (v := ?_) rfl rfl (by kernel_rfl) (by kernel_rfl) (by kernel_rfl) (fun _ _ _ h => h) (Or.inl ⟨by rfl, ?_⟩) (by assumption) ?_
    rotate_left
    · (intro w hSw; (try dsimp only at hSw); first | (go_simp; done) | (go_simp; with_reducible rfl))
    simp only [List.set_cons_zero, List.set_cons_succ]
    refine take_lit (i := 3) (d := 17) (v := ?_) rfl rfl (by kernel_rfl) (by kernel_rfl) (by kernel_rfl) (fun _ _ _ h => h) (Or.inl ⟨by rfl, ?_⟩) (by assumption) ?_
    rotate_left
    · (intro w hSw; (try dsimp only at hSw); first | (go_simp; done) | (go_simp; with_reducible rfl))
    simp only [List.set_cons_zero, List.set_cons_succ]
    refine wpAnyH_ready (rs := [2]) (by kernel_rfl) (by simp) ?_
    refine AllReadyH.cons rfl (fun K hK => ?_) AllReadyH.nil
    go_simp
    refine nameForm_fieldsB.mono ?_
    rintro e w1 ⟨rfl, hb1⟩
    have hB3 : Below w.heap.size w w1 := hB2.drew.trans (hb1.mono (by exact hB2.size))
    refine hK.out _ _ ⟨cell_on hb1 hHeld.1, cell_on hb1 hHeld.2.1, cell_on hb1 hHeld.2.2.1, cell_on hb1 hHeld.2.2.2.1, cell_on hb1 hHeld.2.2.2.2.1, cell_on hb1 hHeld.2.2.2.2.2.1, cell_on hb1 hHeld.2.2.2.2.2.2.1, cell_on hb1 hHeld.2.2.2.2.2.2.2.1, cell_on hb1 hHeld.2.2.2.2.2.2.2.2⟩ (fun hHeld => ?_)
    clear hK K
    refine take_lit (i := 4) (d := 18) (v := .bool false) rfl rfl (by kernel_rfl) (by kernel_rfl) (by kernel_rfl) (fun _ _ _ h => h) (Or.inl ⟨by rfl, ?_⟩) (by assumption) ?_
    · (intro w' hSw; (try dsimp only at hSw); go_simp; clear hSw; refine Classical.byContradiction fun hcon => hR'.out ?_; unfold nameFormRest; clear hHeld hb1 hB3 hB2 bO2 HT hx'; simp_all)
    simp only [List.set_cons_zero, List.set_cons_succ]
    refine take_lit (i := 5) (d := 19) (v := ?_) rfl rfl (by kernel_rfl) (by kernel_rfl) (by kernel_rfl) (fun _ _ _ h => h) (Or.inl ⟨by rfl, ?_⟩) (by assumption) ?_
    rotate_left
    · (intro w hSw; (try dsimp only at hSw); first | (go_simp; done) | (go_simp; with_reducible rfl))
    simp only [List.set_cons_zero, List.set_cons_succ]
    refine take_lit (i := 6) (d := 20) (v := undef) rfl rfl (by kernel_rfl) (by kernel_rfl) (by kernel_rfl) (fun _ _ _ h => h) (Or.inr ⟨by rfl, rfl⟩) (by assumption) ?_
    simp only [List.set_cons_zero, List.set_cons_succ]
    refine take_lit (i := 7) (d := 21) (v := undef) rfl rfl (by kernel_rfl) (by kernel_rfl) (by kernel_rfl) (fun _ _ _ h => h) (Or.inr ⟨by rfl, rfl⟩) (by assumption) ?_
    simp only [List.set_cons_zero, List.set_cons_succ]
    refine take_lit (i := 8) (d := 22) (v := ?_) rfl rfl (by kernel_rfl) (by kernel_rfl) (by kernel_rfl) (fun _ _ _ h => h) (Or.inl ⟨by rfl, ?_⟩) (by assumption) ?_
    rotate_left
    · (intro w hSw; (try dsimp only at hSw); first | (go_simp; done) | (go_simp; with_reducible rfl))
    simp only [List.set_cons_zero, List.set_cons_succ]
    refine take_lit (i := 9) (d := 2) (v := ?_) rfl rfl (by kernel_rfl) (by kernel_rfl) (by kernel_rfl) (fun _ _ _ h => h) (Or.inl ⟨by rfl, ?_⟩) (by assumption) ?_
    rotate_left
    · (intro w hSw; (try dsimp only at hSw); first | (go_simp; done) | (go_simp; with_reducible rfl))
    simp only [List.set_cons_zero, List.set_cons_succ]
    refine take_lit (i := 10) (d := 3) (v := ?_) rfl rfl (by kernel_rfl) (by kernel_rfl) (by kernel_rfl) (fun _ _ _ h => h) (Or.inl ⟨by rfl, ?_⟩) (by assumption) ?_
    rotate_left
    · (intro w hSw; (try dsimp only at hSw); first | (go_simp; done) | (go_simp; with_reducible rfl))
    simp only [List.set_cons_zero, List.set_cons_succ]
    refine wpAnyH_done (by kernel_rfl) ?_ _
    go_wp2_with fail
    go_ret2
    exact ⟨by rw [HT.out]; rfl, hB3⟩
set_option maxHeartbeats 1600000 in
theorem rightAction7 {w : World} {x : OpD} (hx : x.fits) :
    Calls Try.prog 12 #[.agg #[.int .i64 7, .string x.vName, .string x.vOther, .string x.vWord, .string x.vType, .bool x.vCapture, .bool x.vOnce, .int .i64 x.vStop, .string x.vLname]] w fun e w' => e = .returned (.tuple #[.iface 62 (.agg #[.string x.vName, .string x.vOther]), .bool (decide (otherFormRest x) && otherFormB x)]) ∧ Below w.heap.size w w' := by
  have hx' : Hid x.fits := hx
  clear hx
  have hb0 : Below w.heap.size w (w.alloc (.cells #[.int .i64 7, .string x.vName, .string x.vOther, .string x.vWord, .string x.vType, .bool x.vCapture, .bool x.vOnce, .int .i64 x.vStop, .string x.vLname] 30)) := (Below.refl _ _).alloc (Nat.le_refl _) _
  have bO0 : Hid (Box (w.alloc (.cells #[.int .i64 7, .string x.vName, .string x.vOther, .string x.vWord, .string x.vType, .bool x.vCapture, .bool x.vOnce, .int .i64 x.vStop, .string x.vLname] 30)) w.heap.size [.int .i64 7, .string x.vName, .string x.vOther, .string x.vWord, .string x.vType, .bool x.vCapture, .bool x.vOnce, .int .i64 x.vStop, .string x.vLname] 30) := Box.new w [.int .i64 7, .string x.vName, .string x.vOther, .string x.vWord, .string x.vType, .bool x.vCapture, .bool x.vOnce, .int .i64 x.vStop, .string x.vLname] 30
  go_enter Try.func12, Try.ntmps12
  go_wp2_with fail
  refine actionOfB7.mono ?_
  rintro e w1 ⟨rfl, hb1⟩
  have bO1 := bO0.out.below hb1 (by simp)
  have hB1 : Below w.heap.size w w1 := hb0.trans (hb1.mono hb0.size)
  have c0 := bO1.cell 0 rfl
  have g0 := bO1.unfrozen 0
  have bO2 : Hid (Box (w1.setCell ⟨w.heap.size, 0, none⟩ (.int .i64 0)) w.heap.size [.int .i64 0, .string x.vName, .string x.vOther, .string x.vWord, .string x.vType, .bool x.vCapture, .bool x.vOnce, .int .i64 x.vStop, .string x.vLname] 30) := bO1.set (i := 0) (.int .i64 0)
  have hB2 : Below w.heap.size w (w1.setCell ⟨w.heap.size, 0, none⟩ (.int .i64 0)) := hB1.setCell (by simp) _
  clear bO1 bO0 hb0 hb1
  go_wp2_with fail
  generalize w1.setCell ⟨w.heap.size, 0, none⟩ (.int .i64 0) = w2 at *
  clear c0 g0 hB1 w1
  by_cases hR : otherFormRest x
  · have HT : Hid ((decide (otherFormRest x) && otherFormB x) = otherFormB x) := by show _ = _; simp [hR]
    obtain ⟨z0, z1, z2, z3, z4, z5⟩ := hR
    refine wp_region_held_drew (S := fun w' => w'.cell? ⟨w.heap.size, 0, none⟩ = some (.int .i64 0) ∧ w'.cell? ⟨w.heap.size, 1, none⟩ = some (.string x.vName) ∧ w'.cell? ⟨w.heap.size, 2, none⟩ = some (.string x.vOther) ∧ w'.cell? ⟨w.heap.size, 3, none⟩ = some (.string x.vWord) ∧ w'.cell? ⟨w.heap.size, 4, none⟩ = some (.string x.vType) ∧ w'.cell? ⟨w.heap.size, 5, none⟩ = some (.bool x.vCapture) ∧ w'.cell? ⟨w.heap.size, 6, none⟩ = some (.bool x.vOnce) ∧ w'.cell? ⟨w.heap.size, 7, none⟩ = some (.int .i64 x.vStop) ∧ w'.cell? ⟨w.heap.size, 8, none⟩ = some (.string x.vLname)) (by kernel_rfl) ⟨bO2.out.cell 0 rfl, bO2.out.cell 1 rfl, bO2.out.cell 2 rfl, bO2.out.cell 3 rfl, bO2.out.cell 4 rfl, bO2.out.cell 5 rfl, bO2.out.cell 6 rfl, bO2.out.cell 7 rfl, bO2.out.cell 8 rfl⟩ (fun hHeld => ?_)
    refine take_lit (i := 0) (d := 14) (v := ?_) rfl rfl (by kernel_rfl) (by kernel_rfl) (by kernel_rfl) (fun _ _ _ h => h) (Or.inl ⟨by rfl, ?_⟩) (by assumption) ?_
    rotate_left
    · (intro w hSw; (try dsimp only at hSw); first | (go_simp; done) | (go_simp; with_reducible rfl))
    simp only [List.set_cons_zero, List.set_cons_succ]
    refine take_lit (i := 1) (d := 15) (v := ?_) rfl rfl (by kernel_rfl) (by kernel_rfl) (by kernel_rfl) (fun _ _ _ h => h) (Or.inl ⟨by rfl, ?_⟩) (by assumption) ?_
    rotate_left
    · (intro w hSw; (try dsimp only at hSw); first | (go_simp; done) | (go_simp; with_reducible rfl))
    simp only [List.set_cons_zero, List.set_cons_succ]
    refine take_lit (i := 3) (d := 17) (v := ?_) rfl rfl (by kernel_rfl) (by kernel_rfl) (by kernel_rfl) (fun _ _ _ h => h) (Or.inl ⟨by rfl, ?_⟩) (by assumption) ?_
    rotate_left
    · (intro w hSw; (try dsimp only at hSw); first | (go_simp; done) | (go_simp; with_reducible rfl))
    simp only [List.set_cons_zero, List.set_cons_succ]
    refine wpAnyH_ready (rs := [2]) (by kernel_rfl) (by simp) ?_
    refine AllReadyH.cons rfl (fun K hK => ?_) AllReadyH.nil
    go_simp
    refine otherForm_fieldsB.mono ?_
    rintro e w1 ⟨rfl, hb1⟩
    have hB3 : Below w.heap.size w w1 := hB2.drew.trans (hb1.mono (by exact hB2.size))
    refine hK.out _ _ ⟨cell_on hb1 hHeld.1, cell_on hb1 hHeld.2.1, cell_on hb1 hHeld.2.2.1, cell_on hb1 hHeld.2.2.2.1, cell_on hb1 hHeld.2.2.2.2.1, cell_on hb1 hHeld.2.2.2.2.2.1, cell_on hb1 hHeld.2.2.2.2.2.2.1, cell_on hb1 hHeld.2.2.2.2.2.2.2.1, cell_on hb1 hHeld.2.2.2.2.2.2.2.2⟩ (fun hHeld => ?_)
    clear hK K
    refine take_lit (i := 4) (d := 18) (v := .bool true) rfl rfl (by kernel_rfl) (by kernel_rfl) (by kernel_rfl) (fun _ _ _ h => h) (Or.inl ⟨by rfl, ?_⟩) (by assumption) ?_
    · (intro w' hSw; (try dsimp only at hSw); go_simp)
    simp only [List.set_cons_zero, List.set_cons_succ]
    refine take_lit (i := 5) (d := 19) (v := ?_) rfl rfl (by kernel_rfl) (by kernel_rfl) (by kernel_rfl) (fun _ _ _ h => h) (Or.inl ⟨by rfl, ?_⟩) (by assumption) ?_
    rotate_left
    · (intro w hSw; (try dsimp only at hSw); first | (go_simp; done) | (go_simp; with_reducible rfl))
    simp only [List.set_cons_zero, List.set_cons_succ]
    refine take_lit (i := 6) (d := 20) (v := ?_) rfl rfl (by kernel_rfl) (by kernel_rfl) (by kernel_rfl) (fun _ _ _ h => h) (Or.inl ⟨by rfl, ?_⟩) (by assumption) ?_
    rotate_left
    · (intro w hSw; (try dsimp only at hSw); first | (go_simp; done) | (go_simp; with_reducible rfl))
    simp only [List.set_cons_zero, List.set_cons_succ]
    refine wpAnyH_ready (rs := [7]) (by kernel_rfl) (by simp) ?_
    refine AllReadyH.cons rfl (fun K hK => ?_) AllReadyH.nil
    go_simp
    refine (otherForm_right hx'.out).mono ?_
    rintro e w1 ⟨rfl, hb1⟩
    have hB4 : Below w.heap.size w w1 := hB3.trans (hb1.mono hB3.size)
    refine hK.out _ _ ⟨cell_on hb1 hHeld.1, cell_on hb1 hHeld.2.1, cell_on hb1 hHeld.2.2.1, cell_on hb1 hHeld.2.2.2.1, cell_on hb1 hHeld.2.2.2.2.1, cell_on hb1 hHeld.2.2.2.2.2.1, cell_on hb1 hHeld.2.2.2.2.2.2.1, cell_on hb1 hHeld.2.2.2.2.2.2.2.1, cell_on hb1 hHeld.2.2.2.2.2.2.2.2⟩ (fun hHeld => ?_)
    clear hK K
    refine take_lit (i := 8) (d := 22) (v := ?_) rfl rfl (by kernel_rfl) (by kernel_rfl) (by kernel_rfl) (fun _ _ _ h => h) (Or.inl ⟨by rfl, ?_⟩) (by assumption) ?_
    rotate_left
    · (intro w hSw; (try dsimp only at hSw); first | (go_simp; done) | (go_simp; with_reducible rfl))
    simp only [List.set_cons_zero, List.set_cons_succ]
    refine take_lit (i := 9) (d := 2) (v := ?_) rfl rfl (by kernel_rfl) (by kernel_rfl) (by kernel_rfl) (fun _ _ _ h => h) (Or.inl ⟨by rfl, ?_⟩) (by assumption) ?_
    rotate_left
    · (intro w hSw; (try dsimp only at hSw); first | (go_simp; done) | (go_simp; with_reducible rfl))
    simp only [List.set_cons_zero, List.set_cons_succ]
    refine take_lit (i := 10) (d := 3) (v := ?_) rfl rfl (by kernel_rfl) (by kernel_rfl) (by kernel_rfl) (fun _ _ _ h => h) (Or.inl ⟨by rfl, ?_⟩) (by assumption) ?_
    rotate_left
    · (intro w hSw; (try dsimp only at hSw); first | (go_simp; done) | (go_simp; with_reducible rfl))
    simp only [List.set_cons_zero, List.set_cons_succ]
    refine wpAnyH_done (by kernel_rfl) ?_ _
    go_wp2_with fail
    go_ret2
    exact ⟨by rw [HT.out]; rfl, hB4⟩
  · have HT : Hid ((decide (otherFormRest x) && otherFormB x) = false) := by show _ = _; simp [hR]
    have hR' : Hid (¬ otherFormRest x) := hR
    clear hR
    refine wp_region_held_drew (S := fun w' => w'.cell? ⟨w.heap.size, 0, none⟩ = some (.int .i64 0) ∧ w'.cell? ⟨w.heap.size, 1, none⟩ = some (.string x.vName) ∧ w'.cell? ⟨w.heap.size, 2, none⟩ = some (.string x.vOther) ∧ w'.cell? ⟨w.heap.size, 3, none⟩ = some (.string x.vWord) ∧ w'.cell? ⟨w.heap.size, 4, none⟩ = some (.string x.vType) ∧ w'.cell? ⟨w.heap.size, 5, none⟩ = some (.bool x.vCapture) ∧ w'.cell? ⟨w.heap.size, 6, none⟩ = some (.bool x.vOnce) ∧ w'.cell? ⟨w.heap.size, 7, none⟩ = some (.int .i64 x.vStop) ∧ w'.cell? ⟨w.heap.size, 8, none⟩ = some (.string x.vLname)) (by kernel_rfl) ⟨bO2.out.cell 0 rfl, bO2.out.cell 1 rfl, bO2.out.cell 2 rfl, bO2.out.cell 3 rfl, bO2.out.cell 4 rfl, bO2.out.cell 5 rfl, bO2.out.cell 6 rfl, bO2.out.cell 7 rfl, bO2.out.cell 8 rfl⟩ (fun hHeld => ?_)
    refine take_lit (i := 0) (d := 14) (v := ?_) rfl rfl (by kernel_rfl) (by kernel_rfl) (by kernel_rfl) (fun _ _ _ h => h) (Or.inl ⟨by rfl, ?_⟩) (by assumption) ?_
    rotate_left
    · (intro w hSw; (try dsimp only at hSw); first | (go_simp; done) | (go_simp; with_reducible rfl))
    simp only [List.set_cons_zero, List.set_cons_succ]
    refine take_lit (i := 1) (d := 15) (v := ?_) rfl rfl (by kernel_rfl) (by kernel_rfl) (by kernel_rfl) (fun _ _ _ h => h) (Or.inl ⟨by rfl, ?_⟩) (by assumption) ?_
    rotate_left
    · (intro w hSw; (try dsimp only at hSw); first | (go_simp; done) | (go_simp; with_reducible rfl))
    simp only [List.set_cons_zero, List.set_cons_succ]
    refine take_lit (i := 3) (d := 17) (v := ?_) rfl rfl (by kernel_rfl) (by kernel_rfl) (by kernel_rfl) (fun _ _ _ h => h) (Or.inl ⟨by rfl, ?_⟩) (by assumption) ?_
    rotate_left
    · (intro w hSw; (try dsimp only at hSw); first | (go_simp; done) | (go_simp; with_reducible rfl))
    simp only [List.set_cons_zero, List.set_cons_succ]
    refine wpAnyH_ready (rs := [2]) (by kernel_rfl) (by simp) ?_
    refine AllReadyH.cons rfl (fun K hK => ?_) AllReadyH.nil
    go_simp
    refine otherForm_fieldsB.mono ?_
    rintro e w1 ⟨rfl, hb1⟩
    have hB3 : Below w.heap.size w w1 := hB2.drew.trans (hb1.mono (by exact hB2.size))
    refine hK.out _ _ ⟨cell_on hb1 hHeld.1, cell_on hb1 hHeld.2.1, cell_on hb1 hHeld.2.2.1, cell_on hb1 hHeld.2.2.2.1, cell_on hb1 hHeld.2.2.2.2.1, cell_on hb1 hHeld.2.2.2.2.2.1, cell_on hb1 hHeld.2.2.2.2.2.2.1, cell_on hb1 hHeld.2.2.2.2.2.2.2.1, cell_on hb1 hHeld.2.2.2.2.2.2.2.2⟩ (fun hHeld => ?_)
    clear hK K
    refine take_lit (i := 4) (d := 18) (v := .bool false) rfl rfl (by kernel_rfl) (by kernel_rfl) (by kernel_rfl) (fun _ _ _ h => h) (Or.inl ⟨by rfl, ?_⟩) (by assumption) ?_
    · (intro w' hSw; (try dsimp only at hSw); go_simp; clear hSw; refine Classical.byContradiction fun hcon => hR'.out ?_; unfold otherFormRest; clear hHeld hb1 hB3 hB2 bO2 HT hx'; simp_all)
    simp only [List.set_cons_zero, List.set_cons_succ]
    refine take_lit (i := 5) (d := 19) (v := ?_) rfl rfl (by kernel_rfl) (by kernel_rfl) (by kernel_rfl) (fun _ _ _ h => h) (Or.inl ⟨by rfl, ?_⟩) (by assumption) ?_
    rotate_left
    · (intro w hSw; (try dsimp only at hSw); first | (go_simp; done) | (go_simp; with_reducible rfl))
    simp only [List.set_cons_zero, List.set_cons_succ]
    refine take_lit (i := 6) (d := 20) (v := undef) rfl rfl (by kernel_rfl) (by kernel_rfl) (by kernel_rfl) (fun _ _ _ h => h) (Or.inr ⟨by rfl, rfl⟩) (by assumption) ?_
    simp only [List.set_cons_zero, List.set_cons_succ]
    refine take_lit (i := 7) (d := 21) (v := undef) rfl rfl (by kernel_rfl) (by kernel_rfl) (by kernel_rfl) (fun _ _ _ h => h) (Or.inr ⟨by rfl, rfl⟩) (by assumption) ?_
    simp only [List.set_cons_zero, List.set_cons_succ]
    refine take_lit (i := 8) (d := 22) (v := ?_) rfl rfl (by kernel_rfl) (by kernel_rfl) (by kernel_rfl) (fun _ _ _ h => h) (Or.inl ⟨by rfl, ?_⟩) (by assumption) ?_
    rotate_left
    · (intro w hSw; (try dsimp only at hSw); first | (go_simp; done) | (go_simp; with_reducible rfl))
    simp only [List.set_cons_zero, List.set_cons_succ]
    refine take_lit (i := 9) (d := 2) (v := ?_) rfl rfl (by kernel_rfl) (by kernel_rfl) (by kernel_rfl) (fun _ _ _ h => h) (Or.inl ⟨by rfl, ?_⟩) (by assumption) ?_
    rotate_left
    · (intro w hSw; (try dsimp only at hSw); first | (go_simp; done) | (go_simp; with_reducible rfl))
    simp only [List.set_cons_zero, List.set_cons_succ]
    refine take_lit (i := 10) (d := 3) (v := ?_) rfl rfl (by kernel_rfl) (by kernel_rfl) (by kernel_rfl) (fun _ _ _ h => h) (Or.inl ⟨by rfl, ?_⟩) (by assumption) ?_
    rotate_left
    · (intro w hSw; (try dsimp only at hSw); first | (go_simp; done) | (go_simp; with_reducible rfl))
    simp only [List.set_cons_zero, List.set_cons_succ]
    refine wpAnyH_done (by kernel_rfl) ?_ _
    go_wp2_with fail
    go_ret2
    exact ⟨by rw [HT.out]; rfl, hB3⟩
set_option maxHeartbeats 1600000 in
theorem rightAction8 {w : World} {x : OpD} (hx : x.fits) :
    Calls Try.prog 12 #[.agg #[.int .i64 8, .string x.vName, .string x.vOther, .string x.vWord, .string x.vType, .bool x.vCapture, .bool x.vOnce, .int .i64 x.vStop, .string x.vLname]] w fun e w' => e = .returned (.tuple #[.iface 63 (.agg #[.string x.vName, .string x.vOther]), .bool (decide (otherFormRest x) && otherFormB x)]) ∧ Below w.heap.size w w' := by
  have hx' : Hid x.fits := hx
  clear hx
  have hb0 : Below w.heap.size w (w.alloc (.cells #[.int .i64 8, .string x.vName, .string x.vOther, .string x.vWord, .string x.vType, .bool x.vCapture, .bool x.vOnce, .int .i64 x.vStop, .string x.vLname] 30)) := (Below.refl _ _).alloc (Nat.le_refl _) _
  have bO0 : Hid (Box (w.alloc (.cells #[.int .i64 8, .string x.vName, .string x.vOther, .string x.vWord, .string x.vType, .bool x.vCapture, .bool x.vOnce, .int .i64 x.vStop, .string x.vLname] 30)) w.heap.size [.int .i64 8, .string x.vName, .string x.vOther, .string x.vWord, .string x.vType, .bool x.vCapture, .bool x.vOnce, .int .i64 x.vStop, .string x.vLname] 30) := Box.new w [.int .i64 8, .string x.vName, .string x.vOther, .string x.vWord, .string x.vType, .bool x.vCapture, .bool x.vOnce, .int .i64 x.vStop, .string x.vLname] 30
  go_enter Try.func12, Try.ntmps12
  go_wp2_with fail
  refine actionOfB8.mono ?_
  rintro e w1 ⟨rfl, hb1⟩
  have bO1 := bO0.out.below hb1 (by simp)
  have hB1 : Below w.heap.size w w1 := hb0.trans (hb1.mono hb0.size)
  have c0 := bO1.cell 0 rfl
  have g0 := bO1.unfrozen 0
  have bO2 : Hid (Box (w1.setCell ⟨w.heap.size, 0, none⟩ (.int .i64 0)) w.heap.size [.int .i64 0, .string x.vName, .string x.vOther, .string x.vWord, .string x.vType, .bool x.vCapture, .bool x.vOnce, .int .i64 x.vStop, .string x.vLname] 30) := bO1.set (i := 0) (.int .i64 0)
  have hB2 : Below w.heap.size w (w1.setCell ⟨w.heap.size, 0, none⟩ (.int .i64 0)) := hB1.setCell (by simp) _
  clear bO1 bO0 hb0 hb1
  go_wp2_with fail
  generalize w1.setCell ⟨w.heap.size, 0, none⟩ (.int .i64 0) = w2 at *
  clear c0 g0 hB1 w1
  by_cases hR : otherFormRest x
  · have HT : Hid ((decide (otherFormRest x) && otherFormB x) = otherFormB x) := by show _ = _; simp [hR]
    obtain ⟨z0, z1, z2, z3, z4, z5⟩ := hR
    refine wp_region_held_drew (S := fun w' => w'.cell? ⟨w.heap.size, 0, none⟩ = some (.int .i64 0) ∧ w'.cell? ⟨w.heap.size, 1, none⟩ = some (.string x.vName) ∧ w'.cell? ⟨w.heap.size, 2, none⟩ = some (.string x.vOther) ∧ w'.cell? ⟨w.heap.size, 3, none⟩ = some (.string x.vWord) ∧ w'.cell? ⟨w.heap.size, 4, none⟩ = some (.string x.vType) ∧ w'.cell? ⟨w.heap.size, 5, none⟩ = some (.bool x.vCapture) ∧ w'.cell? ⟨w.heap.size, 6, none⟩ = some (.bool x.vOnce) ∧ w'.cell? ⟨w.heap.size, 7, none⟩ = some (.int .i64 x.vStop) ∧ w'.cell? ⟨w.heap.size, 8, none⟩ = some (.string x.vLname)) (by kernel_rfl) ⟨bO2.out.cell 0 rfl, bO2.out.cell 1 rfl, bO2.out.cell 2 rfl, bO2.out.cell 3 rfl, bO2.out.cell 4 rfl, bO2.out.cell 5 rfl, bO2.out.cell 6 rfl, bO2.out.cell 7 rfl, bO2.out.cell 8 rfl⟩ (fun hHeld => ?_)
    refine take_lit (i := 0) (d := 14) (v := ?_) rfl rfl (by kernel_rfl) (by kernel_rfl) (by kernel_rfl) (fun _ _ _ h => h) (Or.inl ⟨by rfl, ?_⟩) (by assumption) ?_
    rotate_left
    · (intro w hSw; (try dsimp only at hSw); first | (go_simp; done) | (go_simp; with_reducible rfl))
    simp only [List.set_cons_zero, List.set_cons_succ]
    refine take_lit (i := 1) (d := 15) (v := ?_) rfl rfl (by kernel_rfl) (by kernel_rfl) (by kernel_rfl) (fun _ _ _ h => h) (Or.inl ⟨by rfl, ?_⟩) (by assumption) ?_
    rotate_left
    · (intro w hSw; (try dsimp only at hSw); first | (go_simp; done) | (go_simp; with_reducible rfl))
    simp only [List.set_cons_zero, List.set_cons_succ]
    refine take_lit (i := 3) (d := 17) (v := ?_) rfl rfl (by kernel_rfl) (by kernel_rfl) (by kernel_rfl) (fun _ _ _ h => h) (Or.inl ⟨by rfl, ?_⟩) (by assumption) ?_
    rotate_left
    · (intro w hSw; (try dsimp only at hSw); first | (go_simp; done) | (go_simp; with_reducible rfl))
    simp only [List.set_cons_zero, List.set_cons_succ]
    refine wpAnyH_ready (rs := [2]) (by kernel_rfl) (by simp) ?_
    refine AllReadyH.cons rfl (fun K hK => ?_) AllReadyH.nil
    go_simp
    refine otherForm_fieldsB.mono ?_
    rintro e w1 ⟨rfl, hb1⟩
    have hB3 : Below w.heap.size w w1 := hB2.drew.trans (hb1.mono (by exact hB2.size))
    refine hK.out _ _ ⟨cell_on hb1 hHeld.1, cell_on hb1 hHeld.2.1, cell_on hb1 hHeld.2.2.1, cell_on hb1 hHeld.2.2.2.1, cell_on hb1 hHeld.2.2.2.2.1, cell_on hb1 hHeld.2.2.2.2.2.1, cell_on hb1 hHeld.2.2.2.2.2.2.1, cell_on hb1 hHeld.2.2.2.2.2.2.2.1, cell_on hb1 hHeld.2.2.2.2.2.2.2.2⟩ (fun hHeld => ?_)
    clear hK K
    refine take_lit (i := 4) (d := 18) (v := .bool true) rfl rfl (by kernel_rfl) (by kernel_rfl) (by kernel_rfl) (fun _ _ _ h => h) (Or.inl ⟨by rfl, ?_⟩) (by assumption) ?_
    · (intro w' hSw; (try dsimp only at hSw); go_simp)
    simp only [List.set_cons_zero, List.set_cons_succ]
    refine take_lit (i := 5) (d := 19) (v := ?_) rfl rfl (by kernel_rfl) (by kernel_rfl) (by kernel_rfl) (fun _ _ _ h => h) (Or.inl ⟨by rfl, ?_⟩) (by assumption) ?_
    rotate_left
    · (intro w hSw; (try dsimp only at hSw); first | (go_simp; done) | (go_simp; with_reducible rfl))
    simp only [List.set_cons_zero, List.set_cons_succ]
    refine take_lit (i := 6) (d := 20) (v := ?_) rfl rfl (by kernel_rfl) (by kernel_rfl) (by kernel_rfl) (fun _ _ _ h => h) (Or.inl ⟨by rfl, ?_⟩) (by assumption) ?_
    rotate_left
    · (intro w hSw; (try dsimp only at hSw); first | (go_simp; done) | (go_simp; with_reducible rfl))
    simp only [List.set_cons_zero, List.set_cons_succ]
    refine wpAnyH_ready (rs := [7]) (by kernel_rfl) (by simp) ?_
    refine AllReadyH.cons rfl (fun K hK => ?_) AllReadyH.nil
    go_simp
    refine (otherForm_right hx'.out).mono ?_
    rintro e w1 ⟨rfl, hb1⟩
    have hB4 : Below w.heap.size w w1 := hB3.trans (hb1.mono hB3.size)
    refine hK.out _ _ ⟨cell_on hb1 hHeld.1, cell_on hb1 hHeld.2.1, cell_on hb1 hHeld.2.2.1, cell_on hb1 hHeld.2.2.2.1, cell_on hb1 hHeld.2.2.2.2.1, cell_on hb1 hHeld.2.2.2.2.2.1, cell_on hb1 hHeld.2.2.2.2.2.2.1, cell_on hb1 hHeld.2.2.2.2.2.2.2.1, cell_on hb1 hHeld.2.2.2.2.2.2.2.2⟩ (fun hHeld => ?_)
    clear hK K
    refine take_lit (i := 8) (d := 22) (v := ?_) rfl rfl (by kernel_rfl) (by kernel_rfl) (by kernel_rfl) (fun _ _ _ h => h) (Or.inl ⟨by rfl, ?_⟩) (by assumption) ?_
    rotate_left
    · (intro w hSw; (try dsimp only at hSw); first | (go_simp; done) | (go_simp; with_reducible rfl))
    simp only [List.set_cons_zero, List.set_cons_succ]
    refine take_lit (i := 9) (d := 2) (v := ?_) rfl rfl (by kernel_rfl) (by kernel_rfl) (by kernel_rfl) (fun _ _ _ h => h) (Or.inl ⟨by rfl, ?_⟩) (by assumption) ?_
    rotate_left
    · (intro w hSw; (try dsimp only at hSw); first | (go_simp; done) | (go_simp; with_reducible rfl))
    simp only [List.set_cons_zero, List.set_cons_succ]
    refine take_lit (i := 10) (d := 3) (v := ?_) rfl rfl (by kernel_rfl) (by kernel_rfl) (by kernel_rfl) (fun _ _ _ h => h) (Or.inl ⟨by rfl, ?_⟩) (by assumption) ?_
    rotate_left
    · (intro w hSw; (try dsimp only at hSw); first | (go_simp; done) | (go_simp; with_reducible rfl))
    simp only [List.set_cons_zero, List.set_cons_succ]
    refine wpAnyH_done (by kernel_rfl) ?_ _
    go_wp2_with fail
    go_ret2
    exact ⟨by rw [HT.out]; rfl, hB4⟩
  · have HT : Hid ((decide (otherFormRest x) && otherFormB x) = false) := by show _ = _; simp [hR]
    have hR' : Hid (¬ otherFormRest x) := hR
    clear hR
    refine wp_region_held_drew (S := fun w' => w'.cell? ⟨w.heap.size, 0, none⟩ = some (.int .i64 0) ∧ w'.cell? ⟨w.heap.size, 1, none⟩ = some (.string x.vName) ∧ w'.cell? ⟨w.heap.size, 2, none⟩ = some (.string x.vOther) ∧ w'.cell? ⟨w.heap.size, 3, none⟩ = some (.string x.vWord) ∧ w'.cell? ⟨w.heap.size, 4, none⟩ = some (.string x.vType) ∧ w'.cell? ⟨w.heap.size, 5, none⟩ = some (.bool x.vCapture) ∧ w'.cell? ⟨w.heap.size, 6, none⟩ = some (.bool x.vOnce) ∧ w'.cell? ⟨w.heap.size, 7, none⟩ = some (.int .i64 x.vStop) ∧ w'.cell? ⟨w.heap.size, 8, none⟩ = some (.string x.vLname)) (by kernel_rfl) ⟨bO2.out.cell 0 rfl, bO2.out.cell 1 rfl, bO2.out.cell 2 rfl, bO2.out.cell 3 rfl, bO2.out.cell 4 rfl, bO2.out.cell 5 rfl, bO2.out.cell 6 rfl, bO2.out.cell 7 rfl, bO2.out.cell 8 rfl⟩ (fun hHeld => ?_)
    refine take_lit (i := 0) (d := 14) (v := ?_) rfl rfl (by kernel_rfl) (by kernel_rfl) (by kernel_rfl) (fun _ _ _ h => h) (Or.inl ⟨by rfl, ?_⟩) (by assumption) ?_
    rotate_left
    · (intro w hSw; (try dsimp only at hSw); first | (go_simp; done) | (go_simp; with_reducible rfl))
    simp only [List.set_cons_zero, List.set_cons_succ]
    refine take_lit (i := 1) (d := 15) (v := ?_) rfl rfl (by kernel_rfl) (by kernel_rfl) (by kernel_rfl) (fun _ _ _ h => h) (Or.inl ⟨by rfl, ?_⟩) (by assumption) ?_
    rotate_left
    · (intro w hSw; (try dsimp only at hSw); first | (go_simp; done) | (go_simp; with_reducible rfl))
    simp only [List.set_cons_zero, List.set_cons_succ]
    refine take_lit (i := 3) (d := 17) (v := ?_) rfl rfl (by kernel_rfl) (by kernel_rfl) (by kernel_rfl) (fun _ _ _ h => h) (Or.inl ⟨by rfl, ?_⟩) (by assumption) ?_
    rotate_left
    · (intro w hSw; (try dsimp only at hSw); first | (go_simp; done) | (go_simp; with_reducible rfl))
    simp only [List.set_cons_zero, List.set_cons_succ]
    refine wpAnyH_ready (rs := [2]) (by kernel_rfl) (by simp) ?_
    refine AllReadyH.cons rfl (fun K hK => ?_) AllReadyH.nil
    go_simp
    refine otherForm_fieldsB.mono ?_
    rintro e w1 ⟨rfl, hb1⟩
    have hB3 : Below w.heap.size w w1 := hB2.drew.trans (hb1.mono (by exact hB2.size))
    refine hK.out _ _ ⟨cell_on hb1 hHeld.1, cell_on hb1 hHeld.2.1, cell_on hb1 hHeld.2.2.1, cell_on hb1 hHeld.2.2.2.1, cell_on hb1 hHeld.2.2.2.2.1, cell_on hb1 hHeld.2.2.2.2.2.1, cell_on hb1 hHeld.2.2.2.2.2.2.1, cell_on hb1 hHeld.2.2.2.2.2.2.2.1, cell_on hb1 hHeld.2.2.2.2.2.2.2.2⟩ (fun hHeld => ?_)
    clear hK K
    refine take_lit (i := 4) (d := 18) (v := .bool false) rfl rfl (by kernel_rfl) (by kernel_rfl) (by kernel_rfl) (fun _ _ _ h => h) (Or.inl ⟨by rfl, ?_⟩) (by assumption) ?_
    · (intro w' hSw; (try dsimp only at hSw); go_simp; clear hSw; refine Classical.byContradiction fun hcon => hR'.out ?_; unfold otherFormRest; clear hHeld hb1 hB3 hB2 bO2 HT hx'; simp_all)
    simp only [List.set_cons_zero, List.set_cons_succ]
    refine take_lit (i := 5) (d := 19) (v := ?_) rfl rfl (by kernel_rfl) (by kernel_rfl) (by kernel_rfl) (fun _ _ _ h => h) (Or.inl ⟨by rfl, ?_⟩) (by assumption) ?_
    rotate_left
    · (intro w hSw; (try dsimp only at hSw); first | (go_simp; done) | (go_simp; with_reducible rfl))
    simp only [List.set_cons_zero, List.set_cons_succ]
    refine take_lit (i := 6) (d := 20) (v := undef) rfl rfl (by kernel_rfl) (by kernel_rfl) (by kernel_rfl) (fun _ _ _ h => h) (Or.inr ⟨by rfl, rfl⟩) (by assumption) ?_
    simp only [List.set_cons_zero, List.set_cons_succ]
    refine take_lit (i := 7) (d := 21) (v := undef) rfl rfl (by kernel_rfl) (by kernel_rfl) (by kernel_rfl) (fun _ _ _ h => h) (Or.inr ⟨by rfl, rfl⟩) (by assumption) ?_
    simp only [List.set_cons_zero, List.set_cons_succ]
    refine take_lit (i := 8) (d := 22) (v := ?_) rfl rfl (by kernel_rfl) (by kernel_rfl) (by kernel_rfl) (fun _ _ _ h => h) (Or.inl ⟨by rfl, ?_⟩) (by assumption) ?_
    rotate_left
    · (intro w hSw; (try dsimp only at hSw); first | (go_simp; done) | (go_simp; with_reducible rfl))
    simp only [List.set_cons_zero, List.set_cons_succ]
    refine take_lit (i := 9) (d := 2) (v := ?_) rfl rfl (by kernel_rfl) (by kernel_rfl) (by kernel_rfl) (fun _ _ _ h => h) (Or.inl ⟨by rfl, ?_⟩) (by assumption) ?_
    rotate_left
    · (intro w hSw; (try dsimp only at hSw); first | (go_simp; done) | (go_simp; with_reducible rfl))
    simp only [List.set_cons_zero, List.set_cons_succ]
    refine take_lit (i := 10) (d := 3) (v := ?_) rfl rfl (by kernel_rfl) (by kernel_rfl) (by kernel_rfl) (fun _ _ _ h => h) (Or.inl ⟨by rfl, ?_⟩) (by assumption) ?_
    rotate_left
    · (intro w hSw; (try dsimp only at hSw); first | (go_simp; done) | (go_simp; with_reducible rfl))
    simp only [List.set_cons_zero, List.set_cons_succ]
    refine wpAnyH_done (by kernel_rfl) ?_ _
    go_wp2_with fail
    go_ret2
    exact ⟨by rw [HT.out]; rfl, hB3⟩
set_option maxHeartbeats 1600000 in
theorem rightAction9 {w : World} {x : OpD} (hx : x.fits) :
    Calls Try.prog 12 #[.agg #[.int .i64 9, .string x.vName, .string x.vOther, .string x.vWord, .string x.vType, .bool x.vCapture, .bool x.vOnce, .int .i64 x.vStop, .string x.vLname]] w fun e w' => e = .returned (.tuple #[.iface 64 (.agg #[.string x.vName]), .bool (decide (nameFormRest x) && nameFormB x)]) ∧ Below w.heap.size w w' := by
  have hx' : Hid x.fits := hx
  clear hx
  have hb0 : Below w.heap.size w (w.alloc (.cells #[.int .i64 9, .string x.vName, .string x.vOther, .string x.vWord, .string x.vType, .bool x.vCapture, .bool x.vOnce, .int .i64 x.vStop, .string x.vLname] 30)) := (Below.refl _ _).alloc (Nat.le_refl _) _
  have bO0 : Hid (Box (w.alloc (.cells #[.int .i64 9, .string x.vName, .string x.vOther, .string x.vWord, .string x.vType, .bool x.vCapture, .bool x.vOnce, .int .i64 x.vStop, .string x.vLname] 30)) w.heap.size [.int .i64 9, .string x.vName, .string x.vOther, .string x.vWord, .string x.vType, .bool x.vCapture, .bool x.vOnce, .int .i64 x.vStop, .string x.vLname] 30) := Box.new w [.int .i64 9, .string x.vName, .string x.vOther, .string x.vWord, .string x.vType, .bool x.vCapture, .bool x.vOnce, .int .i64 x.vStop, .string x.vLname] 30
  go_enter Try.func12, Try.ntmps12
  go_wp2_with fail
  refine actionOfB9.mono ?_
  rintro e w1 ⟨rfl, hb1⟩
  have bO1 := bO0.out.below hb1 (by simp)
  have hB1 : Below w.heap.size w w1 := hb0.trans (hb1.mono hb0.size)
  have c0 := bO1.cell 0 rfl
  have g0 := bO1.unfrozen 0
  have bO2 : Hid (Box (w1.setCell ⟨w.heap.size, 0, none⟩ (.int .i64 0)) w.heap.size [.int .i64 0, .string x.vName, .string x.vOther, .string x.vWord, .string x.vType, .bool x.vCapture, .bool x.vOnce, .int .i64 x.vStop, .string x.vLname] 30) := bO1.set (i := 0) (.int .i64 0)
  have hB2 : Below w.heap.size w (w1.setCell ⟨w.heap.size, 0, none⟩ (.int .i64 0)) := hB1.setCell (by simp) _
  clear bO1 bO0 hb0 hb1
  go_wp2_with fail
  generalize w1.setCell ⟨w.heap.size, 0, none⟩ (.int .i64 0) = w2 at *
  clear c0 g0 hB1 w1
  by_cases hR : nameFormRest x
  · have HT : Hid ((decide (nameFormRest x) && nameFormB x) = nameFormB x) := by show _ = _; simp [hR]
    obtain ⟨z0, z1, z2, z3, z4, z5, z6⟩ := hR
    refine wp_region_held_drew (S := fun w' => w'.cell? ⟨w.heap.size, 0, none⟩ = some (.int .i64 0) ∧ w'.cell? ⟨w.heap.size, 1, none⟩ = some (.string x.vName) ∧ w'.cell? ⟨w.heap.size, 2, none⟩ = some (.string x.vOther) ∧ w'.cell? ⟨w.heap.size, 3, none⟩ = some (.string x.vWord) ∧ w'.cell? ⟨w.heap.size, 4, none⟩ = some (.string x.vType) ∧ w'.cell? ⟨w.heap.size, 5, none⟩ = some (.bool x.vCapture) ∧ w'.cell? ⟨w.heap.size, 6, none⟩ = some (.bool x.vOnce) ∧ w'.cell? ⟨w.heap.size, 7, none⟩ = some (.int .i64 x.vStop) ∧ w'.cell? ⟨w.heap.size, 8, none⟩ = some (.string x.vLname)) (by kernel_rfl) ⟨bO2.out.cell 0 rfl, bO2.out.cell 1 rfl, bO2.out.cell 2 rfl, bO2.out.cell 3 rfl, bO2.out.cell 4 rfl, bO2.out.cell 5 rfl, bO2.out.cell 6 rfl, bO2.out.cell 7 rfl, bO2.out.cell 8 rfl⟩ (fun hHeld => ?_)
    refine take_lit (i := 0) (d := 14) (v := ?_) rfl rfl (by kernel_rfl) (by kernel_rfl) (by kernel_rfl) (fun _ _ _ h => h) (Or.inl ⟨by rfl, ?_⟩) (by assumption) ?_
    rotate_left
    · (intro w hSw; (try dsimp only at hSw); first | (go_simp; done) | (go_simp; with_reducible rfl))
    simp only [List.set_cons_zero, List.set_cons_succ]
    refine take_lit (i := 1) (d := 15) (v := ?_) rfl rfl (by kernel_rfl) (by kernel_rfl) (by kernel_rfl) (fun _ _ _ h => h) (Or.inl ⟨by rfl, ?_⟩) (by assumption) ?_
    rotate_left
    · (intro w hSw; (try dsimp only at hSw); first | (go_simp; done) | (go_simp; with_reducible rfl))
    simp only [List.set_cons_zero, List.set_cons_succ]
    refine take_lit (i := 3) (d := 17) (v := ?_) rfl rfl (by kernel_rfl) (by kernel_rfl) (by kernel_rfl) (fun _ _ _ h => h) (Or.inl ⟨by rfl, ?_⟩) (by assumption) ?_
    rotate_left
    · (intro w hSw; (try dsimp only at hSw); first | (go_simp; done) | (go_simp; with_reducible rfl))
    simp only [List.set_cons_zero, List.set_cons_succ]
    refine wpAnyH_ready (rs := [2]) (by kernel_rfl) (by simp) ?_
    refine AllReadyH.cons rfl (fun K hK => ?_) AllReadyH.nil
    go_simp
    refine nameForm_fieldsB.mono ?_
    rintro e w1 ⟨rfl, hb1⟩
    have hB3 : Below w.heap.size w w1 := hB2.drew.trans (hb1.mono (by exact hB2.size))
    refine hK.out _ _ ⟨cell_on hb1 hHeld.1, cell_on hb1 hHeld.2.1, cell_on hb1 hHeld.2.2.1, cell_on hb1 hHeld.2.2.2.1, cell_on hb1 hHeld.2.2.2.2.1, cell_on hb1 hHeld.2.2.2.2.2.1, cell_on hb1 hHeld.2.2.2.2.2.2.1, cell_on hb1 hHeld.2.2.2.2.2.2.2.1, cell_on hb1 hHeld.2.2.2.2.2.2.2.2⟩ (fun hHeld => ?_)
    clear hK K
    refine take_lit (i := 4) (d := 18) (v := .bool true) rfl rfl (by kernel_rfl) (by kernel_rfl) (by kernel_rfl) (fun _ _ _ h => h) (Or.inl ⟨by rfl, ?_⟩) (by assumption) ?_
    · (intro w' hSw; (try dsimp only at hSw); go_simp)
    simp only [List.set_cons_zero, List.set_cons_succ]
    refine take_lit (i := 5) (d := 19) (v := ?_) rfl rfl (by kernel_rfl) (by kernel_rfl) (by kernel_rfl) (fun _ _ _ h => h) (Or.inl ⟨by rfl, ?_⟩) (by assumption) ?_
    rotate_left
    · (intro w hSw; (try dsimp only at hSw); first | (go_simp; done) | (go_simp; with_reducible rfl))
    simp only [List.set_cons_zero, List.set_cons_succ]
    refine take_lit (i := 6) (d := 20) (v := ?_) rfl rfl (by kernel_rfl) (by kernel_rfl) (by kernel_rfl) (fun _ _ _ h => h) (Or.inl ⟨by rfl, ?_⟩) (by assumption) ?_
    rotate_left
    · (intro w hSw; (try dsimp only at hSw); first | (go_simp; done) | (go_simp; with_reducible rfl))
    simp only [List.set_cons_zero, List.set_cons_succ]
    refine wpAnyH_ready (rs := [7]) (by kernel_rfl) (by simp) ?_
    refine AllReadyH.cons rfl (fun K hK => ?_) AllReadyH.nil
    go_simp
    refine (nameForm_right hx'.out).mono ?_
    rintro e w1 ⟨rfl, hb1⟩
    have hB4 : Below w.heap.size w w1 := hB3.trans (hb1.mono hB3.size)
    refine hK.out _ _ ⟨cell_on hb1 hHeld.1, cell_on hb1 hHeld.2.1, cell_on hb1 hHeld.2.2.1, cell_on hb1 hHeld.2.2.2.1, cell_on hb1 hHeld.2.2.2.2.1, cell_on hb1 hHeld.2.2.2.2.2.1, cell_on hb1 hHeld.2.2.2.2.2.2.1, cell_on hb1 hHeld.2.2.2.2.2.2.2.1, cell_on hb1 hHeld.2.2.2.2.2.2.2.2⟩ (fun hHeld => ?_)
    clear hK K
    refine take_lit (i := 8) (d := 22) (v := ?_) rfl rfl (by kernel_rfl) (by kernel_rfl) (by kernel_rfl) (fun _ _ _ h => h) (Or.inl ⟨by rfl, ?_⟩) (by assumption) ?_
    rotate_left
    · (intro w hSw; (try dsimp only at hSw); first | (go_simp; done) | (go_simp; with_reducible rfl))
    simp only [List.set_cons_zero, List.set_cons_succ]
    refine take_lit (i := 9) (d := 2) (v := ?_) rfl rfl (by kernel_rfl) (by kernel_rfl) (by kernel_rfl) (fun _ _ _ h => h) (Or.inl ⟨by rfl, ?_⟩) (by assumption) ?_
    rotate_left
    · (intro w hSw; (try dsimp only at hSw); first | (go_simp; done) | (go_simp; with_reducible rfl))
    simp only [List.set_cons_zero, List.set_cons_succ]
    refine take_lit (i := 10) (d := 3) (v := ?_) rfl rfl (by kernel_rfl) (by kernel_rfl) (by kernel_rfl) (fun _ _ _ h => h) (Or.inl ⟨by rfl, ?_⟩) (by assumption) ?_
    rotate_left
    · (intro w hSw; (try dsimp only at hSw); first | (go_simp; done) | (go_simp; with_reducible rfl))
    simp only [List.set_cons_zero, List.set_cons_succ]
    refine wpAnyH_done (by kernel_rfl) ?_ _
    go_wp2_with fail
    go_ret2
    exact ⟨by rw [HT.out]; rfl, hB4⟩
  · have HT : Hid ((decide (nameFormRest x) && nameFormB x) = false) := by show _ = _; simp [hR]
    have hR' : Hid (¬ nameFormRest x) := hR
    clear hR
    refine wp_region_held_drew (S := fun w' => w'.cell? ⟨w.heap.size, 0, none⟩ = some (.int .i64 0) ∧ w'.cell? ⟨w.heap.size, 1, none⟩ = some (.string x.vName) ∧ w'.cell? ⟨w.heap.size, 2, none⟩ = some (.string x.vOther) ∧ w'.cell? ⟨w.heap.size, 3, none⟩ = some (.string x.vWord) ∧ w'.cell? ⟨w.heap.size, 4, none⟩ = some (.string x.vType) ∧ w'.cell? ⟨w.heap.size, 5, none⟩ = some (.bool x.vCapture) ∧ w'.cell? ⟨w.heap.size, 6, none⟩ = some (.bool x.vOnce) ∧ w'.cell? ⟨w.heap.size, 7, none⟩ = some (.int .i64 x.vStop) ∧ w'.cell? ⟨w.heap.size, 8, none⟩ = some (.string x.vLname)) (by kernel_rfl) ⟨bO2.out.cell 0 rfl, bO2.out.cell 1 rfl, bO2.out.cell 2 rfl, bO2.out.cell 3 rfl, bO2.out.cell 4 rfl, bO2.out.cell 5 rfl, bO2.out.cell 6 rfl, bO2.out.cell 7 rfl, bO2.out.cell 8 rfl⟩ (fun hHeld => ?_)
    refine take_lit (i := 0) (d := 14) (v := ?_) rfl rfl (by kernel_rfl) (by kernel_rfl) (by kernel_rfl) (fun _ _ _ h => h) (Or.inl ⟨by rfl, ?_⟩) (by assumption) ?_
    rotate_left
    · (intro w hSw; (try dsimp only at hSw); first | (go_simp; done) | (go_simp; with_reducible rfl))
    simp only [List.set_cons_zero, List.set_cons_succ]
    refine take_lit (i := 1) (d := 15) (v := ?_) rfl rfl (by kernel_rfl) (by kernel_rfl) (by kernel_rfl) (fun _ _ _ h => h) (Or.inl ⟨by rfl, ?_⟩) (by assumption) ?_
    rotate_left
    · (intro w hSw; (try dsimp only at hSw); first | (go_simp; done) | (go_simp; with_reducible rfl))
    simp only [List.set_cons_zero, List.set_cons_succ]
    refine take_lit (i := 3) (d := 17) (v := ?_) rfl rfl (by kernel_rfl) (by kernel_rfl) (by kernel_rfl) (fun _ _ _ h => h) (Or.inl ⟨by rfl, ?_⟩) (by assumption) ?_
    rotate_left
    · (intro w hSw; (try dsimp only at hSw); first | (go_simp; done) | (go_simp; with_reducible rfl))
    simp only [List.set_cons_zero, List.set_cons_succ]
    refine wpAnyH_ready (rs := [2]) (by kernel_rfl) (by simp) ?_
    refine AllReadyH.cons rfl (fun K hK => ?_) AllReadyH.nil
    go_simp
    refine nameForm_fieldsB.mono ?_
    rintro e w1 ⟨rfl, hb1⟩
    have hB3 : Below w.heap.size w w1 := hB2.drew.trans (hb1.mono (by exact hB2.size))
    refine hK.out _ _ ⟨cell_on hb1 hHeld.1, cell_on hb1 hHeld.2.1, cell_on hb1 hHeld.2.2.1, cell_on hb1 hHeld.2.2.2.1, cell_on hb1 hHeld.2.2.2.2.1, cell_on hb1 hHeld.2.2.2.2.2.1, cell_on hb1 hHeld.2.2.2.2.2.2.1, cell_on hb1 hHeld.2.2.2.2.2.2.2.1, cell_on hb1 hHeld.2.2.2.2.2.2.2.2⟩ (fun hHeld => ?_)
    clear hK K
    refine take_lit (i := 4) (d := 18) (v := .bool false) rfl rfl (by kernel_rfl) (by kernel_rfl) (by kernel_rfl) (fun _ _ _ h => h) (Or.inl ⟨by rfl, ?_⟩) (by assumption) ?_
    · (intro w' hSw; (try dsimp only at hSw); go_simp; clear hSw; refine Classical.byContradiction fun hcon => hR'.out ?_; unfold nameFormRest; clear hHeld hb1 hB3 hB2 bO2 HT hx'; simp_all)
    simp only [List.set_cons_zero, List.set_cons_succ]
    refine take_lit (i := 5) (d := 19) (v := ?_) rfl rfl (by kernel_rfl) (by kernel_rfl) (by kernel_rfl) (fun _ _ _ h => h) (Or.inl ⟨by rfl, ?_⟩) (by assumption) ?_
    rotate_left
    · (intro w hSw; (try dsimp only at hSw); first | (go_simp; done) | (go_simp; with_reducible rfl))
    simp only [List.set_cons_zero, List.set_cons_succ]
    refine take_lit (i := 6) (d := 20) (v := undef) rfl rfl (by kernel_rfl) (by kernel_rfl) (by kernel_rfl) (fun _ _ _ h => h) (Or.inr ⟨by rfl, rfl⟩) (by assumption) ?_
    simp only [List.set_cons_zero, List.set_cons_succ]
    refine take_lit (i := 7) (d := 21) (v := undef) rfl rfl (by kernel_rfl) (by kernel_rfl) (by kernel_rfl) (fun _ _ _ h => h) (Or.inr ⟨by rfl, rfl⟩) (by assumption) ?_
    simp only [List.set_cons_zero, List.set_cons_succ]
    refine take_lit (i := 8) (d := 22) (v := ?_) rfl rfl (by kernel_rfl) (by kernel_rfl) (by kernel_rfl) (fun _ _ _ h => h) (Or.inl ⟨by rfl, ?_⟩) (by assumption) ?_
    rotate_left
    · (intro w hSw; (try dsimp only at hSw); first | (go_simp; done) | (go_simp; with_reducible rfl))
    simp only [List.set_cons_zero, List.set_cons_succ]
    refine take_lit (i := 9) (d := 2) (v := ?_) rfl rfl (by kernel_rfl) (by kernel_rfl) (by kernel_rfl) (fun _ _ _ h => h) (Or.inl ⟨by rfl, ?_⟩) (by assumption) ?_
    rotate_left
    · (intro w hSw; (try dsimp only at hSw); first | (go_simp; done) | (go_simp; with_reducible rfl))
    simp only [List.set_cons_zero, List.set_cons_succ]
    refine take_lit (i := 10) (d := 3) (v := ?_) rfl rfl (by kernel_rfl) (by kernel_rfl) (by kernel_rfl) (fun _ _ _ h => h) (Or.inl ⟨by rfl, ?_⟩) (by assumption) ?_
    rotate_left
    · (intro w hSw; (try dsimp only at hSw); first | (go_simp; done) | (go_simp; with_reducible rfl))
    simp only [List.set_cons_zero, List.set_cons_succ]
    refine wpAnyH_done (by kernel_rfl) ?_ _
    go_wp2_with fail
    go_ret2
    exact ⟨by rw [HT.out]; rfl, hB3⟩
set_option maxHeartbeats 1600000 in
theorem rightAction10 {w : World} {x : OpD} (hx : x.fits) :
    Calls Try.prog 12 #[.agg #[.int .i64 10, .string x.vName, .string x.vOther, .string x.vWord, .string x.vType, .bool x.vCapture, .bool x.vOnce, .int .i64 x.vStop, .string x.vLname]] w fun e w' => e = .returned (.tuple #[.iface 65 (.agg #[.string x.vName]), .bool (decide (nameFormRest x) && nameFormB x)]) ∧ Below w.heap.size w w' := by
  have hx' : Hid x.fits := hx
  clear hx
  have hb0 : Below w.heap.size w (w.alloc (.cells #[.int .i64 10, .string x.vName, .string x.vOther, .string x.vWord, .string x.vType, .bool x.vCapture, .bool x.vOnce, .int .i64 x.vStop, .string x.vLname] 30)) := (Below.refl _ _).alloc (Nat.le_refl _) _
  have bO0 : Hid (Box (w.alloc (.cells #[.int .i64 10, .string x.vName, .string x.vOther, .string x.vWord, .string x.vType, .bool x.vCapture, .bool x.vOnce, .int .i64 x.vStop, .string x.vLname] 30)) w.heap.size [.int .i64 10, .string x.vName, .string x.vOther, .string x.vWord, .string x.vType, .bool x.vCapture, .bool x.vOnce, .int .i64 x.vStop, .string x.vLname] 30) := Box.new w [.int .i64 10, .string x.vName, .string x.vOther, .string x.vWord, .string x.vType, .bool x.vCapture, .bool x.vOnce, .int .i64 x.vStop, .string x.vLname] 30
  go_enter Try.func12, Try.ntmps12
  go_wp2_with fail
  refine actionOfB10.mono ?_
  rintro e w1 ⟨rfl, hb1⟩
  have bO1 := bO0.out.below hb1 (by simp)
  have hB1 : Below w.heap.size w w1 := hb0.trans (hb1.mono hb0.size)
  have c0 := bO1.cell 0 rfl
  have g0 := bO1.unfrozen 0
  have bO2 : Hid (Box (w1.setCell ⟨w.heap.size, 0, none⟩ (.int .i64 0)) w.heap.size [.int .i64 0, .string x.vName, .string x.vOther, .string x.vWord, .string x.vType, .bool x.vCapture, .bool x.vOnce, .int .i64 x.vStop, .string x.vLname] 30) := bO1.set (i := 0) (.int .i64 0)
  have hB2 : Below w.heap.size w (w1.setCell ⟨w.heap.size, 0, none⟩ (.int .i64 0)) := hB1.setCell (by simp) _
  clear bO1 bO0 hb0 hb1
  go_wp2_with fail
  generalize w1.setCell ⟨w.heap.size, 0, none⟩ (.int .i64 0) = w2 at *
  clear c0 g0 hB1 w1
  by_cases hR : nameFormRest x
  · have HT : Hid ((decide (nameFormRest x) && nameFormB x) = nameFormB x) := by show _ = _; simp [hR]
    obtain ⟨z0, z1, z2, z3, z4, z5, z6⟩ := hR
    refine wp_region_held_drew (S := fun w' => w'.cell? ⟨w.heap.size, 0, none⟩ = some (.int .i64 0) ∧ w'.cell? ⟨w.heap.size, 1, none⟩ = some (.string x.vName) ∧ w'.cell? ⟨w.heap.size, 2, none⟩ = some (.string x.vOther) ∧ w'.cell? ⟨w.heap.size, 3, none⟩ = some (.string x.vWord) ∧ w'.cell? ⟨w.heap.size, 4, none⟩ = some (.string x.vType) ∧ w'.cell? ⟨w.heap.size, 5, none⟩ = some (.bool x.vCapture) ∧ w'.cell? ⟨w.heap.size, 6, none⟩ = some (.bool x.vOnce) ∧ w'.cell? ⟨w.heap.size, 7, none⟩ = some (.int .i64 x.vStop) ∧ w'.cell? ⟨w.heap.size, 8, none⟩ = some (.string x.vLname)) (by kernel_rfl) ⟨bO2.out.cell 0 rfl, bO2.out.cell 1 rfl, bO2.out.cell 2 rfl, bO2.out.cell 3 rfl, bO2.out.cell 4 rfl, bO2.out.cell 5 rfl, bO2.out.cell 6 rfl, bO2.out.cell 7 rfl, bO2.out.cell 8 rfl⟩ (fun hHeld => ?_)
    refine take_lit (i := 0) (d := 14) (v := ?_) rfl rfl (by kernel_rfl) (by kernel_rfl) (by kernel_rfl) (fun _ _ _ h => h) (Or.inl ⟨by rfl, ?_⟩) (by assumption) ?_
    rotate_left
    · (intro w hSw; (try dsimp only at hSw); first | (go_simp; done) | (go_simp; with_reducible rfl))
    simp only [List.set_cons_zero, List.set_cons_succ]
    refine take_lit (i := 1) (d := 15) (v := ?_) rfl rfl (by kernel_rfl) (by kernel_rfl) (by kernel_rfl) (fun _ _ _ h => h) (Or.inl ⟨by rfl, ?_⟩) (by assumption) ?_
    rotate_left
    · (intro w hSw; (try dsimp only at hSw); first | (go_simp; done) | (go_simp; with_reducible rfl))
    simp only [List.set_cons_zero, List.set_cons_succ]
    refine take_lit (i := 3) (d := 17) (v := ?_) rfl rfl (by kernel_rfl) (by kernel_rfl) (by kernel_rfl) (fun _ _ _ h => h) (Or.inl ⟨by rfl, ?_⟩) (by assumption) ?_
    rotate_left
    · (intro w hSw; (try dsimp only at hSw); first | (go_simp; done) | (go_simp; with_reducible rfl))
    simp only [List.set_cons_zero, List.set_cons_succ]
    refine wpAnyH_ready (rs := [2]) (by kernel_rfl) (by simp) ?_
    refine AllReadyH.cons rfl (fun K hK => ?_) AllReadyH.nil
    go_simp
    refine nameForm_fieldsB.mono ?_
    rintro e w1 ⟨rfl, hb1⟩
    have hB3 : Below w.heap.size w w1 := hB2.drew.trans (hb1.mono (by exact hB2.size))
    refine hK.out _ _ ⟨cell_on hb1 hHeld.1, cell_on hb1 hHeld.2.1, cell_on hb1 hHeld.2.2.1, cell_on hb1 hHeld.2.2.2.1, cell_on hb1 hHeld.2.2.2.2.1, cell_on hb1 hHeld.2.2.2.2.2.1, cell_on hb1 hHeld.2.2.2.2.2.2.1, cell_on hb1 hHeld.2.2.2.2.2.2.2.1, cell_on hb1 hHeld.2.2.2.2.2.2.2.2⟩ (fun hHeld => ?_)
    clear hK K
    refine take_lit (i := 4) (d := 18) (v := .bool true) rfl rfl (by kernel_rfl) (by kernel_rfl) (by kernel_rfl) (fun _ _ _ h => h) (Or.inl ⟨by rfl, ?_⟩) (by assumption) ?_
    · (intro w' hSw; (try dsimp only at hSw); go_simp)
    simp only [List.set_cons_zero, List.set_cons_succ]
    refine take_lit (i := 5) (d := 19) (v := ?_) rfl rfl (by kernel_rfl) (by kernel_rfl) (by kernel_rfl) (fun _ _ _ h => h) (Or.inl ⟨by rfl, ?_⟩) (by assumption) ?_
    rotate_left
    · (intro w hSw; (try dsimp only at hSw); first | (go_simp; done) | (go_simp; with_reducible rfl))
    simp only [List.set_cons_zero, List.set_cons_succ]
    refine take_lit (i := 6) (d := 20) (v := ?_) rfl rfl (by kernel_rfl) (by kernel_rfl) (by kernel_rfl) (fun _ _ _ h => h) (Or.inl ⟨by rfl, ?_⟩) (by assumption) ?_
    rotate_left
    · (intro w hSw; (try dsimp only at hSw); first | (go_simp; done) | (go_simp; with_reducible rfl))
    simp only [List.set_cons_zero, List.set_cons_succ]
    refine wpAnyH_ready (rs := [7]) (by kernel_rfl) (by simp) ?_
    refine AllReadyH.cons rfl (fun K hK => ?_) AllReadyH.nil
    go_simp
    refine (nameForm_right hx'.out).mono ?_
    rintro e w1 ⟨rfl, hb1⟩
    have hB4 : Below w.heap.size w w1 := hB3.trans (hb1.mono hB3.size)
    refine hK.out _ _ ⟨cell_on hb1 hHeld.1, cell_on hb1 hHeld.2.1, cell_on hb1 hHeld.2.2.1, cell_on hb1 hHeld.2.2.2.1, cell_on hb1 hHeld.2.2.2.2.1, cell_on hb1 hHeld.2.2.2.2.2.1, cell_on hb1 hHeld.2.2.2.2.2.2.1, cell_on hb1 hHeld.2.2.2.2.2.2.2.1, cell_on hb1 hHeld.2.2.2.2.2.2.2.2⟩ (fun hHeld => ?_)
    clear hK K
    refine take_lit (i := 8) (d := 22) (v := ?_) rfl rfl (by kernel_rfl) (by kernel_rfl) (by kernel_rfl) (fun _ _ _ h => h) (Or.inl ⟨by rfl, ?_⟩) (by assumption) ?_
    rotate_left
    · (intro w hSw; (try dsimp only at hSw); first | (go_simp; done) | (go_simp; with_reducible rfl))
    simp only [List.set_cons_zero, List.set_cons_succ]
    refine take_lit (i := 9) (d := 2) (v := ?_) rfl rfl (by kernel_rfl) (by kernel_rfl) (by kernel_rfl) (fun _ _ _ h => h) (Or.inl ⟨by rfl, ?_⟩) (by assumption) ?_
    rotate_left
    · (intro w hSw; (try dsimp only at hSw); first | (go_simp; done) | (go_simp; with_reducible rfl))
    simp only [List.set_cons_zero, List.set_cons_succ]
    refine take_lit (i := 10) (d := 3) (v := ?_) rfl rfl (by kernel_rfl) (by kernel_rfl) (by kernel_rfl) (fun _ _ _ h => h) (Or.inl ⟨by rfl, ?_⟩) (by assumption) ?_
    rotate_left
    · (intro w hSw; (try dsimp only at hSw); first | (go_simp; done) | (go_simp; with_reducible rfl))
    simp only [List.set_cons_zero, List.set_cons_succ]
    refine wpAnyH_done (by kernel_rfl) ?_ _
    go_wp2_with fail
    go_ret2
    exact ⟨by rw [HT.out]; rfl, hB4⟩
  · have HT : Hid ((decide (nameFormRest x) && nameFormB x) = false) := by show _ = _; simp [hR]
    have hR' : Hid (¬ nameFormRest x) := hR
    clear hR
    refine wp_region_held_drew (S := fun w' => w'.cell? ⟨w.heap.size, 0, none⟩ = some (.int .i64 0) ∧ w'.cell? ⟨w.heap.size, 1, none⟩ = some (.string x.vName) ∧ w'.cell? ⟨w.heap.size, 2, none⟩ = some (.string x.vOther) ∧ w'.cell? ⟨w.heap.size, 3, none⟩ = some (.string x.vWord) ∧ w'.cell? ⟨w.heap.size, 4, none⟩ = some (.string x.vType) ∧ w'.cell? ⟨w.heap.size, 5, none⟩ = some (.bool x.vCapture) ∧ w'.cell? ⟨w.heap.size, 6, none⟩ = some (.bool x.vOnce) ∧ w'.cell? ⟨w.heap.size, 7, none⟩ = some (.int .i64 x.vStop) ∧ w'.cell? ⟨w.heap.size, 8, none⟩ = some (.string x.vLname)) (by kernel_rfl) ⟨bO2.out.cell 0 rfl, bO2.out.cell 1 rfl, bO2.out.cell 2 rfl, bO2.out.cell 3 rfl, bO2.out.cell 4 rfl, bO2.out.cell 5 rfl, bO2.out.cell 6 rfl, bO2.out.cell 7 rfl, bO2.out.cell 8 rfl⟩ (fun hHeld => ?_)
    refine take_lit (i := 0) (d := 14) (v := ?_) rfl rfl (by kernel_rfl) (by kernel_rfl) (by kernel_rfl) (fun _ _ _ h => h) (Or.inl ⟨by rfl, ?_⟩) (by assumption) ?_
    rotate_left
    · (intro w hSw; (try dsimp only at hSw); first | (go_simp; done) | (go_simp; with_reducible rfl))
    simp only [List.set_cons_zero, List.set_cons_succ]
    refine take_lit (i := 1) (d := 15) (v := ?_) rfl rfl (by kernel_rfl) (by kernel_rfl) (by kernel_rfl) (fun _ _ _ h => h) (Or.inl ⟨by rfl, ?_⟩) (by assumption) ?_
    rotate_left
    · (intro w hSw; (try dsimp only at hSw); first | (go_simp; done) | (go_simp; with_reducible rfl))
    simp only [List.set_cons_zero, List.set_cons_succ]
    refine take_lit (i := 3) (d := 17) (v := ?_) rfl rfl (by kernel_rfl) (by kernel_rfl) (by kernel_rfl) (fun _ _ _ h => h) (Or.inl ⟨by rfl, ?_⟩) (by assumption) ?_
    rotate_left
    · (intro w hSw; (try dsimp only at hSw); first | (go_simp; done) | (go_simp; with_reducible rfl))
    simp only [List.set_cons_zero, List.set_cons_succ]
    refine wpAnyH_ready (rs := [2]) (by kernel_rfl) (by simp) ?_
    refine AllReadyH.cons rfl (fun K hK => ?_) AllReadyH.nil
    go_simp
    refine nameForm_fieldsB.mono ?_
    rintro e w1 ⟨rfl, hb1⟩
    have hB3 : Below w.heap.size w w1 := hB2.drew.trans (hb1.mono (by exact hB2.size))
    refine hK.out _ _ ⟨cell_on hb1 hHeld.1, cell_on hb1 hHeld.2.1, cell_on hb1 hHeld.2.2.1, cell_on hb1 hHeld.2.2.2.1, cell_on hb1 hHeld.2.2.2.2.1, cell_on hb1 hHeld.2.2.2.2.2.1, cell_on hb1 hHeld.2.2.2.2.2.2.1, cell_on hb1 hHeld.2.2.2.2.2.2.2.1, cell_on hb1 hHeld.2.2.2.2.2.2.2.2⟩ (fun hHeld => ?_)
    clear hK K
    refine take_lit (i := 4) (d := 18) (v := .bool false) rfl rfl (by kernel_rfl) (by kernel_rfl) (by kernel_rfl) (fun _ _ _ h => h) (Or.inl ⟨by rfl, ?_⟩) (by assumption) ?_
    · (intro w' hSw; (try dsimp only at hSw); go_simp; clear hSw; refine Classical.byContradiction fun hcon => hR'.out ?_; unfold nameFormRest; clear hHeld hb1 hB3 hB2 bO2 HT hx'; simp_all)
    simp only [List.set_cons_zero, List.set_cons_succ]
    refine take_lit (i := 5) (d := 19) (v := ?_) rfl rfl (by kernel_rfl) (by kernel_rfl) (by kernel_rfl) (fun _ _ _ h => h) (Or.inl ⟨by rfl, ?_⟩) (by assumption) ?_
    rotate_left
    · (intro w hSw; (try dsimp only at hSw); first | (go_simp; done) | (go_simp; with_reducible rfl))
    simp only [List.set_cons_zero, List.set_cons_succ]
    refine take_lit (i := 6) (d := 20) (v := undef) rfl rfl (by kernel_rfl) (by kernel_rfl) (by kernel_rfl) (fun _ _ _ h => h) (Or.inr ⟨by rfl, rfl⟩) (by assumption) ?_
    simp only [List.set_cons_zero, List.set_cons_succ]
    refine take_lit (i := 7) (d := 21) (v := undef) rfl rfl (by kernel_rfl) (by kernel_rfl) (by kernel_rfl) (fun _ _ _ h => h) (Or.inr ⟨by rfl, rfl⟩) (by assumption) ?_
    simp only [List.set_cons_zero, List.set_cons_succ]
    refine take_lit (i := 8) (d := 22) (v := ?_) rfl rfl (by kernel_rfl) (by kernel_rfl) (by kernel_rfl) (fun _ _ _ h => h) (Or.inl ⟨by rfl, ?_⟩) (by assumption) ?_
    rotate_left
    · (intro w hSw; (try dsimp only at hSw); first | (go_simp; done) | (go_simp; with_reducible rfl))
    simp only [List.set_cons_zero, List.set_cons_succ]
    refine take_lit (i := 9) (d := 2) (v := ?_) rfl rfl (by kernel_rfl) (by kernel_rfl) (by kernel_rfl) (fun _ _ _ h => h) (Or.inl ⟨by rfl, ?_⟩) (by assumption) ?_
    rotate_left
    · (intro w hSw; (try dsimp only at hSw); first | (go_simp; done) | (go_simp; with_reducible rfl))
    simp only [List.set_cons_zero, List.set_cons_succ]
    refine take_lit (i := 10) (d := 3) (v := ?_) rfl rfl (by kernel_rfl) (by kernel_rfl) (by kernel_rfl) (fun _ _ _ h => h) (Or.inl ⟨by rfl, ?_⟩) (by assumption) ?_
    rotate_left
    · (intro w hSw; (try dsimp only at hSw); first | (go_simp; done) | (go_simp; with_reducible rfl))
    simp only [List.set_cons_zero, List.set_cons_succ]
    refine wpAnyH_done (by kernel_rfl) ?_ _
    go_wp2_with fail
    go_ret2
    exact ⟨by rw [HT.out]; rfl, hB3⟩
set_option maxHeartbeats 1600000 in
theorem rightAction11 {w : World} {x : OpD} (hx : x.fits) :
    Calls Try.prog 12 #[.agg #[.int .i64 11, .string x.vName, .string x.vOther, .string x.vWord, .string x.vType, .bool x.vCapture, .bool x.vOnce, .int .i64 x.vStop, .string x.vLname]] w fun e w' => e = .returned (.tuple #[.iface 66 (.agg #[.string x.vName, .string x.vOther]), .bool (decide (otherFormRest x) && otherFormB x)]) ∧ Below w.heap.size w w' := by
  have hx' : Hid x.fits := hx
  clear hx
  have hb0 : Below w.heap.size w (w.alloc (.cells #[.int .i64 11, .string x.vName, .string x.vOther, .string x.vWord, .string x.vType, .bool x.vCapture, .bool x.vOnce, .int .i64 x.vStop, .string x.vLname] 30)) := (Below.refl _ _).alloc (Nat.le_refl _) _
  have bO0 : Hid (Box (w.alloc (.cells #[.int .i64 11, .string x.vName, .string x.vOther, .string x.vWord, .string x.vType, .bool x.vCapture, .bool x.vOnce, .int .i64 x.vStop, .string x.vLname] 30)) w.heap.size [.int .i64 11, .string x.vName, .string x.vOther, .string x.vWord, .string x.vType, .bool x.vCapture, .bool x.vOnce, .int .i64 x.vStop, .string x.vLname] 30) := Box.new w [.int .i64 11, .string x.vName, .string x.vOther, .string x.vWord, .string x.vType, .bool x.vCapture, .bool x.vOnce, .int .i64 x.vStop, .string x.vLname] 30
  go_enter Try.func12, Try.ntmps12
  go_wp2_with fail
  refine actionOfB11.mono ?_
  rintro e w1 ⟨rfl, hb1⟩
  have bO1 := bO0.out.below hb1 (by simp)
  have hB1 : Below w.heap.size w w1 := hb0.trans (hb1.mono hb0.size)
  have c0 := bO1.cell 0 rfl
  have g0 := bO1.unfrozen 0
  have bO2 : Hid (Box (w1.setCell ⟨w.heap.size, 0, none⟩ (.int .i64 0)) w.heap.size [.int .i64 0, .string x.vName, .string x.vOther, .string x.vWord, .string x.vType, .bool x.vCapture, .bool x.vOnce, .int .i64 x.vStop, .string x.vLname] 30) := bO1.set (i := 0) (.int .i64 0)
  have hB2 : Below w.heap.size w (w1.setCell ⟨w.heap.size, 0, none⟩ (.int .i64 0)) := hB1.setCell (by simp) _
  clear bO1 bO0 hb0 hb1
  go_wp2_with fail
  generalize w1.setCell ⟨w.heap.size, 0, none⟩ (.int .i64 0) = w2 at *
  clear c0 g0 hB1 w1
  by_cases hR : otherFormRest x
  · have HT : Hid ((decide (otherFormRest x) && otherFormB x) = otherFormB x) := by show _ = _; simp [hR]
    obtain ⟨z0, z1, z2, z3, z4, z5⟩ := hR
    refine wp_region_held_drew (S := fun w' => w'.cell? ⟨w.heap.size, 0, none⟩ = some (.int .i64 0) ∧ w'.cell? ⟨w.heap.size, 1, none⟩ = some (.string x.vName) ∧ w'.cell? ⟨w.heap.size, 2, none⟩ = some (.string x.vOther) ∧ w'.cell? ⟨w.heap.size, 3, none⟩ = some (.string x.vWord) ∧ w'.cell? ⟨w.heap.size, 4, none⟩ = some (.string x.vType) ∧ w'.cell? ⟨w.heap.size, 5, none⟩ = some (.bool x.vCapture) ∧ w'.cell? ⟨w.heap.size, 6, none⟩ = some (.bool x.vOnce) ∧ w'.cell? ⟨w.heap.size, 7, none⟩ = some (.int .i64 x.vStop) ∧ w'.cell? ⟨w.heap.size, 8, none⟩ = some (.string x.vLname)) (by kernel_rfl) ⟨bO2.out.cell 0 rfl, bO2.out.cell 1 rfl, bO2.out.cell 2 rfl, bO2.out.cell 3 rfl, bO2.out.cell 4 rfl, bO2.out.cell 5 rfl, bO2.out.cell 6 rfl, bO2.out.cell 7 rfl, bO2.out.cell 8 rfl⟩ (fun hHeld => ?_)
    refine take_lit (i := 0) (d := 14) (v := ?_) rfl rfl (by kernel_rfl) (by kernel_rfl) (by kernel_rfl) (fun _ _ _ h => h) (Or.inl ⟨by rfl, ?_⟩) (by assumption) ?_
    rotate_left
    · (intro w hSw; (try dsimp only at hSw); first | (go_simp; done) | (go_simp; with_reducible rfl))
    simp only [List.set_cons_zero, List.set_cons_succ]
    refine take_lit (i := 1) (d := 15) (v := ?_) rfl rfl (by kernel_rfl) (by kernel_rfl) (by kernel_rfl) (fun _ _ _ h => h) (Or.inl ⟨by rfl, ?_⟩) (by assumption) ?_
    rotate_left
    · (intro w hSw; (try dsimp only at hSw); first | (go_simp; done) | (go_simp; with_reducible rfl))
    simp only [List.set_cons_zero, List.set_cons_succ]
    refine take_lit (i := 3) (d := 17) (v := ?_) rfl rfl (by kernel_rfl) (by kernel_rfl) (by kernel_rfl) (fun _ _ _ h => h) (Or.inl ⟨by rfl, ?_⟩) (by assumption) ?_
    rotate_left
    · (intro w hSw; (try dsimp only at hSw); first | (go_simp; done) | (go_simp; with_reducible rfl))
    simp only [List.set_cons_zero, List.set_cons_succ]
    refine wpAnyH_ready (rs := [2]) (by kernel_rfl) (by simp) ?_
    refine AllReadyH.cons rfl (fun K hK => ?_) AllReadyH.nil
    go_simp
    refine otherForm_fieldsB.mono ?_
    rintro e w1 ⟨rfl, hb1⟩
    have hB3 : Below w.heap.size w w1 := hB2.drew.trans (hb1.mono (by exact hB2.size))
    refine hK.out _ _ ⟨cell_on hb1 hHeld.1, cell_on hb1 hHeld.2.1, cell_on hb1 hHeld.2.2.1, cell_on hb1 hHeld.2.2.2.1, cell_on hb1 hHeld.2.2.2.2.1, cell_on hb1 hHeld.2.2.2.2.2.1, cell_on hb1 hHeld.2.2.2.2.2.2.1, cell_on hb1 hHeld.2.2.2.2.2.2.2.1, cell_on hb1 hHeld.2.2.2.2.2.2.2.2⟩ (fun hHeld => ?_)
    clear hK K
    refine take_lit (i := 4) (d := 18) (v := .bool true) rfl rfl (by kernel_rfl) (by kernel_rfl) (by kernel_rfl) (fun _ _ _ h => h) (Or.inl ⟨by rfl, ?_⟩) (by assumption) ?_
    · (intro w' hSw; (try dsimp only at hSw); go_simp)
    simp only [List.set_cons_zero, List.set_cons_succ]
    refine take_lit (i := 5) (d := 19) (v := ?_) rfl rfl (by kernel_rfl) (by kernel_rfl) (by kernel_rfl) (fun _ _ _ h => h) (Or.inl ⟨by rfl, ?_⟩) (by assumption) ?_
    rotate_left
    · (intro w hSw; (try dsimp only at hSw); first | (go_simp; done) | (go_simp; with_reducible rfl))
    simp only [List.set_cons_zero, List.set_cons_succ]
    refine take_lit (i := 6) (d := 20) (v := ?_) rfl rfl (by kernel_rfl) (by kernel_rfl) (by kernel_rfl) (fun _ _ _ h => h) (Or.inl ⟨by rfl, ?_⟩) (by assumption) ?_
    rotate_left
    · (intro w hSw; (try dsimp only at hSw); first | (go_simp; done) | (go_simp; with_reducible rfl))
    simp only [List.set_cons_zero, List.set_cons_succ]
    refine wpAnyH_ready (rs := [7]) (by kernel_rfl) (by simp) ?_
    refine AllReadyH.cons rfl (fun K hK => ?_) AllReadyH.nil
    go_simp
    refine (otherForm_right hx'.out).mono ?_
    rintro e w1 ⟨rfl, hb1⟩
    have hB4 : Below w.heap.size w w1 := hB3.trans (hb1.mono hB3.size)
    refine hK.out _ _ ⟨cell_on hb1 hHeld.1, cell_on hb1 hHeld.2.1, cell_on hb1 hHeld.2.2.1, cell_on hb1 hHeld.2.2.2.1, cell_on hb1 hHeld.2.2.2.2.1, cell_on hb1 hHeld.2.2.2.2.2.1, cell_on hb1 hHeld.2.2.2.2.2.2.1, cell_on hb1 hHeld.2.2.2.2.2.2.2.1, cell_on hb1 hHeld.2.2.2.2.2.2.2.2⟩ (fun hHeld => ?_)
    clear hK K
    refine take_lit (i := 8) (d := 22) (v := ?_) rfl rfl (by kernel_rfl) (by kernel_rfl) (by kernel_rfl) (fun _ _ _ h => h) (Or.inl ⟨by rfl, ?_⟩) (by assumption) ?_
    rotate_left
    · (intro w hSw; (try dsimp only at hSw); first | (go_simp; done) | (go_simp; with_reducible rfl))
    simp only [List.set_cons_zero, List.set_cons_succ]
    refine take_lit (i := 9) (d := 2) (v := ?_) rfl rfl (by kernel_rfl) (by kernel_rfl) (by kernel_rfl) (fun _ _ _ h => h) (Or.inl ⟨by rfl, ?_⟩) (by assumption) ?_
    rotate_left
    · (intro w hSw; (try dsimp only at hSw); first | (go_simp; done) | (go_simp; with_reducible rfl))
    simp only [List.set_cons_zero, List.set_cons_succ]
    refine take_lit (i := 10) (d := 3) (v := ?_) rfl rfl (by kernel_rfl) (by kernel_rfl) (by kernel_rfl) (fun _ _ _ h => h) (Or.inl ⟨by rfl, ?_⟩) (by assumption) ?_
    rotate_left
    · (intro w hSw; (try dsimp only at hSw); first | (go_simp; done) | (go_simp; with_reducible rfl))
    simp only [List.set_cons_zero, List.set_cons_succ]
    refine wpAnyH_done (by kernel_rfl) ?_ _
    go_wp2_with fail
    go_ret2
    exact ⟨by rw [HT.out]; rfl, hB4⟩
  · have HT : Hid ((decide (otherFormRest x) && otherFormB x) = false) := by show _ = _; simp [hR]
    have hR' : Hid (¬ otherFormRest x) := hR
    clear hR
    refine wp_region_held_drew (S := fun w' => w'.cell? ⟨w.heap.size, 0, none⟩ = some (.int .i64 0) ∧ w'.cell? ⟨w.heap.size, 1, none⟩ = some (.string x.vName) ∧ w'.cell? ⟨w.heap.size, 2, none⟩ = some (.string x.vOther) ∧ w'.cell? ⟨w.heap.size, 3, none⟩ = some (.string x.vWord) ∧ w'.cell? ⟨w.heap.size, 4, none⟩ = some (.string x.vType) ∧ w'.cell? ⟨w.heap.size, 5, none⟩ = some (.bool x.vCapture) ∧ w'.cell? ⟨w.heap.size, 6, none⟩ = some (.bool x.vOnce) ∧ w'.cell? ⟨w.heap.size, 7, none⟩ = some (.int .i64 x.vStop) ∧ w'.cell? ⟨w.heap.size, 8, none⟩ = some (.string x.vLname)) (by kernel_rfl) ⟨bO2.out.cell 0 rfl, bO2.out.cell 1 rfl, bO2.out.cell 2 rfl, bO2.out.cell 3 rfl, bO2.out.cell 4 rfl, bO2.out.cell 5 rfl, bO2.out.cell 6 rfl, bO2.out.cell 7 rfl, bO2.out.cell 8 rfl⟩ (fun hHeld => ?_)
    refine take_lit (i := 0) (d := 14) (v := ?_) rfl rfl (by kernel_rfl) (by kernel_rfl) (by kernel_rfl) (fun _ _ _ h => h) (Or.inl ⟨by rfl, ?_⟩) (by assumption) ?_
    rotate_left
    · (intro w hSw; (try dsimp only at hSw); first | (go_simp; done) | (go_simp; with_reducible rfl))
    simp only [List.set_cons_zero, List.set_cons_succ]
    refine take_lit (i := 1) (d := 15) (v := ?_) rfl rfl (by kernel_rfl) (by kernel_rfl) (by kernel_rfl) (fun _ _ _ h => h) (Or.inl ⟨by rfl, ?_⟩) (by assumption) ?_
    rotate_left
    · (intro w hSw; (try dsimp only at hSw); first | (go_simp; done) | (go_simp; with_reducible rfl))
    simp only [List.set_cons_zero, List.set_cons_succ]
    refine take_lit (i := 3) (d := 17) (v := ?_) rfl rfl (by kernel_rfl) (by kernel_rfl) (by kernel_rfl) (fun _ _ _ h => h) (Or.inl ⟨by rfl, ?_⟩) (by assumption) ?_
    rotate_left
    · (intro w hSw; (try dsimp only at hSw); first | (go_simp; done) | (go_simp; with_reducible rfl))
    simp only [List.set_cons_zero, List.set_cons_succ]
    refine wpAnyH_ready (rs := [2]) (by kernel_rfl) (by simp) ?_
    refine AllReadyH.cons rfl (fun K hK => ?_) AllReadyH.nil
    go_simp
    refine otherForm_fieldsB.mono ?_
    rintro e w1 ⟨rfl, hb1⟩
    have hB3 : Below w.heap.size w w1 := hB2.drew.trans (hb1.mono (by exact hB2.size))
    refine hK.out _ _ ⟨cell_on hb1 hHeld.1, cell_on hb1 hHeld.2.1, cell_on hb1 hHeld.2.2.1, cell_on hb1 hHeld.2.2.2.1, cell_on hb1 hHeld.2.2.2.2.1, cell_on hb1 hHeld.2.2.2.2.2.1, cell_on hb1 hHeld.2.2.2.2.2.2.1, cell_on hb1 hHeld.2.2.2.2.2.2.2.1, cell_on hb1 hHeld.2.2.2.2.2.2.2.2⟩ (fun hHeld => ?_)
    clear hK K
    refine take_lit (i := 4) (d := 18) (v := .bool false) rfl rfl (by kernel_rfl) (by kernel_rfl) (by kernel_rfl) (fun _ _ _ h => h) (Or.inl ⟨by rfl, ?_⟩) (by assumption) ?_
    · (intro w' hSw; (try dsimp only at hSw); go_simp; clear hSw; refine Classical.byContradiction fun hcon => hR'.out ?_; unfold otherFormRest; clear hHeld hb1 hB3 hB2 bO2 HT hx'; simp_all)
    simp only [List.set_cons_zero, List.set_cons_succ]
    refine take_lit (i := 5) (d := 19) (v := ?_) rfl rfl (by kernel_rfl) (by kernel_rfl) (by kernel_rfl) (fun _ _ _ h => h) (Or.inl ⟨by rfl, ?_⟩) (by assumption) ?_
    rotate_left
    · (intro w hSw; (try dsimp only at hSw); first | (go_simp; done) | (go_simp; with_reducible rfl))
    simp only [List.set_cons_zero, List.set_cons_succ]
    refine take_lit (i := 6) (d := 20) (v := undef) rfl rfl (by kernel_rfl) (by kernel_rfl) (by kernel_rfl) (fun _ _ _ h => h) (Or.inr ⟨by rfl, rfl⟩) (by assumption) ?_
    simp only [List.set_cons_zero, List.set_cons_succ]
    refine take_lit (i := 7) (d := 21) (v := undef) rfl rfl (by kernel_rfl) (by kernel_rfl) (by kernel_rfl) (fun _ _ _ h => h) (Or.inr ⟨by rfl, rfl⟩) (by assumption) ?_
    simp only [List.set_cons_zero, List.set_cons_succ]
    refine take_lit (i := 8) (d := 22) (v := ?_) rfl rfl (by kernel_rfl) (by kernel_rfl) (by kernel_rfl) (fun _ _ _ h => h) (Or.inl ⟨by rfl, ?_⟩) (by assumption) ?_
    rotate_left
    · (intro w hSw; (try dsimp only at hSw); first | (go_simp; done) | (go_simp; with_reducible rfl))
    simp only [List.set_cons_zero, List.set_cons_succ]
    refine take_lit (i := 9) (d := 2) (v := ?_) rfl rfl (by kernel_rfl) (by kernel_rfl) (by kernel_rfl) (fun _ _ _ h => h) (Or.inl ⟨by rfl, ?_⟩) (by assumption) ?_
    rotate_left
    · (intro w hSw; (try dsimp only at hSw); first | (go_simp; done) | (go_simp; with_reducible rfl))
    simp only [List.set_cons_zero, List.set_cons_succ]
    refine take_lit (i := 10) (d := 3) (v := ?_) rfl rfl (by kernel_rfl) (by kernel_rfl) (by kernel_rfl) (fun _ _ _ h => h) (Or.inl ⟨by rfl, ?_⟩) (by assumption) ?_
    rotate_left
    · (intro w hSw; (try dsimp only at hSw); first | (go_simp; done) | (go_simp; with_reducible rfl))
    simp only [List.set_cons_zero, List.set_cons_succ]
    refine wpAnyH_done (by kernel_rfl) ?_ _
    go_wp2_with fail
    go_ret2
    exact ⟨by rw [HT.out]; rfl, hB3⟩
set_option maxHeartbeats 1600000 in
theorem rightAction12 {w : World} {x : OpD} (hx : x.fits) :
    Calls Try.prog 12 #[.agg #[.int .i64 12, .string x.vName, .string x.vOther, .string x.vWord, .string x.vType, .bool x.vCapture, .bool x.vOnce, .int .i64 x.vStop, .string x.vLname]] w fun e w' => e = .returned (.tuple #[.iface 70 (.agg #[.string x.vName, .string x.vType, .bool x.vCapture, .bool x.vOnce, .int .i64 x.vStop, .string x.vLname]), .bool (decide (listenerFormRest x) && listenerFormB x)]) ∧ Below w.heap.size w w' := by
  have hx' : Hid x.fits := hx
  clear hx
  have hb0 : Below w.heap.size w (w.alloc (.cells #[.int .i64 12, .string x.vName, .string x.vOther, .string x.vWord, .string x.vType, .bool x.vCapture, .bool x.vOnce, .int .i64 x.vStop, .string x.vLname] 30)) := (Below.refl _ _).alloc (Nat.le_refl _) _
  have bO0 : Hid (Box (w.alloc (.cells #[.int .i64 12, .string x.vName, .string x.vOther, .string x.vWord, .string x.vType, .bool x.vCapture, .bool x.vOnce, .int .i64 x.vStop, .string x.vLname] 30)) w.heap.size [.int .i64 12, .string x.vName, .string x.vOther, .string x.vWord, .string x.vType, .bool x.vCapture, .bool x.vOnce, .int .i64 x.vStop, .string x.vLname] 30) := Box.new w [.int .i64 12, .string x.vName, .string x.vOther, .string x.vWord, .string x.vType, .bool x.vCapture, .bool x.vOnce, .int .i64 x.vStop, .string x.vLname] 30
  go_enter Try.func12, Try.ntmps12
  go_wp2_with fail
  refine actionOfB12.mono ?_
  rintro e w1 ⟨rfl, hb1⟩
  have bO1 := bO0.out.below hb1 (by simp)
  have hB1 : Below w.heap.size w w1 := hb0.trans (hb1.mono hb0.size)
  have c0 := bO1.cell 0 rfl
  have g0 := bO1.unfrozen 0
  have bO2 : Hid (Box (w1.setCell ⟨w.heap.size, 0, none⟩ (.int .i64 0)) w.heap.size [.int .i64 0, .string x.vName, .string x.vOther, .string x.vWord, .string x.vType, .bool x.vCapture, .bool x.vOnce, .int .i64 x.vStop, .string x.vLname] 30) := bO1.set (i := 0) (.int .i64 0)
  have hB2 : Below w.heap.size w (w1.setCell ⟨w.heap.size, 0, none⟩ (.int .i64 0)) := hB1.setCell (by simp) _
  clear bO1 bO0 hb0 hb1
  go_wp2_with fail
  generalize w1.setCell ⟨w.heap.size, 0, none⟩ (.int .i64 0) = w2 at *
  clear c0 g0 hB1 w1
  by_cases hR : listenerFormRest x
  · have HT : Hid ((decide (listenerFormRest x) && listenerFormB x) = listenerFormB x) := by show _ = _; simp [hR]
    obtain ⟨z0, z1⟩ := hR
    refine wp_region_held_drew (S := fun w' => w'.cell? ⟨w.heap.size, 0, none⟩ = some (.int .i64 0) ∧ w'.cell? ⟨w.heap.size, 1, none⟩ = some (.string x.vName) ∧ w'.cell? ⟨w.heap.size, 2, none⟩ = some (.string x.vOther) ∧ w'.cell? ⟨w.heap.size, 3, none⟩ = some (.string x.vWord) ∧ w'.cell? ⟨w.heap.size, 4, none⟩ = some (.string x.vType) ∧ w'.cell? ⟨w.heap.size, 5, none⟩ = some (.bool x.vCapture) ∧ w'.cell? ⟨w.heap.size, 6, none⟩ = some (.bool x.vOnce) ∧ w'.cell? ⟨w.heap.size, 7, none⟩ = some (.int .i64 x.vStop) ∧ w'.cell? ⟨w.heap.size, 8, none⟩ = some (.string x.vLname)) (by kernel_rfl) ⟨bO2.out.cell 0 rfl, bO2.out.cell 1 rfl, bO2.out.cell 2 rfl, bO2.out.cell 3 rfl, bO2.out.cell 4 rfl, bO2.out.cell 5 rfl, bO2.out.cell 6 rfl, bO2.out.cell 7 rfl, bO2.out.cell 8 rfl⟩ (fun hHeld => ?_)
    refine take_lit (i := 0) (d := 14) (v := ?_) rfl rfl (by kernel_rfl) (by kernel_rfl) (by kernel_rfl) (fun _ _ _ h => h) (Or.inl ⟨by rfl, ?_⟩) (by assumption) ?_
    rotate_left
    · (intro w hSw; (try dsimp only at hSw); first | (go_simp; done) | (go_simp; with_reducible rfl))
    simp only [List.set_cons_zero, List.set_cons_succ]
    refine take_lit (i := 1) (d := 15) (v := ?_) rfl rfl (by kernel_rfl) (by kernel_rfl) (by kernel_rfl) (fun _ _ _ h => h) (Or.inl ⟨by rfl, ?_⟩) (by assumption) ?_
    rotate_left
    · (intro w hSw; (try dsimp only at hSw); first | (go_simp; done) | (go_simp; with_reducible rfl))
    simp only [List.set_cons_zero, List.set_cons_succ]
    refine take_lit (i := 3) (d := 17) (v := ?_) rfl rfl (by kernel_rfl) (by kernel_rfl) (by kernel_rfl) (fun _ _ _ h => h) (Or.inl ⟨by rfl, ?_⟩) (by assumption) ?_
    rotate_left
    · (intro w hSw; (try dsimp only at hSw); first | (go_simp; done) | (go_simp; with_reducible rfl))
    simp only [List.set_cons_zero, List.set_cons_succ]
    refine wpAnyH_ready (rs := [2]) (by kernel_rfl) (by simp) ?_
    refine AllReadyH.cons rfl (fun K hK => ?_) AllReadyH.nil
    go_simp
    refine listenerForm_fieldsB.mono ?_
    rintro e w1 ⟨rfl, hb1⟩
    have hB3 : Below w.heap.size w w1 := hB2.drew.trans (hb1.mono (by exact hB2.size))
    refine hK.out _ _ ⟨cell_on hb1 hHeld.1, cell_on hb1 hHeld.2.1, cell_on hb1 hHeld.2.2.1, cell_on hb1 hHeld.2.2.2.1, cell_on hb1 hHeld.2.2.2.2.1, cell_on hb1 hHeld.2.2.2.2.2.1, cell_on hb1 hHeld.2.2.2.2.2.2.1, cell_on hb1 hHeld.2.2.2.2.2.2.2.1, cell_on hb1 hHeld.2.2.2.2.2.2.2.2⟩ (fun hHeld => ?_)
    clear hK K
    refine take_lit (i := 4) (d := 18) (v := .bool true) rfl rfl (by kernel_rfl) (by kernel_rfl) (by kernel_rfl) (fun _ _ _ h => h) (Or.inl ⟨by rfl, ?_⟩) (by assumption) ?_
    · (intro w' hSw; (try dsimp only at hSw); go_simp)
    simp only [List.set_cons_zero, List.set_cons_succ]
    refine take_lit (i := 5) (d := 19) (v := ?_) rfl rfl (by kernel_rfl) (by kernel_rfl) (by kernel_rfl) (fun _ _ _ h => h) (Or.inl ⟨by rfl, ?_⟩) (by assumption) ?_
    rotate_left
    · (intro w hSw; (try dsimp only at hSw); first | (go_simp; done) | (go_simp; with_reducible rfl))
    simp only [List.set_cons_zero, List.set_cons_succ]
    refine take_lit (i := 6) (d := 20) (v := ?_) rfl rfl (by kernel_rfl) (by kernel_rfl) (by kernel_rfl) (fun _ _ _ h => h) (Or.inl ⟨by rfl, ?_⟩) (by assumption) ?_
    rotate_left
    · (intro w hSw; (try dsimp only at hSw); first | (go_simp; done) | (go_simp; with_reducible rfl))
    simp only [List.set_cons_zero, List.set_cons_succ]
    refine wpAnyH_ready (rs := [7]) (by kernel_rfl) (by simp) ?_
    refine AllReadyH.cons rfl (fun K hK => ?_) AllReadyH.nil
    go_simp
    refine (listenerForm_right hx'.out).mono ?_
    rintro e w1 ⟨rfl, hb1⟩
    have hB4 : Below w.heap.size w w1 := hB3.trans (hb1.mono hB3.size)
    refine hK.out _ _ ⟨cell_on hb1 hHeld.1, cell_on hb1 hHeld.2.1, cell_on hb1 hHeld.2.2.1, cell_on hb1 hHeld.2.2.2.1, cell_on hb1 hHeld.2.2.2.2.1, cell_on hb1 hHeld.2.2.2.2.2.1, cell_on hb1 hHeld.2.2.2.2.2.2.1, cell_on hb1 hHeld.2.2.2.2.2.2.2.1, cell_on hb1 hHeld.2.2.2.2.2.2.2.2⟩ (fun hHeld => ?_)
    clear hK K
    refine take_lit (i := 8) (d := 22) (v := ?_) rfl rfl (by kernel_rfl) (by kernel_rfl) (by kernel_rfl) (fun _ _ _ h => h) (Or.inl ⟨by rfl, ?_⟩) (by assumption) ?_
    rotate_left
    · (intro w hSw; (try dsimp only at hSw); first | (go_simp; done) | (go_simp; with_reducible rfl))
    simp only [List.set_cons_zero, List.set_cons_succ]
    refine take_lit (i := 9) (d := 2) (v := ?_) rfl rfl (by kernel_rfl) (by kernel_rfl) (by kernel_rfl) (fun _ _ _ h => h) (Or.inl ⟨by rfl, ?_⟩) (by assumption) ?_
    rotate_left
    · (intro w hSw; (try dsimp only at hSw); first | (go_simp; done) | (go_simp; with_reducible rfl))
    simp only [List.set_cons_zero, List.set_cons_succ]
    refine take_lit (i := 10) (d := 3) (v := ?_) rfl rfl (by kernel_rfl) (by kernel_rfl) (by kernel_rfl) (fun _ _ _ h => h) (Or.inl ⟨by rfl, ?_⟩) (by assumption) ?_
    rotate_left
    · (intro w hSw; (try dsimp only at hSw); first | (go_simp; done) | (go_simp; with_reducible rfl))
    simp only [List.set_cons_zero, List.set_cons_succ]
    refine wpAnyH_done (by kernel_rfl) ?_ _
    go_wp2_with fail
    go_ret2
    exact ⟨by rw [HT.out]; rfl, hB4⟩
  · have HT : Hid ((decide (listenerFormRest x) && listenerFormB x) = false) := by show _ = _; simp [hR]
    have hR' : Hid (¬ listenerFormRest x) := hR
    clear hR
    refine wp_region_held_drew (S := fun w' => w'.cell? ⟨w.heap.size, 0, none⟩ = some (.int .i64 0) ∧ w'.cell? ⟨w.heap.size, 1, none⟩ = some (.string x.vName) ∧ w'.cell? ⟨w.heap.size, 2, none⟩ = some (.string x.vOther) ∧ w'.cell? ⟨w.heap.size, 3, none⟩ = some (.string x.vWord) ∧ w'.cell? ⟨w.heap.size, 4, none⟩ = some (.string x.vType) ∧ w'.cell? ⟨w.heap.size, 5, none⟩ = some (.bool x.vCapture) ∧ w'.cell? ⟨w.heap.size, 6, none⟩ = some (.bool x.vOnce) ∧ w'.cell? ⟨w.heap.size, 7, none⟩ = some (.int .i64 x.vStop) ∧ w'.cell? ⟨w.heap.size, 8, none⟩ = some (.string x.vLname)) (by kernel_rfl) ⟨bO2.out.cell 0 rfl, bO2.out.cell 1 rfl, bO2.out.cell 2 rfl, bO2.out.cell 3 rfl, bO2.out.cell 4 rfl, bO2.out.cell 5 rfl, bO2.out.cell 6 rfl, bO2.out.cell 7 rfl, bO2.out.cell 8 rfl⟩ (fun hHeld => ?_)
    refine take_lit (i := 0) (d := 14) (v := ?_) rfl rfl (by kernel_rfl) (by kernel_rfl) (by kernel_rfl) (fun _ _ _ h => h) (Or.inl ⟨by rfl, ?_⟩) (by assumption) ?_
    rotate_left
    · (intro w hSw; (try dsimp only at hSw); first | (go_simp; done) | (go_simp; with_reducible rfl))
    simp only [List.set_cons_zero, List.set_cons_succ]
    refine take_lit (i := 1) (d := 15) (v := ?_) rfl rfl (by kernel_rfl) (by kernel_rfl) (by kernel_rfl) (fun _ _ _ h => h) (Or.inl ⟨by rfl, ?_⟩) (by assumption) ?_
    rotate_left
    · (intro w hSw; (try dsimp only at hSw); first | (go_simp; done) | (go_simp; with_reducible rfl))
    simp only [List.set_cons_zero, List.set_cons_succ]
    refine take_lit (i := 3) (d := 17) (v := ?_) rfl rfl (by kernel_rfl) (by kernel_rfl) (by kernel_rfl) (fun _ _ _ h => h) (Or.inl ⟨by rfl, ?_⟩) (by assumption) ?_
    rotate_left
    · (intro w hSw; (try dsimp only at hSw); first | (go_simp; done) | (go_simp; with_reducible rfl))
    simp only [List.set_cons_zero, List.set_cons_succ]
    refine wpAnyH_ready (rs := [2]) (by kernel_rfl) (by simp) ?_
    refine AllReadyH.cons rfl (fun K hK => ?_) AllReadyH.nil
    go_simp
    refine listenerForm_fieldsB.mono ?_
    rintro e w1 ⟨rfl, hb1⟩
    have hB3 : Below w.heap.size w w1 := hB2.drew.trans (hb1.mono (by exact hB2.size))
    refine hK.out _ _ ⟨cell_on hb1 hHeld.1, cell_on hb1 hHeld.2.1, cell_on hb1 hHeld.2.2.1, cell_on hb1 hHeld.2.2.2.1, cell_on hb1 hHeld.2.2.2.2.1, cell_on hb1 hHeld.2.2.2.2.2.1, cell_on hb1 hHeld.2.2.2.2.2.2.1, cell_on hb1 hHeld.2.2.2.2.2.2.2.1, cell_on hb1 hHeld.2.2.2.2.2.2.2.2⟩ (fun hHeld => ?_)
    clear hK K
    refine take_lit (i := 4) (d := 18) (v := .bool false) rfl rfl (by kernel_rfl) (by kernel_rfl) (by kernel_rfl) (fun _ _ _ h => h) (Or.inl ⟨by rfl, ?_⟩) (by assumption) ?_
    · (intro w' hSw; (try dsimp only at hSw); go_simp; clear hSw; refine Classical.byContradiction fun hcon => hR'.out ?_; unfold listenerFormRest; clear hHeld hb1 hB3 hB2 bO2 HT hx'; simp_all)
    simp only [List.set_cons_zero, List.set_cons_succ]
    refine take_lit (i := 5) (d := 19) (v := ?_) rfl rfl (by kernel_rfl) (by kernel_rfl) (by kernel_rfl) (fun _ _ _ h => h) (Or.inl ⟨by rfl, ?_⟩) (by assumption) ?_
    rotate_left
    · (intro w hSw; (try dsimp only at hSw); first | (go_simp; done) | (go_simp; with_reducible rfl))
    simp only [List.set_cons_zero, List.set_cons_succ]
    refine take_lit (i := 6) (d := 20) (v := undef) rfl rfl (by kernel_rfl) (by kernel_rfl) (by kernel_rfl) (fun _ _ _ h => h) (Or.inr ⟨by rfl, rfl⟩) (by assumption) ?_
    simp only [List.set_cons_zero, List.set_cons_succ]
    refine take_lit (i := 7) (d := 21) (v := undef) rfl rfl (by kernel_rfl) (by kernel_rfl) (by kernel_rfl) (fun _ _ _ h => h) (Or.inr ⟨by rfl, rfl⟩) (by assumption) ?_
    simp only [List.set_cons_zero, List.set_cons_succ]
    refine take_lit (i := 8) (d := 22) (v := ?_) rfl rfl (by kernel_rfl) (by kernel_rfl) (by kernel_rfl) (fun _ _ _ h => h) (Or.inl ⟨by rfl, ?_⟩) (by assumption) ?_
    rotate_left
    · (intro w hSw; (try dsimp only at hSw); first | (go_simp; done) | (go_simp; with_reducible rfl))
    simp only [List.set_cons_zero, List.set_cons_succ]
    refine take_lit (i := 9) (d := 2) (v := ?_) rfl rfl (by kernel_rfl) (by kernel_rfl) (by kernel_rfl) (fun _ _ _ h => h) (Or.inl ⟨by rfl, ?_⟩) (by assumption) ?_
    rotate_left
    · (intro w hSw; (try dsimp only at hSw); first | (go_simp; done) | (go_simp; with_reducible rfl))
    simp only [List.set_cons_zero, List.set_cons_succ]
    refine take_lit (i := 10) (d := 3) (v := ?_) rfl rfl (by kernel_rfl) (by kernel_rfl) (by kernel_rfl) (fun _ _ _ h => h) (Or.inl ⟨by rfl, ?_⟩) (by assumption) ?_
    rotate_left
    · (intro w hSw; (try dsimp only at hSw); first | (go_simp; done) | (go_simp; with_reducible rfl))
    simp only [List.set_cons_zero, List.set_cons_succ]
    refine wpAnyH_done (by kernel_rfl) ?_ _
    go_wp2_with fail
    go_ret2
    exact ⟨by rw [HT.out]; rfl, hB3⟩
end Go.Proofs.Ytiegfonakdcciaa
