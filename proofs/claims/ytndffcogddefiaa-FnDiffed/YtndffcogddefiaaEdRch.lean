/- changeOf of the program: walked. -/
import Derived.Test.YtndffcogddefiaaEdRec
import Derived.Test.YtndffcogddefiaaTakeLit
import Derived.Deep.RegionHeld3
import Derived.Deep.DeepCutAuto
namespace Go.Proofs.Ytndffcogddefiaa
open Go.RowKit Go.Deep
/-- the change that an edit is, as its kind has it -/
def chV (e : EditD) (kp kx : Value) : Value := if e.vKind = 1 then .iface 90 (.agg #[kp, .string (strT e.vTree), kx]) else if e.vKind = 2 then .iface 88 (.agg #[kp]) else if e.vKind = 3 then .iface 85 (.agg #[kp, .string e.vTag]) else .nilIface
/-- has it nothing that its kind does not name? -/
def chB (e : EditD) : Bool := if e.vKind = 1 then emS e.vTag else if e.vKind = 2 then emS e.vTag && emT e.vTree else if e.vKind = 3 then emT e.vTree else false
set_option maxRecDepth 100000 in
set_option maxHeartbeats 8000000 in
theorem changeOf_any {w : World} {ap a : Option Addr} {cp c : Nat} {e : EditD} :
    Calls Try.prog 65 #[.agg #[.int .i64 e.vKind, .slice ap e.vPath.length cp, .string e.vTag, .string (strT e.vTree), .slice a (kidsOf e.vTree).length c]] w fun e1 w' => e1 = .returned (.tuple #[chV e (.slice ap e.vPath.length cp) (.slice a (kidsOf e.vTree).length c), .bool (chB e)]) ∧ Below w.heap.size w w' := by
  have bx : Hid (Box (w.alloc (.cells #[.int .i64 e.vKind, .slice ap e.vPath.length cp, .string e.vTag, .string (strT e.vTree), .slice a (kidsOf e.vTree).length c] 29)) w.heap.size [.int .i64 e.vKind, .slice ap e.vPath.length cp, .string e.vTag, .string (strT e.vTree), .slice a (kidsOf e.vTree).length c] 29) := Box.new w _ _
  have c0 := bx.out.cell 0 rfl
  have c1 := bx.out.cell 1 rfl
  have c2 := bx.out.cell 2 rfl
  have c3 := bx.out.cell 3 rfl
  have c4 := bx.out.cell 4 rfl
  go_enter Try.func65, Try.ntmps65
  rcases em_or e.vTag with ⟨q1, q1a, q1b⟩ | ⟨q1, q1a, q1b⟩
  · rcases em_or (strT e.vTree) with ⟨q2, q2a, q2b⟩ | ⟨q2, q2a, q2b⟩
    · go_upto_region 1 with fail
      refine wp_region_held_drew (S := fun w' => w'.cell? ⟨w.heap.size, 2, none⟩ = some (.string e.vTag) ∧ w'.cell? ⟨w.heap.size, 3, none⟩ = some (.string (strT e.vTree)) ∧ w'.cell? ⟨w.heap.size, 4, none⟩ = some (.slice a (kidsOf e.vTree).length c)) (by kernel_rfl) ⟨bx.out.cell 2 rfl, bx.out.cell 3 rfl, bx.out.cell 4 rfl⟩ (fun hHeld => ?_)
      refine tq (i := 0) (d := 6) ?_
      simp only [sz, ss]
      refine tq (i := 1) (d := 7) ?_
      simp only [sz, ss]
      refine tq (i := 2) (d := 8) ?_
      simp only [sz, ss]
      refine tq (i := 3) (d := 9) ?_
      simp only [sz, ss]
      refine tq (i := 4) (d := 10) ?_
      simp only [sz, ss]
      refine tq (i := 5) (d := 11) ?_
      simp only [sz, ss]
      refine tq (i := 6) (d := 12) ?_
      simp only [sz, ss]
      refine tq (i := 7) (d := 13) ?_
      simp only [sz, ss]
      refine tn (i := 8) (d := 14) ?_
      simp only [sz, ss]
      refine tn (i := 9) (d := 15) ?_
      simp only [sz, ss]
      refine tn (i := 10) (d := 16) ?_
      simp only [sz, ss]
      refine tn (i := 11) (d := 17) ?_
      simp only [sz, ss]
      refine tn (i := 12) (d := 18) ?_
      simp only [sz, ss]
      refine tq (i := 13) (d := 19) ?_
      simp only [sz, ss]
      refine tq (i := 14) (d := 4) ?_
      simp only [sz, ss]
      refine tq (i := 15) (d := 5) ?_
      simp only [sz, ss]
      refine wpAnyH_done (by kernel_rfl) ?_ _
      by_cases hk1 : e.vKind = 1
      · rw [hk1] at c0
        have hv : Hid (chV e (.slice ap e.vPath.length cp) (.slice a (kidsOf e.vTree).length c) = .iface 90 (.agg #[.slice ap e.vPath.length cp, .string (strT e.vTree), .slice a (kidsOf e.vTree).length c]) ∧ chB e = false) := by show _ ∧ _; simp [chV, chB, hk1, q1]
        go_wp2_with fail
        go_ret2
        exact ⟨by rw [hv.out.1, hv.out.2]; rfl, Below.drew ((Below.refl _ _).alloc (Nat.le_refl _) _)⟩
      by_cases hk2 : e.vKind = 2
      · rw [hk2] at c0
        have hv : Hid (chV e (.slice ap e.vPath.length cp) (.slice a (kidsOf e.vTree).length c) = .iface 88 (.agg #[.slice ap e.vPath.length cp]) ∧ chB e = false) := by show _ ∧ _; simp [chV, chB, hk2, q1]
        go_wp2_with fail
        go_ret2
        exact ⟨by rw [hv.out.1, hv.out.2]; rfl, Below.drew ((Below.refl _ _).alloc (Nat.le_refl _) _)⟩
      by_cases hk3 : e.vKind = 3
      · rw [hk3] at c0
        have hv : Hid (chV e (.slice ap e.vPath.length cp) (.slice a (kidsOf e.vTree).length c) = .iface 85 (.agg #[.slice ap e.vPath.length cp, .string e.vTag]) ∧ chB e = false) := by show _ ∧ _; simp [chV, chB, hk3, emT, q2]
        go_wp2_with fail
        go_ret2
        exact ⟨by rw [hv.out.1, hv.out.2]; rfl, Below.drew ((Below.refl _ _).alloc (Nat.le_refl _) _)⟩
      have hv : Hid (chV e (.slice ap e.vPath.length cp) (.slice a (kidsOf e.vTree).length c) = .nilIface ∧ chB e = false) := by show _ ∧ _; simp [chV, chB, hk1, hk2, hk3]
      have g1 : (e.vKind == 1) = false := by simpa using hk1
      have g2 : (e.vKind == 2) = false := by simpa using hk2
      have g3 : (e.vKind == 3) = false := by simpa using hk3
      go_wp2_with fail
      go_ret2
      exact ⟨by rw [hv.out.1, hv.out.2]; rfl, Below.drew ((Below.refl _ _).alloc (Nat.le_refl _) _)⟩
    · by_cases hk0 : ((kidsOf e.vTree).length : Int) = 0
      · have hkn : Hid ((kidsOf e.vTree).length = 0) := by show _ = _; omega
        have hkb : (((kidsOf e.vTree).length : Int) == 0) = true := by simpa using hk0
        clear hk0
        go_upto_region 1 with fail
        refine wp_region_held_drew (S := fun w' => w'.cell? ⟨w.heap.size, 2, none⟩ = some (.string e.vTag) ∧ w'.cell? ⟨w.heap.size, 3, none⟩ = some (.string (strT e.vTree)) ∧ w'.cell? ⟨w.heap.size, 4, none⟩ = some (.slice a (kidsOf e.vTree).length c)) (by kernel_rfl) ⟨bx.out.cell 2 rfl, bx.out.cell 3 rfl, bx.out.cell 4 rfl⟩ (fun hHeld => ?_)
        refine tq (i := 0) (d := 6) ?_
        simp only [sz, ss]
        refine tq (i := 1) (d := 7) ?_
        simp only [sz, ss]
        refine tq (i := 2) (d := 8) ?_
        simp only [sz, ss]
        refine tq (i := 3) (d := 9) ?_
        simp only [sz, ss]
        refine tq (i := 4) (d := 10) ?_
        simp only [sz, ss]
        refine tq (i := 5) (d := 11) ?_
        simp only [sz, ss]
        refine tq (i := 6) (d := 12) ?_
        simp only [sz, ss]
        refine tq (i := 7) (d := 13) ?_
        simp only [sz, ss]
        refine tq (i := 8) (d := 14) ?_
        simp only [sz, ss]
        refine tq (i := 9) (d := 15) ?_
        simp only [sz, ss]
        refine tq (i := 10) (d := 16) ?_
        simp only [sz, ss]
        refine tq (i := 11) (d := 17) ?_
        simp only [sz, ss]
        refine tq (i := 12) (d := 18) ?_
        simp only [sz, ss]
        refine tq (i := 13) (d := 19) ?_
        simp only [sz, ss]
        refine tq (i := 14) (d := 4) ?_
        simp only [sz, ss]
        refine tq (i := 15) (d := 5) ?_
        simp only [sz, ss]
        refine wpAnyH_done (by kernel_rfl) ?_ _
        by_cases hk1 : e.vKind = 1
        · rw [hk1] at c0
          have hv : Hid (chV e (.slice ap e.vPath.length cp) (.slice a (kidsOf e.vTree).length c) = .iface 90 (.agg #[.slice ap e.vPath.length cp, .string (strT e.vTree), .slice a (kidsOf e.vTree).length c]) ∧ chB e = false) := by show _ ∧ _; simp [chV, chB, hk1, q1]
          go_wp2_with fail
          go_ret2
          exact ⟨by rw [hv.out.1, hv.out.2]; rfl, Below.drew ((Below.refl _ _).alloc (Nat.le_refl _) _)⟩
        by_cases hk2 : e.vKind = 2
        · rw [hk2] at c0
          have hv : Hid (chV e (.slice ap e.vPath.length cp) (.slice a (kidsOf e.vTree).length c) = .iface 88 (.agg #[.slice ap e.vPath.length cp]) ∧ chB e = false) := by show _ ∧ _; simp [chV, chB, hk2, q1]
          go_wp2_with fail
          go_ret2
          exact ⟨by rw [hv.out.1, hv.out.2]; rfl, Below.drew ((Below.refl _ _).alloc (Nat.le_refl _) _)⟩
        by_cases hk3 : e.vKind = 3
        · rw [hk3] at c0
          have hv : Hid (chV e (.slice ap e.vPath.length cp) (.slice a (kidsOf e.vTree).length c) = .iface 85 (.agg #[.slice ap e.vPath.length cp, .string e.vTag]) ∧ chB e = true) := by show _ ∧ _; simp [chV, chB, hk3, emT, q2, hkn.out]
          go_wp2_with fail
          go_ret2
          exact ⟨by rw [hv.out.1, hv.out.2]; rfl, Below.drew ((Below.refl _ _).alloc (Nat.le_refl _) _)⟩
        have hv : Hid (chV e (.slice ap e.vPath.length cp) (.slice a (kidsOf e.vTree).length c) = .nilIface ∧ chB e = false) := by show _ ∧ _; simp [chV, chB, hk1, hk2, hk3]
        have g1 : (e.vKind == 1) = false := by simpa using hk1
        have g2 : (e.vKind == 2) = false := by simpa using hk2
        have g3 : (e.vKind == 3) = false := by simpa using hk3
        go_wp2_with fail
        go_ret2
        exact ⟨by rw [hv.out.1, hv.out.2]; rfl, Below.drew ((Below.refl _ _).alloc (Nat.le_refl _) _)⟩
      · have hkn : ¬ (kidsOf e.vTree).length = 0 := by omega
        have hkb : (((kidsOf e.vTree).length : Int) == 0) = false := by simpa using hk0
        go_upto_region 1 with fail
        refine wp_region_held_drew (S := fun w' => w'.cell? ⟨w.heap.size, 2, none⟩ = some (.string e.vTag) ∧ w'.cell? ⟨w.heap.size, 3, none⟩ = some (.string (strT e.vTree)) ∧ w'.cell? ⟨w.heap.size, 4, none⟩ = some (.slice a (kidsOf e.vTree).length c)) (by kernel_rfl) ⟨bx.out.cell 2 rfl, bx.out.cell 3 rfl, bx.out.cell 4 rfl⟩ (fun hHeld => ?_)
        refine tq (i := 0) (d := 6) ?_
        simp only [sz, ss]
        refine tq (i := 1) (d := 7) ?_
        simp only [sz, ss]
        refine tq (i := 2) (d := 8) ?_
        simp only [sz, ss]
        refine tq (i := 3) (d := 9) ?_
        simp only [sz, ss]
        refine tq (i := 4) (d := 10) ?_
        simp only [sz, ss]
        refine tq (i := 5) (d := 11) ?_
        simp only [sz, ss]
        refine tq (i := 6) (d := 12) ?_
        simp only [sz, ss]
        refine tq (i := 7) (d := 13) ?_
        simp only [sz, ss]
        refine tq (i := 8) (d := 14) ?_
        simp only [sz, ss]
        refine tq (i := 9) (d := 15) ?_
        simp only [sz, ss]
        refine tq (i := 10) (d := 16) ?_
        simp only [sz, ss]
        refine tq (i := 11) (d := 17) ?_
        simp only [sz, ss]
        refine tq (i := 12) (d := 18) ?_
        simp only [sz, ss]
        refine tq (i := 13) (d := 19) ?_
        simp only [sz, ss]
        refine tq (i := 14) (d := 4) ?_
        simp only [sz, ss]
        refine tq (i := 15) (d := 5) ?_
        simp only [sz, ss]
        refine wpAnyH_done (by kernel_rfl) ?_ _
        by_cases hk1 : e.vKind = 1
        · rw [hk1] at c0
          have hv : Hid (chV e (.slice ap e.vPath.length cp) (.slice a (kidsOf e.vTree).length c) = .iface 90 (.agg #[.slice ap e.vPath.length cp, .string (strT e.vTree), .slice a (kidsOf e.vTree).length c]) ∧ chB e = false) := by show _ ∧ _; simp [chV, chB, hk1, q1]
          go_wp2_with fail
          go_ret2
          exact ⟨by rw [hv.out.1, hv.out.2]; rfl, Below.drew ((Below.refl _ _).alloc (Nat.le_refl _) _)⟩
        by_cases hk2 : e.vKind = 2
        · rw [hk2] at c0
          have hv : Hid (chV e (.slice ap e.vPath.length cp) (.slice a (kidsOf e.vTree).length c) = .iface 88 (.agg #[.slice ap e.vPath.length cp]) ∧ chB e = false) := by show _ ∧ _; simp [chV, chB, hk2, q1]
          go_wp2_with fail
          go_ret2
          exact ⟨by rw [hv.out.1, hv.out.2]; rfl, Below.drew ((Below.refl _ _).alloc (Nat.le_refl _) _)⟩
        by_cases hk3 : e.vKind = 3
        · rw [hk3] at c0
          have hv : Hid (chV e (.slice ap e.vPath.length cp) (.slice a (kidsOf e.vTree).length c) = .iface 85 (.agg #[.slice ap e.vPath.length cp, .string e.vTag]) ∧ chB e = false) := by show _ ∧ _; simp [chV, chB, hk3, emT, q2, hkn]
          go_wp2_with fail
          go_ret2
          exact ⟨by rw [hv.out.1, hv.out.2]; rfl, Below.drew ((Below.refl _ _).alloc (Nat.le_refl _) _)⟩
        have hv : Hid (chV e (.slice ap e.vPath.length cp) (.slice a (kidsOf e.vTree).length c) = .nilIface ∧ chB e = false) := by show _ ∧ _; simp [chV, chB, hk1, hk2, hk3]
        have g1 : (e.vKind == 1) = false := by simpa using hk1
        have g2 : (e.vKind == 2) = false := by simpa using hk2
        have g3 : (e.vKind == 3) = false := by simpa using hk3
        go_wp2_with fail
        go_ret2
        exact ⟨by rw [hv.out.1, hv.out.2]; rfl, Below.drew ((Below.refl _ _).alloc (Nat.le_refl _) _)⟩
  · rcases em_or (strT e.vTree) with ⟨q2, q2a, q2b⟩ | ⟨q2, q2a, q2b⟩
    · go_upto_region 1 with fail
      refine wp_region_held_drew (S := fun w' => w'.cell? ⟨w.heap.size, 2, none⟩ = some (.string e.vTag) ∧ w'.cell? ⟨w.heap.size, 3, none⟩ = some (.string (strT e.vTree)) ∧ w'.cell? ⟨w.heap.size, 4, none⟩ = some (.slice a (kidsOf e.vTree).length c)) (by kernel_rfl) ⟨bx.out.cell 2 rfl, bx.out.cell 3 rfl, bx.out.cell 4 rfl⟩ (fun hHeld => ?_)
      refine tq (i := 0) (d := 6) ?_
      simp only [sz, ss]
      refine tq (i := 1) (d := 7) ?_
      simp only [sz, ss]
      refine tq (i := 2) (d := 8) ?_
      simp only [sz, ss]
      refine tq (i := 3) (d := 9) ?_
      simp only [sz, ss]
      refine tq (i := 4) (d := 10) ?_
      simp only [sz, ss]
      refine tq (i := 5) (d := 11) ?_
      simp only [sz, ss]
      refine tq (i := 6) (d := 12) ?_
      simp only [sz, ss]
      refine tq (i := 7) (d := 13) ?_
      simp only [sz, ss]
      refine tn (i := 8) (d := 14) ?_
      simp only [sz, ss]
      refine tn (i := 9) (d := 15) ?_
      simp only [sz, ss]
      refine tn (i := 10) (d := 16) ?_
      simp only [sz, ss]
      refine tn (i := 11) (d := 17) ?_
      simp only [sz, ss]
      refine tn (i := 12) (d := 18) ?_
      simp only [sz, ss]
      refine tq (i := 13) (d := 19) ?_
      simp only [sz, ss]
      refine tq (i := 14) (d := 4) ?_
      simp only [sz, ss]
      refine tq (i := 15) (d := 5) ?_
      simp only [sz, ss]
      refine wpAnyH_done (by kernel_rfl) ?_ _
      by_cases hk1 : e.vKind = 1
      · rw [hk1] at c0
        have hv : Hid (chV e (.slice ap e.vPath.length cp) (.slice a (kidsOf e.vTree).length c) = .iface 90 (.agg #[.slice ap e.vPath.length cp, .string (strT e.vTree), .slice a (kidsOf e.vTree).length c]) ∧ chB e = true) := by show _ ∧ _; simp [chV, chB, hk1, q1]
        go_wp2_with fail
        go_ret2
        exact ⟨by rw [hv.out.1, hv.out.2]; rfl, Below.drew ((Below.refl _ _).alloc (Nat.le_refl _) _)⟩
      by_cases hk2 : e.vKind = 2
      · rw [hk2] at c0
        have hv : Hid (chV e (.slice ap e.vPath.length cp) (.slice a (kidsOf e.vTree).length c) = .iface 88 (.agg #[.slice ap e.vPath.length cp]) ∧ chB e = false) := by show _ ∧ _; simp [chV, chB, hk2, q1, emT, q2]
        go_wp2_with fail
        go_ret2
        exact ⟨by rw [hv.out.1, hv.out.2]; rfl, Below.drew ((Below.refl _ _).alloc (Nat.le_refl _) _)⟩
      by_cases hk3 : e.vKind = 3
      · rw [hk3] at c0
        have hv : Hid (chV e (.slice ap e.vPath.length cp) (.slice a (kidsOf e.vTree).length c) = .iface 85 (.agg #[.slice ap e.vPath.length cp, .string e.vTag]) ∧ chB e = false) := by show _ ∧ _; simp [chV, chB, hk3, emT, q2]
        go_wp2_with fail
        go_ret2
        exact ⟨by rw [hv.out.1, hv.out.2]; rfl, Below.drew ((Below.refl _ _).alloc (Nat.le_refl _) _)⟩
      have hv : Hid (chV e (.slice ap e.vPath.length cp) (.slice a (kidsOf e.vTree).length c) = .nilIface ∧ chB e = false) := by show _ ∧ _; simp [chV, chB, hk1, hk2, hk3]
      have g1 : (e.vKind == 1) = false := by simpa using hk1
      have g2 : (e.vKind == 2) = false := by simpa using hk2
      have g3 : (e.vKind == 3) = false := by simpa using hk3
      go_wp2_with fail
      go_ret2
      exact ⟨by rw [hv.out.1, hv.out.2]; rfl, Below.drew ((Below.refl _ _).alloc (Nat.le_refl _) _)⟩
    · by_cases hk0 : ((kidsOf e.vTree).length : Int) = 0
      · have hkn : Hid ((kidsOf e.vTree).length = 0) := by show _ = _; omega
        have hkb : (((kidsOf e.vTree).length : Int) == 0) = true := by simpa using hk0
        clear hk0
        go_upto_region 1 with fail
        refine wp_region_held_drew (S := fun w' => w'.cell? ⟨w.heap.size, 2, none⟩ = some (.string e.vTag) ∧ w'.cell? ⟨w.heap.size, 3, none⟩ = some (.string (strT e.vTree)) ∧ w'.cell? ⟨w.heap.size, 4, none⟩ = some (.slice a (kidsOf e.vTree).length c)) (by kernel_rfl) ⟨bx.out.cell 2 rfl, bx.out.cell 3 rfl, bx.out.cell 4 rfl⟩ (fun hHeld => ?_)
        refine tq (i := 0) (d := 6) ?_
        simp only [sz, ss]
        refine tq (i := 1) (d := 7) ?_
        simp only [sz, ss]
        refine tq (i := 2) (d := 8) ?_
        simp only [sz, ss]
        refine tq (i := 3) (d := 9) ?_
        simp only [sz, ss]
        refine tq (i := 4) (d := 10) ?_
        simp only [sz, ss]
        refine tq (i := 5) (d := 11) ?_
        simp only [sz, ss]
        refine tq (i := 6) (d := 12) ?_
        simp only [sz, ss]
        refine tq (i := 7) (d := 13) ?_
        simp only [sz, ss]
        refine tq (i := 8) (d := 14) ?_
        simp only [sz, ss]
        refine tq (i := 9) (d := 15) ?_
        simp only [sz, ss]
        refine tq (i := 10) (d := 16) ?_
        simp only [sz, ss]
        refine tq (i := 11) (d := 17) ?_
        simp only [sz, ss]
        refine tq (i := 12) (d := 18) ?_
        simp only [sz, ss]
        refine tq (i := 13) (d := 19) ?_
        simp only [sz, ss]
        refine tq (i := 14) (d := 4) ?_
        simp only [sz, ss]
        refine tq (i := 15) (d := 5) ?_
        simp only [sz, ss]
        refine wpAnyH_done (by kernel_rfl) ?_ _
        by_cases hk1 : e.vKind = 1
        · rw [hk1] at c0
          have hv : Hid (chV e (.slice ap e.vPath.length cp) (.slice a (kidsOf e.vTree).length c) = .iface 90 (.agg #[.slice ap e.vPath.length cp, .string (strT e.vTree), .slice a (kidsOf e.vTree).length c]) ∧ chB e = true) := by show _ ∧ _; simp [chV, chB, hk1, q1]
          go_wp2_with fail
          go_ret2
          exact ⟨by rw [hv.out.1, hv.out.2]; rfl, Below.drew ((Below.refl _ _).alloc (Nat.le_refl _) _)⟩
        by_cases hk2 : e.vKind = 2
        · rw [hk2] at c0
          have hv : Hid (chV e (.slice ap e.vPath.length cp) (.slice a (kidsOf e.vTree).length c) = .iface 88 (.agg #[.slice ap e.vPath.length cp]) ∧ chB e = true) := by show _ ∧ _; simp [chV, chB, hk2, q1, emT, q2, hkn.out]
          go_wp2_with fail
          go_ret2
          exact ⟨by rw [hv.out.1, hv.out.2]; rfl, Below.drew ((Below.refl _ _).alloc (Nat.le_refl _) _)⟩
        by_cases hk3 : e.vKind = 3
        · rw [hk3] at c0
          have hv : Hid (chV e (.slice ap e.vPath.length cp) (.slice a (kidsOf e.vTree).length c) = .iface 85 (.agg #[.slice ap e.vPath.length cp, .string e.vTag]) ∧ chB e = true) := by show _ ∧ _; simp [chV, chB, hk3, emT, q2, hkn.out]
          go_wp2_with fail
          go_ret2
          exact ⟨by rw [hv.out.1, hv.out.2]; rfl, Below.drew ((Below.refl _ _).alloc (Nat.le_refl _) _)⟩
        have hv : Hid (chV e (.slice ap e.vPath.length cp) (.slice a (kidsOf e.vTree).length c) = .nilIface ∧ chB e = false) := by show _ ∧ _; simp [chV, chB, hk1, hk2, hk3]
        have g1 : (e.vKind == 1) = false := by simpa using hk1
        have g2 : (e.vKind == 2) = false := by simpa using hk2
        have g3 : (e.vKind == 3) = false := by simpa using hk3
        go_wp2_with fail
        go_ret2
        exact ⟨by rw [hv.out.1, hv.out.2]; rfl, Below.drew ((Below.refl _ _).alloc (Nat.le_refl _) _)⟩
      · have hkn : ¬ (kidsOf e.vTree).length = 0 := by omega
        have hkb : (((kidsOf e.vTree).length : Int) == 0) = false := by simpa using hk0
        go_upto_region 1 with fail
        refine wp_region_held_drew (S := fun w' => w'.cell? ⟨w.heap.size, 2, none⟩ = some (.string e.vTag) ∧ w'.cell? ⟨w.heap.size, 3, none⟩ = some (.string (strT e.vTree)) ∧ w'.cell? ⟨w.heap.size, 4, none⟩ = some (.slice a (kidsOf e.vTree).length c)) (by kernel_rfl) ⟨bx.out.cell 2 rfl, bx.out.cell 3 rfl, bx.out.cell 4 rfl⟩ (fun hHeld => ?_)
        refine tq (i := 0) (d := 6) ?_
        simp only [sz, ss]
        refine tq (i := 1) (d := 7) ?_
        simp only [sz, ss]
        refine tq (i := 2) (d := 8) ?_
        simp only [sz, ss]
        refine tq (i := 3) (d := 9) ?_
        simp only [sz, ss]
        refine tq (i := 4) (d := 10) ?_
        simp only [sz, ss]
        refine tq (i := 5) (d := 11) ?_
        simp only [sz, ss]
        refine tq (i := 6) (d := 12) ?_
        simp only [sz, ss]
        refine tq (i := 7) (d := 13) ?_
        simp only [sz, ss]
        refine tq (i := 8) (d := 14) ?_
        simp only [sz, ss]
        refine tq (i := 9) (d := 15) ?_
        simp only [sz, ss]
        refine tq (i := 10) (d := 16) ?_
        simp only [sz, ss]
        refine tq (i := 11) (d := 17) ?_
        simp only [sz, ss]
        refine tq (i := 12) (d := 18) ?_
        simp only [sz, ss]
        refine tq (i := 13) (d := 19) ?_
        simp only [sz, ss]
        refine tq (i := 14) (d := 4) ?_
        simp only [sz, ss]
        refine tq (i := 15) (d := 5) ?_
        simp only [sz, ss]
        refine wpAnyH_done (by kernel_rfl) ?_ _
        by_cases hk1 : e.vKind = 1
        · rw [hk1] at c0
          have hv : Hid (chV e (.slice ap e.vPath.length cp) (.slice a (kidsOf e.vTree).length c) = .iface 90 (.agg #[.slice ap e.vPath.length cp, .string (strT e.vTree), .slice a (kidsOf e.vTree).length c]) ∧ chB e = true) := by show _ ∧ _; simp [chV, chB, hk1, q1]
          go_wp2_with fail
          go_ret2
          exact ⟨by rw [hv.out.1, hv.out.2]; rfl, Below.drew ((Below.refl _ _).alloc (Nat.le_refl _) _)⟩
        by_cases hk2 : e.vKind = 2
        · rw [hk2] at c0
          have hv : Hid (chV e (.slice ap e.vPath.length cp) (.slice a (kidsOf e.vTree).length c) = .iface 88 (.agg #[.slice ap e.vPath.length cp]) ∧ chB e = false) := by show _ ∧ _; simp [chV, chB, hk2, q1, emT, q2, hkn]
          go_wp2_with fail
          go_ret2
          exact ⟨by rw [hv.out.1, hv.out.2]; rfl, Below.drew ((Below.refl _ _).alloc (Nat.le_refl _) _)⟩
        by_cases hk3 : e.vKind = 3
        · rw [hk3] at c0
          have hv : Hid (chV e (.slice ap e.vPath.length cp) (.slice a (kidsOf e.vTree).length c) = .iface 85 (.agg #[.slice ap e.vPath.length cp, .string e.vTag]) ∧ chB e = false) := by show _ ∧ _; simp [chV, chB, hk3, emT, q2, hkn]
          go_wp2_with fail
          go_ret2
          exact ⟨by rw [hv.out.1, hv.out.2]; rfl, Below.drew ((Below.refl _ _).alloc (Nat.le_refl _) _)⟩
        have hv : Hid (chV e (.slice ap e.vPath.length cp) (.slice a (kidsOf e.vTree).length c) = .nilIface ∧ chB e = false) := by show _ ∧ _; simp [chV, chB, hk1, hk2, hk3]
        have g1 : (e.vKind == 1) = false := by simpa using hk1
        have g2 : (e.vKind == 2) = false := by simpa using hk2
        have g3 : (e.vKind == 3) = false := by simpa using hk3
        go_wp2_with fail
        go_ret2
        exact ⟨by rw [hv.out.1, hv.out.2]; rfl, Below.drew ((Below.refl _ _).alloc (Nat.le_refl _) _)⟩
end Go.Proofs.Ytndffcogddefiaa
namespace Go.Proofs.Ytndffcogddefiaa
open Go.RowKit Go.Deep
set_option maxRecDepth 100000 in
set_option maxHeartbeats 4000000 in
theorem rightIns_any {n lo : Nat} {w : World} {ap a : Option Addr} {cp c : Nat} {path : List Int} {x : TD} (hm : path.length ≤ maxLen) (ht0 : TreeAt w lo n (.string (strT x)) (.slice a (kidsOf x).length c) x) :
    Calls Try.prog 101 #[.agg #[.slice ap path.length cp, .string (strT x), .slice a (kidsOf x).length c]] w fun e1 w' => e1 = .returned (.bool (decide (0 < path.length) && treeB x)) ∧ Below w.heap.size w w' := by
  unfold maxLen at hm
  have hb0 : Hid (Below w.heap.size w (w.alloc (.cells #[.slice ap path.length cp, .string (strT x), .slice a (kidsOf x).length c] 90))) := (Below.refl _ _).alloc (Nat.le_refl _) _
  have bx : Hid (Box (w.alloc (.cells #[.slice ap path.length cp, .string (strT x), .slice a (kidsOf x).length c] 90)) w.heap.size [.slice ap path.length cp, .string (strT x), .slice a (kidsOf x).length c] 90) := Box.new w _ _
  have c0 := bx.out.cell 0 rfl
  have c1 := bx.out.cell 1 rfl
  have c2 := bx.out.cell 2 rfl
  have ht : Hid (TreeAt (w.alloc (.cells #[.slice ap path.length cp, .string (strT x), .slice a (kidsOf x).length c] 90)) lo n (.string (strT x)) (.slice a (kidsOf x).length c) x) := ht0.below hb0.out
  clear ht0
  go_enter Try.func101, Try.ntmps101
  by_cases h0 : 0 < (path.length : Int)
  · have h1 : Hid (0 < path.length) := by show _ < _; omega
    go_wp2_with fail
    refine (implOk_any ht.out).mono ?_
    rintro e1 w1 ⟨rfl, hb1⟩
    have hB1 : Hid (Below w.heap.size w w1) := hb0.out.trans (hb1.mono hb0.out.size)
    clear hb1
    go_wp2_with fail
    go_ret
    exact ⟨by simp [h1.out], hB1.out⟩
  · have h1 : Hid (¬ 0 < path.length) := by show ¬ _; omega
    go_wp2_with fail
    go_ret
    exact ⟨by simp, hb0.out⟩
set_option maxRecDepth 100000 in
set_option maxHeartbeats 4000000 in
theorem rightDel_any {w : World} {ap : Option Addr} {cp : Nat} {path : List Int} (hm : path.length ≤ maxLen) :
    Calls Try.prog 100 #[.agg #[.slice ap path.length cp]] w fun e1 w' => e1 = .returned (.bool (decide (0 < path.length))) ∧ Below w.heap.size w w' := by
  unfold maxLen at hm
  have hb0 : Hid (Below w.heap.size w (w.alloc (.cells #[.slice ap path.length cp] 88))) := (Below.refl _ _).alloc (Nat.le_refl _) _
  have bx : Hid (Box (w.alloc (.cells #[.slice ap path.length cp] 88)) w.heap.size [.slice ap path.length cp] 88) := Box.new w _ _
  have c0 := bx.out.cell 0 rfl
  go_enter Try.func100, Try.ntmps100
  by_cases h0 : 0 < (path.length : Int)
  · have h1 : Hid (0 < path.length) := by show _ < _; omega
    go_wp2_with fail
    go_ret
    exact ⟨by simp [h1.out], hb0.out⟩
  · have h1 : Hid (¬ 0 < path.length) := by show ¬ _; omega
    go_wp2_with fail
    go_ret
    exact ⟨by simp [h1.out], hb0.out⟩
set_option maxRecDepth 100000 in
set_option maxHeartbeats 4000000 in
theorem rightRen_any {w : World} {kp : Value} {tag : ByteArray} (hm : tag.size ≤ maxLen) :
    Calls Try.prog 99 #[.agg #[kp, .string tag]] w fun e1 w' => e1 = .returned (.bool (nameB tag.data.toList)) ∧ Below w.heap.size w w' := by
  have hm' : Hid (tag.size ≤ maxLen) := hm
  clear hm
  have hb0 : Hid (Below w.heap.size w (w.alloc (.cells #[kp, .string tag] 85))) := (Below.refl _ _).alloc (Nat.le_refl _) _
  have bx : Hid (Box (w.alloc (.cells #[kp, .string tag] 85)) w.heap.size [kp, .string tag] 85) := Box.new w _ _
  have c1 := bx.out.cell 1 rfl
  go_enter Try.func99, Try.ntmps99
  go_wp2_with fail
  refine (implNameOk_any _ _ hm'.out).mono ?_
  rintro e1 w1 ⟨rfl, hw1⟩
  have hw2 := hw1.symm
  subst hw2
  clear hw1
  go_wp2_with fail
  go_ret
  exact ⟨rfl, hb0.out⟩
set_option maxRecDepth 100000 in
set_option maxHeartbeats 8000000 in
theorem rightChange_any {n lo : Nat} {w : World} {ap a : Option Addr} {cp c : Nat} {e : EditD} (h : EditAt n w lo [.int .i64 e.vKind, .slice ap e.vPath.length cp, .string e.vTag, .string (strT e.vTree), .slice a (kidsOf e.vTree).length c] e) :
    Calls Try.prog 49 #[.agg #[.int .i64 e.vKind, .slice ap e.vPath.length cp, .string e.vTag, .string (strT e.vTree), .slice a (kidsOf e.vTree).length c]] w fun e1 w' => e1 = .returned (.tuple #[chV e (.slice ap e.vPath.length cp) (.slice a (kidsOf e.vTree).length c), .bool (formB e)]) ∧ Below w.heap.size w w' := by
  obtain ⟨kp, t, k, ee, _, hp0, htg0, ht0⟩ := h
  simp only [List.cons.injEq, and_true, true_and] at ee
  obtain ⟨e1, e2, e3⟩ := ee
  subst e1 e2 e3
  have hpl : Hid (e.vPath.length ≤ maxLen) := by obtain ⟨_, _, _, hm, _⟩ := hp0; exact hm.1
  have htg : Hid (e.vTag.size ≤ maxLen) := htg0
  have hb0 : Hid (Below w.heap.size w (w.alloc (.cells #[.int .i64 e.vKind, .slice ap e.vPath.length cp, .string e.vTag, .string (strT e.vTree), .slice a (kidsOf e.vTree).length c] 29))) := (Below.refl _ _).alloc (Nat.le_refl _) _
  have bx : Hid (Box (w.alloc (.cells #[.int .i64 e.vKind, .slice ap e.vPath.length cp, .string e.vTag, .string (strT e.vTree), .slice a (kidsOf e.vTree).length c] 29)) w.heap.size [.int .i64 e.vKind, .slice ap e.vPath.length cp, .string e.vTag, .string (strT e.vTree), .slice a (kidsOf e.vTree).length c] 29) := Box.new w _ _
  have ht : Hid (TreeAt w lo n (.string (strT e.vTree)) (.slice a (kidsOf e.vTree).length c) e.vTree) := ht0
  clear hp0 htg0 ht0
  have c0 := bx.out.cell 0 rfl
  have c1 := bx.out.cell 1 rfl
  have c2 := bx.out.cell 2 rfl
  have c3 := bx.out.cell 3 rfl
  have c4 := bx.out.cell 4 rfl
  go_enter Try.func49, Try.ntmps49
  go_wp2_with fail
  refine (changeOf_any).mono ?_
  rintro e1 w1 ⟨rfl, hb1⟩
  have hB1 : Hid (Below w.heap.size w w1) := hb0.out.trans (hb1.mono hb0.out.size)
  clear hb1 c0 c1 c2 c3 c4 bx
  by_cases hk1 : e.vKind = 1
  · have hcv : chV e (.slice ap e.vPath.length cp) (.slice a (kidsOf e.vTree).length c) = .iface 90 (.agg #[.slice ap e.vPath.length cp, .string (strT e.vTree), .slice a (kidsOf e.vTree).length c]) := by simp [chV, hk1]
    have hcb : chB e = emS e.vTag := by simp [chB, hk1]
    rw [hcv, hcb]
    rcases em_or e.vTag with ⟨q1, _, _⟩ | ⟨q1, _, _⟩
    · rw [q1]
      have hv : Hid (formB e = false) := by show _ = _; simp [formB, hk1, q1]
      go_wp2_with fail
      go_ret2
      exact ⟨by rw [hcv, hv.out]; rfl, hB1.out⟩
    · rw [q1]
      have hv : Hid (formB e = (decide (0 < e.vPath.length) && treeB e.vTree)) := by show _ = _; simp [formB, hk1, q1]
      go_wp2_with fail
      refine (rightIns_any hpl.out (ht.out.below hB1.out)).mono ?_
      rintro e2 w2 ⟨rfl, hb2⟩
      have hB2 : Hid (Below w.heap.size w w2) := hB1.out.trans (hb2.mono hB1.out.size)
      clear hb2
      go_wp2_with fail
      go_ret2
      exact ⟨by rw [hcv, hv.out]; rfl, hB2.out⟩
  by_cases hk2 : e.vKind = 2
  · have hcv : chV e (.slice ap e.vPath.length cp) (.slice a (kidsOf e.vTree).length c) = .iface 88 (.agg #[.slice ap e.vPath.length cp]) := by simp [chV, hk2]
    have hcb : chB e = (emS e.vTag && emT e.vTree) := by simp [chB, hk2]
    rw [hcv, hcb]
    cases q1 : emS e.vTag
    · simp only [Bool.false_and]
      have hv : Hid (formB e = false) := by show _ = _; simp [formB, hk2, q1]
      go_wp2_with fail
      go_ret2
      exact ⟨by rw [hcv, hv.out]; rfl, hB1.out⟩
    · cases q2 : emT e.vTree
      · simp only [Bool.true_and]
        have hv : Hid (formB e = false) := by show _ = _; simp [formB, hk2, q1, q2]
        go_wp2_with fail
        go_ret2
        exact ⟨by rw [hcv, hv.out]; rfl, hB1.out⟩
      · simp only [Bool.true_and]
        have hv : Hid (formB e = (decide (0 < e.vPath.length))) := by show _ = _; simp [formB, hk2, q1, q2]
        go_wp2_with fail
        refine (rightDel_any hpl.out).mono ?_
        rintro e2 w2 ⟨rfl, hb2⟩
        have hB2 : Hid (Below w.heap.size w w2) := hB1.out.trans (hb2.mono hB1.out.size)
        clear hb2
        go_wp2_with fail
        go_ret2
        exact ⟨by rw [hcv, hv.out]; rfl, hB2.out⟩
  by_cases hk3 : e.vKind = 3
  · have hcv : chV e (.slice ap e.vPath.length cp) (.slice a (kidsOf e.vTree).length c) = .iface 85 (.agg #[.slice ap e.vPath.length cp, .string e.vTag]) := by simp [chV, hk3]
    have hcb : chB e = emT e.vTree := by simp [chB, hk3]
    rw [hcv, hcb]
    cases q2 : emT e.vTree
    · have hv : Hid (formB e = false) := by show _ = _; simp [formB, hk3, q2]
      go_wp2_with fail
      go_ret2
      exact ⟨by rw [hcv, hv.out]; rfl, hB1.out⟩
    · have hv : Hid (formB e = (nameB e.vTag.data.toList)) := by show _ = _; simp [formB, hk3, q2]
      go_wp2_with fail
      refine (rightRen_any htg.out).mono ?_
      rintro e2 w2 ⟨rfl, hb2⟩
      have hB2 : Hid (Below w.heap.size w w2) := hB1.out.trans (hb2.mono hB1.out.size)
      clear hb2
      go_wp2_with fail
      go_ret2
      exact ⟨by rw [hcv, hv.out]; rfl, hB2.out⟩
  have hcv : chV e (.slice ap e.vPath.length cp) (.slice a (kidsOf e.vTree).length c) = .nilIface := by simp [chV, hk1, hk2, hk3]
  have hcb : chB e = false := by simp [chB, hk1, hk2, hk3]
  rw [hcv, hcb]
  have hv : Hid (formB e = false) := by show _ = _; simp [formB, hk1, hk2, hk3]
  go_wp2_with fail
  go_ret2
  exact ⟨by rw [hcv, hv.out]; rfl, hB1.out⟩
end Go.Proofs.Ytndffcogddefiaa
