/- changeOf of the program: walked. -/
import Derived.Test.YtfncmndgdomjiaaEdRec
import Derived.Test.YtfncmndgdomjiaaTakeLit
import Derived.Deep.RegionHeld3
import Derived.Deep.DeepCutAuto
namespace Go.Proofs.Ytfncmndgdomjiaa
open Go.RowKit Go.Deep
/-- the change that an edit is, as its kind has it -/
def chV (e : EditD) (kp kx : Value) : Value := if e.vKind = 1 then .iface 94 (.agg #[kp, .string (strT e.vTree), kx]) else if e.vKind = 2 then .iface 92 (.agg #[kp]) else if e.vKind = 3 then .iface 89 (.agg #[kp, .string e.vTag]) else .nilIface
/-- has it nothing that its kind does not name? -/
def chB (e : EditD) : Bool := if e.vKind = 1 then emS e.vTag else if e.vKind = 2 then emS e.vTag && emT e.vTree else if e.vKind = 3 then emT e.vTree else false
set_option maxRecDepth 100000 in
set_option maxHeartbeats 8000000 in
theorem changeOf_any {w : World} {ap a : Option Addr} {cp c : Nat} {e : EditD} :
    Calls Try.prog 67 #[.agg #[.int .i64 e.vKind, .slice ap e.vPath.length cp, .string e.vTag, .string (strT e.vTree), .slice a (kidsOf e.vTree).length c]] w fun e1 w' => e1 = .returned (.tuple #[chV e (.slice ap e.vPath.length cp) (.slice a (kidsOf e.vTree).length c), .bool (chB e)]) ∧ Below w.heap.size w w' := by
  have bx : Hid (Box (w.alloc (.cells #[.int .i64 e.vKind, .slice ap e.vPath.length cp, .string e.vTag, .string (strT e.vTree), .slice a (kidsOf e.vTree).length c] 36)) w.heap.size [.int .i64 e.vKind, .slice ap e.vPath.length cp, .string e.vTag, .string (strT e.vTree), .slice a (kidsOf e.vTree).length c] 36) := Box.new w _ _
  have c0 := bx.out.cell 0 rfl
  have c1 := bx.out.cell 1 rfl
  have c2 := bx.out.cell 2 rfl
  have c3 := bx.out.cell 3 rfl
  have c4 := bx.out.cell 4 rfl
  go_enter Try.func67, Try.ntmps67
  rcases em_or e.vTag with ⟨q1, q1a, q1b⟩ | ⟨q1, q1a, q1b⟩
  · rcases em_or (strT e.vTree) with ⟨q2, q2a, q2b⟩ | ⟨q2, q2a, q2b⟩
    · go_upto_region 1 with fail
      refine wp_region_held_drew (S := fun w' => w'.cell? ⟨w.heap.size, 2, none⟩ = some (.string e.vTag) ∧ w'.cell? ⟨w.heap.size, 3, none⟩ = some (.string (strT e.vTree)) ∧ w'.cell? ⟨w.heap.size, 4, none⟩ = some (.slice a (kidsOf e.vTree).length c)) (by kernel_rfl) ⟨bx.out.cell 2 rfl, bx.out.cell 3 rfl, bx.out.cell 4 rfl⟩ (fun hHeld => ?_)
      refine tq (i := 0) (d := 6) ?_
      simp only [sz, ss]
      refine tq (i := 1) (d := 7) ?_
      simp only [sz, ss]
      refine tq (i := 2) (d := 8) ?_
      simp only [sz, ss]
      refine tq (i := 3) (d := 9) ?_
      simp only [sz, ss]
      refine tq (i := 4) (d := 10) ?_
      simp only [sz, ss]
      refine tq (i := 5) (d := 11) ?_
      simp only [sz, ss]
      refine tq (i := 6) (d := 12) ?_
      simp only [sz, ss]
      refine tq (i := 7) (d := 13) ?_
      simp only [sz, ss]
      refine tn (i := 8) (d := 14) ?_
      simp only [sz, ss]
      refine tn (i := 9) (d := 15) ?_
      simp only [sz, ss]
      refine tn (i := 10) (d := 16) ?_
      simp only [sz, ss]
      refine tn (i := 11) (d := 17) ?_
      simp only [sz, ss]
      refine tn (i := 12) (d := 18) ?_
      simp only [sz, ss]
      refine tq (i := 13) (d := 19) ?_
      simp only [sz, ss]
      refine tq (i := 14) (d := 4) ?_
      simp only [sz, ss]
      refine tq (i := 15) (d := 5) ?_
      simp only [sz, ss]
      refine wpAnyH_done (by kernel_rfl) ?_ _
      by_cases hk1 : e.vKind = 1
      · rw [hk1] at c0
        have hv : Hid (chV e (.slice ap e.vPath.length cp) (.slice a (kidsOf e.vTree).length c) = .iface 94 (.agg #[.slice ap e.vPath.length cp, .string (strT e.vTree), .slice a (kidsOf e.vTree).length c]) ∧ chB e = false) := by show _ ∧ _; simp [chV, chB, hk1, q1]
        go_wp2_with fail
        go_ret2
        exact ⟨by rw [hv.out.1, hv.out.2]; rfl, Below.drew ((Below.refl _ _).alloc (Nat.le_refl _) _)⟩
      by_cases hk2 : e.vKind = 2
      · rw [hk2] at c0
        have hv : Hid (chV e (.slice ap e.vPath.length cp) (.slice a (kidsOf e.vTree).length c) = .iface 92 (.agg #[.slice ap e.vPath.length cp]) ∧ chB e = false) := by show _ ∧ _; simp [chV, chB, hk2, q1]
        go_wp2_with fail
        go_ret2
        exact ⟨by rw [hv.out.1, hv.out.2]; rfl, Below.drew ((Below.refl _ _).alloc (Nat.le_refl _) _)⟩
      by_cases hk3 : e.vKind = 3
      · rw [hk3] at c0
        have hv : Hid (chV e (.slice ap e.vPath.length cp) (.slice a (kidsOf e.vTree).length c) = .iface 89 (.agg #[.slice ap e.vPath.length cp, .string e.vTag]) ∧ chB e = false) := by show _ ∧ _; simp [chV, chB, hk3, emT, q2]
        go_wp2_with fail
        go_ret2
        exact ⟨by rw [hv.out.1, hv.out.2]; rfl, Below.drew ((Below.refl _ _).alloc (Nat.le_refl _) _)⟩
      have hv : Hid (chV e (.slice ap e.vPath.length cp) (.slice a (kidsOf e.vTree).length c) = .nilIface ∧ chB e = false) := by show _ ∧ _; simp [chV, chB, hk1, hk2, hk3]
      have g1 : (e.vKind == 1) = false := by simpa using hk1
      have g2 : (e.vKind == 2) = false := by simpa using hk2
      have g3 : (e.vKind == 3) = false := by simpa using hk3
      go_wp2_with fail
      go_ret2
      exact ⟨by rw [hv.out.1, hv.out.2]; rfl, Below.drew ((Below.refl _ _).alloc (Nat.le_refl _) _)⟩
    · by_cases hk0 : ((kidsOf e.vTree).length : Int) = 0
      · have hkn : Hid ((kidsOf e.vTree).length = 0) := by show _ = _; omega
        have hkb : (((kidsOf e.vTree).length : Int) == 0) = true := by simpa using hk0
        clear hk0
        go_upto_region 1 with fail
        refine wp_region_held_drew (S := fun w' => w'.cell? ⟨w.heap.size, 2, none⟩ = some (.string e.vTag) ∧ w'.cell? ⟨w.heap.size, 3, none⟩ = some (.string (strT e.vTree)) ∧ w'.cell? ⟨w.heap.size, 4, none⟩ = some (.slice a (kidsOf e.vTree).length c)) (by kernel_rfl) ⟨bx.out.cell 2 rfl, bx.out.cell 3 rfl, bx.out.cell 4 rfl⟩ (fun hHeld => ?_)
        refine tq (i := 0) (d := 6) ?_
        simp only [sz, ss]
        refine tq (i := 1) (d := 7) ?_
        simp only [sz, ss]
        refine tq (i := 2) (d := 8) ?_
        simp only [sz, ss]
        refine tq (i := 3) (d := 9) ?_
        simp only [sz, ss]
        refine tq (i := 4) (d := 10) ?_
        simp only [sz, ss]
        refine tq (i := 5) (d := 11) ?_
        simp only [sz, ss]
        refine tq (i := 6) (d := 12) ?_
        simp only [sz, ss]
        refine tq (i := 7) (d := 13) ?_
        simp only [sz, ss]
        refine tq (i := 8) (d := 14) ?_
        simp only [sz, ss]
        refine tq (i := 9) (d := 15) ?_
        simp only [sz, ss]
        refine tq (i := 10) (d := 16) ?_
        simp only [sz, ss]
        refine tq (i := 11) (d := 17) ?_
        simp only [sz, ss]
        refine tq (i := 12) (d := 18) ?_
        simp only [sz, ss]
        refine tq (i := 13) (d := 19) ?_
        simp only [sz, ss]
        refine tq (i := 14) (d := 4) ?_
        simp only [sz, ss]
        refine tq (i := 15) (d := 5) ?_
        simp only [sz, ss]
        refine wpAnyH_done (by kernel_rfl) ?_ _
        by_cases hk1 : e.vKind = 1
        · rw [hk1] at c0
          have hv : Hid (chV e (.slice ap e.vPath.length cp) (.slice a (kidsOf e.vTree).length c) = .iface 94 (.agg #[.slice ap e.vPath.length cp, .string (strT e.vTree), .slice a (kidsOf e.vTree).length c]) ∧ chB e = false) := by show _ ∧ _; simp [chV, chB, hk1, q1]
          go_wp2_with fail
          go_ret2
          exact ⟨by rw [hv.out.1, hv.out.2]; rfl, Below.drew ((Below.refl _ _).alloc (Nat.le_refl _) _)⟩
        by_cases hk2 : e.vKind = 2
        · rw [hk2] at c0
          have hv : Hid (chV e (.slice ap e.vPath.length cp) (.slice a (kidsOf e.vTree).length c) = .iface 92 (.agg #[.slice ap e.vPath.length cp]) ∧ chB e = false) := by show _ ∧ _; simp [chV, chB, hk2, q1]
          go_wp2_with fail
          go_ret2
          exact ⟨by rw [hv.out.1, hv.out.2]; rfl, Below.drew ((Below.refl _ _).alloc (Nat.le_refl _) _)⟩
        by_cases hk3 : e.vKind = 3
        · rw [hk3] at c0
          have hv : Hid (chV e (.slice ap e.vPath.length cp) (.slice a (kidsOf e.vTree).length c) = .iface 89 (.agg #[.slice ap e.vPath.length cp, .string e.vTag]) ∧ chB e = true) := by show _ ∧ _; simp [chV, chB, hk3, emT, q2, hkn.out]
          go_wp2_with fail
          go_ret2
          exact ⟨by rw [hv.out.1, hv.out.2]; rfl, Below.drew ((Below.refl _ _).alloc (Nat.le_refl _) _)⟩
        have hv : Hid (chV e (.slice ap e.vPath.length cp) (.slice a (kidsOf e.vTree).length c) = .nilIface ∧ chB e = false) := by show _ ∧ _; simp [chV, chB, hk1, hk2, hk3]
        have g1 : (e.vKind == 1) = false := by simpa using hk1
        have g2 : (e.vKind == 2) = false := by simpa using hk2
        have g3 : (e.vKind == 3) = false := by simpa using hk3
        go_wp2_with fail
        go_ret2
        exact ⟨by rw [hv.out.1, hv.out.2]; rfl, Below.drew ((Below.refl _ _).alloc (Nat.le_refl _) _)⟩
      · have hkn : ¬ (kidsOf e.vTree).length = 0 := by omega
        have hkb : (((kidsOf e.vTree).length : Int) == 0) = false := by simpa using hk0
        go_upto_region 1 with fail
        refine wp_region_held_drew (S := fun w' => w'.cell? ⟨w.heap.size, 2, none⟩ = some (.string e.vTag) ∧ w'.cell? ⟨w.heap.size, 3, none⟩ = some (.string (strT e.vTree)) ∧ w'.cell? ⟨w.heap.size, 4, none⟩ = some (.slice a (kidsOf e.vTree).length c)) (by kernel_rfl) ⟨bx.out.cell 2 rfl, bx.out.cell 3 rfl, bx.out.cell 4 rfl⟩ (fun hHeld => ?_)
        refine tq (i := 0) (d := 6) ?_
        simp only [sz, ss]
        refine tq (i := 1) (d := 7) ?_
        simp only [sz, ss]
        refine tq (i := 2) (d := 8) ?_
        simp only [sz, ss]
        refine tq (i := 3) (d := 9) ?_
        simp only [sz, ss]
        refine tq (i := 4) (d := 10) ?_
        simp only [sz, ss]
        refine tq (i := 5) (d := 11) ?_
        simp only [sz, ss]
        refine tq (i := 6) (d := 12) ?_
        simp only [sz, ss]
        refine tq (i := 7) (d := 13) ?_
        simp only [sz, ss]
        refine tq (i := 8) (d := 14) ?_
        simp only [sz, ss]
        refine tq (i := 9) (d := 15) ?_
        simp only [sz, ss]
        refine tq (i := 10) (d := 16) ?_
        simp only [sz, ss]
        refine tq (i := 11) (d := 17) ?_
        simp only [sz, ss]
        refine tq (i := 12) (d := 18) ?_
        simp only [sz, ss]
        refine tq (i := 13) (d := 19) ?_
        simp only [sz, ss]
        refine tq (i := 14) (d := 4) ?_
        simp only [sz, ss]
        refine tq (i := 15) (d := 5) ?_
        simp only [sz, ss]
        refine wpAnyH_done (by kernel_rfl) ?_ _
        by_cases hk1 : e.vKind = 1
        · rw [hk1] at c0
          have hv : Hid (chV e (.slice ap e.vPath.length cp) (.slice a (kidsOf e.vTree).length c) = .iface 94 (.agg #[.slice ap e.vPath.length cp, .string (strT e.vTree), .slice a (kidsOf e.vTree).length c]) ∧ chB e = false) := by show _ ∧ _; simp [chV, chB, hk1, q1]
          go_wp2_with fail
          go_ret2
          exact ⟨by rw [hv.out.1, hv.out.2]; rfl, Below.drew ((Below.refl _ _).alloc (Nat.le_refl _) _)⟩
        by_cases hk2 : e.vKind = 2
        · rw [hk2] at c0
          have hv : Hid (chV e (.slice ap e.vPath.length cp) (.slice a (kidsOf e.vTree).length c) = .iface 92 (.agg #[.slice ap e.vPath.length cp]) ∧ chB e = false) := by show _ ∧ _; simp [chV, chB, hk2, q1]
          go_wp2_with fail
          go_ret2
          exact ⟨by rw [hv.out.1, hv.out.2]; rfl, Below.drew ((Below.refl _ _).alloc (Nat.le_refl _) _)⟩
        by_cases hk3 : e.vKind = 3
        · rw [hk3] at c0
          have hv : Hid (chV e (.slice ap e.vPath.length cp) (.slice a (kidsOf e.vTree).length c) = .iface 89 (.agg #[.slice ap e.vPath.length cp, .string e.vTag]) ∧ chB e = false) := by show _ ∧ _; simp [chV, chB, hk3, emT, q2, hkn]
          go_wp2_with fail
          go_ret2
          exact ⟨by rw [hv.out.1, hv.out.2]; rfl, Below.drew ((Below.refl _ _).alloc (Nat.le_refl _) _)⟩
        have hv : Hid (chV e (.slice ap e.vPath.length cp) (.slice a (kidsOf e.vTree).length c) = .nilIface ∧ chB e = false) := by show _ ∧ _; simp [chV, chB, hk1, hk2, hk3]
        have g1 : (e.vKind == 1) = false := by simpa using hk1
        have g2 : (e.vKind == 2) = false := by simpa using hk2
        have g3 : (e.vKind == 3) = false := by simpa using hk3
        go_wp2_with fail
        go_ret2
        exact ⟨by rw [hv.out.1, hv.out.2]; rfl, Below.drew ((Below.refl _ _).alloc (Nat.le_refl _) _)⟩
  · rcases em_or (strT e.vTree) with ⟨q2, q2a, q2b⟩ | ⟨q2, q2a, q2b⟩
    · go_upto_region 1 with fail
      refine wp_region_held_drew (S := fun w' => w'.cell? ⟨w.heap.size, 2, none⟩ = some (.string e.vTag) ∧ w'.cell? ⟨w.heap.size, 3, none⟩ = some (.string (strT e.vTree)) ∧ w'.cell? ⟨w.heap.size, 4, none⟩ = some (.slice a (kidsOf e.vTree).length c)) (by kernel_rfl) ⟨bx.out.cell 2 rfl, bx.out.cell 3 rfl, bx.out.cell 4 rfl⟩ (fun hHeld => ?_)
      refine tq (i := 0) (d := 6) ?_
      simp only [sz, ss]
      refine tq (i := 1) (d := 7) ?_
      simp only [sz, ss]
      refine tq (i := 2) (d := 8) ?_
      simp only [sz, ss]
      refine tq (i := 3) (d := 9) ?_
      simp only [sz, ss]
      refine tq (i := 4) (d := 10) ?_
      simp only [sz, ss]
      refine tq (i := 5) (d := 11) ?_
      simp only [sz, ss]
      refine tq (i := 6) (d := 12) ?_
      simp only [sz, ss]
      refine tq (i := 7) (d := 13) ?_
      simp only [sz, ss]
      refine tn (i := 8) (d := 14) ?_
      simp only [sz, ss]
      refine tn (i := 9) (d := 15) ?_
      simp only [sz, ss]
      refine tn (i := 10) (d := 16) ?_
      simp only [sz, ss]
      refine tn (i := 11) (d := 17) ?_
      simp only [sz, ss]
      refine tn (i := 12) (d := 18) ?_
      simp only [sz, ss]
      refine tq (i := 13) (d := 19) ?_
      simp only [sz, ss]
      refine tq (i := 14) (d := 4) ?_
      simp only [sz, ss]
      refine tq (i := 15) (d := 5) ?_
      simp only [sz, ss]
      refine wpAnyH_done (by kernel_rfl) ?_ _
      by_cases hk1 : e.vKind = 1
      · rw [hk1] at c0
        have hv : Hid (chV e (.slice ap e.vPath.length cp) (.slice a (kidsOf e.vTree).length c) = .iface 94 (.agg #[.slice ap e.vPath.length cp, .string (strT e.vTree), .slice a (kidsOf e.vTree).length c]) ∧ chB e = true) := by show _ ∧ _; simp [chV, chB, hk1, q1]
        go_wp2_with fail
        go_ret2
        exact ⟨by rw [hv.out.1, hv.out.2]; rfl, Below.drew ((Below.refl _ _).alloc (Nat.le_refl _) _)⟩
      by_cases hk2 : e.vKind = 2
      · rw [hk2] at c0
        have hv : Hid (chV e (.slice ap e.vPath.length cp) (.slice a (kidsOf e.vTree).length c) = .iface 92 (.agg #[.slice ap e.vPath.length cp]) ∧ chB e = false) := by show _ ∧ _; simp [chV, chB, hk2, q1, emT, q2]
        go_wp2_with fail
        go_ret2
        exact ⟨by rw [hv.out.1, hv.out.2]; rfl, Below.drew ((Below.refl _ _).alloc (Nat.le_refl _) _)⟩
      by_cases hk3 : e.vKind = 3
      · rw [hk3] at c0
        have hv : Hid (chV e (.slice ap e.vPath.length cp) (.slice a (kidsOf e.vTree).length c) = .iface 89 (.agg #[.slice ap e.vPath.length cp, .string e.vTag]) ∧ chB e = false) := by show _ ∧ _; simp [chV, chB, hk3, emT, q2]
        go_wp2_with fail
        go_ret2
        exact ⟨by rw [hv.out.1, hv.out.2]; rfl, Below.drew ((Below.refl _ _).alloc (Nat.le_refl _) _)⟩
      have hv : Hid (chV e (.slice ap e.vPath.length cp) (.slice a (kidsOf e.vTree).length c) = .nilIface ∧ chB e = false) := by show _ ∧ _; simp [chV, chB, hk1, hk2, hk3]
      have g1 : (e.vKind == 1) = false := by simpa using hk1
      have g2 : (e.vKind == 2) = false := by simpa using hk2
      have g3 : (e.vKind == 3) = false := by simpa using hk3
      go_wp2_with fail
      go_ret2
      exact ⟨by rw [hv.out.1, hv.out.2]; rfl, Below.drew ((Below.refl _ _).alloc (Nat.le_refl _) _)⟩
    · by_cases hk0 : ((kidsOf e.vTree).length : Int) = 0
      · have hkn : Hid ((kidsOf e.vTree).length = 0) := by show _ = _; omega
        have hkb : (((kidsOf e.vTree).length : Int) == 0) = true := by simpa using hk0
        clear hk0
        go_upto_region 1 with fail
        refine wp_region_held_drew (S := fun w' => w'.cell? ⟨w.heap.size, 2, none⟩ = some (.string e.vTag) ∧ w'.cell? ⟨w.heap.size, 3, none⟩ = some (.string (strT e.vTree)) ∧ w'.cell? ⟨w.heap.size, 4, none⟩ = some (.slice a (kidsOf e.vTree).length c)) (by kernel_rfl) ⟨bx.out.cell 2 rfl, bx.out.cell 3 rfl, bx.out.cell 4 rfl⟩ (fun hHeld => ?_)
        refine tq (i := 0) (d := 6) ?_
        simp only [sz, ss]
        refine tq (i := 1) (d := 7) ?_
        simp only [sz, ss]
        refine tq (i := 2) (d := 8) ?_
        simp only [sz, ss]
        refine tq (i := 3) (d := 9) ?_
        simp only [sz, ss]
        refine tq (i := 4) (d := 10) ?_
        simp only [sz, ss]
        refine tq (i := 5) (d := 11) ?_
        simp only [sz, ss]
        refine tq (i := 6) (d := 12) ?_
        simp only [sz, ss]
        refine tq (i := 7) (d := 13) ?_
        simp only [sz, ss]
        refine tq (i := 8) (d := 14) ?_
        simp only [sz, ss]
        refine tq (i := 9) (d := 15) ?_
        simp only [sz, ss]
        refine tq (i := 10) (d := 16) ?_
        simp only [sz, ss]
        refine tq (i := 11) (d := 17) ?_
        simp only [sz, ss]
        refine tq (i := 12) (d := 18) ?_
        simp only [sz, ss]
        refine tq (i := 13) (d := 19) ?_
        simp only [sz, ss]
        refine tq (i := 14) (d := 4) ?_
        simp only [sz, ss]
        refine tq (i := 15) (d := 5) ?_
        simp only [sz, ss]
        refine wpAnyH_done (by kernel_rfl) ?_ _
        by_cases hk1 : e.vKind = 1
        · rw [hk1] at c0
          have hv : Hid (chV e (.slice ap e.vPath.length cp) (.slice a (kidsOf e.vTree).length c) = .iface 94 (.agg #[.slice ap e.vPath.length cp, .string (strT e.vTree), .slice a (kidsOf e.vTree).length c]) ∧ chB e = true) := by show _ ∧ _; simp [chV, chB, hk1, q1]
          go_wp2_with fail
          go_ret2
          exact ⟨by rw [hv.out.1, hv.out.2]; rfl, Below.drew ((Below.refl _ _).alloc (Nat.le_refl _) _)⟩
        by_cases hk2 : e.vKind = 2
        · rw [hk2] at c0
          have hv : Hid (chV e (.slice ap e.vPath.length cp) (.slice a (kidsOf e.vTree).length c) = .iface 92 (.agg #[.slice ap e.vPath.length cp]) ∧ chB e = true) := by show _ ∧ _; simp [chV, chB, hk2, q1, emT, q2, hkn.out]
          go_wp2_with fail
          go_ret2
          exact ⟨by rw [hv.out.1, hv.out.2]; rfl, Below.drew ((Below.refl _ _).alloc (Nat.le_refl _) _)⟩
        by_cases hk3 : e.vKind = 3
        · rw [hk3] at c0
          have hv : Hid (chV e (.slice ap e.vPath.length cp) (.slice a (kidsOf e.vTree).length c) = .iface 89 (.agg #[.slice ap e.vPath.length cp, .string e.vTag]) ∧ chB e = true) := by show _ ∧ _; simp [chV, chB, hk3, emT, q2, hkn.out]
          go_wp2_with fail
          go_ret2
          exact ⟨by rw [hv.out.1, hv.out.2]; rfl, Below.drew ((Below.refl _ _).alloc (Nat.le_refl _) _)⟩
        have hv : Hid (chV e (.slice ap e.vPath.length cp) (.slice a (kidsOf e.vTree).length c) = .nilIface ∧ chB e = false) := by show _ ∧ _; simp [chV, chB, hk1, hk2, hk3]
        have g1 : (e.vKind == 1) = false := by simpa using hk1
        have g2 : (e.vKind == 2) = false := by simpa using hk2
        have g3 : (e.vKind == 3) = false := by simpa using hk3
        go_wp2_with fail
        go_ret2
        exact ⟨by rw [hv.out.1, hv.out.2]; rfl, Below.drew ((Below.refl _ _).alloc (Nat.le_refl _) _)⟩
      · have hkn : ¬ (kidsOf e.vTree).length = 0 := by omega
        have hkb : (((kidsOf e.vTree).length : Int) == 0) = false := by simpa using hk0
        go_upto_region 1 with fail
        refine wp_region_held_drew (S := fun w' => w'.cell? ⟨w.heap.size, 2, none⟩ = some (.string e.vTag) ∧ w'.cell? ⟨w.heap.size, 3, none⟩ = some (.string (strT e.vTree)) ∧ w'.cell? ⟨w.heap.size, 4, none⟩ = some (.slice a (kidsOf e.vTree).length c)) (by kernel_rfl) ⟨bx.out.cell 2 rfl, bx.out.cell 3 rfl, bx.out.cell 4 rfl⟩ (fun hHeld => ?_)
        refine tq (i := 0) (d := 6) ?_
        simp only [sz, ss]
        refine tq (i := 1) (d := 7) ?_
        simp only [sz, ss]
        refine tq (i := 2) (d := 8) ?_
        simp only [sz, ss]
        refine tq (i := 3) (d := 9) ?_
        simp only [sz, ss]
        refine tq (i := 4) (d := 10) ?_
        simp only [sz, ss]
        refine tq (i := 5) (d := 11) ?_
        simp only [sz, ss]
        refine tq (i := 6) (d := 12) ?_
        simp only [sz, ss]
        refine tq (i := 7) (d := 13) ?_
        simp only [sz, ss]
        refine tq (i := 8) (d := 14) ?_
        simp only [sz, ss]
        refine tq (i := 9) (d := 15) ?_
        simp only [sz, ss]
        refine tq (i := 10) (d := 16) ?_
        simp only [sz, ss]
        refine tq (i := 11) (d := 17) ?_
        simp only [sz, ss]
        refine tq (i := 12) (d := 18) ?_
        simp only [sz, ss]
        refine tq (i := 13) (d := 19) ?_
        simp only [sz, ss]
        refine tq (i := 14) (d := 4) ?_
        simp only [sz, ss]
        refine tq (i := 15) (d := 5) ?_
        simp only [sz, ss]
        refine wpAnyH_done (by kernel_rfl) ?_ _
        by_cases hk1 : e.vKind = 1
        · rw [hk1] at c0
          have hv : Hid (chV e (.slice ap e.vPath.length cp) (.slice a (kidsOf e.vTree).length c) = .iface 94 (.agg #[.slice ap e.vPath.length cp, .string (strT e.vTree), .slice a (kidsOf e.vTree).length c]) ∧ chB e = true) := by show _ ∧ _; simp [chV, chB, hk1, q1]
          go_wp2_with fail
          go_ret2
          exact ⟨by rw [hv.out.1, hv.out.2]; rfl, Below.drew ((Below.refl _ _).alloc (Nat.le_refl _) _)⟩
        by_cases hk2 : e.vKind = 2
        · rw [hk2] at c0
          have hv : Hid (chV e (.slice ap e.vPath.length cp) (.slice a (kidsOf e.vTree).length c) = .iface 92 (.agg #[.slice ap e.vPath.length cp]) ∧ chB e = false) := by show _ ∧ _; simp [chV, chB, hk2, q1, emT, q2, hkn]
          go_wp2_with fail
          go_ret2
          exact ⟨by rw [hv.out.1, hv.out.2]; rfl, Below.drew ((Below.refl _ _).alloc (Nat.le_refl _) _)⟩
        by_cases hk3 : e.vKind = 3
        · rw [hk3] at c0
          have hv : Hid (chV e (.slice ap e.vPath.length cp) (.slice a (kidsOf e.vTree).length c) = .iface 89 (.agg #[.slice ap e.vPath.length cp, .string e.vTag]) ∧ chB e = false) := by show _ ∧ _; simp [chV, chB, hk3, emT, q2, hkn]
          go_wp2_with fail
          go_ret2
          exact ⟨by rw [hv.out.1, hv.out.2]; rfl, Below.drew ((Below.refl _ _).alloc (Nat.le_refl _) _)⟩
        have hv : Hid (chV e (.slice ap e.vPath.length cp) (.slice a (kidsOf e.vTree).length c) = .nilIface ∧ chB e = false) := by show _ ∧ _; simp [chV, chB, hk1, hk2, hk3]
        have g1 : (e.vKind == 1) = false := by simpa using hk1
        have g2 : (e.vKind == 2) = false := by simpa using hk2
        have g3 : (e.vKind == 3) = false := by simpa using hk3
        go_wp2_with fail
        go_ret2
        exact ⟨by rw [hv.out.1, hv.out.2]; rfl, Below.drew ((Below.refl _ _).alloc (Nat.le_refl _) _)⟩
end Go.Proofs.Ytfncmndgdomjiaa
