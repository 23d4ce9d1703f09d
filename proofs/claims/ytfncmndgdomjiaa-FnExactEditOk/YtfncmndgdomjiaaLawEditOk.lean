/- At every tree and edit EditOk answers as its specification, and writes into no argument. No condition. -/
import Derived.Test.YtfncmndgdomjiaaEdCutT
import Derived.ProofKit
import Derived.OpenShut
import Derived.ShutString
import Derived.ChangeOld
import Derived.Below
import Derived.Laws.Cover1
import Derived.WalkKit
namespace Go.Proofs.Ytfncmndgdomjiaa.fnExactEditOk
open Go.ChangeShapes Go.WideShapes Go.ChangeAt Go.RowKit

theorem own : ownKnob Try.prog.godebug = none := by kernel_rfl
theorem laidOut : laidOutB Try.prog = true := by kernel_rfl
set_option maxRecDepth 100000 in
set_option maxHeartbeats 6400000 in
theorem walk {n0 n1 : Nat} {w : World} {cs ce : List Value} {x : TD} {y : EditD} (hx : TreeL n0 w 0 cs x) (hy : EditL n1 w 0 ce y) :
    Calls Try.prog 3 #[.agg cs.toArray, .agg ce.toArray] w fun e w' => e = .returned (.bool true) ∧ Below w.heap.size w w' := by
  obtain ⟨n, rfl⟩ : ∃ n, n0 = n + 1 := by cases n0 with | zero => exact hx.elim | succ n => exact ⟨n, rfl⟩
  obtain ⟨m, rfl⟩ : ∃ m, n1 = m + 1 := by
    cases n1 with
    | zero => obtain ⟨_, _, _, _, _, _, q⟩ := hy; exact q.elim
    | succ m => exact ⟨m, rfl⟩
  have hx0 : Hid (TreeL (n + 1) w 0 cs x) := hx
  have hy0 : Hid (EditL (m + 1) w 0 ce y) := hy
  obtain ⟨k1, rfl, s1, _⟩ := hx.opened
  obtain ⟨a0, cap0, rfl⟩ := s1.form
  obtain ⟨ap, cp, a1, c1, rfl, _, _, _⟩ := hy.form
  clear hx hy s1
  have hB0 : Hid (Below w.heap.size w ((w.alloc (.cells (List.toArray [.string (strT x), .slice a0 (kidsOf x).length cap0]) 24)).alloc (.cells (List.toArray [.int .i64 y.vKind, .slice ap y.vPath.length cp, .string y.vTag, .string (strT y.vTree), .slice a1 (kidsOf y.vTree).length c1]) 27))) := ((Below.refl _ _).alloc (Nat.le_refl _) _).alloc (by simp) _
  have bA_0 : Hid (Box ((w.alloc (.cells (List.toArray [.string (strT x), .slice a0 (kidsOf x).length cap0]) 24)).alloc (.cells (List.toArray [.int .i64 y.vKind, .slice ap y.vPath.length cp, .string y.vTag, .string (strT y.vTree), .slice a1 (kidsOf y.vTree).length c1]) 27)) w.heap.size [.string (strT x), .slice a0 (kidsOf x).length cap0] 24) := (Box.new w _ _).alloc _
  have z0_bA_0 := bA_0.out.cell 0 rfl
  have z0_bA_1 := bA_0.out.cell 1 rfl
  have bE_0 : Hid (Box ((w.alloc (.cells (List.toArray [.string (strT x), .slice a0 (kidsOf x).length cap0]) 24)).alloc (.cells (List.toArray [.int .i64 y.vKind, .slice ap y.vPath.length cp, .string y.vTag, .string (strT y.vTree), .slice a1 (kidsOf y.vTree).length c1]) 27)) (w.heap.size + 1) [.int .i64 y.vKind, .slice ap y.vPath.length cp, .string y.vTag, .string (strT y.vTree), .slice a1 (kidsOf y.vTree).length c1] 27) := (by have hh := Box.new (w.alloc (.cells (List.toArray [.string (strT x), .slice a0 (kidsOf x).length cap0]) 24)) [.int .i64 y.vKind, .slice ap y.vPath.length cp, .string y.vTag, .string (strT y.vTree), .slice a1 (kidsOf y.vTree).length c1] 27; simpa only [World.size_alloc, Hid] using hh)
  have z0_bE_0 := bE_0.out.cell 0 rfl
  have z0_bE_1 := bE_0.out.cell 1 rfl
  have z0_bE_2 := bE_0.out.cell 2 rfl
  have z0_bE_3 := bE_0.out.cell 3 rfl
  have z0_bE_4 := bE_0.out.cell 4 rfl
  have szA : w.heap.size + 1 + 1 ≤ ((w.alloc (.cells (List.toArray [.string (strT x), .slice a0 (kidsOf x).length cap0]) 24)).alloc (.cells (List.toArray [.int .i64 y.vKind, .slice ap y.vPath.length cp, .string y.vTag, .string (strT y.vTree), .slice a1 (kidsOf y.vTree).length c1]) 27)).heap.size := by simp
  simp only [World.size_alloc] at szA
  go_enter Try.func3, Try.ntmps3
  go_wp2_with fail
  refine ((szT_all (n + 1)).1 _ 0 _ x _ (hx0.out.below hB0.out) (by omega) (by omega)).mono ?_
  rintro e w1 ⟨⟨r, rfl, hr1, hr2, hsm⟩, hb1⟩
  have hsm' : Hid (r < 0 ∨ (SmallO (n + 1) x ∧ r + (belowN (n + 1) x : Int) ≤ 1048576)) := hsm
  clear hsm
  have bA_1 : Hid (Box w1 w.heap.size [.string (strT x), .slice a0 (kidsOf x).length cap0] 24) := bA_0.out.below hb1 bA_0.out.lt
  have bE_1 : Hid (Box w1 (w.heap.size + 1) [.int .i64 y.vKind, .slice ap y.vPath.length cp, .string y.vTag, .string (strT y.vTree), .slice a1 (kidsOf y.vTree).length c1] 27) := bE_0.out.below hb1 bE_0.out.lt
  clear bA_0 bE_0
  have hB1 : Hid (Below w.heap.size w w1) := hB0.out.trans ((hb1).mono hB0.out.size)
  have sz1 := (hb1).size
  simp only [World.size_alloc] at sz1
  clear z0_bA_0 z0_bA_1 z0_bE_0 z0_bE_1 z0_bE_2 z0_bE_3 z0_bE_4
  have z1_bA_0 := bA_1.out.cell 0 rfl
  have z1_bA_1 := bA_1.out.cell 1 rfl
  have z1_bE_0 := bE_1.out.cell 0 rfl
  have z1_bE_1 := bE_1.out.cell 1 rfl
  have z1_bE_2 := bE_1.out.cell 2 rfl
  have z1_bE_3 := bE_1.out.cell 3 rfl
  have z1_bE_4 := bE_1.out.cell 4 rfl
  clear hb1
  by_cases hneg : r < 0
  · go_wp2_with fail
    go_ret
    exact ⟨rfl, hB1.out⟩
  have hsm : Hid (SmallO (n + 1) x) := (hsm'.out.resolve_left hneg).1
  have hcx : Hid ((cntL (cntTree n) (kidsOf x) : Int) ≤ 1048576) := by show _ ≤ _; have := (hsm'.out.resolve_left hneg).2; simp only [belowN] at this; omega
  clear hsm'
  go_wp2_with fail
  refine (szEdit_any (hy0.out.below hB1.out) (by omega) (by omega)).mono ?_
  rintro e w2 ⟨⟨r2, rfl, hr3, hr4, hsl⟩, hb2⟩
  have hsl' : Hid (r2 < 0 ∨ (y.vPath.length ≤ 1048576 ∧ SmallO (m + 1) y.vTree ∧ (belowN (m + 1) y.vTree : Int) ≤ 1048576)) := hsl
  clear hsl
  have bA_2 : Hid (Box w2 w.heap.size [.string (strT x), .slice a0 (kidsOf x).length cap0] 24) := bA_1.out.below hb2 bA_1.out.lt
  have bE_2 : Hid (Box w2 (w.heap.size + 1) [.int .i64 y.vKind, .slice ap y.vPath.length cp, .string y.vTag, .string (strT y.vTree), .slice a1 (kidsOf y.vTree).length c1] 27) := bE_1.out.below hb2 bE_1.out.lt
  clear bA_1 bE_1
  have hB2 : Hid (Below w.heap.size w w2) := hB1.out.trans ((hb2).mono hB1.out.size)
  have sz2 := (hb2).size
  clear z1_bA_0 z1_bA_1 z1_bE_0 z1_bE_1 z1_bE_2 z1_bE_3 z1_bE_4
  have z2_bA_0 := bA_2.out.cell 0 rfl
  have z2_bA_1 := bA_2.out.cell 1 rfl
  have z2_bE_0 := bE_2.out.cell 0 rfl
  have z2_bE_1 := bE_2.out.cell 1 rfl
  have z2_bE_2 := bE_2.out.cell 2 rfl
  have z2_bE_3 := bE_2.out.cell 3 rfl
  have z2_bE_4 := bE_2.out.cell 4 rfl
  clear hb2
  by_cases hneg2 : r2 < 0
  · go_wp2_with fail
    go_ret
    exact ⟨rfl, hB2.out⟩
  have hpl : Hid (y.vPath.length ≤ 1048576) := (hsl'.out.resolve_left hneg2).1
  have hsy : Hid (SmallO (m + 1) y.vTree) := (hsl'.out.resolve_left hneg2).2.1
  have hcy : Hid ((cntE m y : Int) ≤ 2097152) := by show _ ≤ _; have h1 := (hsl'.out.resolve_left hneg2).2.2; have h2 := hpl.out; simp only [belowN] at h1; unfold cntE; rw [cntL_int]; omega
  clear hsl'
  generalize hYS : editedD x y = oo
  have hYS' : Hid (editedD x y = oo) := hYS
  clear hYS
  go_upto_region 8 with fail
  go_cut [6] (fun sB wx => sB = .bool oo.isSome ∧ Hid (Below w2.heap.size w2 wx))
  case first =>
    have lA_ := bE_2.out.lt
    have kp0 : Hid (Below w2.heap.size w2 w2.drew) := (Below.refl _ _).drew
    refine wp_region_held_drew (S := fun w' => w'.cell? ⟨w.heap.size, 0, none⟩ = some (.string (strT x)) ∧ w'.cell? ⟨w.heap.size, 1, none⟩ = some (.slice a0 (kidsOf x).length cap0) ∧ w'.cell? ⟨w.heap.size + 1, 0, none⟩ = some (.int .i64 y.vKind) ∧ w'.cell? ⟨w.heap.size + 1, 1, none⟩ = some (.slice ap y.vPath.length cp) ∧ w'.cell? ⟨w.heap.size + 1, 2, none⟩ = some (.string y.vTag) ∧ w'.cell? ⟨w.heap.size + 1, 3, none⟩ = some (.string (strT y.vTree)) ∧ w'.cell? ⟨w.heap.size + 1, 4, none⟩ = some (.slice a1 (kidsOf y.vTree).length c1)) (by kernel_rfl) ⟨bA_2.out.cell 0 rfl, bA_2.out.cell 1 rfl, bE_2.out.cell 0 rfl, bE_2.out.cell 1 rfl, bE_2.out.cell 2 rfl, bE_2.out.cell 3 rfl, bE_2.out.cell 4 rfl⟩ (fun hHeld => ?_)
    refine tq (i := 0) (d := 20) ?_
    simp only [sz, ss]
    refine tq (i := 2) (d := 22) ?_
    simp only [sz, ss]
    refine wpAnyH_ready (rs := [1]) (by kernel_rfl) (by simp) ?_
    refine AllReadyH.cons rfl (fun K hK => ?_) AllReadyH.nil
    go_simp
    refine ((toT_all (n + 1)).1 _ 0 _ x (by exact TreeL.below hx0.out (Below.trans hB2.out (Below.mono kp0.out hB2.out.size))) hsm.out).mono ?_
    rintro e vwa1 ⟨⟨csA, fA, rfl, htA, _, _⟩, hbc1⟩
    obtain ⟨kA, rfl, sA, _⟩ := htA.opened
    obtain ⟨aA, cA, rfl⟩ := sA.form
    have kp1 : Hid (Below w2.heap.size w2 vwa1) := kp0.out.trans (Below.mono (hbc1) kp0.out.size)
    have at1 : Hid (TreeAt vwa1 0 (n + 1) (.string (strT x)) (.slice aA (kidsOf x).length cA) x) := treeO_ta htA
    clear htA sA
    refine hK.out _ _ ⟨cell_on hbc1 hHeld.1, cell_on hbc1 hHeld.2.1, cell_on hbc1 hHeld.2.2.1, cell_on hbc1 hHeld.2.2.2.1, cell_on hbc1 hHeld.2.2.2.2.1, cell_on hbc1 hHeld.2.2.2.2.2.1, cell_on hbc1 hHeld.2.2.2.2.2.2⟩ (fun hHeld => ?_)
    clear hK K
    refine wpAnyH_ready (rs := [3]) (by kernel_rfl) (by simp) ?_
    refine AllReadyH.cons rfl (fun K hK => ?_) AllReadyH.nil
    go_simp
    refine (toEdit_own (by exact EditL.below hy0.out (Below.trans hB2.out (Below.mono kp1.out hB2.out.size))) hpl.out hsy.out).mono ?_
    rintro e vwa2 ⟨⟨csH, fH, rfl, htH, _⟩, hbc2⟩
    have hlH := EditO_at (lo := 0) htH (fun _ _ => Nat.zero_le _)
    obtain ⟨pH, qH, aH, cH, rfl, _, _, _⟩ := hlH.form
    have kp2 : Hid (Below w2.heap.size w2 vwa2) := kp1.out.trans (Below.mono (hbc2) kp1.out.size)
    have at2 : Hid (TreeAt vwa2 0 (n + 1) (.string (strT x)) (.slice aA (kidsOf x).length cA) x) := TreeAt.below at1.out (hbc2)
    have eh2 : Hid (EditAt (m + 1) vwa2 0 [.int .i64 y.vKind, .slice pH y.vPath.length qH, .string y.vTag, .string (strT y.vTree), .slice aH (kidsOf y.vTree).length cH] y) := hlH.at
    clear htH hlH
    refine hK.out _ _ ⟨cell_on hbc2 hHeld.1, cell_on hbc2 hHeld.2.1, cell_on hbc2 hHeld.2.2.1, cell_on hbc2 hHeld.2.2.2.1, cell_on hbc2 hHeld.2.2.2.2.1, cell_on hbc2 hHeld.2.2.2.2.2.1, cell_on hbc2 hHeld.2.2.2.2.2.2⟩ (fun hHeld => ?_)
    clear hK K
    refine wpAnyH_ready (rs := [4]) (by kernel_rfl) (by simp) ?_
    refine AllReadyH.cons rfl (fun K hK => ?_) AllReadyH.nil
    go_simp
    refine (specEditOk_any (by exact at2.out) (by exact eh2.out)).mono ?_
    rw [hYS'.out]
    rintro e vwa3 ⟨rfl, hbc3⟩
    have kp3 : Hid (Below w2.heap.size w2 vwa3) := kp2.out.trans (Below.mono (hbc3) kp2.out.size)
    have at3 : Hid (TreeAt vwa3 0 (n + 1) (.string (strT x)) (.slice aA (kidsOf x).length cA) x) := TreeAt.below at2.out (hbc3)
    have eh3 : Hid (EditAt (m + 1) vwa3 0 [.int .i64 y.vKind, .slice pH y.vPath.length qH, .string y.vTag, .string (strT y.vTree), .slice aH (kidsOf y.vTree).length cH] y) := EditAt.stays _ _ _ _ _ _ (.of_below (hbc3)) eh2.out
    refine hK.out _ _ ⟨cell_on hbc3 hHeld.1, cell_on hbc3 hHeld.2.1, cell_on hbc3 hHeld.2.2.1, cell_on hbc3 hHeld.2.2.2.1, cell_on hbc3 hHeld.2.2.2.2.1, cell_on hbc3 hHeld.2.2.2.2.2.1, cell_on hbc3 hHeld.2.2.2.2.2.2⟩ (fun hHeld => ?_)
    clear hK K
    refine tq (i := 5) (d := 6) ?_
    simp only [sz, ss]
    refine wpAnyH_done (by kernel_rfl) ?_ _
    have kF : Hid (Below w2.heap.size w2 vwa3) := kp3
    go_wp2_with fail
    go_meet
    exact ⟨rfl, kF⟩
  case rest =>
  obtain ⟨rfl, hkwa⟩ := hcut
  have hkwao := hkwa.out
  have bA_3 : Hid (Box wc w.heap.size [.string (strT x), .slice a0 (kidsOf x).length cap0] 24) := bA_2.out.below hkwao bA_2.out.lt
  have bE_3 : Hid (Box wc (w.heap.size + 1) [.int .i64 y.vKind, .slice ap y.vPath.length cp, .string y.vTag, .string (strT y.vTree), .slice a1 (kidsOf y.vTree).length c1] 27) := bE_2.out.below hkwao bE_2.out.lt
  clear bA_2 bE_2
  have hB3 : Hid (Below w.heap.size w wc) := hB2.out.trans ((hkwao).mono hB2.out.size)
  have sz3 := (hkwao).size
  clear z2_bA_0 z2_bA_1 z2_bE_0 z2_bE_1 z2_bE_2 z2_bE_3 z2_bE_4
  have z3_bA_0 := bA_3.out.cell 0 rfl
  have z3_bA_1 := bA_3.out.cell 1 rfl
  have z3_bE_0 := bE_3.out.cell 0 rfl
  have z3_bE_1 := bE_3.out.cell 1 rfl
  have z3_bE_2 := bE_3.out.cell 2 rfl
  have z3_bE_3 := bE_3.out.cell 3 rfl
  have z3_bE_4 := bE_3.out.cell 4 rfl
  clear hkwa hkwao
  go_wp2_with fail
  refine ((toT_all (n + 1)).1 _ 0 _ x (hx0.out.below hB3.out) hsm.out).mono ?_
  rintro e u5a ⟨⟨cs5, f5t, rfl, ht5, _, lo5t⟩, hba5⟩
  have rg_x5t : Hid (∀ b ∈ f5t, wc.heap.size ≤ b ∧ b < u5a.heap.size) := fun b q => ⟨lo5t b q, TreeO_lt _ _ _ _ _ ht5 b q⟩
  obtain ⟨kk5, rfl, ss5, _⟩ := ht5.opened
  obtain ⟨at5, ct5, rfl⟩ := ss5.form
  have hto5 : Hid (TreeO (n + 1) u5a [.string (strT x), .slice at5 (kidsOf x).length ct5] x f5t) := ht5
  clear ht5 ss5 lo5t
  have bA_4 : Hid (Box u5a w.heap.size [.string (strT x), .slice a0 (kidsOf x).length cap0] 24) := bA_3.out.below hba5 bA_3.out.lt
  have bE_4 : Hid (Box u5a (w.heap.size + 1) [.int .i64 y.vKind, .slice ap y.vPath.length cp, .string y.vTag, .string (strT y.vTree), .slice a1 (kidsOf y.vTree).length c1] 27) := bE_3.out.below hba5 bE_3.out.lt
  clear bA_3 bE_3
  have hB4 : Hid (Below w.heap.size w u5a) := hB3.out.trans ((hba5).mono hB3.out.size)
  have sz4 := (hba5).size
  clear z3_bA_0 z3_bA_1 z3_bE_0 z3_bE_1 z3_bE_2 z3_bE_3 z3_bE_4
  have z4_bA_0 := bA_4.out.cell 0 rfl
  have z4_bA_1 := bA_4.out.cell 1 rfl
  have z4_bE_0 := bE_4.out.cell 0 rfl
  have z4_bE_1 := bE_4.out.cell 1 rfl
  have z4_bE_2 := bE_4.out.cell 2 rfl
  have z4_bE_3 := bE_4.out.cell 3 rfl
  have z4_bE_4 := bE_4.out.cell 4 rfl
  have x5t_4 : Hid (TreeO (n + 1) u5a [.string (strT x), .slice at5 (kidsOf x).length ct5] x f5t) := hto5
  clear hto5 hba5
  have hbx5 : Below u5a.heap.size u5a (u5a.alloc (.cells (List.toArray [.string (strT x), .slice at5 (kidsOf x).length ct5]) 33)) := (Below.refl _ _).alloc (Nat.le_refl _) _
  have szx5 : (u5a.alloc (.cells (List.toArray [.string (strT x), .slice at5 (kidsOf x).length ct5]) 33)).heap.size = u5a.heap.size + 1 := by simp
  have bA_5 : Hid (Box (u5a.alloc (.cells (List.toArray [.string (strT x), .slice at5 (kidsOf x).length ct5]) 33)) w.heap.size [.string (strT x), .slice a0 (kidsOf x).length cap0] 24) := bA_4.out.below hbx5 bA_4.out.lt
  have bE_5 : Hid (Box (u5a.alloc (.cells (List.toArray [.string (strT x), .slice at5 (kidsOf x).length ct5]) 33)) (w.heap.size + 1) [.int .i64 y.vKind, .slice ap y.vPath.length cp, .string y.vTag, .string (strT y.vTree), .slice a1 (kidsOf y.vTree).length c1] 27) := bE_4.out.below hbx5 bE_4.out.lt
  have x5t_5 : Hid (TreeO (n + 1) (u5a.alloc (.cells (List.toArray [.string (strT x), .slice at5 (kidsOf x).length ct5]) 33)) [.string (strT x), .slice at5 (kidsOf x).length ct5] x f5t) := TreeO_stays _ _ _ _ _ _ (fun x hx => (hbx5).block x (TreeO_lt _ _ _ _ _ x5t_4.out x hx)) x5t_4.out
  clear bA_4 bE_4 x5t_4
  have hB5 : Hid (Below w.heap.size w (u5a.alloc (.cells (List.toArray [.string (strT x), .slice at5 (kidsOf x).length ct5]) 33))) := hB4.out.trans ((hbx5).mono hB4.out.size)
  have sz5 := (hbx5).size
  simp only [World.size_alloc] at sz5
  clear z4_bA_0 z4_bA_1 z4_bE_0 z4_bE_1 z4_bE_2 z4_bE_3 z4_bE_4
  have z5_bA_0 := bA_5.out.cell 0 rfl
  have z5_bA_1 := bA_5.out.cell 1 rfl
  have z5_bE_0 := bE_5.out.cell 0 rfl
  have z5_bE_1 := bE_5.out.cell 1 rfl
  have z5_bE_2 := bE_5.out.cell 2 rfl
  have z5_bE_3 := bE_5.out.cell 3 rfl
  have z5_bE_4 := bE_5.out.cell 4 rfl
  have bX5_5 : Hid (Box (u5a.alloc (.cells (List.toArray [.string (strT x), .slice at5 (kidsOf x).length ct5]) 33)) u5a.heap.size [.string (strT x), .slice at5 (kidsOf x).length ct5] 33) := Box.new u5a _ _
  have z5_bX5_0 := bX5_5.out.cell 0 rfl
  have z5_bX5_1 := bX5_5.out.cell 1 rfl
  clear hbx5
  go_wp2_with fail
  refine (toEdit_own (hy0.out.below hB5.out) hpl.out hsy.out).mono ?_
  rintro e u5b ⟨⟨ce5, f5e, rfl, he5, lo5e⟩, hbb5⟩
  have rg_x5e : Hid (∀ b ∈ f5e, u5a.heap.size + 1 ≤ b ∧ b < u5b.heap.size) := fun b q => ⟨by have := lo5e b q; rw [szx5] at this; exact this, EditO_lt _ _ _ _ _ he5 b q⟩
  obtain ⟨ep5, eq5, ea5, ec5, rfl, _, _, _⟩ := (EditO_at (lo := 0) he5 (fun _ _ => Nat.zero_le _)).form
  have heo5 : Hid (EditO (m + 1) u5b [.int .i64 y.vKind, .slice ep5 y.vPath.length eq5, .string y.vTag, .string (strT y.vTree), .slice ea5 (kidsOf y.vTree).length ec5] y f5e) := he5
  clear he5 lo5e
  have bA_6 : Hid (Box u5b w.heap.size [.string (strT x), .slice a0 (kidsOf x).length cap0] 24) := bA_5.out.below hbb5 bA_5.out.lt
  have bE_6 : Hid (Box u5b (w.heap.size + 1) [.int .i64 y.vKind, .slice ap y.vPath.length cp, .string y.vTag, .string (strT y.vTree), .slice a1 (kidsOf y.vTree).length c1] 27) := bE_5.out.below hbb5 bE_5.out.lt
  have x5t_6 : Hid (TreeO (n + 1) u5b [.string (strT x), .slice at5 (kidsOf x).length ct5] x f5t) := TreeO_stays _ _ _ _ _ _ (fun x hx => (hbb5).block x (TreeO_lt _ _ _ _ _ x5t_5.out x hx)) x5t_5.out
  have bX5_6 : Hid (Box u5b u5a.heap.size [.string (strT x), .slice at5 (kidsOf x).length ct5] 33) := bX5_5.out.below hbb5 bX5_5.out.lt
  clear bA_5 bE_5 x5t_5 bX5_5
  have hB6 : Hid (Below w.heap.size w u5b) := hB5.out.trans ((hbb5).mono hB5.out.size)
  have sz6 := (hbb5).size
  simp only [World.size_alloc] at sz6
  clear z5_bA_0 z5_bA_1 z5_bE_0 z5_bE_1 z5_bE_2 z5_bE_3 z5_bE_4 z5_bX5_0 z5_bX5_1
  have z6_bA_0 := bA_6.out.cell 0 rfl
  have z6_bA_1 := bA_6.out.cell 1 rfl
  have z6_bE_0 := bE_6.out.cell 0 rfl
  have z6_bE_1 := bE_6.out.cell 1 rfl
  have z6_bE_2 := bE_6.out.cell 2 rfl
  have z6_bE_3 := bE_6.out.cell 3 rfl
  have z6_bE_4 := bE_6.out.cell 4 rfl
  have z6_bX5_0 := bX5_6.out.cell 0 rfl
  have z6_bX5_1 := bX5_6.out.cell 1 rfl
  have x5e_6 : Hid (EditO (m + 1) u5b [.int .i64 y.vKind, .slice ep5 y.vPath.length eq5, .string y.vTag, .string (strT y.vTree), .slice ea5 (kidsOf y.vTree).length ec5] y f5e) := heo5
  clear heo5 hbb5
  have hby5 : Below u5b.heap.size u5b (u5b.alloc (.cells (List.toArray [.int .i64 y.vKind, .slice ep5 y.vPath.length eq5, .string y.vTag, .string (strT y.vTree), .slice ea5 (kidsOf y.vTree).length ec5]) 36)) := (Below.refl _ _).alloc (Nat.le_refl _) _
  have szy5 : (u5b.alloc (.cells (List.toArray [.int .i64 y.vKind, .slice ep5 y.vPath.length eq5, .string y.vTag, .string (strT y.vTree), .slice ea5 (kidsOf y.vTree).length ec5]) 36)).heap.size = u5b.heap.size + 1 := by simp
  have bA_7 : Hid (Box (u5b.alloc (.cells (List.toArray [.int .i64 y.vKind, .slice ep5 y.vPath.length eq5, .string y.vTag, .string (strT y.vTree), .slice ea5 (kidsOf y.vTree).length ec5]) 36)) w.heap.size [.string (strT x), .slice a0 (kidsOf x).length cap0] 24) := bA_6.out.below hby5 bA_6.out.lt
  have bE_7 : Hid (Box (u5b.alloc (.cells (List.toArray [.int .i64 y.vKind, .slice ep5 y.vPath.length eq5, .string y.vTag, .string (strT y.vTree), .slice ea5 (kidsOf y.vTree).length ec5]) 36)) (w.heap.size + 1) [.int .i64 y.vKind, .slice ap y.vPath.length cp, .string y.vTag, .string (strT y.vTree), .slice a1 (kidsOf y.vTree).length c1] 27) := bE_6.out.below hby5 bE_6.out.lt
  have x5t_7 : Hid (TreeO (n + 1) (u5b.alloc (.cells (List.toArray [.int .i64 y.vKind, .slice ep5 y.vPath.length eq5, .string y.vTag, .string (strT y.vTree), .slice ea5 (kidsOf y.vTree).length ec5]) 36)) [.string (strT x), .slice at5 (kidsOf x).length ct5] x f5t) := TreeO_stays _ _ _ _ _ _ (fun x hx => (hby5).block x (TreeO_lt _ _ _ _ _ x5t_6.out x hx)) x5t_6.out
  have bX5_7 : Hid (Box (u5b.alloc (.cells (List.toArray [.int .i64 y.vKind, .slice ep5 y.vPath.length eq5, .string y.vTag, .string (strT y.vTree), .slice ea5 (kidsOf y.vTree).length ec5]) 36)) u5a.heap.size [.string (strT x), .slice at5 (kidsOf x).length ct5] 33) := bX5_6.out.below hby5 bX5_6.out.lt
  have x5e_7 : Hid (EditO (m + 1) (u5b.alloc (.cells (List.toArray [.int .i64 y.vKind, .slice ep5 y.vPath.length eq5, .string y.vTag, .string (strT y.vTree), .slice ea5 (kidsOf y.vTree).length ec5]) 36)) [.int .i64 y.vKind, .slice ep5 y.vPath.length eq5, .string y.vTag, .string (strT y.vTree), .slice ea5 (kidsOf y.vTree).length ec5] y f5e) := EditO_stays _ _ _ _ _ _ (fun x hx => (hby5).block x (EditO_lt _ _ _ _ _ x5e_6.out x hx)) x5e_6.out
  clear bA_6 bE_6 x5t_6 bX5_6 x5e_6
  have hB7 : Hid (Below w.heap.size w (u5b.alloc (.cells (List.toArray [.int .i64 y.vKind, .slice ep5 y.vPath.length eq5, .string y.vTag, .string (strT y.vTree), .slice ea5 (kidsOf y.vTree).length ec5]) 36))) := hB6.out.trans ((hby5).mono hB6.out.size)
  have sz7 := (hby5).size
  simp only [World.size_alloc] at sz7
  clear z6_bA_0 z6_bA_1 z6_bE_0 z6_bE_1 z6_bE_2 z6_bE_3 z6_bE_4 z6_bX5_0 z6_bX5_1
  have z7_bA_0 := bA_7.out.cell 0 rfl
  have z7_bA_1 := bA_7.out.cell 1 rfl
  have z7_bE_0 := bE_7.out.cell 0 rfl
  have z7_bE_1 := bE_7.out.cell 1 rfl
  have z7_bE_2 := bE_7.out.cell 2 rfl
  have z7_bE_3 := bE_7.out.cell 3 rfl
  have z7_bE_4 := bE_7.out.cell 4 rfl
  have z7_bX5_0 := bX5_7.out.cell 0 rfl
  have z7_bX5_1 := bX5_7.out.cell 1 rfl
  have bY5_7 : Hid (Box (u5b.alloc (.cells (List.toArray [.int .i64 y.vKind, .slice ep5 y.vPath.length eq5, .string y.vTag, .string (strT y.vTree), .slice ea5 (kidsOf y.vTree).length ec5]) 36)) u5b.heap.size [.int .i64 y.vKind, .slice ep5 y.vPath.length eq5, .string y.vTag, .string (strT y.vTree), .slice ea5 (kidsOf y.vTree).length ec5] 36) := Box.new u5b _ _
  have z7_bY5_0 := bY5_7.out.cell 0 rfl
  have z7_bY5_1 := bY5_7.out.cell 1 rfl
  have z7_bY5_2 := bY5_7.out.cell 2 rfl
  have z7_bY5_3 := bY5_7.out.cell 3 rfl
  have z7_bY5_4 := bY5_7.out.cell 4 rfl
  clear hby5
  go_wp2_with fail
  refine (implEditOk_any (treeO_ta x5t_7.out) (EditO_at (lo := 0) x5e_7.out (fun _ _ => Nat.zero_le _)).at).mono ?_
  rw [hYS'.out]
  rintro e w6 ⟨rfl, hb6⟩
  have bA_8 : Hid (Box w6 w.heap.size [.string (strT x), .slice a0 (kidsOf x).length cap0] 24) := bA_7.out.below hb6 bA_7.out.lt
  have bE_8 : Hid (Box w6 (w.heap.size + 1) [.int .i64 y.vKind, .slice ap y.vPath.length cp, .string y.vTag, .string (strT y.vTree), .slice a1 (kidsOf y.vTree).length c1] 27) := bE_7.out.below hb6 bE_7.out.lt
  have x5t_8 : Hid (TreeO (n + 1) w6 [.string (strT x), .slice at5 (kidsOf x).length ct5] x f5t) := TreeO_stays _ _ _ _ _ _ (fun x hx => (hb6).block x (TreeO_lt _ _ _ _ _ x5t_7.out x hx)) x5t_7.out
  have bX5_8 : Hid (Box w6 u5a.heap.size [.string (strT x), .slice at5 (kidsOf x).length ct5] 33) := bX5_7.out.below hb6 bX5_7.out.lt
  have x5e_8 : Hid (EditO (m + 1) w6 [.int .i64 y.vKind, .slice ep5 y.vPath.length eq5, .string y.vTag, .string (strT y.vTree), .slice ea5 (kidsOf y.vTree).length ec5] y f5e) := EditO_stays _ _ _ _ _ _ (fun x hx => (hb6).block x (EditO_lt _ _ _ _ _ x5e_7.out x hx)) x5e_7.out
  have bY5_8 : Hid (Box w6 u5b.heap.size [.int .i64 y.vKind, .slice ep5 y.vPath.length eq5, .string y.vTag, .string (strT y.vTree), .slice ea5 (kidsOf y.vTree).length ec5] 36) := bY5_7.out.below hb6 bY5_7.out.lt
  clear bA_7 bE_7 x5t_7 bX5_7 x5e_7 bY5_7
  have hB8 : Hid (Below w.heap.size w w6) := hB7.out.trans ((hb6).mono hB7.out.size)
  have sz8 := (hb6).size
  simp only [World.size_alloc] at sz8
  clear z7_bA_0 z7_bA_1 z7_bE_0 z7_bE_1 z7_bE_2 z7_bE_3 z7_bE_4 z7_bX5_0 z7_bX5_1 z7_bY5_0 z7_bY5_1 z7_bY5_2 z7_bY5_3 z7_bY5_4
  have z8_bA_0 := bA_8.out.cell 0 rfl
  have z8_bA_1 := bA_8.out.cell 1 rfl
  have z8_bE_0 := bE_8.out.cell 0 rfl
  have z8_bE_1 := bE_8.out.cell 1 rfl
  have z8_bE_2 := bE_8.out.cell 2 rfl
  have z8_bE_3 := bE_8.out.cell 3 rfl
  have z8_bE_4 := bE_8.out.cell 4 rfl
  have z8_bX5_0 := bX5_8.out.cell 0 rfl
  have z8_bX5_1 := bX5_8.out.cell 1 rfl
  have z8_bY5_0 := bY5_8.out.cell 0 rfl
  have z8_bY5_1 := bY5_8.out.cell 1 rfl
  have z8_bY5_2 := bY5_8.out.cell 2 rfl
  have z8_bY5_3 := bY5_8.out.cell 3 rfl
  have z8_bY5_4 := bY5_8.out.cell 4 rfl
  clear hb6
  have hw7 : Hid (TreeL (n + 1) w6 0 [.string (strT x), .slice at5 (kidsOf x).length ct5] x) := TreeO_at (lo := 0) (n + 1) _ _ _ _ x5t_8.out (fun _ _ => Nat.zero_le _)
  go_upto_region 14 with fail
  have lt_bX5 := bX5_8.out.lt
  have lt_bA := bA_8.out.lt
  go_region_held3 (fun w' => w'.cell? ⟨u5a.heap.size, 0, none⟩ = some (.string (strT x)) ∧ w'.cell? ⟨u5a.heap.size, 1, none⟩ = some (.slice at5 (kidsOf x).length ct5) ∧ w'.cell? ⟨w.heap.size, 0, none⟩ = some (.string (strT x)) ∧ w'.cell? ⟨w.heap.size, 1, none⟩ = some (.slice a0 (kidsOf x).length cap0)) (go_keep)
    (first | (go_at_call 11; refine ((toT_all (n + 1)).1 _ 0 _ x (by exact TreeL.below hx0.out hB8.out.drew) hsm.out).mono ?_; rintro e w8 ⟨⟨cs8, fs8, rfl, ht8, _, _⟩, hb8⟩; have hb8' := undrew hb8; have bX58 : Hid (Box w8 u5a.heap.size _ _) := Box.below bX5_8.out hb8' lt_bX5; have bA8 : Hid (Box w8 w.heap.size _ _) := Box.below bA_8.out hb8' lt_bA; have bX580 := bX58.out.cell 0 rfl; have bX581 := bX58.out.cell 1 rfl; have bA80 := bA8.out.cell 0 rfl; have bA81 := bA8.out.cell 1 rfl; have l8ah : Hid (TreeL (n + 1) w8 0 [.string (strT x), .slice at5 (kidsOf x).length ct5] x) := hw7.out.below hb8'; have l8bh : Hid (TreeL (n + 1) w8 0 cs8 x) := TreeO_at (lo := 0) (n + 1) _ _ _ _ ht8 (fun _ _ => Nat.zero_le _); have hb8h : Hid (Below w6.heap.size w6 w8) := hb8'; clear hb8 hb8' ht8) | (go_at_call 14; refine (eqTree_any (by exact l8ah.out) (by exact l8bh.out)).mono ?_; rintro e w9 ⟨rfl, hb9⟩; have bX59 : Hid (Box w9 u5a.heap.size _ _) := Box.below bX58.out hb9 bX58.out.lt; have bA9 : Hid (Box w9 w.heap.size _ _) := Box.below bA8.out hb9 bA8.out.lt; have bX590 := bX59.out.cell 0 rfl; have bX591 := bX59.out.cell 1 rfl; have bA90 := bA9.out.cell 0 rfl; have bA91 := bA9.out.cell 1 rfl; have hb9h : Hid (Below w6.heap.size w6 w9) := hb8h.out.trans (hb9.mono hb8h.out.size); clear hb9))
  have hb79 : Below w6.heap.size w6 w9 := hb9h.out
  clear hb8h hb9h l8ah l8bh hw7 bX58 bX59 lt_bX5 bA8 bA9 lt_bA bX580 bX590 bX581 bX591 bA80 bA90 bA81 bA91
  have bA_9 : Hid (Box w9 w.heap.size [.string (strT x), .slice a0 (kidsOf x).length cap0] 24) := bA_8.out.below hb79 bA_8.out.lt
  have bE_9 : Hid (Box w9 (w.heap.size + 1) [.int .i64 y.vKind, .slice ap y.vPath.length cp, .string y.vTag, .string (strT y.vTree), .slice a1 (kidsOf y.vTree).length c1] 27) := bE_8.out.below hb79 bE_8.out.lt
  have x5t_9 : Hid (TreeO (n + 1) w9 [.string (strT x), .slice at5 (kidsOf x).length ct5] x f5t) := TreeO_stays _ _ _ _ _ _ (fun x hx => (hb79).block x (TreeO_lt _ _ _ _ _ x5t_8.out x hx)) x5t_8.out
  have bX5_9 : Hid (Box w9 u5a.heap.size [.string (strT x), .slice at5 (kidsOf x).length ct5] 33) := bX5_8.out.below hb79 bX5_8.out.lt
  have x5e_9 : Hid (EditO (m + 1) w9 [.int .i64 y.vKind, .slice ep5 y.vPath.length eq5, .string y.vTag, .string (strT y.vTree), .slice ea5 (kidsOf y.vTree).length ec5] y f5e) := EditO_stays _ _ _ _ _ _ (fun x hx => (hb79).block x (EditO_lt _ _ _ _ _ x5e_8.out x hx)) x5e_8.out
  have bY5_9 : Hid (Box w9 u5b.heap.size [.int .i64 y.vKind, .slice ep5 y.vPath.length eq5, .string y.vTag, .string (strT y.vTree), .slice ea5 (kidsOf y.vTree).length ec5] 36) := bY5_8.out.below hb79 bY5_8.out.lt
  clear bA_8 bE_8 x5t_8 bX5_8 x5e_8 bY5_8
  have hB9 : Hid (Below w.heap.size w w9) := hB8.out.trans ((hb79).mono hB8.out.size)
  have sz9 := (hb79).size
  clear z8_bA_0 z8_bA_1 z8_bE_0 z8_bE_1 z8_bE_2 z8_bE_3 z8_bE_4 z8_bX5_0 z8_bX5_1 z8_bY5_0 z8_bY5_1 z8_bY5_2 z8_bY5_3 z8_bY5_4
  have z9_bA_0 := bA_9.out.cell 0 rfl
  have z9_bA_1 := bA_9.out.cell 1 rfl
  have z9_bE_0 := bE_9.out.cell 0 rfl
  have z9_bE_1 := bE_9.out.cell 1 rfl
  have z9_bE_2 := bE_9.out.cell 2 rfl
  have z9_bE_3 := bE_9.out.cell 3 rfl
  have z9_bE_4 := bE_9.out.cell 4 rfl
  have z9_bX5_0 := bX5_9.out.cell 0 rfl
  have z9_bX5_1 := bX5_9.out.cell 1 rfl
  have z9_bY5_0 := bY5_9.out.cell 0 rfl
  have z9_bY5_1 := bY5_9.out.cell 1 rfl
  have z9_bY5_2 := bY5_9.out.cell 2 rfl
  have z9_bY5_3 := bY5_9.out.cell 3 rfl
  have z9_bY5_4 := bY5_9.out.cell 4 rfl
  clear hb79
  have hw7 : Hid (EditL (m + 1) w9 0 [.int .i64 y.vKind, .slice ep5 y.vPath.length eq5, .string y.vTag, .string (strT y.vTree), .slice ea5 (kidsOf y.vTree).length ec5] y) := EditO_at (lo := 0) x5e_9.out (fun _ _ => Nat.zero_le _)
  go_upto_region 16 with fail
  have lt_bY5 := bY5_9.out.lt
  have lt_bE := bE_9.out.lt
  go_region_held3 (fun w' => w'.cell? ⟨u5b.heap.size, 0, none⟩ = some (.int .i64 y.vKind) ∧ w'.cell? ⟨u5b.heap.size, 1, none⟩ = some (.slice ep5 y.vPath.length eq5) ∧ w'.cell? ⟨u5b.heap.size, 2, none⟩ = some (.string y.vTag) ∧ w'.cell? ⟨u5b.heap.size, 3, none⟩ = some (.string (strT y.vTree)) ∧ w'.cell? ⟨u5b.heap.size, 4, none⟩ = some (.slice ea5 (kidsOf y.vTree).length ec5) ∧ w'.cell? ⟨w.heap.size + 1, 0, none⟩ = some (.int .i64 y.vKind) ∧ w'.cell? ⟨w.heap.size + 1, 1, none⟩ = some (.slice ap y.vPath.length cp) ∧ w'.cell? ⟨w.heap.size + 1, 2, none⟩ = some (.string y.vTag) ∧ w'.cell? ⟨w.heap.size + 1, 3, none⟩ = some (.string (strT y.vTree)) ∧ w'.cell? ⟨w.heap.size + 1, 4, none⟩ = some (.slice a1 (kidsOf y.vTree).length c1)) (go_keep)
    (first | (go_at_call 12; refine (toEdit_own (by exact EditL.below hy0.out hB9.out.drew) hpl.out hsy.out).mono ?_; rintro e w10 ⟨⟨cs8, fs8, rfl, ht8, _⟩, hb8⟩; have hb8' := undrew hb8; have bY58 : Hid (Box w10 u5b.heap.size _ _) := Box.below bY5_9.out hb8' lt_bY5; have bE8 : Hid (Box w10 (w.heap.size + 1) _ _) := Box.below bE_9.out hb8' lt_bE; have bY580 := bY58.out.cell 0 rfl; have bY581 := bY58.out.cell 1 rfl; have bY582 := bY58.out.cell 2 rfl; have bY583 := bY58.out.cell 3 rfl; have bY584 := bY58.out.cell 4 rfl; have bE80 := bE8.out.cell 0 rfl; have bE81 := bE8.out.cell 1 rfl; have bE82 := bE8.out.cell 2 rfl; have bE83 := bE8.out.cell 3 rfl; have bE84 := bE8.out.cell 4 rfl; have l8ah : Hid (EditL (m + 1) w10 0 [.int .i64 y.vKind, .slice ep5 y.vPath.length eq5, .string y.vTag, .string (strT y.vTree), .slice ea5 (kidsOf y.vTree).length ec5] y) := hw7.out.below hb8'; have l8bh : Hid (EditL (m + 1) w10 0 cs8 y) := EditO_at (lo := 0) ht8 (fun _ _ => Nat.zero_le _); have hb8h : Hid (Below w9.heap.size w9 w10) := hb8'; clear hb8 hb8' ht8) | (go_at_call 15; refine (eqEdit_any (by exact l8ah.out) (by exact l8bh.out)).mono ?_; rintro e w11 ⟨rfl, hb9⟩; have bY59 : Hid (Box w11 u5b.heap.size _ _) := Box.below bY58.out hb9 bY58.out.lt; have bE9 : Hid (Box w11 (w.heap.size + 1) _ _) := Box.below bE8.out hb9 bE8.out.lt; have bY590 := bY59.out.cell 0 rfl; have bY591 := bY59.out.cell 1 rfl; have bY592 := bY59.out.cell 2 rfl; have bY593 := bY59.out.cell 3 rfl; have bY594 := bY59.out.cell 4 rfl; have bE90 := bE9.out.cell 0 rfl; have bE91 := bE9.out.cell 1 rfl; have bE92 := bE9.out.cell 2 rfl; have bE93 := bE9.out.cell 3 rfl; have bE94 := bE9.out.cell 4 rfl; have hb9h : Hid (Below w9.heap.size w9 w11) := hb8h.out.trans (hb9.mono hb8h.out.size); clear hb9))
  have hb79 : Below w9.heap.size w9 w11 := hb9h.out
  clear hb8h hb9h l8ah l8bh hw7 bY58 bY59 lt_bY5 bE8 bE9 lt_bE bY580 bY590 bY581 bY591 bY582 bY592 bY583 bY593 bY584 bY594 bE80 bE90 bE81 bE91 bE82 bE92 bE83 bE93 bE84 bE94
  have bA_10 : Hid (Box w11 w.heap.size [.string (strT x), .slice a0 (kidsOf x).length cap0] 24) := bA_9.out.below hb79 bA_9.out.lt
  have bE_10 : Hid (Box w11 (w.heap.size + 1) [.int .i64 y.vKind, .slice ap y.vPath.length cp, .string y.vTag, .string (strT y.vTree), .slice a1 (kidsOf y.vTree).length c1] 27) := bE_9.out.below hb79 bE_9.out.lt
  have x5t_10 : Hid (TreeO (n + 1) w11 [.string (strT x), .slice at5 (kidsOf x).length ct5] x f5t) := TreeO_stays _ _ _ _ _ _ (fun x hx => (hb79).block x (TreeO_lt _ _ _ _ _ x5t_9.out x hx)) x5t_9.out
  have bX5_10 : Hid (Box w11 u5a.heap.size [.string (strT x), .slice at5 (kidsOf x).length ct5] 33) := bX5_9.out.below hb79 bX5_9.out.lt
  have x5e_10 : Hid (EditO (m + 1) w11 [.int .i64 y.vKind, .slice ep5 y.vPath.length eq5, .string y.vTag, .string (strT y.vTree), .slice ea5 (kidsOf y.vTree).length ec5] y f5e) := EditO_stays _ _ _ _ _ _ (fun x hx => (hb79).block x (EditO_lt _ _ _ _ _ x5e_9.out x hx)) x5e_9.out
  have bY5_10 : Hid (Box w11 u5b.heap.size [.int .i64 y.vKind, .slice ep5 y.vPath.length eq5, .string y.vTag, .string (strT y.vTree), .slice ea5 (kidsOf y.vTree).length ec5] 36) := bY5_9.out.below hb79 bY5_9.out.lt
  clear bA_9 bE_9 x5t_9 bX5_9 x5e_9 bY5_9
  have hB10 : Hid (Below w.heap.size w w11) := hB9.out.trans ((hb79).mono hB9.out.size)
  have sz10 := (hb79).size
  clear z9_bA_0 z9_bA_1 z9_bE_0 z9_bE_1 z9_bE_2 z9_bE_3 z9_bE_4 z9_bX5_0 z9_bX5_1 z9_bY5_0 z9_bY5_1 z9_bY5_2 z9_bY5_3 z9_bY5_4
  have z10_bA_0 := bA_10.out.cell 0 rfl
  have z10_bA_1 := bA_10.out.cell 1 rfl
  have z10_bE_0 := bE_10.out.cell 0 rfl
  have z10_bE_1 := bE_10.out.cell 1 rfl
  have z10_bE_2 := bE_10.out.cell 2 rfl
  have z10_bE_3 := bE_10.out.cell 3 rfl
  have z10_bE_4 := bE_10.out.cell 4 rfl
  have z10_bX5_0 := bX5_10.out.cell 0 rfl
  have z10_bX5_1 := bX5_10.out.cell 1 rfl
  have z10_bY5_0 := bY5_10.out.cell 0 rfl
  have z10_bY5_1 := bY5_10.out.cell 1 rfl
  have z10_bY5_2 := bY5_10.out.cell 2 rfl
  have z10_bY5_3 := bY5_10.out.cell 3 rfl
  have z10_bY5_4 := bY5_10.out.cell 4 rfl
  clear hb79
  go_wp2_with fail
  go_ret
  exact ⟨rfl, hB10.out⟩
/-! The row -/
set_option maxRecDepth 100000 in
theorem lifted (os : Os) (started : os.Started) (H : Type) (enc : TypeId × Value → H) :
    ReturnsInHanded {} Try.checked os 3 .any (Rows.fnExactEditOkSpec.pre6 enc Try.prog Try.f3 Rows.fnExactEditOkRow.domain false) (Rows.fnExactEditOkSpec.post enc Try.prog Try.f3 false true false false) := by
  refine returnsInHanded_of_change (C := Try.checked) own started (by kernel_rfl) Try.func3
    (ChangeSpec.witness6 (enc := enc) (C := Try.checked) false ⟨#[], #[.agg #[.string ByteArray.empty, .slice none 0 0], .agg #[.int .i64 0, .slice none 0 0, .string ByteArray.empty, .string ByteArray.empty, .slice none 0 0]], []⟩ 8 (by kernel_rfl) (by kernel_rfl) (by kernel_rfl) (by kernel_rfl)) ?_
  intro W base args ds gs before hval0 hW hcnd _
  have hval : ∀ (j : Nat) t v, Try.f3.params[j]? = some t → args[j]? = some v → Value.okWide Try.prog W .any base t v := hval0
  have hW' := hW
  obtain ⟨p, q, hA0, hV, rfl, hfz, hnd⟩ := hW
  have hA : DataW.TrodAll enc Try.prog W 0 (fun _ => true) true Try.f3.params.toList args.toList ds p := hA0
  rw [Try.params3] at hA hval
  obtain ⟨v0, vs0, d0, ds0, p0, q0, hargs, rfl, rfl, h0, r0⟩ := trodAll_cons hA
  obtain ⟨v1, vs1, d1, ds1, p1, q1, rfl, rfl, rfl, h1, r1⟩ := trodAll_cons r0
  obtain ⟨rfl, rfl, rfl⟩ := trodAll_nil r1
  obtain rfl : args = #[v0, v1] := by cases args; simp_all
  obtain ⟨rfl, rfl⟩ := trodVars_none hV
  have k0 := h0
  have lt0 : ∀ x ∈ p0, x.block < W.heap.size := by obtain ⟨m, hm⟩ := k0; exact DataW.trod_lt m _ _ _ hm
  obtain ⟨cs0, rfl, _⟩ := okWide_struct Try.underlying24 (hval 0 24 v0 rfl rfl)
  obtain ⟨fuel0, hf0⟩ := h0
  obtain ⟨x0, hx0⟩ := TreeL_of_trod fuel0 _ _ hf0
  have hcs0 : (Value.agg cs0).cells = cs0 := rfl
  rw [hcs0] at hx0
  have k1 := h1
  have lt1 : ∀ x ∈ p1, x.block < W.heap.size := by obtain ⟨m, hm⟩ := k1; exact DataW.trod_lt m _ _ _ hm
  obtain ⟨cs1, rfl, _⟩ := okWide_struct Try.underlying27 (hval 1 27 v1 rfl rfl)
  obtain ⟨fuel1, hf1⟩ := h1
  obtain ⟨m1, x1, hx1⟩ := EditL_of_trod fuel1 _ _ hf1
  have hcs1 : (Value.agg cs1).cells = cs1 := rfl
  rw [hcs1] at hx1
  clear hA0 hval0
  have hwk := walk hx0 hx1
  rw [Array.toArray_toList] at hwk
  refine hwk.mono fun e W' ⟨he, bel⟩ => ?_
  subst he
  exact ⟨_, rfl, _, _, _, [], _, [], hW', trodAll_mk1 (shut_bool Try.underlying4 _), (trodAll_cons_mk (Below.trod laidOut (by kernel_rfl) (of_decide_eq_true (by kernel_rfl)) k0 bel lt0) (trodAll_cons_mk (Below.trod laidOut (by kernel_rfl) (of_decide_eq_true (by kernel_rfl)) k1 bel lt1) trodAll_mk0)), rfl, bel.frame _, fun h => by cases h⟩
theorem over : Rows.fnExactEditOkRow.holds Try.pinned (OpenSpec.ofChange Rows.fnExactEditOkSpec) :=
  OpenClaim.holds_of_wide 3 Try.f3 rfl rfl rfl rfl rfl rfl rfl ⟨rfl, rfl, rfl, rfl, rfl⟩ rfl rfl rfl rfl rfl (by kernel_rfl) Try.func3 (by kernel_rfl)
    (of_decide_eq_true (by kernel_rfl)) (by unfold Func.isWrapper; first | (rw [if_pos (by decide +kernel)]; kernel_rfl) | (rw [if_neg (by decide +kernel)]; exact ⟨rfl, rfl⟩))
    (fun os started H enc _ => lifted os started H enc)
end Go.Proofs.Ytfncmndgdomjiaa.fnExactEditOk
namespace Go.Proofs.Ytfncmndgdomjiaa
theorem fnExactEditOk_holds : Rows.FnExactEditOkSaid := fnExactEditOk.over
end Go.Proofs.Ytfncmndgdomjiaa
