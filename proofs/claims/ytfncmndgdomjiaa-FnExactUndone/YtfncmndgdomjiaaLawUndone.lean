/- At every tree and edit Undone answers as its specification, writes into no argument, and its answer owns its memory, behind another call too. No condition. -/
import Derived.Test.YtfncmndgdomjiaaEdCutT
import Derived.Test.YtfncmndgdomjiaaEdUnd
import Derived.ProofKit
import Derived.OpenShut
import Derived.ShutString
import Derived.ChangeOld
import Derived.Below
import Derived.Laws.Cover1
import Derived.WalkKit
namespace Go.Proofs.Ytfncmndgdomjiaa.fnExactUndone
open Go.ChangeShapes Go.WideShapes Go.ChangeAt Go.RowKit

theorem own : ownKnob Try.prog.godebug = none := by kernel_rfl
theorem laidOut : laidOutB Try.prog = true := by kernel_rfl
set_option maxRecDepth 100000 in
set_option maxHeartbeats 6400000 in
theorem walk {n0 n1 : Nat} {w : World} {cs ce : List Value} {x : TD} {y : EditD} (hx : TreeL n0 w 0 cs x) (hy : EditL n1 w 0 ce y) :
    Calls Try.prog 6 #[.agg cs.toArray, .agg ce.toArray] w fun e w' => e = .returned (.bool true) ∧ Below w.heap.size w w' := by
  obtain ⟨n, rfl⟩ : ∃ n, n0 = n + 1 := by cases n0 with | zero => exact hx.elim | succ n => exact ⟨n, rfl⟩
  obtain ⟨m, rfl⟩ : ∃ m, n1 = m + 1 := by
    cases n1 with
    | zero => obtain ⟨_, _, _, _, _, _, q⟩ := hy; exact q.elim
    | succ m => exact ⟨m, rfl⟩
  have hx0 : Hid (TreeL (n + 1) w 0 cs x) := hx
  have hy0 : Hid (EditL (m + 1) w 0 ce y) := hy
  obtain ⟨k1, rfl, s1, _⟩ := hx.opened
  obtain ⟨a0, cap0, rfl⟩ := s1.form
  obtain ⟨ap, cp, a1, c1, rfl, _, _, _⟩ := hy.form
  clear hx hy s1
  have hB0 : Hid (Below w.heap.size w ((w.alloc (.cells (List.toArray [.string (strT x), .slice a0 (kidsOf x).length cap0]) 24)).alloc (.cells (List.toArray [.int .i64 y.vKind, .slice ap y.vPath.length cp, .string y.vTag, .string (strT y.vTree), .slice a1 (kidsOf y.vTree).length c1]) 27))) := ((Below.refl _ _).alloc (Nat.le_refl _) _).alloc (by simp) _
  have bA_0 : Hid (Box ((w.alloc (.cells (List.toArray [.string (strT x), .slice a0 (kidsOf x).length cap0]) 24)).alloc (.cells (List.toArray [.int .i64 y.vKind, .slice ap y.vPath.length cp, .string y.vTag, .string (strT y.vTree), .slice a1 (kidsOf y.vTree).length c1]) 27)) w.heap.size [.string (strT x), .slice a0 (kidsOf x).length cap0] 24) := (Box.new w _ _).alloc _
  have z0_bA_0 := bA_0.out.cell 0 rfl
  have z0_bA_1 := bA_0.out.cell 1 rfl
  have bE_0 : Hid (Box ((w.alloc (.cells (List.toArray [.string (strT x), .slice a0 (kidsOf x).length cap0]) 24)).alloc (.cells (List.toArray [.int .i64 y.vKind, .slice ap y.vPath.length cp, .string y.vTag, .string (strT y.vTree), .slice a1 (kidsOf y.vTree).length c1]) 27)) (w.heap.size + 1) [.int .i64 y.vKind, .slice ap y.vPath.length cp, .string y.vTag, .string (strT y.vTree), .slice a1 (kidsOf y.vTree).length c1] 27) := (by have hh := Box.new (w.alloc (.cells (List.toArray [.string (strT x), .slice a0 (kidsOf x).length cap0]) 24)) [.int .i64 y.vKind, .slice ap y.vPath.length cp, .string y.vTag, .string (strT y.vTree), .slice a1 (kidsOf y.vTree).length c1] 27; simpa only [World.size_alloc, Hid] using hh)
  have z0_bE_0 := bE_0.out.cell 0 rfl
  have z0_bE_1 := bE_0.out.cell 1 rfl
  have z0_bE_2 := bE_0.out.cell 2 rfl
  have z0_bE_3 := bE_0.out.cell 3 rfl
  have z0_bE_4 := bE_0.out.cell 4 rfl
  have szA : w.heap.size + 1 + 1 ≤ ((w.alloc (.cells (List.toArray [.string (strT x), .slice a0 (kidsOf x).length cap0]) 24)).alloc (.cells (List.toArray [.int .i64 y.vKind, .slice ap y.vPath.length cp, .string y.vTag, .string (strT y.vTree), .slice a1 (kidsOf y.vTree).length c1]) 27)).heap.size := by simp
  simp only [World.size_alloc] at szA
  go_enter Try.func6, Try.ntmps6
  go_wp2_with fail
  refine ((szT_all (n + 1)).1 _ 0 _ x _ (hx0.out.below hB0.out) (by omega) (by omega)).mono ?_
  rintro e w1 ⟨⟨r, rfl, hr1, hr2, hsm⟩, hb1⟩
  have hsm' : Hid (r < 0 ∨ (SmallO (n + 1) x ∧ r + (belowN (n + 1) x : Int) ≤ 1048576)) := hsm
  clear hsm
  have bA_1 : Hid (Box w1 w.heap.size [.string (strT x), .slice a0 (kidsOf x).length cap0] 24) := bA_0.out.below hb1 bA_0.out.lt
  have bE_1 : Hid (Box w1 (w.heap.size + 1) [.int .i64 y.vKind, .slice ap y.vPath.length cp, .string y.vTag, .string (strT y.vTree), .slice a1 (kidsOf y.vTree).length c1] 27) := bE_0.out.below hb1 bE_0.out.lt
  clear bA_0 bE_0
  have hB1 : Hid (Below w.heap.size w w1) := hB0.out.trans ((hb1).mono hB0.out.size)
  have sz1 := (hb1).size
  simp only [World.size_alloc] at sz1
  clear z0_bA_0 z0_bA_1 z0_bE_0 z0_bE_1 z0_bE_2 z0_bE_3 z0_bE_4
  have z1_bA_0 := bA_1.out.cell 0 rfl
  have z1_bA_1 := bA_1.out.cell 1 rfl
  have z1_bE_0 := bE_1.out.cell 0 rfl
  have z1_bE_1 := bE_1.out.cell 1 rfl
  have z1_bE_2 := bE_1.out.cell 2 rfl
  have z1_bE_3 := bE_1.out.cell 3 rfl
  have z1_bE_4 := bE_1.out.cell 4 rfl
  clear hb1
  by_cases hneg : r < 0
  · go_wp2_with fail
    go_ret
    exact ⟨rfl, hB1.out⟩
  have hsm : Hid (SmallO (n + 1) x) := (hsm'.out.resolve_left hneg).1
  have hcx : Hid ((cntL (cntTree n) (kidsOf x) : Int) ≤ 1048576) := by show _ ≤ _; have := (hsm'.out.resolve_left hneg).2; simp only [belowN] at this; omega
  clear hsm'
  go_wp2_with fail
  refine (szEdit_any (hy0.out.below hB1.out) (by omega) (by omega)).mono ?_
  rintro e w2 ⟨⟨r2, rfl, hr3, hr4, hsl⟩, hb2⟩
  have hsl' : Hid (r2 < 0 ∨ (y.vPath.length ≤ 1048576 ∧ SmallO (m + 1) y.vTree ∧ (belowN (m + 1) y.vTree : Int) ≤ 1048576)) := hsl
  clear hsl
  have bA_2 : Hid (Box w2 w.heap.size [.string (strT x), .slice a0 (kidsOf x).length cap0] 24) := bA_1.out.below hb2 bA_1.out.lt
  have bE_2 : Hid (Box w2 (w.heap.size + 1) [.int .i64 y.vKind, .slice ap y.vPath.length cp, .string y.vTag, .string (strT y.vTree), .slice a1 (kidsOf y.vTree).length c1] 27) := bE_1.out.below hb2 bE_1.out.lt
  clear bA_1 bE_1
  have hB2 : Hid (Below w.heap.size w w2) := hB1.out.trans ((hb2).mono hB1.out.size)
  have sz2 := (hb2).size
  clear z1_bA_0 z1_bA_1 z1_bE_0 z1_bE_1 z1_bE_2 z1_bE_3 z1_bE_4
  have z2_bA_0 := bA_2.out.cell 0 rfl
  have z2_bA_1 := bA_2.out.cell 1 rfl
  have z2_bE_0 := bE_2.out.cell 0 rfl
  have z2_bE_1 := bE_2.out.cell 1 rfl
  have z2_bE_2 := bE_2.out.cell 2 rfl
  have z2_bE_3 := bE_2.out.cell 3 rfl
  have z2_bE_4 := bE_2.out.cell 4 rfl
  clear hb2
  by_cases hneg2 : r2 < 0
  · go_wp2_with fail
    go_ret
    exact ⟨rfl, hB2.out⟩
  have hpl : Hid (y.vPath.length ≤ 1048576) := (hsl'.out.resolve_left hneg2).1
  have hsy : Hid (SmallO (m + 1) y.vTree) := (hsl'.out.resolve_left hneg2).2.1
  have hcy : Hid ((cntE m y : Int) ≤ 2097152) := by show _ ≤ _; have h1 := (hsl'.out.resolve_left hneg2).2.2; have h2 := hpl.out; simp only [belowN] at h1; unfold cntE; rw [cntL_int]; omega
  clear hsl'
  generalize hYS : undoneD x y = oo
  have hYS' : Hid (undoneD x y = oo) := hYS
  clear hYS
  have hYC : Hid (∀ L, (1 : Int) + (cntE L (resE oo) : Nat) ≤ 4611686018427387904) := fun L => by have h := unCnt x y hpl.out L; rw [hYS'.out] at h; omega
  go_upto_region 8 with fail
  go_cut [6, 7] (fun sP sB wx => ∃ (gz : Nat) (pW : Option Addr) (dW : Nat) (aW : Option Addr) (cW : Nat), sP = .pointer (some ⟨gz, 0, none⟩) ∧ sB = .bool oo.isSome ∧ Hid (Below w2.heap.size w2 wx) ∧ Hid (Box wx gz [.int .i64 (resE oo).vKind, .slice pW (resE oo).vPath.length dW, .string (resE oo).vTag, .string (strT (resE oo).vTree), .slice aW (kidsOf (resE oo).vTree).length cW] 36) ∧ w2.heap.size ≤ gz ∧ Hid (∃ fz nz, EditO (nz + 1) wx [.int .i64 (resE oo).vKind, .slice pW (resE oo).vPath.length dW, .string (resE oo).vTag, .string (strT (resE oo).vTree), .slice aW (kidsOf (resE oo).vTree).length cW] (resE oo) fz ∧ fz.Nodup ∧ ∀ b ∈ fz, w2.heap.size ≤ b ∧ b ≠ gz))
  case first =>
    have lA_ := bE_2.out.lt
    have kp0 : Hid (Below w2.heap.size w2 w2.drew) := (Below.refl _ _).drew
    refine wp_region_held_drew (S := fun w' => w'.cell? ⟨w.heap.size, 0, none⟩ = some (.string (strT x)) ∧ w'.cell? ⟨w.heap.size, 1, none⟩ = some (.slice a0 (kidsOf x).length cap0) ∧ w'.cell? ⟨w.heap.size + 1, 0, none⟩ = some (.int .i64 y.vKind) ∧ w'.cell? ⟨w.heap.size + 1, 1, none⟩ = some (.slice ap y.vPath.length cp) ∧ w'.cell? ⟨w.heap.size + 1, 2, none⟩ = some (.string y.vTag) ∧ w'.cell? ⟨w.heap.size + 1, 3, none⟩ = some (.string (strT y.vTree)) ∧ w'.cell? ⟨w.heap.size + 1, 4, none⟩ = some (.slice a1 (kidsOf y.vTree).length c1)) (by kernel_rfl) ⟨bA_2.out.cell 0 rfl, bA_2.out.cell 1 rfl, bE_2.out.cell 0 rfl, bE_2.out.cell 1 rfl, bE_2.out.cell 2 rfl, bE_2.out.cell 3 rfl, bE_2.out.cell 4 rfl⟩ (fun hHeld => ?_)
    refine tq (i := 0) (d := 28) ?_
    simp only [sz, ss]
    refine tq (i := 2) (d := 30) ?_
    simp only [sz, ss]
    refine wpAnyH_ready (rs := [1, 8]) (by kernel_rfl) (by simp) ?_
    refine (AllReadyH.cons rfl (fun K hK => ?_) (AllReadyH.cons rfl (fun K hK => ?_) AllReadyH.nil))
    · go_simp
      refine ((toT_all (n + 1)).1 _ 0 _ x (by exact TreeL.below hx0.out (Below.trans hB2.out (Below.mono kp0.out hB2.out.size))) hsm.out).mono ?_
      rintro e vwa1 ⟨⟨csA, fA, rfl, htA, _, _⟩, hbc1⟩
      obtain ⟨kA, rfl, sA, _⟩ := htA.opened
      obtain ⟨aA, cA, rfl⟩ := sA.form
      have kp1 : Hid (Below w2.heap.size w2 vwa1) := kp0.out.trans (Below.mono (hbc1) kp0.out.size)
      have at1 : Hid (TreeAt vwa1 0 (n + 1) (.string (strT x)) (.slice aA (kidsOf x).length cA) x) := treeO_ta htA
      clear htA sA
      refine hK.out _ _ ⟨cell_on hbc1 hHeld.1, cell_on hbc1 hHeld.2.1, cell_on hbc1 hHeld.2.2.1, cell_on hbc1 hHeld.2.2.2.1, cell_on hbc1 hHeld.2.2.2.2.1, cell_on hbc1 hHeld.2.2.2.2.2.1, cell_on hbc1 hHeld.2.2.2.2.2.2⟩ (fun hHeld => ?_)
      clear hK K
      refine wpAnyH_ready (rs := [3, 8]) (by kernel_rfl) (by simp) ?_
      refine (AllReadyH.cons rfl (fun K hK => ?_) (AllReadyH.cons rfl (fun K hK => ?_) AllReadyH.nil))
      · go_simp
        refine (toEdit_own (by exact EditL.below hy0.out (Below.trans hB2.out (Below.mono kp1.out hB2.out.size))) hpl.out hsy.out).mono ?_
        rintro e vwa2 ⟨⟨csH, fH, rfl, htH, _⟩, hbc2⟩
        have hlH := EditO_at (lo := 0) htH (fun _ _ => Nat.zero_le _)
        obtain ⟨pH, qH, aH, cH, rfl, _, _, _⟩ := hlH.form
        have kp2 : Hid (Below w2.heap.size w2 vwa2) := kp1.out.trans (Below.mono (hbc2) kp1.out.size)
        have at2 : Hid (TreeAt vwa2 0 (n + 1) (.string (strT x)) (.slice aA (kidsOf x).length cA) x) := TreeAt.below at1.out (hbc2)
        have eh2 : Hid (EditAt (m + 1) vwa2 0 [.int .i64 y.vKind, .slice pH y.vPath.length qH, .string y.vTag, .string (strT y.vTree), .slice aH (kidsOf y.vTree).length cH] y) := hlH.at
        clear htH hlH
        refine hK.out _ _ ⟨cell_on hbc2 hHeld.1, cell_on hbc2 hHeld.2.1, cell_on hbc2 hHeld.2.2.1, cell_on hbc2 hHeld.2.2.2.1, cell_on hbc2 hHeld.2.2.2.2.1, cell_on hbc2 hHeld.2.2.2.2.2.1, cell_on hbc2 hHeld.2.2.2.2.2.2⟩ (fun hHeld => ?_)
        clear hK K
        refine wpAnyH_ready (rs := [4, 8]) (by kernel_rfl) (by simp) ?_
        refine (AllReadyH.cons rfl (fun K hK => ?_) (AllReadyH.cons rfl (fun K hK => ?_) AllReadyH.nil))
        · go_simp
          refine (specUndone_any (by exact at2.out) (by exact eh2.out) hpl.out).mono ?_
          rw [hYS'.out]
          rintro e vwa3 ⟨csW, fW, nW, rfl, hoW0, hndW0, hlW0, hbc3⟩
          have hlW : Hid (∀ b ∈ fW, w2.heap.size ≤ b) := fun b m => Nat.le_trans kp2.out.size (hlW0 b m)
          have hndW : Hid (fW.Nodup) := hndW0
          obtain ⟨pW, dW, aW, cW, rfl, _, _, _⟩ := (EditO_at (lo := 0) hoW0 (fun _ _ => Nat.zero_le _)).form
          have anW : Hid (EditO nW vwa3 [.int .i64 (resE oo).vKind, .slice pW (resE oo).vPath.length dW, .string (resE oo).vTag, .string (strT (resE oo).vTree), .slice aW (kidsOf (resE oo).vTree).length cW] (resE oo) fW) := hoW0
          clear hoW0 hlW0 hndW0
          have kp3 : Hid (Below w2.heap.size w2 vwa3) := kp2.out.trans (Below.mono (hbc3) kp2.out.size)
          have at3 : Hid (TreeAt vwa3 0 (n + 1) (.string (strT x)) (.slice aA (kidsOf x).length cA) x) := TreeAt.below at2.out (hbc3)
          have eh3 : Hid (EditAt (m + 1) vwa3 0 [.int .i64 y.vKind, .slice pH y.vPath.length qH, .string y.vTag, .string (strT y.vTree), .slice aH (kidsOf y.vTree).length cH] y) := EditAt.stays _ _ _ _ _ _ (.of_below (hbc3)) eh2.out
          refine hK.out _ _ ⟨cell_on hbc3 hHeld.1, cell_on hbc3 hHeld.2.1, cell_on hbc3 hHeld.2.2.1, cell_on hbc3 hHeld.2.2.2.1, cell_on hbc3 hHeld.2.2.2.2.1, cell_on hbc3 hHeld.2.2.2.2.2.1, cell_on hbc3 hHeld.2.2.2.2.2.2⟩ (fun hHeld => ?_)
          clear hK K
          refine tq (i := 5) (d := 27) ?_
          simp only [sz, ss]
          refine tq (i := 6) (d := 33) ?_
          simp only [sz, ss]
          refine tq (i := 7) (d := 34) ?_
          simp only [sz, ss]
          refine wpAnyH_ready (rs := [8]) (by kernel_rfl) (by simp) ?_
          refine AllReadyH.cons rfl (fun K hK => ?_) AllReadyH.nil
          go_simp
          have kp4 : Hid (Below w2.heap.size w2 (World.alloc vwa3 (.cells (List.toArray [.int .i64 0, .slice none 0 0, .string ⟨#[]⟩, .string ⟨#[]⟩, .slice none 0 0]) 36))) := kp3.out.trans (Below.mono ((Below.refl (World.heap vwa3).size vwa3).alloc (Nat.le_refl _) _) kp3.out.size)
          have at4 : Hid (TreeAt (World.alloc vwa3 (.cells (List.toArray [.int .i64 0, .slice none 0 0, .string ⟨#[]⟩, .string ⟨#[]⟩, .slice none 0 0]) 36)) 0 (n + 1) (.string (strT x)) (.slice aA (kidsOf x).length cA) x) := TreeAt.below at3.out ((Below.refl (World.heap vwa3).size vwa3).alloc (Nat.le_refl _) _)
          have eh4 : Hid (EditAt (m + 1) (World.alloc vwa3 (.cells (List.toArray [.int .i64 0, .slice none 0 0, .string ⟨#[]⟩, .string ⟨#[]⟩, .slice none 0 0]) 36)) 0 [.int .i64 y.vKind, .slice pH y.vPath.length qH, .string y.vTag, .string (strT y.vTree), .slice aH (kidsOf y.vTree).length cH] y) := EditAt.stays _ _ _ _ _ _ (.of_below ((Below.refl (World.heap vwa3).size vwa3).alloc (Nat.le_refl _) _)) eh3.out
          have an4 : Hid (EditO nW (World.alloc vwa3 (.cells (List.toArray [.int .i64 0, .slice none 0 0, .string ⟨#[]⟩, .string ⟨#[]⟩, .slice none 0 0]) 36)) [.int .i64 (resE oo).vKind, .slice pW (resE oo).vPath.length dW, .string (resE oo).vTag, .string (strT (resE oo).vTree), .slice aW (kidsOf (resE oo).vTree).length cW] (resE oo) fW) := EditO_stays _ _ _ _ _ _ (fun b m => Below.block ((Below.refl (World.heap vwa3).size vwa3).alloc (Nat.le_refl _) _) b (EditO_lt _ _ _ _ _ anW.out b m)) anW.out
          have bz4 : Hid (Box (World.alloc vwa3 (.cells (List.toArray [.int .i64 0, .slice none 0 0, .string ⟨#[]⟩, .string ⟨#[]⟩, .slice none 0 0]) 36)) (World.heap vwa3).size [.int .i64 0, .slice none 0 0, .string ⟨#[]⟩, .string ⟨#[]⟩, .slice none 0 0] 36) := Box.new vwa3 _ _
          have gz4 : w2.heap.size ≤ (World.heap vwa3).size := kp3.out.size
          have nzW : Hid (∀ b ∈ fW, b ≠ (World.heap vwa3).size) := fun b m e => Nat.lt_irrefl _ (e ▸ EditO_lt _ _ _ _ _ anW.out b m)
          refine hK.out _ _ ⟨cell_alloc hHeld.1 _, cell_alloc hHeld.2.1 _, cell_alloc hHeld.2.2.1 _, cell_alloc hHeld.2.2.2.1 _, cell_alloc hHeld.2.2.2.2.1 _, cell_alloc hHeld.2.2.2.2.2.1 _, cell_alloc hHeld.2.2.2.2.2.2 _⟩ (fun hHeld => ?_)
          clear hK K
          refine wpAnyH_ready (rs := [9]) (by kernel_rfl) (by simp) ?_
          refine AllReadyH.cons rfl (fun K hK => ?_) AllReadyH.nil
          have hgz : w2.heap.size ≤ (World.heap vwa3).size := gz4
          have lp_ : w2.heap.size ≤ (World.heap vwa3).size := kp3.out.size
          go_simp
          refine hK.out _ _ ⟨cell_realloc hHeld.1 (by omega), cell_realloc hHeld.2.1 (by omega), cell_realloc hHeld.2.2.1 (by omega), cell_realloc hHeld.2.2.2.1 (by omega), cell_realloc hHeld.2.2.2.2.1 (by omega), cell_realloc hHeld.2.2.2.2.2.1 (by omega), cell_realloc hHeld.2.2.2.2.2.2 (by omega)⟩ (fun hHeld => ?_)
          clear hK K
          refine tq (i := 10) (d := 7) ?_
          simp only [sz, ss]
          refine wpAnyH_done (by kernel_rfl) ?_ _
          have bF : Hid (Box (World.alloc vwa3 (.cells (List.toArray [.int .i64 (resE oo).vKind, .slice pW (resE oo).vPath.length dW, .string (resE oo).vTag, .string (strT (resE oo).vTree), .slice aW (kidsOf (resE oo).vTree).length cW]) 36)) ((World.heap vwa3).size) [.int .i64 (resE oo).vKind, .slice pW (resE oo).vPath.length dW, .string (resE oo).vTag, .string (strT (resE oo).vTree), .slice aW (kidsOf (resE oo).vTree).length cW] 36) := Box.new vwa3 _ _
          have kF : Hid (Below w2.heap.size w2 (World.alloc vwa3 (.cells (List.toArray [.int .i64 (resE oo).vKind, .slice pW (resE oo).vPath.length dW, .string (resE oo).vTag, .string (strT (resE oo).vTree), .slice aW (kidsOf (resE oo).vTree).length cW]) 36))) := kp3.out.alloc lp_ _
          have aF : Hid (∃ fz nz, EditO (nz + 1) (World.alloc vwa3 (.cells (List.toArray [.int .i64 (resE oo).vKind, .slice pW (resE oo).vPath.length dW, .string (resE oo).vTag, .string (strT (resE oo).vTree), .slice aW (kidsOf (resE oo).vTree).length cW]) 36)) [.int .i64 (resE oo).vKind, .slice pW (resE oo).vPath.length dW, .string (resE oo).vTag, .string (strT (resE oo).vTree), .slice aW (kidsOf (resE oo).vTree).length cW] (resE oo) fz ∧ fz.Nodup ∧ ∀ b ∈ fz, w2.heap.size ≤ b ∧ b ≠ (World.heap vwa3).size) := ⟨fW, nW, EditO_mono (Nat.le_succ _) (EditO_stays _ _ _ _ _ _ (fun b m => Below.heap_alloc _ _ _ (EditO_lt _ _ _ _ _ anW.out b m)) anW.out), hndW.out, fun b m => ⟨hlW.out b m, nzW.out b m⟩⟩
          go_wp2_with fail
          go_meet
          exact ⟨_, pW, dW, aW, cW, rfl, rfl, kF, bF, hgz, aF⟩
        · go_simp
          have kp3 : Hid (Below w2.heap.size w2 (World.alloc vwa2 (.cells (List.toArray [.int .i64 0, .slice none 0 0, .string ⟨#[]⟩, .string ⟨#[]⟩, .slice none 0 0]) 36))) := kp2.out.trans (Below.mono ((Below.refl (World.heap vwa2).size vwa2).alloc (Nat.le_refl _) _) kp2.out.size)
          have at3 : Hid (TreeAt (World.alloc vwa2 (.cells (List.toArray [.int .i64 0, .slice none 0 0, .string ⟨#[]⟩, .string ⟨#[]⟩, .slice none 0 0]) 36)) 0 (n + 1) (.string (strT x)) (.slice aA (kidsOf x).length cA) x) := TreeAt.below at2.out ((Below.refl (World.heap vwa2).size vwa2).alloc (Nat.le_refl _) _)
          have eh3 : Hid (EditAt (m + 1) (World.alloc vwa2 (.cells (List.toArray [.int .i64 0, .slice none 0 0, .string ⟨#[]⟩, .string ⟨#[]⟩, .slice none 0 0]) 36)) 0 [.int .i64 y.vKind, .slice pH y.vPath.length qH, .string y.vTag, .string (strT y.vTree), .slice aH (kidsOf y.vTree).length cH] y) := EditAt.stays _ _ _ _ _ _ (.of_below ((Below.refl (World.heap vwa2).size vwa2).alloc (Nat.le_refl _) _)) eh2.out
          have bz3 : Hid (Box (World.alloc vwa2 (.cells (List.toArray [.int .i64 0, .slice none 0 0, .string ⟨#[]⟩, .string ⟨#[]⟩, .slice none 0 0]) 36)) (World.heap vwa2).size [.int .i64 0, .slice none 0 0, .string ⟨#[]⟩, .string ⟨#[]⟩, .slice none 0 0] 36) := Box.new vwa2 _ _
          have gz3 : w2.heap.size ≤ (World.heap vwa2).size := kp2.out.size
          refine hK.out _ _ ⟨cell_alloc hHeld.1 _, cell_alloc hHeld.2.1 _, cell_alloc hHeld.2.2.1 _, cell_alloc hHeld.2.2.2.1 _, cell_alloc hHeld.2.2.2.2.1 _, cell_alloc hHeld.2.2.2.2.2.1 _, cell_alloc hHeld.2.2.2.2.2.2 _⟩ (fun hHeld => ?_)
          clear hK K
          refine wpAnyH_ready (rs := [4]) (by kernel_rfl) (by simp) ?_
          refine AllReadyH.cons rfl (fun K hK => ?_) AllReadyH.nil
          go_simp
          refine (specUndone_any (by exact at3.out) (by exact eh3.out) hpl.out).mono ?_
          rw [hYS'.out]
          rintro e vwa4 ⟨csW, fW, nW, rfl, hoW0, hndW0, hlW0, hbc4⟩
          have hlW : Hid (∀ b ∈ fW, w2.heap.size ≤ b) := fun b m => Nat.le_trans kp3.out.size (hlW0 b m)
          have hndW : Hid (fW.Nodup) := hndW0
          have nzW : Hid (∀ b ∈ fW, b ≠ (World.heap vwa2).size) := fun b m e => Nat.lt_irrefl _ (Nat.lt_of_lt_of_le (Box.lt bz3.out) (e ▸ hlW0 b m))
          obtain ⟨pW, dW, aW, cW, rfl, _, _, _⟩ := (EditO_at (lo := 0) hoW0 (fun _ _ => Nat.zero_le _)).form
          have anW : Hid (EditO nW vwa4 [.int .i64 (resE oo).vKind, .slice pW (resE oo).vPath.length dW, .string (resE oo).vTag, .string (strT (resE oo).vTree), .slice aW (kidsOf (resE oo).vTree).length cW] (resE oo) fW) := hoW0
          clear hoW0 hlW0 hndW0
          have kp4 : Hid (Below w2.heap.size w2 vwa4) := kp3.out.trans (Below.mono (hbc4) kp3.out.size)
          have bz4 : Hid (Box vwa4 (World.heap vwa2).size [.int .i64 0, .slice none 0 0, .string ⟨#[]⟩, .string ⟨#[]⟩, .slice none 0 0] 36) := Box.below bz3.out (hbc4) bz3.out.lt
          have at4 : Hid (TreeAt vwa4 0 (n + 1) (.string (strT x)) (.slice aA (kidsOf x).length cA) x) := TreeAt.below at3.out (hbc4)
          have eh4 : Hid (EditAt (m + 1) vwa4 0 [.int .i64 y.vKind, .slice pH y.vPath.length qH, .string y.vTag, .string (strT y.vTree), .slice aH (kidsOf y.vTree).length cH] y) := EditAt.stays _ _ _ _ _ _ (.of_below (hbc4)) eh3.out
          refine hK.out _ _ ⟨cell_on hbc4 hHeld.1, cell_on hbc4 hHeld.2.1, cell_on hbc4 hHeld.2.2.1, cell_on hbc4 hHeld.2.2.2.1, cell_on hbc4 hHeld.2.2.2.2.1, cell_on hbc4 hHeld.2.2.2.2.2.1, cell_on hbc4 hHeld.2.2.2.2.2.2⟩ (fun hHeld => ?_)
          clear hK K
          refine tq (i := 5) (d := 27) ?_
          simp only [sz, ss]
          refine tq (i := 6) (d := 33) ?_
          simp only [sz, ss]
          refine tq (i := 7) (d := 34) ?_
          simp only [sz, ss]
          refine wpAnyH_ready (rs := [9]) (by kernel_rfl) (by simp) ?_
          refine AllReadyH.cons rfl (fun K hK => ?_) AllReadyH.nil
          have hgz : w2.heap.size ≤ (World.heap vwa2).size := gz3
          have u0_ := bz4.out.cell 0 rfl
          have u1_ := bz4.out.cell 1 rfl
          have u2_ := bz4.out.cell 2 rfl
          have u3_ := bz4.out.cell 3 rfl
          have u4_ := bz4.out.cell 4 rfl
          have uf_ := bz4.out.unfrozen
          go_simp
          refine hK.out _ _ ⟨cell_set (T := (World.heap vwa2).size) (cell_set (T := (World.heap vwa2).size) (cell_set (T := (World.heap vwa2).size) (cell_set (T := (World.heap vwa2).size) (cell_set (T := (World.heap vwa2).size) (hHeld.1) (by omega) _) (by omega) _) (by omega) _) (by omega) _) (by omega) _, cell_set (T := (World.heap vwa2).size) (cell_set (T := (World.heap vwa2).size) (cell_set (T := (World.heap vwa2).size) (cell_set (T := (World.heap vwa2).size) (cell_set (T := (World.heap vwa2).size) (hHeld.2.1) (by omega) _) (by omega) _) (by omega) _) (by omega) _) (by omega) _, cell_set (T := (World.heap vwa2).size) (cell_set (T := (World.heap vwa2).size) (cell_set (T := (World.heap vwa2).size) (cell_set (T := (World.heap vwa2).size) (cell_set (T := (World.heap vwa2).size) (hHeld.2.2.1) (by omega) _) (by omega) _) (by omega) _) (by omega) _) (by omega) _, cell_set (T := (World.heap vwa2).size) (cell_set (T := (World.heap vwa2).size) (cell_set (T := (World.heap vwa2).size) (cell_set (T := (World.heap vwa2).size) (cell_set (T := (World.heap vwa2).size) (hHeld.2.2.2.1) (by omega) _) (by omega) _) (by omega) _) (by omega) _) (by omega) _, cell_set (T := (World.heap vwa2).size) (cell_set (T := (World.heap vwa2).size) (cell_set (T := (World.heap vwa2).size) (cell_set (T := (World.heap vwa2).size) (cell_set (T := (World.heap vwa2).size) (hHeld.2.2.2.2.1) (by omega) _) (by omega) _) (by omega) _) (by omega) _) (by omega) _, cell_set (T := (World.heap vwa2).size) (cell_set (T := (World.heap vwa2).size) (cell_set (T := (World.heap vwa2).size) (cell_set (T := (World.heap vwa2).size) (cell_set (T := (World.heap vwa2).size) (hHeld.2.2.2.2.2.1) (by omega) _) (by omega) _) (by omega) _) (by omega) _) (by omega) _, cell_set (T := (World.heap vwa2).size) (cell_set (T := (World.heap vwa2).size) (cell_set (T := (World.heap vwa2).size) (cell_set (T := (World.heap vwa2).size) (cell_set (T := (World.heap vwa2).size) (hHeld.2.2.2.2.2.2) (by omega) _) (by omega) _) (by omega) _) (by omega) _) (by omega) _⟩ (fun hHeld => ?_)
          clear hK K
          refine tq (i := 10) (d := 7) ?_
          simp only [sz, ss]
          refine wpAnyH_done (by kernel_rfl) ?_ _
          have bF : Hid (Box (putCells vwa4 ((World.heap vwa2).size) 0 [.int .i64 (resE oo).vKind, .slice pW (resE oo).vPath.length dW, .string (resE oo).vTag, .string (strT (resE oo).vTree), .slice aW (kidsOf (resE oo).vTree).length cW]) ((World.heap vwa2).size) [.int .i64 (resE oo).vKind, .slice pW (resE oo).vPath.length dW, .string (resE oo).vTag, .string (strT (resE oo).vTree), .slice aW (kidsOf (resE oo).vTree).length cW] 36) := (((((bz4.out.set _).set _).set _).set _).set _)
          have kF : Hid (Below w2.heap.size w2 (putCells vwa4 ((World.heap vwa2).size) 0 [.int .i64 (resE oo).vKind, .slice pW (resE oo).vPath.length dW, .string (resE oo).vTag, .string (strT (resE oo).vTree), .slice aW (kidsOf (resE oo).vTree).length cW])) := putCells_below _ _ _ _ _ _ hgz kp4.out
          have aF : Hid (∃ fz nz, EditO (nz + 1) (putCells vwa4 ((World.heap vwa2).size) 0 [.int .i64 (resE oo).vKind, .slice pW (resE oo).vPath.length dW, .string (resE oo).vTag, .string (strT (resE oo).vTree), .slice aW (kidsOf (resE oo).vTree).length cW]) [.int .i64 (resE oo).vKind, .slice pW (resE oo).vPath.length dW, .string (resE oo).vTag, .string (strT (resE oo).vTree), .slice aW (kidsOf (resE oo).vTree).length cW] (resE oo) fz ∧ fz.Nodup ∧ ∀ b ∈ fz, w2.heap.size ≤ b ∧ b ≠ (World.heap vwa2).size) := ⟨fW, nW, EditO_mono (Nat.le_succ _) (EditO_stays _ _ _ _ _ _ (fun b m => putCells_other _ _ _ _ _ (nzW.out b m)) anW.out), hndW.out, fun b m => ⟨hlW.out b m, nzW.out b m⟩⟩
          go_wp2_with fail
          go_meet
          exact ⟨_, pW, dW, aW, cW, rfl, rfl, kF, bF, hgz, aF⟩
      · go_simp
        have kp2 : Hid (Below w2.heap.size w2 (World.alloc vwa1 (.cells (List.toArray [.int .i64 0, .slice none 0 0, .string ⟨#[]⟩, .string ⟨#[]⟩, .slice none 0 0]) 36))) := kp1.out.trans (Below.mono ((Below.refl (World.heap vwa1).size vwa1).alloc (Nat.le_refl _) _) kp1.out.size)
        have at2 : Hid (TreeAt (World.alloc vwa1 (.cells (List.toArray [.int .i64 0, .slice none 0 0, .string ⟨#[]⟩, .string ⟨#[]⟩, .slice none 0 0]) 36)) 0 (n + 1) (.string (strT x)) (.slice aA (kidsOf x).length cA) x) := TreeAt.below at1.out ((Below.refl (World.heap vwa1).size vwa1).alloc (Nat.le_refl _) _)
        have bz2 : Hid (Box (World.alloc vwa1 (.cells (List.toArray [.int .i64 0, .slice none 0 0, .string ⟨#[]⟩, .string ⟨#[]⟩, .slice none 0 0]) 36)) (World.heap vwa1).size [.int .i64 0, .slice none 0 0, .string ⟨#[]⟩, .string ⟨#[]⟩, .slice none 0 0] 36) := Box.new vwa1 _ _
        have gz2 : w2.heap.size ≤ (World.heap vwa1).size := kp1.out.size
        refine hK.out _ _ ⟨cell_alloc hHeld.1 _, cell_alloc hHeld.2.1 _, cell_alloc hHeld.2.2.1 _, cell_alloc hHeld.2.2.2.1 _, cell_alloc hHeld.2.2.2.2.1 _, cell_alloc hHeld.2.2.2.2.2.1 _, cell_alloc hHeld.2.2.2.2.2.2 _⟩ (fun hHeld => ?_)
        clear hK K
        refine wpAnyH_ready (rs := [3]) (by kernel_rfl) (by simp) ?_
        refine AllReadyH.cons rfl (fun K hK => ?_) AllReadyH.nil
        go_simp
        refine (toEdit_own (by exact EditL.below hy0.out (Below.trans hB2.out (Below.mono kp2.out hB2.out.size))) hpl.out hsy.out).mono ?_
        rintro e vwa3 ⟨⟨csH, fH, rfl, htH, _⟩, hbc3⟩
        have hlH := EditO_at (lo := 0) htH (fun _ _ => Nat.zero_le _)
        obtain ⟨pH, qH, aH, cH, rfl, _, _, _⟩ := hlH.form
        have kp3 : Hid (Below w2.heap.size w2 vwa3) := kp2.out.trans (Below.mono (hbc3) kp2.out.size)
        have bz3 : Hid (Box vwa3 (World.heap vwa1).size [.int .i64 0, .slice none 0 0, .string ⟨#[]⟩, .string ⟨#[]⟩, .slice none 0 0] 36) := Box.below bz2.out (hbc3) bz2.out.lt
        have at3 : Hid (TreeAt vwa3 0 (n + 1) (.string (strT x)) (.slice aA (kidsOf x).length cA) x) := TreeAt.below at2.out (hbc3)
        have eh3 : Hid (EditAt (m + 1) vwa3 0 [.int .i64 y.vKind, .slice pH y.vPath.length qH, .string y.vTag, .string (strT y.vTree), .slice aH (kidsOf y.vTree).length cH] y) := hlH.at
        clear htH hlH
        refine hK.out _ _ ⟨cell_on hbc3 hHeld.1, cell_on hbc3 hHeld.2.1, cell_on hbc3 hHeld.2.2.1, cell_on hbc3 hHeld.2.2.2.1, cell_on hbc3 hHeld.2.2.2.2.1, cell_on hbc3 hHeld.2.2.2.2.2.1, cell_on hbc3 hHeld.2.2.2.2.2.2⟩ (fun hHeld => ?_)
        clear hK K
        refine wpAnyH_ready (rs := [4]) (by kernel_rfl) (by simp) ?_
        refine AllReadyH.cons rfl (fun K hK => ?_) AllReadyH.nil
        go_simp
        refine (specUndone_any (by exact at3.out) (by exact eh3.out) hpl.out).mono ?_
        rw [hYS'.out]
        rintro e vwa4 ⟨csW, fW, nW, rfl, hoW0, hndW0, hlW0, hbc4⟩
        have hlW : Hid (∀ b ∈ fW, w2.heap.size ≤ b) := fun b m => Nat.le_trans kp3.out.size (hlW0 b m)
        have hndW : Hid (fW.Nodup) := hndW0
        have nzW : Hid (∀ b ∈ fW, b ≠ (World.heap vwa1).size) := fun b m e => Nat.lt_irrefl _ (Nat.lt_of_lt_of_le (Box.lt bz3.out) (e ▸ hlW0 b m))
        obtain ⟨pW, dW, aW, cW, rfl, _, _, _⟩ := (EditO_at (lo := 0) hoW0 (fun _ _ => Nat.zero_le _)).form
        have anW : Hid (EditO nW vwa4 [.int .i64 (resE oo).vKind, .slice pW (resE oo).vPath.length dW, .string (resE oo).vTag, .string (strT (resE oo).vTree), .slice aW (kidsOf (resE oo).vTree).length cW] (resE oo) fW) := hoW0
        clear hoW0 hlW0 hndW0
        have kp4 : Hid (Below w2.heap.size w2 vwa4) := kp3.out.trans (Below.mono (hbc4) kp3.out.size)
        have bz4 : Hid (Box vwa4 (World.heap vwa1).size [.int .i64 0, .slice none 0 0, .string ⟨#[]⟩, .string ⟨#[]⟩, .slice none 0 0] 36) := Box.below bz3.out (hbc4) bz3.out.lt
        have at4 : Hid (TreeAt vwa4 0 (n + 1) (.string (strT x)) (.slice aA (kidsOf x).length cA) x) := TreeAt.below at3.out (hbc4)
        have eh4 : Hid (EditAt (m + 1) vwa4 0 [.int .i64 y.vKind, .slice pH y.vPath.length qH, .string y.vTag, .string (strT y.vTree), .slice aH (kidsOf y.vTree).length cH] y) := EditAt.stays _ _ _ _ _ _ (.of_below (hbc4)) eh3.out
        refine hK.out _ _ ⟨cell_on hbc4 hHeld.1, cell_on hbc4 hHeld.2.1, cell_on hbc4 hHeld.2.2.1, cell_on hbc4 hHeld.2.2.2.1, cell_on hbc4 hHeld.2.2.2.2.1, cell_on hbc4 hHeld.2.2.2.2.2.1, cell_on hbc4 hHeld.2.2.2.2.2.2⟩ (fun hHeld => ?_)
        clear hK K
        refine tq (i := 5) (d := 27) ?_
        simp only [sz, ss]
        refine tq (i := 6) (d := 33) ?_
        simp only [sz, ss]
        refine tq (i := 7) (d := 34) ?_
        simp only [sz, ss]
        refine wpAnyH_ready (rs := [9]) (by kernel_rfl) (by simp) ?_
        refine AllReadyH.cons rfl (fun K hK => ?_) AllReadyH.nil
        have hgz : w2.heap.size ≤ (World.heap vwa1).size := gz2
        have u0_ := bz4.out.cell 0 rfl
        have u1_ := bz4.out.cell 1 rfl
        have u2_ := bz4.out.cell 2 rfl
        have u3_ := bz4.out.cell 3 rfl
        have u4_ := bz4.out.cell 4 rfl
        have uf_ := bz4.out.unfrozen
        go_simp
        refine hK.out _ _ ⟨cell_set (T := (World.heap vwa1).size) (cell_set (T := (World.heap vwa1).size) (cell_set (T := (World.heap vwa1).size) (cell_set (T := (World.heap vwa1).size) (cell_set (T := (World.heap vwa1).size) (hHeld.1) (by omega) _) (by omega) _) (by omega) _) (by omega) _) (by omega) _, cell_set (T := (World.heap vwa1).size) (cell_set (T := (World.heap vwa1).size) (cell_set (T := (World.heap vwa1).size) (cell_set (T := (World.heap vwa1).size) (cell_set (T := (World.heap vwa1).size) (hHeld.2.1) (by omega) _) (by omega) _) (by omega) _) (by omega) _) (by omega) _, cell_set (T := (World.heap vwa1).size) (cell_set (T := (World.heap vwa1).size) (cell_set (T := (World.heap vwa1).size) (cell_set (T := (World.heap vwa1).size) (cell_set (T := (World.heap vwa1).size) (hHeld.2.2.1) (by omega) _) (by omega) _) (by omega) _) (by omega) _) (by omega) _, cell_set (T := (World.heap vwa1).size) (cell_set (T := (World.heap vwa1).size) (cell_set (T := (World.heap vwa1).size) (cell_set (T := (World.heap vwa1).size) (cell_set (T := (World.heap vwa1).size) (hHeld.2.2.2.1) (by omega) _) (by omega) _) (by omega) _) (by omega) _) (by omega) _, cell_set (T := (World.heap vwa1).size) (cell_set (T := (World.heap vwa1).size) (cell_set (T := (World.heap vwa1).size) (cell_set (T := (World.heap vwa1).size) (cell_set (T := (World.heap vwa1).size) (hHeld.2.2.2.2.1) (by omega) _) (by omega) _) (by omega) _) (by omega) _) (by omega) _, cell_set (T := (World.heap vwa1).size) (cell_set (T := (World.heap vwa1).size) (cell_set (T := (World.heap vwa1).size) (cell_set (T := (World.heap vwa1).size) (cell_set (T := (World.heap vwa1).size) (hHeld.2.2.2.2.2.1) (by omega) _) (by omega) _) (by omega) _) (by omega) _) (by omega) _, cell_set (T := (World.heap vwa1).size) (cell_set (T := (World.heap vwa1).size) (cell_set (T := (World.heap vwa1).size) (cell_set (T := (World.heap vwa1).size) (cell_set (T := (World.heap vwa1).size) (hHeld.2.2.2.2.2.2) (by omega) _) (by omega) _) (by omega) _) (by omega) _) (by omega) _⟩ (fun hHeld => ?_)
        clear hK K
        refine tq (i := 10) (d := 7) ?_
        simp only [sz, ss]
        refine wpAnyH_done (by kernel_rfl) ?_ _
        have bF : Hid (Box (putCells vwa4 ((World.heap vwa1).size) 0 [.int .i64 (resE oo).vKind, .slice pW (resE oo).vPath.length dW, .string (resE oo).vTag, .string (strT (resE oo).vTree), .slice aW (kidsOf (resE oo).vTree).length cW]) ((World.heap vwa1).size) [.int .i64 (resE oo).vKind, .slice pW (resE oo).vPath.length dW, .string (resE oo).vTag, .string (strT (resE oo).vTree), .slice aW (kidsOf (resE oo).vTree).length cW] 36) := (((((bz4.out.set _).set _).set _).set _).set _)
        have kF : Hid (Below w2.heap.size w2 (putCells vwa4 ((World.heap vwa1).size) 0 [.int .i64 (resE oo).vKind, .slice pW (resE oo).vPath.length dW, .string (resE oo).vTag, .string (strT (resE oo).vTree), .slice aW (kidsOf (resE oo).vTree).length cW])) := putCells_below _ _ _ _ _ _ hgz kp4.out
        have aF : Hid (∃ fz nz, EditO (nz + 1) (putCells vwa4 ((World.heap vwa1).size) 0 [.int .i64 (resE oo).vKind, .slice pW (resE oo).vPath.length dW, .string (resE oo).vTag, .string (strT (resE oo).vTree), .slice aW (kidsOf (resE oo).vTree).length cW]) [.int .i64 (resE oo).vKind, .slice pW (resE oo).vPath.length dW, .string (resE oo).vTag, .string (strT (resE oo).vTree), .slice aW (kidsOf (resE oo).vTree).length cW] (resE oo) fz ∧ fz.Nodup ∧ ∀ b ∈ fz, w2.heap.size ≤ b ∧ b ≠ (World.heap vwa1).size) := ⟨fW, nW, EditO_mono (Nat.le_succ _) (EditO_stays _ _ _ _ _ _ (fun b m => putCells_other _ _ _ _ _ (nzW.out b m)) anW.out), hndW.out, fun b m => ⟨hlW.out b m, nzW.out b m⟩⟩
        go_wp2_with fail
        go_meet
        exact ⟨_, pW, dW, aW, cW, rfl, rfl, kF, bF, hgz, aF⟩
    · go_simp
      have kp1 : Hid (Below w2.heap.size w2 (World.alloc w2.drew (.cells (List.toArray [.int .i64 0, .slice none 0 0, .string ⟨#[]⟩, .string ⟨#[]⟩, .slice none 0 0]) 36))) := kp0.out.trans (Below.mono ((Below.refl (World.heap w2.drew).size w2.drew).alloc (Nat.le_refl _) _) kp0.out.size)
      have bz1 : Hid (Box (World.alloc w2.drew (.cells (List.toArray [.int .i64 0, .slice none 0 0, .string ⟨#[]⟩, .string ⟨#[]⟩, .slice none 0 0]) 36)) w2.heap.size [.int .i64 0, .slice none 0 0, .string ⟨#[]⟩, .string ⟨#[]⟩, .slice none 0 0] 36) := Box.new w2.drew _ _
      have gz1 : w2.heap.size ≤ w2.heap.size := kp0.out.size
      refine hK.out _ _ ⟨cell_alloc hHeld.1 _, cell_alloc hHeld.2.1 _, cell_alloc hHeld.2.2.1 _, cell_alloc hHeld.2.2.2.1 _, cell_alloc hHeld.2.2.2.2.1 _, cell_alloc hHeld.2.2.2.2.2.1 _, cell_alloc hHeld.2.2.2.2.2.2 _⟩ (fun hHeld => ?_)
      clear hK K
      refine wpAnyH_ready (rs := [1]) (by kernel_rfl) (by simp) ?_
      refine AllReadyH.cons rfl (fun K hK => ?_) AllReadyH.nil
      go_simp
      refine ((toT_all (n + 1)).1 _ 0 _ x (by exact TreeL.below hx0.out (Below.trans hB2.out (Below.mono kp1.out hB2.out.size))) hsm.out).mono ?_
      rintro e vwa2 ⟨⟨csA, fA, rfl, htA, _, _⟩, hbc2⟩
      obtain ⟨kA, rfl, sA, _⟩ := htA.opened
      obtain ⟨aA, cA, rfl⟩ := sA.form
      have kp2 : Hid (Below w2.heap.size w2 vwa2) := kp1.out.trans (Below.mono (hbc2) kp1.out.size)
      have bz2 : Hid (Box vwa2 w2.heap.size [.int .i64 0, .slice none 0 0, .string ⟨#[]⟩, .string ⟨#[]⟩, .slice none 0 0] 36) := Box.below bz1.out (hbc2) bz1.out.lt
      have at2 : Hid (TreeAt vwa2 0 (n + 1) (.string (strT x)) (.slice aA (kidsOf x).length cA) x) := treeO_ta htA
      clear htA sA
      refine hK.out _ _ ⟨cell_on hbc2 hHeld.1, cell_on hbc2 hHeld.2.1, cell_on hbc2 hHeld.2.2.1, cell_on hbc2 hHeld.2.2.2.1, cell_on hbc2 hHeld.2.2.2.2.1, cell_on hbc2 hHeld.2.2.2.2.2.1, cell_on hbc2 hHeld.2.2.2.2.2.2⟩ (fun hHeld => ?_)
      clear hK K
      refine wpAnyH_ready (rs := [3]) (by kernel_rfl) (by simp) ?_
      refine AllReadyH.cons rfl (fun K hK => ?_) AllReadyH.nil
      go_simp
      refine (toEdit_own (by exact EditL.below hy0.out (Below.trans hB2.out (Below.mono kp2.out hB2.out.size))) hpl.out hsy.out).mono ?_
      rintro e vwa3 ⟨⟨csH, fH, rfl, htH, _⟩, hbc3⟩
      have hlH := EditO_at (lo := 0) htH (fun _ _ => Nat.zero_le _)
      obtain ⟨pH, qH, aH, cH, rfl, _, _, _⟩ := hlH.form
      have kp3 : Hid (Below w2.heap.size w2 vwa3) := kp2.out.trans (Below.mono (hbc3) kp2.out.size)
      have bz3 : Hid (Box vwa3 w2.heap.size [.int .i64 0, .slice none 0 0, .string ⟨#[]⟩, .string ⟨#[]⟩, .slice none 0 0] 36) := Box.below bz2.out (hbc3) bz2.out.lt
      have at3 : Hid (TreeAt vwa3 0 (n + 1) (.string (strT x)) (.slice aA (kidsOf x).length cA) x) := TreeAt.below at2.out (hbc3)
      have eh3 : Hid (EditAt (m + 1) vwa3 0 [.int .i64 y.vKind, .slice pH y.vPath.length qH, .string y.vTag, .string (strT y.vTree), .slice aH (kidsOf y.vTree).length cH] y) := hlH.at
      clear htH hlH
      refine hK.out _ _ ⟨cell_on hbc3 hHeld.1, cell_on hbc3 hHeld.2.1, cell_on hbc3 hHeld.2.2.1, cell_on hbc3 hHeld.2.2.2.1, cell_on hbc3 hHeld.2.2.2.2.1, cell_on hbc3 hHeld.2.2.2.2.2.1, cell_on hbc3 hHeld.2.2.2.2.2.2⟩ (fun hHeld => ?_)
      clear hK K
      refine wpAnyH_ready (rs := [4]) (by kernel_rfl) (by simp) ?_
      refine AllReadyH.cons rfl (fun K hK => ?_) AllReadyH.nil
      go_simp
      refine (specUndone_any (by exact at3.out) (by exact eh3.out) hpl.out).mono ?_
      rw [hYS'.out]
      rintro e vwa4 ⟨csW, fW, nW, rfl, hoW0, hndW0, hlW0, hbc4⟩
      have hlW : Hid (∀ b ∈ fW, w2.heap.size ≤ b) := fun b m => Nat.le_trans kp3.out.size (hlW0 b m)
      have hndW : Hid (fW.Nodup) := hndW0
      have nzW : Hid (∀ b ∈ fW, b ≠ w2.heap.size) := fun b m e => Nat.lt_irrefl _ (Nat.lt_of_lt_of_le (Box.lt bz3.out) (e ▸ hlW0 b m))
      obtain ⟨pW, dW, aW, cW, rfl, _, _, _⟩ := (EditO_at (lo := 0) hoW0 (fun _ _ => Nat.zero_le _)).form
      have anW : Hid (EditO nW vwa4 [.int .i64 (resE oo).vKind, .slice pW (resE oo).vPath.length dW, .string (resE oo).vTag, .string (strT (resE oo).vTree), .slice aW (kidsOf (resE oo).vTree).length cW] (resE oo) fW) := hoW0
      clear hoW0 hlW0 hndW0
      have kp4 : Hid (Below w2.heap.size w2 vwa4) := kp3.out.trans (Below.mono (hbc4) kp3.out.size)
      have bz4 : Hid (Box vwa4 w2.heap.size [.int .i64 0, .slice none 0 0, .string ⟨#[]⟩, .string ⟨#[]⟩, .slice none 0 0] 36) := Box.below bz3.out (hbc4) bz3.out.lt
      have at4 : Hid (TreeAt vwa4 0 (n + 1) (.string (strT x)) (.slice aA (kidsOf x).length cA) x) := TreeAt.below at3.out (hbc4)
      have eh4 : Hid (EditAt (m + 1) vwa4 0 [.int .i64 y.vKind, .slice pH y.vPath.length qH, .string y.vTag, .string (strT y.vTree), .slice aH (kidsOf y.vTree).length cH] y) := EditAt.stays _ _ _ _ _ _ (.of_below (hbc4)) eh3.out
      refine hK.out _ _ ⟨cell_on hbc4 hHeld.1, cell_on hbc4 hHeld.2.1, cell_on hbc4 hHeld.2.2.1, cell_on hbc4 hHeld.2.2.2.1, cell_on hbc4 hHeld.2.2.2.2.1, cell_on hbc4 hHeld.2.2.2.2.2.1, cell_on hbc4 hHeld.2.2.2.2.2.2⟩ (fun hHeld => ?_)
      clear hK K
      refine tq (i := 5) (d := 27) ?_
      simp only [sz, ss]
      refine tq (i := 6) (d := 33) ?_
      simp only [sz, ss]
      refine tq (i := 7) (d := 34) ?_
      simp only [sz, ss]
      refine wpAnyH_ready (rs := [9]) (by kernel_rfl) (by simp) ?_
      refine AllReadyH.cons rfl (fun K hK => ?_) AllReadyH.nil
      have hgz : w2.heap.size ≤ w2.heap.size := gz1
      have u0_ := bz4.out.cell 0 rfl
      have u1_ := bz4.out.cell 1 rfl
      have u2_ := bz4.out.cell 2 rfl
      have u3_ := bz4.out.cell 3 rfl
      have u4_ := bz4.out.cell 4 rfl
      have uf_ := bz4.out.unfrozen
      go_simp
      refine hK.out _ _ ⟨cell_set (T := w2.heap.size) (cell_set (T := w2.heap.size) (cell_set (T := w2.heap.size) (cell_set (T := w2.heap.size) (cell_set (T := w2.heap.size) (hHeld.1) (by omega) _) (by omega) _) (by omega) _) (by omega) _) (by omega) _, cell_set (T := w2.heap.size) (cell_set (T := w2.heap.size) (cell_set (T := w2.heap.size) (cell_set (T := w2.heap.size) (cell_set (T := w2.heap.size) (hHeld.2.1) (by omega) _) (by omega) _) (by omega) _) (by omega) _) (by omega) _, cell_set (T := w2.heap.size) (cell_set (T := w2.heap.size) (cell_set (T := w2.heap.size) (cell_set (T := w2.heap.size) (cell_set (T := w2.heap.size) (hHeld.2.2.1) (by omega) _) (by omega) _) (by omega) _) (by omega) _) (by omega) _, cell_set (T := w2.heap.size) (cell_set (T := w2.heap.size) (cell_set (T := w2.heap.size) (cell_set (T := w2.heap.size) (cell_set (T := w2.heap.size) (hHeld.2.2.2.1) (by omega) _) (by omega) _) (by omega) _) (by omega) _) (by omega) _, cell_set (T := w2.heap.size) (cell_set (T := w2.heap.size) (cell_set (T := w2.heap.size) (cell_set (T := w2.heap.size) (cell_set (T := w2.heap.size) (hHeld.2.2.2.2.1) (by omega) _) (by omega) _) (by omega) _) (by omega) _) (by omega) _, cell_set (T := w2.heap.size) (cell_set (T := w2.heap.size) (cell_set (T := w2.heap.size) (cell_set (T := w2.heap.size) (cell_set (T := w2.heap.size) (hHeld.2.2.2.2.2.1) (by omega) _) (by omega) _) (by omega) _) (by omega) _) (by omega) _, cell_set (T := w2.heap.size) (cell_set (T := w2.heap.size) (cell_set (T := w2.heap.size) (cell_set (T := w2.heap.size) (cell_set (T := w2.heap.size) (hHeld.2.2.2.2.2.2) (by omega) _) (by omega) _) (by omega) _) (by omega) _) (by omega) _⟩ (fun hHeld => ?_)
      clear hK K
      refine tq (i := 10) (d := 7) ?_
      simp only [sz, ss]
      refine wpAnyH_done (by kernel_rfl) ?_ _
      have bF : Hid (Box (putCells vwa4 (w2.heap.size) 0 [.int .i64 (resE oo).vKind, .slice pW (resE oo).vPath.length dW, .string (resE oo).vTag, .string (strT (resE oo).vTree), .slice aW (kidsOf (resE oo).vTree).length cW]) (w2.heap.size) [.int .i64 (resE oo).vKind, .slice pW (resE oo).vPath.length dW, .string (resE oo).vTag, .string (strT (resE oo).vTree), .slice aW (kidsOf (resE oo).vTree).length cW] 36) := (((((bz4.out.set _).set _).set _).set _).set _)
      have kF : Hid (Below w2.heap.size w2 (putCells vwa4 (w2.heap.size) 0 [.int .i64 (resE oo).vKind, .slice pW (resE oo).vPath.length dW, .string (resE oo).vTag, .string (strT (resE oo).vTree), .slice aW (kidsOf (resE oo).vTree).length cW])) := putCells_below _ _ _ _ _ _ hgz kp4.out
      have aF : Hid (∃ fz nz, EditO (nz + 1) (putCells vwa4 (w2.heap.size) 0 [.int .i64 (resE oo).vKind, .slice pW (resE oo).vPath.length dW, .string (resE oo).vTag, .string (strT (resE oo).vTree), .slice aW (kidsOf (resE oo).vTree).length cW]) [.int .i64 (resE oo).vKind, .slice pW (resE oo).vPath.length dW, .string (resE oo).vTag, .string (strT (resE oo).vTree), .slice aW (kidsOf (resE oo).vTree).length cW] (resE oo) fz ∧ fz.Nodup ∧ ∀ b ∈ fz, w2.heap.size ≤ b ∧ b ≠ w2.heap.size) := ⟨fW, nW, EditO_mono (Nat.le_succ _) (EditO_stays _ _ _ _ _ _ (fun b m => putCells_other _ _ _ _ _ (nzW.out b m)) anW.out), hndW.out, fun b m => ⟨hlW.out b m, nzW.out b m⟩⟩
      go_wp2_with fail
      go_meet
      exact ⟨_, pW, dW, aW, cW, rfl, rfl, kF, bF, hgz, aF⟩
  case rest =>
  obtain ⟨gzwa, pwa, dwa, awa, cwa, rfl, rfl, hkwa, hbxwa, hglwa, hFwa⟩ := hcut
  obtain ⟨fwa, nwa, ownwa, ndwa, lowwa⟩ := hFwa.out
  have rg_wa0 : Hid (∀ b ∈ fwa, b < wc.heap.size) := EditO_lt _ _ _ _ _ ownwa
  have ndwah : Hid (fwa.Nodup) := ndwa
  have lowwa' : Hid (∀ b ∈ fwa, w2.heap.size ≤ b ∧ b ≠ gzwa) := lowwa
  have hguwa := hbxwa.out.lt
  have ownswa : Hid (EditO (nwa + 1) wc [.int .i64 (resE oo).vKind, .slice pwa (resE oo).vPath.length dwa, .string (resE oo).vTag, .string (strT (resE oo).vTree), .slice awa (kidsOf (resE oo).vTree).length cwa] (resE oo) fwa) := ownwa
  clear ownwa ndwa lowwa hFwa
  have hkwao := hkwa.out
  have bA_3 : Hid (Box wc w.heap.size [.string (strT x), .slice a0 (kidsOf x).length cap0] 24) := bA_2.out.below hkwao bA_2.out.lt
  have bE_3 : Hid (Box wc (w.heap.size + 1) [.int .i64 y.vKind, .slice ap y.vPath.length cp, .string y.vTag, .string (strT y.vTree), .slice a1 (kidsOf y.vTree).length c1] 27) := bE_2.out.below hkwao bE_2.out.lt
  clear bA_2 bE_2
  have hB3 : Hid (Below w.heap.size w wc) := hB2.out.trans ((hkwao).mono hB2.out.size)
  have sz3 := (hkwao).size
  clear z2_bA_0 z2_bA_1 z2_bE_0 z2_bE_1 z2_bE_2 z2_bE_3 z2_bE_4
  have z3_bA_0 := bA_3.out.cell 0 rfl
  have z3_bA_1 := bA_3.out.cell 1 rfl
  have z3_bE_0 := bE_3.out.cell 0 rfl
  have z3_bE_1 := bE_3.out.cell 1 rfl
  have z3_bE_2 := bE_3.out.cell 2 rfl
  have z3_bE_3 := bE_3.out.cell 3 rfl
  have z3_bE_4 := bE_3.out.cell 4 rfl
  have wa_3 : Hid (EditO (nwa + 1) wc [.int .i64 (resE oo).vKind, .slice pwa (resE oo).vPath.length dwa, .string (resE oo).vTag, .string (strT (resE oo).vTree), .slice awa (kidsOf (resE oo).vTree).length cwa] (resE oo) fwa) := ownswa
  have bwa_3 : Hid (Box wc gzwa [.int .i64 (resE oo).vKind, .slice pwa (resE oo).vPath.length dwa, .string (resE oo).vTag, .string (strT (resE oo).vTree), .slice awa (kidsOf (resE oo).vTree).length cwa] 36) := hbxwa
  have z3_bwa_0 := bwa_3.out.cell 0 rfl
  have z3_bwa_1 := bwa_3.out.cell 1 rfl
  have z3_bwa_2 := bwa_3.out.cell 2 rfl
  have z3_bwa_3 := bwa_3.out.cell 3 rfl
  have z3_bwa_4 := bwa_3.out.cell 4 rfl
  have rg_wa : Hid (∀ b ∈ fwa, w2.heap.size ≤ b ∧ b < wc.heap.size ∧ b ≠ gzwa) := fun b q => ⟨(lowwa'.out b q).1, rg_wa0.out b q, (lowwa'.out b q).2⟩
  clear ownswa hbxwa hkwa hkwao
  go_wp2_with fail
  refine ((toT_all (n + 1)).1 _ 0 _ x (hx0.out.below hB3.out) hsm.out).mono ?_
  rintro e u5a ⟨⟨cs5, f5t, rfl, ht5, _, lo5t⟩, hba5⟩
  have rg_x5t : Hid (∀ b ∈ f5t, wc.heap.size ≤ b ∧ b < u5a.heap.size) := fun b q => ⟨lo5t b q, TreeO_lt _ _ _ _ _ ht5 b q⟩
  obtain ⟨kk5, rfl, ss5, _⟩ := ht5.opened
  obtain ⟨at5, ct5, rfl⟩ := ss5.form
  have hto5 : Hid (TreeO (n + 1) u5a [.string (strT x), .slice at5 (kidsOf x).length ct5] x f5t) := ht5
  clear ht5 ss5 lo5t
  have bA_4 : Hid (Box u5a w.heap.size [.string (strT x), .slice a0 (kidsOf x).length cap0] 24) := bA_3.out.below hba5 bA_3.out.lt
  have bE_4 : Hid (Box u5a (w.heap.size + 1) [.int .i64 y.vKind, .slice ap y.vPath.length cp, .string y.vTag, .string (strT y.vTree), .slice a1 (kidsOf y.vTree).length c1] 27) := bE_3.out.below hba5 bE_3.out.lt
  have wa_4 : Hid (EditO (nwa + 1) u5a [.int .i64 (resE oo).vKind, .slice pwa (resE oo).vPath.length dwa, .string (resE oo).vTag, .string (strT (resE oo).vTree), .slice awa (kidsOf (resE oo).vTree).length cwa] (resE oo) fwa) := EditO_stays _ _ _ _ _ _ (fun x hx => (hba5).block x (EditO_lt _ _ _ _ _ wa_3.out x hx)) wa_3.out
  have bwa_4 : Hid (Box u5a gzwa [.int .i64 (resE oo).vKind, .slice pwa (resE oo).vPath.length dwa, .string (resE oo).vTag, .string (strT (resE oo).vTree), .slice awa (kidsOf (resE oo).vTree).length cwa] 36) := bwa_3.out.below hba5 bwa_3.out.lt
  clear bA_3 bE_3 wa_3 bwa_3
  have hB4 : Hid (Below w.heap.size w u5a) := hB3.out.trans ((hba5).mono hB3.out.size)
  have sz4 := (hba5).size
  clear z3_bA_0 z3_bA_1 z3_bE_0 z3_bE_1 z3_bE_2 z3_bE_3 z3_bE_4 z3_bwa_0 z3_bwa_1 z3_bwa_2 z3_bwa_3 z3_bwa_4
  have z4_bA_0 := bA_4.out.cell 0 rfl
  have z4_bA_1 := bA_4.out.cell 1 rfl
  have z4_bE_0 := bE_4.out.cell 0 rfl
  have z4_bE_1 := bE_4.out.cell 1 rfl
  have z4_bE_2 := bE_4.out.cell 2 rfl
  have z4_bE_3 := bE_4.out.cell 3 rfl
  have z4_bE_4 := bE_4.out.cell 4 rfl
  have z4_bwa_0 := bwa_4.out.cell 0 rfl
  have z4_bwa_1 := bwa_4.out.cell 1 rfl
  have z4_bwa_2 := bwa_4.out.cell 2 rfl
  have z4_bwa_3 := bwa_4.out.cell 3 rfl
  have z4_bwa_4 := bwa_4.out.cell 4 rfl
  have x5t_4 : Hid (TreeO (n + 1) u5a [.string (strT x), .slice at5 (kidsOf x).length ct5] x f5t) := hto5
  clear hto5 hba5
  have hbx5 : Below u5a.heap.size u5a (u5a.alloc (.cells (List.toArray [.string (strT x), .slice at5 (kidsOf x).length ct5]) 33)) := (Below.refl _ _).alloc (Nat.le_refl _) _
  have szx5 : (u5a.alloc (.cells (List.toArray [.string (strT x), .slice at5 (kidsOf x).length ct5]) 33)).heap.size = u5a.heap.size + 1 := by simp
  have bA_5 : Hid (Box (u5a.alloc (.cells (List.toArray [.string (strT x), .slice at5 (kidsOf x).length ct5]) 33)) w.heap.size [.string (strT x), .slice a0 (kidsOf x).length cap0] 24) := bA_4.out.below hbx5 bA_4.out.lt
  have bE_5 : Hid (Box (u5a.alloc (.cells (List.toArray [.string (strT x), .slice at5 (kidsOf x).length ct5]) 33)) (w.heap.size + 1) [.int .i64 y.vKind, .slice ap y.vPath.length cp, .string y.vTag, .string (strT y.vTree), .slice a1 (kidsOf y.vTree).length c1] 27) := bE_4.out.below hbx5 bE_4.out.lt
  have wa_5 : Hid (EditO (nwa + 1) (u5a.alloc (.cells (List.toArray [.string (strT x), .slice at5 (kidsOf x).length ct5]) 33)) [.int .i64 (resE oo).vKind, .slice pwa (resE oo).vPath.length dwa, .string (resE oo).vTag, .string (strT (resE oo).vTree), .slice awa (kidsOf (resE oo).vTree).length cwa] (resE oo) fwa) := EditO_stays _ _ _ _ _ _ (fun x hx => (hbx5).block x (EditO_lt _ _ _ _ _ wa_4.out x hx)) wa_4.out
  have bwa_5 : Hid (Box (u5a.alloc (.cells (List.toArray [.string (strT x), .slice at5 (kidsOf x).length ct5]) 33)) gzwa [.int .i64 (resE oo).vKind, .slice pwa (resE oo).vPath.length dwa, .string (resE oo).vTag, .string (strT (resE oo).vTree), .slice awa (kidsOf (resE oo).vTree).length cwa] 36) := bwa_4.out.below hbx5 bwa_4.out.lt
  have x5t_5 : Hid (TreeO (n + 1) (u5a.alloc (.cells (List.toArray [.string (strT x), .slice at5 (kidsOf x).length ct5]) 33)) [.string (strT x), .slice at5 (kidsOf x).length ct5] x f5t) := TreeO_stays _ _ _ _ _ _ (fun x hx => (hbx5).block x (TreeO_lt _ _ _ _ _ x5t_4.out x hx)) x5t_4.out
  clear bA_4 bE_4 wa_4 bwa_4 x5t_4
  have hB5 : Hid (Below w.heap.size w (u5a.alloc (.cells (List.toArray [.string (strT x), .slice at5 (kidsOf x).length ct5]) 33))) := hB4.out.trans ((hbx5).mono hB4.out.size)
  have sz5 := (hbx5).size
  simp only [World.size_alloc] at sz5
  clear z4_bA_0 z4_bA_1 z4_bE_0 z4_bE_1 z4_bE_2 z4_bE_3 z4_bE_4 z4_bwa_0 z4_bwa_1 z4_bwa_2 z4_bwa_3 z4_bwa_4
  have z5_bA_0 := bA_5.out.cell 0 rfl
  have z5_bA_1 := bA_5.out.cell 1 rfl
  have z5_bE_0 := bE_5.out.cell 0 rfl
  have z5_bE_1 := bE_5.out.cell 1 rfl
  have z5_bE_2 := bE_5.out.cell 2 rfl
  have z5_bE_3 := bE_5.out.cell 3 rfl
  have z5_bE_4 := bE_5.out.cell 4 rfl
  have z5_bwa_0 := bwa_5.out.cell 0 rfl
  have z5_bwa_1 := bwa_5.out.cell 1 rfl
  have z5_bwa_2 := bwa_5.out.cell 2 rfl
  have z5_bwa_3 := bwa_5.out.cell 3 rfl
  have z5_bwa_4 := bwa_5.out.cell 4 rfl
  have bX5_5 : Hid (Box (u5a.alloc (.cells (List.toArray [.string (strT x), .slice at5 (kidsOf x).length ct5]) 33)) u5a.heap.size [.string (strT x), .slice at5 (kidsOf x).length ct5] 33) := Box.new u5a _ _
  have z5_bX5_0 := bX5_5.out.cell 0 rfl
  have z5_bX5_1 := bX5_5.out.cell 1 rfl
  clear hbx5
  go_wp2_with fail
  refine (toEdit_own (hy0.out.below hB5.out) hpl.out hsy.out).mono ?_
  rintro e u5b ⟨⟨ce5, f5e, rfl, he5, lo5e⟩, hbb5⟩
  have rg_x5e : Hid (∀ b ∈ f5e, u5a.heap.size + 1 ≤ b ∧ b < u5b.heap.size) := fun b q => ⟨by have := lo5e b q; rw [szx5] at this; exact this, EditO_lt _ _ _ _ _ he5 b q⟩
  obtain ⟨ep5, eq5, ea5, ec5, rfl, _, _, _⟩ := (EditO_at (lo := 0) he5 (fun _ _ => Nat.zero_le _)).form
  have heo5 : Hid (EditO (m + 1) u5b [.int .i64 y.vKind, .slice ep5 y.vPath.length eq5, .string y.vTag, .string (strT y.vTree), .slice ea5 (kidsOf y.vTree).length ec5] y f5e) := he5
  clear he5 lo5e
  have bA_6 : Hid (Box u5b w.heap.size [.string (strT x), .slice a0 (kidsOf x).length cap0] 24) := bA_5.out.below hbb5 bA_5.out.lt
  have bE_6 : Hid (Box u5b (w.heap.size + 1) [.int .i64 y.vKind, .slice ap y.vPath.length cp, .string y.vTag, .string (strT y.vTree), .slice a1 (kidsOf y.vTree).length c1] 27) := bE_5.out.below hbb5 bE_5.out.lt
  have wa_6 : Hid (EditO (nwa + 1) u5b [.int .i64 (resE oo).vKind, .slice pwa (resE oo).vPath.length dwa, .string (resE oo).vTag, .string (strT (resE oo).vTree), .slice awa (kidsOf (resE oo).vTree).length cwa] (resE oo) fwa) := EditO_stays _ _ _ _ _ _ (fun x hx => (hbb5).block x (EditO_lt _ _ _ _ _ wa_5.out x hx)) wa_5.out
  have bwa_6 : Hid (Box u5b gzwa [.int .i64 (resE oo).vKind, .slice pwa (resE oo).vPath.length dwa, .string (resE oo).vTag, .string (strT (resE oo).vTree), .slice awa (kidsOf (resE oo).vTree).length cwa] 36) := bwa_5.out.below hbb5 bwa_5.out.lt
  have x5t_6 : Hid (TreeO (n + 1) u5b [.string (strT x), .slice at5 (kidsOf x).length ct5] x f5t) := TreeO_stays _ _ _ _ _ _ (fun x hx => (hbb5).block x (TreeO_lt _ _ _ _ _ x5t_5.out x hx)) x5t_5.out
  have bX5_6 : Hid (Box u5b u5a.heap.size [.string (strT x), .slice at5 (kidsOf x).length ct5] 33) := bX5_5.out.below hbb5 bX5_5.out.lt
  clear bA_5 bE_5 wa_5 bwa_5 x5t_5 bX5_5
  have hB6 : Hid (Below w.heap.size w u5b) := hB5.out.trans ((hbb5).mono hB5.out.size)
  have sz6 := (hbb5).size
  simp only [World.size_alloc] at sz6
  clear z5_bA_0 z5_bA_1 z5_bE_0 z5_bE_1 z5_bE_2 z5_bE_3 z5_bE_4 z5_bwa_0 z5_bwa_1 z5_bwa_2 z5_bwa_3 z5_bwa_4 z5_bX5_0 z5_bX5_1
  have z6_bA_0 := bA_6.out.cell 0 rfl
  have z6_bA_1 := bA_6.out.cell 1 rfl
  have z6_bE_0 := bE_6.out.cell 0 rfl
  have z6_bE_1 := bE_6.out.cell 1 rfl
  have z6_bE_2 := bE_6.out.cell 2 rfl
  have z6_bE_3 := bE_6.out.cell 3 rfl
  have z6_bE_4 := bE_6.out.cell 4 rfl
  have z6_bwa_0 := bwa_6.out.cell 0 rfl
  have z6_bwa_1 := bwa_6.out.cell 1 rfl
  have z6_bwa_2 := bwa_6.out.cell 2 rfl
  have z6_bwa_3 := bwa_6.out.cell 3 rfl
  have z6_bwa_4 := bwa_6.out.cell 4 rfl
  have z6_bX5_0 := bX5_6.out.cell 0 rfl
  have z6_bX5_1 := bX5_6.out.cell 1 rfl
  have x5e_6 : Hid (EditO (m + 1) u5b [.int .i64 y.vKind, .slice ep5 y.vPath.length eq5, .string y.vTag, .string (strT y.vTree), .slice ea5 (kidsOf y.vTree).length ec5] y f5e) := heo5
  clear heo5 hbb5
  have hby5 : Below u5b.heap.size u5b (u5b.alloc (.cells (List.toArray [.int .i64 y.vKind, .slice ep5 y.vPath.length eq5, .string y.vTag, .string (strT y.vTree), .slice ea5 (kidsOf y.vTree).length ec5]) 36)) := (Below.refl _ _).alloc (Nat.le_refl _) _
  have szy5 : (u5b.alloc (.cells (List.toArray [.int .i64 y.vKind, .slice ep5 y.vPath.length eq5, .string y.vTag, .string (strT y.vTree), .slice ea5 (kidsOf y.vTree).length ec5]) 36)).heap.size = u5b.heap.size + 1 := by simp
  have bA_7 : Hid (Box (u5b.alloc (.cells (List.toArray [.int .i64 y.vKind, .slice ep5 y.vPath.length eq5, .string y.vTag, .string (strT y.vTree), .slice ea5 (kidsOf y.vTree).length ec5]) 36)) w.heap.size [.string (strT x), .slice a0 (kidsOf x).length cap0] 24) := bA_6.out.below hby5 bA_6.out.lt
  have bE_7 : Hid (Box (u5b.alloc (.cells (List.toArray [.int .i64 y.vKind, .slice ep5 y.vPath.length eq5, .string y.vTag, .string (strT y.vTree), .slice ea5 (kidsOf y.vTree).length ec5]) 36)) (w.heap.size + 1) [.int .i64 y.vKind, .slice ap y.vPath.length cp, .string y.vTag, .string (strT y.vTree), .slice a1 (kidsOf y.vTree).length c1] 27) := bE_6.out.below hby5 bE_6.out.lt
  have wa_7 : Hid (EditO (nwa + 1) (u5b.alloc (.cells (List.toArray [.int .i64 y.vKind, .slice ep5 y.vPath.length eq5, .string y.vTag, .string (strT y.vTree), .slice ea5 (kidsOf y.vTree).length ec5]) 36)) [.int .i64 (resE oo).vKind, .slice pwa (resE oo).vPath.length dwa, .string (resE oo).vTag, .string (strT (resE oo).vTree), .slice awa (kidsOf (resE oo).vTree).length cwa] (resE oo) fwa) := EditO_stays _ _ _ _ _ _ (fun x hx => (hby5).block x (EditO_lt _ _ _ _ _ wa_6.out x hx)) wa_6.out
  have bwa_7 : Hid (Box (u5b.alloc (.cells (List.toArray [.int .i64 y.vKind, .slice ep5 y.vPath.length eq5, .string y.vTag, .string (strT y.vTree), .slice ea5 (kidsOf y.vTree).length ec5]) 36)) gzwa [.int .i64 (resE oo).vKind, .slice pwa (resE oo).vPath.length dwa, .string (resE oo).vTag, .string (strT (resE oo).vTree), .slice awa (kidsOf (resE oo).vTree).length cwa] 36) := bwa_6.out.below hby5 bwa_6.out.lt
  have x5t_7 : Hid (TreeO (n + 1) (u5b.alloc (.cells (List.toArray [.int .i64 y.vKind, .slice ep5 y.vPath.length eq5, .string y.vTag, .string (strT y.vTree), .slice ea5 (kidsOf y.vTree).length ec5]) 36)) [.string (strT x), .slice at5 (kidsOf x).length ct5] x f5t) := TreeO_stays _ _ _ _ _ _ (fun x hx => (hby5).block x (TreeO_lt _ _ _ _ _ x5t_6.out x hx)) x5t_6.out
  have bX5_7 : Hid (Box (u5b.alloc (.cells (List.toArray [.int .i64 y.vKind, .slice ep5 y.vPath.length eq5, .string y.vTag, .string (strT y.vTree), .slice ea5 (kidsOf y.vTree).length ec5]) 36)) u5a.heap.size [.string (strT x), .slice at5 (kidsOf x).length ct5] 33) := bX5_6.out.below hby5 bX5_6.out.lt
  have x5e_7 : Hid (EditO (m + 1) (u5b.alloc (.cells (List.toArray [.int .i64 y.vKind, .slice ep5 y.vPath.length eq5, .string y.vTag, .string (strT y.vTree), .slice ea5 (kidsOf y.vTree).length ec5]) 36)) [.int .i64 y.vKind, .slice ep5 y.vPath.length eq5, .string y.vTag, .string (strT y.vTree), .slice ea5 (kidsOf y.vTree).length ec5] y f5e) := EditO_stays _ _ _ _ _ _ (fun x hx => (hby5).block x (EditO_lt _ _ _ _ _ x5e_6.out x hx)) x5e_6.out
  clear bA_6 bE_6 wa_6 bwa_6 x5t_6 bX5_6 x5e_6
  have hB7 : Hid (Below w.heap.size w (u5b.alloc (.cells (List.toArray [.int .i64 y.vKind, .slice ep5 y.vPath.length eq5, .string y.vTag, .string (strT y.vTree), .slice ea5 (kidsOf y.vTree).length ec5]) 36))) := hB6.out.trans ((hby5).mono hB6.out.size)
  have sz7 := (hby5).size
  simp only [World.size_alloc] at sz7
  clear z6_bA_0 z6_bA_1 z6_bE_0 z6_bE_1 z6_bE_2 z6_bE_3 z6_bE_4 z6_bwa_0 z6_bwa_1 z6_bwa_2 z6_bwa_3 z6_bwa_4 z6_bX5_0 z6_bX5_1
  have z7_bA_0 := bA_7.out.cell 0 rfl
  have z7_bA_1 := bA_7.out.cell 1 rfl
  have z7_bE_0 := bE_7.out.cell 0 rfl
  have z7_bE_1 := bE_7.out.cell 1 rfl
  have z7_bE_2 := bE_7.out.cell 2 rfl
  have z7_bE_3 := bE_7.out.cell 3 rfl
  have z7_bE_4 := bE_7.out.cell 4 rfl
  have z7_bwa_0 := bwa_7.out.cell 0 rfl
  have z7_bwa_1 := bwa_7.out.cell 1 rfl
  have z7_bwa_2 := bwa_7.out.cell 2 rfl
  have z7_bwa_3 := bwa_7.out.cell 3 rfl
  have z7_bwa_4 := bwa_7.out.cell 4 rfl
  have z7_bX5_0 := bX5_7.out.cell 0 rfl
  have z7_bX5_1 := bX5_7.out.cell 1 rfl
  have bY5_7 : Hid (Box (u5b.alloc (.cells (List.toArray [.int .i64 y.vKind, .slice ep5 y.vPath.length eq5, .string y.vTag, .string (strT y.vTree), .slice ea5 (kidsOf y.vTree).length ec5]) 36)) u5b.heap.size [.int .i64 y.vKind, .slice ep5 y.vPath.length eq5, .string y.vTag, .string (strT y.vTree), .slice ea5 (kidsOf y.vTree).length ec5] 36) := Box.new u5b _ _
  have z7_bY5_0 := bY5_7.out.cell 0 rfl
  have z7_bY5_1 := bY5_7.out.cell 1 rfl
  have z7_bY5_2 := bY5_7.out.cell 2 rfl
  have z7_bY5_3 := bY5_7.out.cell 3 rfl
  have z7_bY5_4 := bY5_7.out.cell 4 rfl
  clear hby5
  go_wp2_with fail
  refine (implUndone_any (treeO_ta x5t_7.out) (EditO_at (lo := 0) x5e_7.out (fun _ _ => Nat.zero_le _)).at hpl.out).mono ?_
  rw [hYS'.out]
  rintro e w6 ⟨csga, fga, nga0, rfl, hoga0, ndga, loga, hb6⟩
  have rg_ga : Hid (∀ b ∈ fga, u5b.heap.size + 1 ≤ b ∧ b < w6.heap.size) := fun b q => ⟨by have := loga b q; rw [szy5] at this; exact this, EditO_lt _ _ _ _ _ hoga0 b q⟩
  have ndgah : Hid (fga.Nodup) := ndga
  obtain ⟨pga, dga, aga, cga, rfl, _, _, _⟩ := (EditO_at (lo := 0) hoga0 (fun _ _ => Nat.zero_le _)).form
  obtain ⟨nga, hnga⟩ : ∃ nga, nga = nga0 := ⟨_, rfl⟩
  have hoga : Hid (EditO (nga + 1) w6 [.int .i64 (resE oo).vKind, .slice pga (resE oo).vPath.length dga, .string (resE oo).vTag, .string (strT (resE oo).vTree), .slice aga (kidsOf (resE oo).vTree).length cga] (resE oo) fga) := EditO_mono (by omega) hoga0
  clear hoga0 ndga loga hnga
  have bA_8 : Hid (Box w6 w.heap.size [.string (strT x), .slice a0 (kidsOf x).length cap0] 24) := bA_7.out.below hb6 bA_7.out.lt
  have bE_8 : Hid (Box w6 (w.heap.size + 1) [.int .i64 y.vKind, .slice ap y.vPath.length cp, .string y.vTag, .string (strT y.vTree), .slice a1 (kidsOf y.vTree).length c1] 27) := bE_7.out.below hb6 bE_7.out.lt
  have wa_8 : Hid (EditO (nwa + 1) w6 [.int .i64 (resE oo).vKind, .slice pwa (resE oo).vPath.length dwa, .string (resE oo).vTag, .string (strT (resE oo).vTree), .slice awa (kidsOf (resE oo).vTree).length cwa] (resE oo) fwa) := EditO_stays _ _ _ _ _ _ (fun x hx => (hb6).block x (EditO_lt _ _ _ _ _ wa_7.out x hx)) wa_7.out
  have bwa_8 : Hid (Box w6 gzwa [.int .i64 (resE oo).vKind, .slice pwa (resE oo).vPath.length dwa, .string (resE oo).vTag, .string (strT (resE oo).vTree), .slice awa (kidsOf (resE oo).vTree).length cwa] 36) := bwa_7.out.below hb6 bwa_7.out.lt
  have x5t_8 : Hid (TreeO (n + 1) w6 [.string (strT x), .slice at5 (kidsOf x).length ct5] x f5t) := TreeO_stays _ _ _ _ _ _ (fun x hx => (hb6).block x (TreeO_lt _ _ _ _ _ x5t_7.out x hx)) x5t_7.out
  have bX5_8 : Hid (Box w6 u5a.heap.size [.string (strT x), .slice at5 (kidsOf x).length ct5] 33) := bX5_7.out.below hb6 bX5_7.out.lt
  have x5e_8 : Hid (EditO (m + 1) w6 [.int .i64 y.vKind, .slice ep5 y.vPath.length eq5, .string y.vTag, .string (strT y.vTree), .slice ea5 (kidsOf y.vTree).length ec5] y f5e) := EditO_stays _ _ _ _ _ _ (fun x hx => (hb6).block x (EditO_lt _ _ _ _ _ x5e_7.out x hx)) x5e_7.out
  have bY5_8 : Hid (Box w6 u5b.heap.size [.int .i64 y.vKind, .slice ep5 y.vPath.length eq5, .string y.vTag, .string (strT y.vTree), .slice ea5 (kidsOf y.vTree).length ec5] 36) := bY5_7.out.below hb6 bY5_7.out.lt
  clear bA_7 bE_7 wa_7 bwa_7 x5t_7 bX5_7 x5e_7 bY5_7
  have hB8 : Hid (Below w.heap.size w w6) := hB7.out.trans ((hb6).mono hB7.out.size)
  have sz8 := (hb6).size
  simp only [World.size_alloc] at sz8
  clear z7_bA_0 z7_bA_1 z7_bE_0 z7_bE_1 z7_bE_2 z7_bE_3 z7_bE_4 z7_bwa_0 z7_bwa_1 z7_bwa_2 z7_bwa_3 z7_bwa_4 z7_bX5_0 z7_bX5_1 z7_bY5_0 z7_bY5_1 z7_bY5_2 z7_bY5_3 z7_bY5_4
  have z8_bA_0 := bA_8.out.cell 0 rfl
  have z8_bA_1 := bA_8.out.cell 1 rfl
  have z8_bE_0 := bE_8.out.cell 0 rfl
  have z8_bE_1 := bE_8.out.cell 1 rfl
  have z8_bE_2 := bE_8.out.cell 2 rfl
  have z8_bE_3 := bE_8.out.cell 3 rfl
  have z8_bE_4 := bE_8.out.cell 4 rfl
  have z8_bwa_0 := bwa_8.out.cell 0 rfl
  have z8_bwa_1 := bwa_8.out.cell 1 rfl
  have z8_bwa_2 := bwa_8.out.cell 2 rfl
  have z8_bwa_3 := bwa_8.out.cell 3 rfl
  have z8_bwa_4 := bwa_8.out.cell 4 rfl
  have z8_bX5_0 := bX5_8.out.cell 0 rfl
  have z8_bX5_1 := bX5_8.out.cell 1 rfl
  have z8_bY5_0 := bY5_8.out.cell 0 rfl
  have z8_bY5_1 := bY5_8.out.cell 1 rfl
  have z8_bY5_2 := bY5_8.out.cell 2 rfl
  have z8_bY5_3 := bY5_8.out.cell 3 rfl
  have z8_bY5_4 := bY5_8.out.cell 4 rfl
  clear hb6
  have ga_8 : Hid (EditO (nga + 1) w6 [.int .i64 (resE oo).vKind, .slice pga (resE oo).vPath.length dga, .string (resE oo).vTag, .string (strT (resE oo).vTree), .slice aga (kidsOf (resE oo).vTree).length cga] (resE oo) fga) := hoga
  clear hoga
  have hbg : Below w6.heap.size w6 (w6.alloc (.cells (List.toArray [.int .i64 (resE oo).vKind, .slice pga (resE oo).vPath.length dga, .string (resE oo).vTag, .string (strT (resE oo).vTree), .slice aga (kidsOf (resE oo).vTree).length cga]) 36)) := (Below.refl _ _).alloc (Nat.le_refl _) _
  have szg : (w6.alloc (.cells (List.toArray [.int .i64 (resE oo).vKind, .slice pga (resE oo).vPath.length dga, .string (resE oo).vTag, .string (strT (resE oo).vTree), .slice aga (kidsOf (resE oo).vTree).length cga]) 36)).heap.size = w6.heap.size + 1 := by simp
  have bA_9 : Hid (Box (w6.alloc (.cells (List.toArray [.int .i64 (resE oo).vKind, .slice pga (resE oo).vPath.length dga, .string (resE oo).vTag, .string (strT (resE oo).vTree), .slice aga (kidsOf (resE oo).vTree).length cga]) 36)) w.heap.size [.string (strT x), .slice a0 (kidsOf x).length cap0] 24) := bA_8.out.below hbg bA_8.out.lt
  have bE_9 : Hid (Box (w6.alloc (.cells (List.toArray [.int .i64 (resE oo).vKind, .slice pga (resE oo).vPath.length dga, .string (resE oo).vTag, .string (strT (resE oo).vTree), .slice aga (kidsOf (resE oo).vTree).length cga]) 36)) (w.heap.size + 1) [.int .i64 y.vKind, .slice ap y.vPath.length cp, .string y.vTag, .string (strT y.vTree), .slice a1 (kidsOf y.vTree).length c1] 27) := bE_8.out.below hbg bE_8.out.lt
  have wa_9 : Hid (EditO (nwa + 1) (w6.alloc (.cells (List.toArray [.int .i64 (resE oo).vKind, .slice pga (resE oo).vPath.length dga, .string (resE oo).vTag, .string (strT (resE oo).vTree), .slice aga (kidsOf (resE oo).vTree).length cga]) 36)) [.int .i64 (resE oo).vKind, .slice pwa (resE oo).vPath.length dwa, .string (resE oo).vTag, .string (strT (resE oo).vTree), .slice awa (kidsOf (resE oo).vTree).length cwa] (resE oo) fwa) := EditO_stays _ _ _ _ _ _ (fun x hx => (hbg).block x (EditO_lt _ _ _ _ _ wa_8.out x hx)) wa_8.out
  have bwa_9 : Hid (Box (w6.alloc (.cells (List.toArray [.int .i64 (resE oo).vKind, .slice pga (resE oo).vPath.length dga, .string (resE oo).vTag, .string (strT (resE oo).vTree), .slice aga (kidsOf (resE oo).vTree).length cga]) 36)) gzwa [.int .i64 (resE oo).vKind, .slice pwa (resE oo).vPath.length dwa, .string (resE oo).vTag, .string (strT (resE oo).vTree), .slice awa (kidsOf (resE oo).vTree).length cwa] 36) := bwa_8.out.below hbg bwa_8.out.lt
  have x5t_9 : Hid (TreeO (n + 1) (w6.alloc (.cells (List.toArray [.int .i64 (resE oo).vKind, .slice pga (resE oo).vPath.length dga, .string (resE oo).vTag, .string (strT (resE oo).vTree), .slice aga (kidsOf (resE oo).vTree).length cga]) 36)) [.string (strT x), .slice at5 (kidsOf x).length ct5] x f5t) := TreeO_stays _ _ _ _ _ _ (fun x hx => (hbg).block x (TreeO_lt _ _ _ _ _ x5t_8.out x hx)) x5t_8.out
  have bX5_9 : Hid (Box (w6.alloc (.cells (List.toArray [.int .i64 (resE oo).vKind, .slice pga (resE oo).vPath.length dga, .string (resE oo).vTag, .string (strT (resE oo).vTree), .slice aga (kidsOf (resE oo).vTree).length cga]) 36)) u5a.heap.size [.string (strT x), .slice at5 (kidsOf x).length ct5] 33) := bX5_8.out.below hbg bX5_8.out.lt
  have x5e_9 : Hid (EditO (m + 1) (w6.alloc (.cells (List.toArray [.int .i64 (resE oo).vKind, .slice pga (resE oo).vPath.length dga, .string (resE oo).vTag, .string (strT (resE oo).vTree), .slice aga (kidsOf (resE oo).vTree).length cga]) 36)) [.int .i64 y.vKind, .slice ep5 y.vPath.length eq5, .string y.vTag, .string (strT y.vTree), .slice ea5 (kidsOf y.vTree).length ec5] y f5e) := EditO_stays _ _ _ _ _ _ (fun x hx => (hbg).block x (EditO_lt _ _ _ _ _ x5e_8.out x hx)) x5e_8.out
  have bY5_9 : Hid (Box (w6.alloc (.cells (List.toArray [.int .i64 (resE oo).vKind, .slice pga (resE oo).vPath.length dga, .string (resE oo).vTag, .string (strT (resE oo).vTree), .slice aga (kidsOf (resE oo).vTree).length cga]) 36)) u5b.heap.size [.int .i64 y.vKind, .slice ep5 y.vPath.length eq5, .string y.vTag, .string (strT y.vTree), .slice ea5 (kidsOf y.vTree).length ec5] 36) := bY5_8.out.below hbg bY5_8.out.lt
  have ga_9 : Hid (EditO (nga + 1) (w6.alloc (.cells (List.toArray [.int .i64 (resE oo).vKind, .slice pga (resE oo).vPath.length dga, .string (resE oo).vTag, .string (strT (resE oo).vTree), .slice aga (kidsOf (resE oo).vTree).length cga]) 36)) [.int .i64 (resE oo).vKind, .slice pga (resE oo).vPath.length dga, .string (resE oo).vTag, .string (strT (resE oo).vTree), .slice aga (kidsOf (resE oo).vTree).length cga] (resE oo) fga) := EditO_stays _ _ _ _ _ _ (fun x hx => (hbg).block x (EditO_lt _ _ _ _ _ ga_8.out x hx)) ga_8.out
  clear bA_8 bE_8 wa_8 bwa_8 x5t_8 bX5_8 x5e_8 bY5_8 ga_8
  have hB9 : Hid (Below w.heap.size w (w6.alloc (.cells (List.toArray [.int .i64 (resE oo).vKind, .slice pga (resE oo).vPath.length dga, .string (resE oo).vTag, .string (strT (resE oo).vTree), .slice aga (kidsOf (resE oo).vTree).length cga]) 36))) := hB8.out.trans ((hbg).mono hB8.out.size)
  have sz9 := (hbg).size
  simp only [World.size_alloc] at sz9
  clear z8_bA_0 z8_bA_1 z8_bE_0 z8_bE_1 z8_bE_2 z8_bE_3 z8_bE_4 z8_bwa_0 z8_bwa_1 z8_bwa_2 z8_bwa_3 z8_bwa_4 z8_bX5_0 z8_bX5_1 z8_bY5_0 z8_bY5_1 z8_bY5_2 z8_bY5_3 z8_bY5_4
  have z9_bA_0 := bA_9.out.cell 0 rfl
  have z9_bA_1 := bA_9.out.cell 1 rfl
  have z9_bE_0 := bE_9.out.cell 0 rfl
  have z9_bE_1 := bE_9.out.cell 1 rfl
  have z9_bE_2 := bE_9.out.cell 2 rfl
  have z9_bE_3 := bE_9.out.cell 3 rfl
  have z9_bE_4 := bE_9.out.cell 4 rfl
  have z9_bwa_0 := bwa_9.out.cell 0 rfl
  have z9_bwa_1 := bwa_9.out.cell 1 rfl
  have z9_bwa_2 := bwa_9.out.cell 2 rfl
  have z9_bwa_3 := bwa_9.out.cell 3 rfl
  have z9_bwa_4 := bwa_9.out.cell 4 rfl
  have z9_bX5_0 := bX5_9.out.cell 0 rfl
  have z9_bX5_1 := bX5_9.out.cell 1 rfl
  have z9_bY5_0 := bY5_9.out.cell 0 rfl
  have z9_bY5_1 := bY5_9.out.cell 1 rfl
  have z9_bY5_2 := bY5_9.out.cell 2 rfl
  have z9_bY5_3 := bY5_9.out.cell 3 rfl
  have z9_bY5_4 := bY5_9.out.cell 4 rfl
  have bga_9 : Hid (Box (w6.alloc (.cells (List.toArray [.int .i64 (resE oo).vKind, .slice pga (resE oo).vPath.length dga, .string (resE oo).vTag, .string (strT (resE oo).vTree), .slice aga (kidsOf (resE oo).vTree).length cga]) 36)) w6.heap.size [.int .i64 (resE oo).vKind, .slice pga (resE oo).vPath.length dga, .string (resE oo).vTag, .string (strT (resE oo).vTree), .slice aga (kidsOf (resE oo).vTree).length cga] 36) := Box.new w6 _ _
  have z9_bga_0 := bga_9.out.cell 0 rfl
  have z9_bga_1 := bga_9.out.cell 1 rfl
  have z9_bga_2 := bga_9.out.cell 2 rfl
  have z9_bga_3 := bga_9.out.cell 3 rfl
  have z9_bga_4 := bga_9.out.cell 4 rfl
  clear hbg
  go_wp2_with fail
  refine (eqEdit_any (EditO_at (lo := 0) ga_9.out (fun _ _ => Nat.zero_le _)) (EditO_at (lo := 0) wa_9.out (fun _ _ => Nat.zero_le _))).mono ?_
  rintro e w7 ⟨rfl, hbw7⟩
  have bA_10 : Hid (Box w7 w.heap.size [.string (strT x), .slice a0 (kidsOf x).length cap0] 24) := bA_9.out.below hbw7 bA_9.out.lt
  have bE_10 : Hid (Box w7 (w.heap.size + 1) [.int .i64 y.vKind, .slice ap y.vPath.length cp, .string y.vTag, .string (strT y.vTree), .slice a1 (kidsOf y.vTree).length c1] 27) := bE_9.out.below hbw7 bE_9.out.lt
  have wa_10 : Hid (EditO (nwa + 1) w7 [.int .i64 (resE oo).vKind, .slice pwa (resE oo).vPath.length dwa, .string (resE oo).vTag, .string (strT (resE oo).vTree), .slice awa (kidsOf (resE oo).vTree).length cwa] (resE oo) fwa) := EditO_stays _ _ _ _ _ _ (fun x hx => (hbw7).block x (EditO_lt _ _ _ _ _ wa_9.out x hx)) wa_9.out
  have bwa_10 : Hid (Box w7 gzwa [.int .i64 (resE oo).vKind, .slice pwa (resE oo).vPath.length dwa, .string (resE oo).vTag, .string (strT (resE oo).vTree), .slice awa (kidsOf (resE oo).vTree).length cwa] 36) := bwa_9.out.below hbw7 bwa_9.out.lt
  have x5t_10 : Hid (TreeO (n + 1) w7 [.string (strT x), .slice at5 (kidsOf x).length ct5] x f5t) := TreeO_stays _ _ _ _ _ _ (fun x hx => (hbw7).block x (TreeO_lt _ _ _ _ _ x5t_9.out x hx)) x5t_9.out
  have bX5_10 : Hid (Box w7 u5a.heap.size [.string (strT x), .slice at5 (kidsOf x).length ct5] 33) := bX5_9.out.below hbw7 bX5_9.out.lt
  have x5e_10 : Hid (EditO (m + 1) w7 [.int .i64 y.vKind, .slice ep5 y.vPath.length eq5, .string y.vTag, .string (strT y.vTree), .slice ea5 (kidsOf y.vTree).length ec5] y f5e) := EditO_stays _ _ _ _ _ _ (fun x hx => (hbw7).block x (EditO_lt _ _ _ _ _ x5e_9.out x hx)) x5e_9.out
  have bY5_10 : Hid (Box w7 u5b.heap.size [.int .i64 y.vKind, .slice ep5 y.vPath.length eq5, .string y.vTag, .string (strT y.vTree), .slice ea5 (kidsOf y.vTree).length ec5] 36) := bY5_9.out.below hbw7 bY5_9.out.lt
  have ga_10 : Hid (EditO (nga + 1) w7 [.int .i64 (resE oo).vKind, .slice pga (resE oo).vPath.length dga, .string (resE oo).vTag, .string (strT (resE oo).vTree), .slice aga (kidsOf (resE oo).vTree).length cga] (resE oo) fga) := EditO_stays _ _ _ _ _ _ (fun x hx => (hbw7).block x (EditO_lt _ _ _ _ _ ga_9.out x hx)) ga_9.out
  have bga_10 : Hid (Box w7 w6.heap.size [.int .i64 (resE oo).vKind, .slice pga (resE oo).vPath.length dga, .string (resE oo).vTag, .string (strT (resE oo).vTree), .slice aga (kidsOf (resE oo).vTree).length cga] 36) := bga_9.out.below hbw7 bga_9.out.lt
  clear bA_9 bE_9 wa_9 bwa_9 x5t_9 bX5_9 x5e_9 bY5_9 ga_9 bga_9
  have hB10 : Hid (Below w.heap.size w w7) := hB9.out.trans ((hbw7).mono hB9.out.size)
  have sz10 := (hbw7).size
  simp only [World.size_alloc] at sz10
  clear z9_bA_0 z9_bA_1 z9_bE_0 z9_bE_1 z9_bE_2 z9_bE_3 z9_bE_4 z9_bwa_0 z9_bwa_1 z9_bwa_2 z9_bwa_3 z9_bwa_4 z9_bX5_0 z9_bX5_1 z9_bY5_0 z9_bY5_1 z9_bY5_2 z9_bY5_3 z9_bY5_4 z9_bga_0 z9_bga_1 z9_bga_2 z9_bga_3 z9_bga_4
  have z10_bA_0 := bA_10.out.cell 0 rfl
  have z10_bA_1 := bA_10.out.cell 1 rfl
  have z10_bE_0 := bE_10.out.cell 0 rfl
  have z10_bE_1 := bE_10.out.cell 1 rfl
  have z10_bE_2 := bE_10.out.cell 2 rfl
  have z10_bE_3 := bE_10.out.cell 3 rfl
  have z10_bE_4 := bE_10.out.cell 4 rfl
  have z10_bwa_0 := bwa_10.out.cell 0 rfl
  have z10_bwa_1 := bwa_10.out.cell 1 rfl
  have z10_bwa_2 := bwa_10.out.cell 2 rfl
  have z10_bwa_3 := bwa_10.out.cell 3 rfl
  have z10_bwa_4 := bwa_10.out.cell 4 rfl
  have z10_bX5_0 := bX5_10.out.cell 0 rfl
  have z10_bX5_1 := bX5_10.out.cell 1 rfl
  have z10_bY5_0 := bY5_10.out.cell 0 rfl
  have z10_bY5_1 := bY5_10.out.cell 1 rfl
  have z10_bY5_2 := bY5_10.out.cell 2 rfl
  have z10_bY5_3 := bY5_10.out.cell 3 rfl
  have z10_bY5_4 := bY5_10.out.cell 4 rfl
  have z10_bga_0 := bga_10.out.cell 0 rfl
  have z10_bga_1 := bga_10.out.cell 1 rfl
  have z10_bga_2 := bga_10.out.cell 2 rfl
  have z10_bga_3 := bga_10.out.cell 3 rfl
  have z10_bga_4 := bga_10.out.cell 4 rfl
  clear hbw7
  have hw7 : Hid (TreeL (n + 1) w7 0 [.string (strT x), .slice at5 (kidsOf x).length ct5] x) := TreeO_at (lo := 0) (n + 1) _ _ _ _ x5t_10.out (fun _ _ => Nat.zero_le _)
  go_upto_region 14 with fail
  have lt_bX5 := bX5_10.out.lt
  have lt_bA := bA_10.out.lt
  go_region_held3 (fun w' => w'.cell? ⟨u5a.heap.size, 0, none⟩ = some (.string (strT x)) ∧ w'.cell? ⟨u5a.heap.size, 1, none⟩ = some (.slice at5 (kidsOf x).length ct5) ∧ w'.cell? ⟨w.heap.size, 0, none⟩ = some (.string (strT x)) ∧ w'.cell? ⟨w.heap.size, 1, none⟩ = some (.slice a0 (kidsOf x).length cap0)) (go_keep)
    (first | (go_at_call 11; refine ((toT_all (n + 1)).1 _ 0 _ x (by exact TreeL.below hx0.out hB10.out.drew) hsm.out).mono ?_; rintro e w8 ⟨⟨cs8, fs8, rfl, ht8, _, _⟩, hb8⟩; have hb8' := undrew hb8; have bX58 : Hid (Box w8 u5a.heap.size _ _) := Box.below bX5_10.out hb8' lt_bX5; have bA8 : Hid (Box w8 w.heap.size _ _) := Box.below bA_10.out hb8' lt_bA; have bX580 := bX58.out.cell 0 rfl; have bX581 := bX58.out.cell 1 rfl; have bA80 := bA8.out.cell 0 rfl; have bA81 := bA8.out.cell 1 rfl; have l8ah : Hid (TreeL (n + 1) w8 0 [.string (strT x), .slice at5 (kidsOf x).length ct5] x) := hw7.out.below hb8'; have l8bh : Hid (TreeL (n + 1) w8 0 cs8 x) := TreeO_at (lo := 0) (n + 1) _ _ _ _ ht8 (fun _ _ => Nat.zero_le _); have hb8h : Hid (Below w7.heap.size w7 w8) := hb8'; clear hb8 hb8' ht8) | (go_at_call 14; refine (eqTree_any (by exact l8ah.out) (by exact l8bh.out)).mono ?_; rintro e w9 ⟨rfl, hb9⟩; have bX59 : Hid (Box w9 u5a.heap.size _ _) := Box.below bX58.out hb9 bX58.out.lt; have bA9 : Hid (Box w9 w.heap.size _ _) := Box.below bA8.out hb9 bA8.out.lt; have bX590 := bX59.out.cell 0 rfl; have bX591 := bX59.out.cell 1 rfl; have bA90 := bA9.out.cell 0 rfl; have bA91 := bA9.out.cell 1 rfl; have hb9h : Hid (Below w7.heap.size w7 w9) := hb8h.out.trans (hb9.mono hb8h.out.size); clear hb9))
  have hb79 : Below w7.heap.size w7 w9 := hb9h.out
  clear hb8h hb9h l8ah l8bh hw7 bX58 bX59 lt_bX5 bA8 bA9 lt_bA bX580 bX590 bX581 bX591 bA80 bA90 bA81 bA91
  have bA_11 : Hid (Box w9 w.heap.size [.string (strT x), .slice a0 (kidsOf x).length cap0] 24) := bA_10.out.below hb79 bA_10.out.lt
  have bE_11 : Hid (Box w9 (w.heap.size + 1) [.int .i64 y.vKind, .slice ap y.vPath.length cp, .string y.vTag, .string (strT y.vTree), .slice a1 (kidsOf y.vTree).length c1] 27) := bE_10.out.below hb79 bE_10.out.lt
  have wa_11 : Hid (EditO (nwa + 1) w9 [.int .i64 (resE oo).vKind, .slice pwa (resE oo).vPath.length dwa, .string (resE oo).vTag, .string (strT (resE oo).vTree), .slice awa (kidsOf (resE oo).vTree).length cwa] (resE oo) fwa) := EditO_stays _ _ _ _ _ _ (fun x hx => (hb79).block x (EditO_lt _ _ _ _ _ wa_10.out x hx)) wa_10.out
  have bwa_11 : Hid (Box w9 gzwa [.int .i64 (resE oo).vKind, .slice pwa (resE oo).vPath.length dwa, .string (resE oo).vTag, .string (strT (resE oo).vTree), .slice awa (kidsOf (resE oo).vTree).length cwa] 36) := bwa_10.out.below hb79 bwa_10.out.lt
  have x5t_11 : Hid (TreeO (n + 1) w9 [.string (strT x), .slice at5 (kidsOf x).length ct5] x f5t) := TreeO_stays _ _ _ _ _ _ (fun x hx => (hb79).block x (TreeO_lt _ _ _ _ _ x5t_10.out x hx)) x5t_10.out
  have bX5_11 : Hid (Box w9 u5a.heap.size [.string (strT x), .slice at5 (kidsOf x).length ct5] 33) := bX5_10.out.below hb79 bX5_10.out.lt
  have x5e_11 : Hid (EditO (m + 1) w9 [.int .i64 y.vKind, .slice ep5 y.vPath.length eq5, .string y.vTag, .string (strT y.vTree), .slice ea5 (kidsOf y.vTree).length ec5] y f5e) := EditO_stays _ _ _ _ _ _ (fun x hx => (hb79).block x (EditO_lt _ _ _ _ _ x5e_10.out x hx)) x5e_10.out
  have bY5_11 : Hid (Box w9 u5b.heap.size [.int .i64 y.vKind, .slice ep5 y.vPath.length eq5, .string y.vTag, .string (strT y.vTree), .slice ea5 (kidsOf y.vTree).length ec5] 36) := bY5_10.out.below hb79 bY5_10.out.lt
  have ga_11 : Hid (EditO (nga + 1) w9 [.int .i64 (resE oo).vKind, .slice pga (resE oo).vPath.length dga, .string (resE oo).vTag, .string (strT (resE oo).vTree), .slice aga (kidsOf (resE oo).vTree).length cga] (resE oo) fga) := EditO_stays _ _ _ _ _ _ (fun x hx => (hb79).block x (EditO_lt _ _ _ _ _ ga_10.out x hx)) ga_10.out
  have bga_11 : Hid (Box w9 w6.heap.size [.int .i64 (resE oo).vKind, .slice pga (resE oo).vPath.length dga, .string (resE oo).vTag, .string (strT (resE oo).vTree), .slice aga (kidsOf (resE oo).vTree).length cga] 36) := bga_10.out.below hb79 bga_10.out.lt
  clear bA_10 bE_10 wa_10 bwa_10 x5t_10 bX5_10 x5e_10 bY5_10 ga_10 bga_10
  have hB11 : Hid (Below w.heap.size w w9) := hB10.out.trans ((hb79).mono hB10.out.size)
  have sz11 := (hb79).size
  clear z10_bA_0 z10_bA_1 z10_bE_0 z10_bE_1 z10_bE_2 z10_bE_3 z10_bE_4 z10_bwa_0 z10_bwa_1 z10_bwa_2 z10_bwa_3 z10_bwa_4 z10_bX5_0 z10_bX5_1 z10_bY5_0 z10_bY5_1 z10_bY5_2 z10_bY5_3 z10_bY5_4 z10_bga_0 z10_bga_1 z10_bga_2 z10_bga_3 z10_bga_4
  have z11_bA_0 := bA_11.out.cell 0 rfl
  have z11_bA_1 := bA_11.out.cell 1 rfl
  have z11_bE_0 := bE_11.out.cell 0 rfl
  have z11_bE_1 := bE_11.out.cell 1 rfl
  have z11_bE_2 := bE_11.out.cell 2 rfl
  have z11_bE_3 := bE_11.out.cell 3 rfl
  have z11_bE_4 := bE_11.out.cell 4 rfl
  have z11_bwa_0 := bwa_11.out.cell 0 rfl
  have z11_bwa_1 := bwa_11.out.cell 1 rfl
  have z11_bwa_2 := bwa_11.out.cell 2 rfl
  have z11_bwa_3 := bwa_11.out.cell 3 rfl
  have z11_bwa_4 := bwa_11.out.cell 4 rfl
  have z11_bX5_0 := bX5_11.out.cell 0 rfl
  have z11_bX5_1 := bX5_11.out.cell 1 rfl
  have z11_bY5_0 := bY5_11.out.cell 0 rfl
  have z11_bY5_1 := bY5_11.out.cell 1 rfl
  have z11_bY5_2 := bY5_11.out.cell 2 rfl
  have z11_bY5_3 := bY5_11.out.cell 3 rfl
  have z11_bY5_4 := bY5_11.out.cell 4 rfl
  have z11_bga_0 := bga_11.out.cell 0 rfl
  have z11_bga_1 := bga_11.out.cell 1 rfl
  have z11_bga_2 := bga_11.out.cell 2 rfl
  have z11_bga_3 := bga_11.out.cell 3 rfl
  have z11_bga_4 := bga_11.out.cell 4 rfl
  clear hb79
  have hw7 : Hid (EditL (m + 1) w9 0 [.int .i64 y.vKind, .slice ep5 y.vPath.length eq5, .string y.vTag, .string (strT y.vTree), .slice ea5 (kidsOf y.vTree).length ec5] y) := EditO_at (lo := 0) x5e_11.out (fun _ _ => Nat.zero_le _)
  go_upto_region 16 with fail
  have lt_bY5 := bY5_11.out.lt
  have lt_bE := bE_11.out.lt
  go_region_held3 (fun w' => w'.cell? ⟨u5b.heap.size, 0, none⟩ = some (.int .i64 y.vKind) ∧ w'.cell? ⟨u5b.heap.size, 1, none⟩ = some (.slice ep5 y.vPath.length eq5) ∧ w'.cell? ⟨u5b.heap.size, 2, none⟩ = some (.string y.vTag) ∧ w'.cell? ⟨u5b.heap.size, 3, none⟩ = some (.string (strT y.vTree)) ∧ w'.cell? ⟨u5b.heap.size, 4, none⟩ = some (.slice ea5 (kidsOf y.vTree).length ec5) ∧ w'.cell? ⟨w.heap.size + 1, 0, none⟩ = some (.int .i64 y.vKind) ∧ w'.cell? ⟨w.heap.size + 1, 1, none⟩ = some (.slice ap y.vPath.length cp) ∧ w'.cell? ⟨w.heap.size + 1, 2, none⟩ = some (.string y.vTag) ∧ w'.cell? ⟨w.heap.size + 1, 3, none⟩ = some (.string (strT y.vTree)) ∧ w'.cell? ⟨w.heap.size + 1, 4, none⟩ = some (.slice a1 (kidsOf y.vTree).length c1)) (go_keep)
    (first | (go_at_call 12; refine (toEdit_own (by exact EditL.below hy0.out hB11.out.drew) hpl.out hsy.out).mono ?_; rintro e w10 ⟨⟨cs8, fs8, rfl, ht8, _⟩, hb8⟩; have hb8' := undrew hb8; have bY58 : Hid (Box w10 u5b.heap.size _ _) := Box.below bY5_11.out hb8' lt_bY5; have bE8 : Hid (Box w10 (w.heap.size + 1) _ _) := Box.below bE_11.out hb8' lt_bE; have bY580 := bY58.out.cell 0 rfl; have bY581 := bY58.out.cell 1 rfl; have bY582 := bY58.out.cell 2 rfl; have bY583 := bY58.out.cell 3 rfl; have bY584 := bY58.out.cell 4 rfl; have bE80 := bE8.out.cell 0 rfl; have bE81 := bE8.out.cell 1 rfl; have bE82 := bE8.out.cell 2 rfl; have bE83 := bE8.out.cell 3 rfl; have bE84 := bE8.out.cell 4 rfl; have l8ah : Hid (EditL (m + 1) w10 0 [.int .i64 y.vKind, .slice ep5 y.vPath.length eq5, .string y.vTag, .string (strT y.vTree), .slice ea5 (kidsOf y.vTree).length ec5] y) := hw7.out.below hb8'; have l8bh : Hid (EditL (m + 1) w10 0 cs8 y) := EditO_at (lo := 0) ht8 (fun _ _ => Nat.zero_le _); have hb8h : Hid (Below w9.heap.size w9 w10) := hb8'; clear hb8 hb8' ht8) | (go_at_call 15; refine (eqEdit_any (by exact l8ah.out) (by exact l8bh.out)).mono ?_; rintro e w11 ⟨rfl, hb9⟩; have bY59 : Hid (Box w11 u5b.heap.size _ _) := Box.below bY58.out hb9 bY58.out.lt; have bE9 : Hid (Box w11 (w.heap.size + 1) _ _) := Box.below bE8.out hb9 bE8.out.lt; have bY590 := bY59.out.cell 0 rfl; have bY591 := bY59.out.cell 1 rfl; have bY592 := bY59.out.cell 2 rfl; have bY593 := bY59.out.cell 3 rfl; have bY594 := bY59.out.cell 4 rfl; have bE90 := bE9.out.cell 0 rfl; have bE91 := bE9.out.cell 1 rfl; have bE92 := bE9.out.cell 2 rfl; have bE93 := bE9.out.cell 3 rfl; have bE94 := bE9.out.cell 4 rfl; have hb9h : Hid (Below w9.heap.size w9 w11) := hb8h.out.trans (hb9.mono hb8h.out.size); clear hb9))
  have hb79 : Below w9.heap.size w9 w11 := hb9h.out
  clear hb8h hb9h l8ah l8bh hw7 bY58 bY59 lt_bY5 bE8 bE9 lt_bE bY580 bY590 bY581 bY591 bY582 bY592 bY583 bY593 bY584 bY594 bE80 bE90 bE81 bE91 bE82 bE92 bE83 bE93 bE84 bE94
  have bA_12 : Hid (Box w11 w.heap.size [.string (strT x), .slice a0 (kidsOf x).length cap0] 24) := bA_11.out.below hb79 bA_11.out.lt
  have bE_12 : Hid (Box w11 (w.heap.size + 1) [.int .i64 y.vKind, .slice ap y.vPath.length cp, .string y.vTag, .string (strT y.vTree), .slice a1 (kidsOf y.vTree).length c1] 27) := bE_11.out.below hb79 bE_11.out.lt
  have wa_12 : Hid (EditO (nwa + 1) w11 [.int .i64 (resE oo).vKind, .slice pwa (resE oo).vPath.length dwa, .string (resE oo).vTag, .string (strT (resE oo).vTree), .slice awa (kidsOf (resE oo).vTree).length cwa] (resE oo) fwa) := EditO_stays _ _ _ _ _ _ (fun x hx => (hb79).block x (EditO_lt _ _ _ _ _ wa_11.out x hx)) wa_11.out
  have bwa_12 : Hid (Box w11 gzwa [.int .i64 (resE oo).vKind, .slice pwa (resE oo).vPath.length dwa, .string (resE oo).vTag, .string (strT (resE oo).vTree), .slice awa (kidsOf (resE oo).vTree).length cwa] 36) := bwa_11.out.below hb79 bwa_11.out.lt
  have x5t_12 : Hid (TreeO (n + 1) w11 [.string (strT x), .slice at5 (kidsOf x).length ct5] x f5t) := TreeO_stays _ _ _ _ _ _ (fun x hx => (hb79).block x (TreeO_lt _ _ _ _ _ x5t_11.out x hx)) x5t_11.out
  have bX5_12 : Hid (Box w11 u5a.heap.size [.string (strT x), .slice at5 (kidsOf x).length ct5] 33) := bX5_11.out.below hb79 bX5_11.out.lt
  have x5e_12 : Hid (EditO (m + 1) w11 [.int .i64 y.vKind, .slice ep5 y.vPath.length eq5, .string y.vTag, .string (strT y.vTree), .slice ea5 (kidsOf y.vTree).length ec5] y f5e) := EditO_stays _ _ _ _ _ _ (fun x hx => (hb79).block x (EditO_lt _ _ _ _ _ x5e_11.out x hx)) x5e_11.out
  have bY5_12 : Hid (Box w11 u5b.heap.size [.int .i64 y.vKind, .slice ep5 y.vPath.length eq5, .string y.vTag, .string (strT y.vTree), .slice ea5 (kidsOf y.vTree).length ec5] 36) := bY5_11.out.below hb79 bY5_11.out.lt
  have ga_12 : Hid (EditO (nga + 1) w11 [.int .i64 (resE oo).vKind, .slice pga (resE oo).vPath.length dga, .string (resE oo).vTag, .string (strT (resE oo).vTree), .slice aga (kidsOf (resE oo).vTree).length cga] (resE oo) fga) := EditO_stays _ _ _ _ _ _ (fun x hx => (hb79).block x (EditO_lt _ _ _ _ _ ga_11.out x hx)) ga_11.out
  have bga_12 : Hid (Box w11 w6.heap.size [.int .i64 (resE oo).vKind, .slice pga (resE oo).vPath.length dga, .string (resE oo).vTag, .string (strT (resE oo).vTree), .slice aga (kidsOf (resE oo).vTree).length cga] 36) := bga_11.out.below hb79 bga_11.out.lt
  clear bA_11 bE_11 wa_11 bwa_11 x5t_11 bX5_11 x5e_11 bY5_11 ga_11 bga_11
  have hB12 : Hid (Below w.heap.size w w11) := hB11.out.trans ((hb79).mono hB11.out.size)
  have sz12 := (hb79).size
  clear z11_bA_0 z11_bA_1 z11_bE_0 z11_bE_1 z11_bE_2 z11_bE_3 z11_bE_4 z11_bwa_0 z11_bwa_1 z11_bwa_2 z11_bwa_3 z11_bwa_4 z11_bX5_0 z11_bX5_1 z11_bY5_0 z11_bY5_1 z11_bY5_2 z11_bY5_3 z11_bY5_4 z11_bga_0 z11_bga_1 z11_bga_2 z11_bga_3 z11_bga_4
  have z12_bA_0 := bA_12.out.cell 0 rfl
  have z12_bA_1 := bA_12.out.cell 1 rfl
  have z12_bE_0 := bE_12.out.cell 0 rfl
  have z12_bE_1 := bE_12.out.cell 1 rfl
  have z12_bE_2 := bE_12.out.cell 2 rfl
  have z12_bE_3 := bE_12.out.cell 3 rfl
  have z12_bE_4 := bE_12.out.cell 4 rfl
  have z12_bwa_0 := bwa_12.out.cell 0 rfl
  have z12_bwa_1 := bwa_12.out.cell 1 rfl
  have z12_bwa_2 := bwa_12.out.cell 2 rfl
  have z12_bwa_3 := bwa_12.out.cell 3 rfl
  have z12_bwa_4 := bwa_12.out.cell 4 rfl
  have z12_bX5_0 := bX5_12.out.cell 0 rfl
  have z12_bX5_1 := bX5_12.out.cell 1 rfl
  have z12_bY5_0 := bY5_12.out.cell 0 rfl
  have z12_bY5_1 := bY5_12.out.cell 1 rfl
  have z12_bY5_2 := bY5_12.out.cell 2 rfl
  have z12_bY5_3 := bY5_12.out.cell 3 rfl
  have z12_bY5_4 := bY5_12.out.cell 4 rfl
  have z12_bga_0 := bga_12.out.cell 0 rfl
  have z12_bga_1 := bga_12.out.cell 1 rfl
  have z12_bga_2 := bga_12.out.cell 2 rfl
  have z12_bga_3 := bga_12.out.cell 3 rfl
  have z12_bga_4 := bga_12.out.cell 4 rfl
  clear hb79
  go_wp2_with fail
  refine (markTree_any (n := n) x5t_12.out (by omega) (by have := hcx.out; omega)).mono ?_
  rintro e m1 ⟨rfl, _, hom1⟩
  have bA_13 : Hid (Box m1 w.heap.size [.string (strT x), .slice a0 (kidsOf x).length cap0] 24) := ((hom1).keep bA_12.out.lt (fun q => by have := rg_x5t.out _ q; omega)).trans bA_12.out
  have bE_13 : Hid (Box m1 (w.heap.size + 1) [.int .i64 y.vKind, .slice ap y.vPath.length cp, .string y.vTag, .string (strT y.vTree), .slice a1 (kidsOf y.vTree).length c1] 27) := ((hom1).keep bE_12.out.lt (fun q => by have := rg_x5t.out _ q; omega)).trans bE_12.out
  have wa_13 : Hid (EditO (nwa + 1) m1 [.int .i64 (resE oo).vKind, .slice pwa (resE oo).vPath.length dwa, .string (resE oo).vTag, .string (strT (resE oo).vTree), .slice awa (kidsOf (resE oo).vTree).length cwa] (resE oo) fwa) := EditO_stays _ _ _ _ _ _ (fun x hx => (hom1).keep (EditO_lt _ _ _ _ _ wa_12.out x hx) (fun q => by have := rg_x5t.out _ q; have := rg_wa.out _ hx; omega)) wa_12.out
  have bwa_13 : Hid (Box m1 gzwa [.int .i64 (resE oo).vKind, .slice pwa (resE oo).vPath.length dwa, .string (resE oo).vTag, .string (strT (resE oo).vTree), .slice awa (kidsOf (resE oo).vTree).length cwa] 36) := ((hom1).keep bwa_12.out.lt (fun q => by have := rg_x5t.out _ q; omega)).trans bwa_12.out
  have bX5_13 : Hid (Box m1 u5a.heap.size [.string (strT x), .slice at5 (kidsOf x).length ct5] 33) := ((hom1).keep bX5_12.out.lt (fun q => by have := rg_x5t.out _ q; omega)).trans bX5_12.out
  have x5e_13 : Hid (EditO (m + 1) m1 [.int .i64 y.vKind, .slice ep5 y.vPath.length eq5, .string y.vTag, .string (strT y.vTree), .slice ea5 (kidsOf y.vTree).length ec5] y f5e) := EditO_stays _ _ _ _ _ _ (fun x hx => (hom1).keep (EditO_lt _ _ _ _ _ x5e_12.out x hx) (fun q => by have := rg_x5t.out _ q; have := rg_x5e.out _ hx; omega)) x5e_12.out
  have bY5_13 : Hid (Box m1 u5b.heap.size [.int .i64 y.vKind, .slice ep5 y.vPath.length eq5, .string y.vTag, .string (strT y.vTree), .slice ea5 (kidsOf y.vTree).length ec5] 36) := ((hom1).keep bY5_12.out.lt (fun q => by have := rg_x5t.out _ q; omega)).trans bY5_12.out
  have ga_13 : Hid (EditO (nga + 1) m1 [.int .i64 (resE oo).vKind, .slice pga (resE oo).vPath.length dga, .string (resE oo).vTag, .string (strT (resE oo).vTree), .slice aga (kidsOf (resE oo).vTree).length cga] (resE oo) fga) := EditO_stays _ _ _ _ _ _ (fun x hx => (hom1).keep (EditO_lt _ _ _ _ _ ga_12.out x hx) (fun q => by have := rg_x5t.out _ q; have := rg_ga.out _ hx; omega)) ga_12.out
  have bga_13 : Hid (Box m1 w6.heap.size [.int .i64 (resE oo).vKind, .slice pga (resE oo).vPath.length dga, .string (resE oo).vTag, .string (strT (resE oo).vTree), .slice aga (kidsOf (resE oo).vTree).length cga] 36) := ((hom1).keep bga_12.out.lt (fun q => by have := rg_x5t.out _ q; omega)).trans bga_12.out
  clear bA_12 bE_12 wa_12 bwa_12 x5t_12 bX5_12 x5e_12 bY5_12 ga_12 bga_12
  have hB13 : Hid (Below w.heap.size w m1) := hB12.out.trans ((hom1).below hB12.out.size (fun x hx => by have := rg_x5t.out x hx; omega))
  have sz13 := (hom1).2.2.2.1
  clear z12_bA_0 z12_bA_1 z12_bE_0 z12_bE_1 z12_bE_2 z12_bE_3 z12_bE_4 z12_bwa_0 z12_bwa_1 z12_bwa_2 z12_bwa_3 z12_bwa_4 z12_bX5_0 z12_bX5_1 z12_bY5_0 z12_bY5_1 z12_bY5_2 z12_bY5_3 z12_bY5_4 z12_bga_0 z12_bga_1 z12_bga_2 z12_bga_3 z12_bga_4
  have z13_bA_0 := bA_13.out.cell 0 rfl
  have z13_bA_1 := bA_13.out.cell 1 rfl
  have z13_bE_0 := bE_13.out.cell 0 rfl
  have z13_bE_1 := bE_13.out.cell 1 rfl
  have z13_bE_2 := bE_13.out.cell 2 rfl
  have z13_bE_3 := bE_13.out.cell 3 rfl
  have z13_bE_4 := bE_13.out.cell 4 rfl
  have z13_bwa_0 := bwa_13.out.cell 0 rfl
  have z13_bwa_1 := bwa_13.out.cell 1 rfl
  have z13_bwa_2 := bwa_13.out.cell 2 rfl
  have z13_bwa_3 := bwa_13.out.cell 3 rfl
  have z13_bwa_4 := bwa_13.out.cell 4 rfl
  have z13_bX5_0 := bX5_13.out.cell 0 rfl
  have z13_bX5_1 := bX5_13.out.cell 1 rfl
  have z13_bY5_0 := bY5_13.out.cell 0 rfl
  have z13_bY5_1 := bY5_13.out.cell 1 rfl
  have z13_bY5_2 := bY5_13.out.cell 2 rfl
  have z13_bY5_3 := bY5_13.out.cell 3 rfl
  have z13_bY5_4 := bY5_13.out.cell 4 rfl
  have z13_bga_0 := bga_13.out.cell 0 rfl
  have z13_bga_1 := bga_13.out.cell 1 rfl
  have z13_bga_2 := bga_13.out.cell 2 rfl
  have z13_bga_3 := bga_13.out.cell 3 rfl
  have z13_bga_4 := bga_13.out.cell 4 rfl
  clear hom1
  generalize hK1 : (1 : Int) + (cntL (cntTree n) (kidsOf x) : Nat) = K1
  have hK1b : 0 ≤ K1 ∧ K1 ≤ 2000000 := by have := hcx.out; omega
  clear hK1
  go_wp2_with fail
  refine (markEdit_any (n := m) x5e_13.out (by omega) (by have := hcy.out; omega)).mono ?_
  rintro e m2 ⟨rfl, _, hom2⟩
  have bA_14 : Hid (Box m2 w.heap.size [.string (strT x), .slice a0 (kidsOf x).length cap0] 24) := ((hom2).keep bA_13.out.lt (fun q => by have := rg_x5e.out _ q; omega)).trans bA_13.out
  have bE_14 : Hid (Box m2 (w.heap.size + 1) [.int .i64 y.vKind, .slice ap y.vPath.length cp, .string y.vTag, .string (strT y.vTree), .slice a1 (kidsOf y.vTree).length c1] 27) := ((hom2).keep bE_13.out.lt (fun q => by have := rg_x5e.out _ q; omega)).trans bE_13.out
  have wa_14 : Hid (EditO (nwa + 1) m2 [.int .i64 (resE oo).vKind, .slice pwa (resE oo).vPath.length dwa, .string (resE oo).vTag, .string (strT (resE oo).vTree), .slice awa (kidsOf (resE oo).vTree).length cwa] (resE oo) fwa) := EditO_stays _ _ _ _ _ _ (fun x hx => (hom2).keep (EditO_lt _ _ _ _ _ wa_13.out x hx) (fun q => by have := rg_x5e.out _ q; have := rg_wa.out _ hx; omega)) wa_13.out
  have bwa_14 : Hid (Box m2 gzwa [.int .i64 (resE oo).vKind, .slice pwa (resE oo).vPath.length dwa, .string (resE oo).vTag, .string (strT (resE oo).vTree), .slice awa (kidsOf (resE oo).vTree).length cwa] 36) := ((hom2).keep bwa_13.out.lt (fun q => by have := rg_x5e.out _ q; omega)).trans bwa_13.out
  have bX5_14 : Hid (Box m2 u5a.heap.size [.string (strT x), .slice at5 (kidsOf x).length ct5] 33) := ((hom2).keep bX5_13.out.lt (fun q => by have := rg_x5e.out _ q; omega)).trans bX5_13.out
  have bY5_14 : Hid (Box m2 u5b.heap.size [.int .i64 y.vKind, .slice ep5 y.vPath.length eq5, .string y.vTag, .string (strT y.vTree), .slice ea5 (kidsOf y.vTree).length ec5] 36) := ((hom2).keep bY5_13.out.lt (fun q => by have := rg_x5e.out _ q; omega)).trans bY5_13.out
  have ga_14 : Hid (EditO (nga + 1) m2 [.int .i64 (resE oo).vKind, .slice pga (resE oo).vPath.length dga, .string (resE oo).vTag, .string (strT (resE oo).vTree), .slice aga (kidsOf (resE oo).vTree).length cga] (resE oo) fga) := EditO_stays _ _ _ _ _ _ (fun x hx => (hom2).keep (EditO_lt _ _ _ _ _ ga_13.out x hx) (fun q => by have := rg_x5e.out _ q; have := rg_ga.out _ hx; omega)) ga_13.out
  have bga_14 : Hid (Box m2 w6.heap.size [.int .i64 (resE oo).vKind, .slice pga (resE oo).vPath.length dga, .string (resE oo).vTag, .string (strT (resE oo).vTree), .slice aga (kidsOf (resE oo).vTree).length cga] 36) := ((hom2).keep bga_13.out.lt (fun q => by have := rg_x5e.out _ q; omega)).trans bga_13.out
  clear bA_13 bE_13 wa_13 bwa_13 bX5_13 x5e_13 bY5_13 ga_13 bga_13
  have hB14 : Hid (Below w.heap.size w m2) := hB13.out.trans ((hom2).below hB13.out.size (fun x hx => by have := rg_x5e.out x hx; omega))
  have sz14 := (hom2).2.2.2.1
  clear z13_bA_0 z13_bA_1 z13_bE_0 z13_bE_1 z13_bE_2 z13_bE_3 z13_bE_4 z13_bwa_0 z13_bwa_1 z13_bwa_2 z13_bwa_3 z13_bwa_4 z13_bX5_0 z13_bX5_1 z13_bY5_0 z13_bY5_1 z13_bY5_2 z13_bY5_3 z13_bY5_4 z13_bga_0 z13_bga_1 z13_bga_2 z13_bga_3 z13_bga_4
  have z14_bA_0 := bA_14.out.cell 0 rfl
  have z14_bA_1 := bA_14.out.cell 1 rfl
  have z14_bE_0 := bE_14.out.cell 0 rfl
  have z14_bE_1 := bE_14.out.cell 1 rfl
  have z14_bE_2 := bE_14.out.cell 2 rfl
  have z14_bE_3 := bE_14.out.cell 3 rfl
  have z14_bE_4 := bE_14.out.cell 4 rfl
  have z14_bwa_0 := bwa_14.out.cell 0 rfl
  have z14_bwa_1 := bwa_14.out.cell 1 rfl
  have z14_bwa_2 := bwa_14.out.cell 2 rfl
  have z14_bwa_3 := bwa_14.out.cell 3 rfl
  have z14_bwa_4 := bwa_14.out.cell 4 rfl
  have z14_bX5_0 := bX5_14.out.cell 0 rfl
  have z14_bX5_1 := bX5_14.out.cell 1 rfl
  have z14_bY5_0 := bY5_14.out.cell 0 rfl
  have z14_bY5_1 := bY5_14.out.cell 1 rfl
  have z14_bY5_2 := bY5_14.out.cell 2 rfl
  have z14_bY5_3 := bY5_14.out.cell 3 rfl
  have z14_bY5_4 := bY5_14.out.cell 4 rfl
  have z14_bga_0 := bga_14.out.cell 0 rfl
  have z14_bga_1 := bga_14.out.cell 1 rfl
  have z14_bga_2 := bga_14.out.cell 2 rfl
  have z14_bga_3 := bga_14.out.cell 3 rfl
  have z14_bga_4 := bga_14.out.cell 4 rfl
  clear hom2
  generalize hK2 : K1 + (cntE m y : Nat) = K2
  have hK2b : 0 ≤ K2 ∧ K2 ≤ 8000000 := by have := hcy.out; omega
  clear hK2
  clear bX5_14 z14_bX5_0 z14_bX5_1
  clear bY5_14 z14_bY5_0 z14_bY5_1 z14_bY5_2 z14_bY5_3 z14_bY5_4
  have hKn : decide (K2 < 0) = false := by simp; omega
  go_wp2_with fail
  refine (eqEdit_any (EditO_at (lo := 0) ga_14.out (fun _ _ => Nat.zero_le _)) (EditO_at (lo := 0) wa_14.out (fun _ _ => Nat.zero_le _))).mono ?_
  rintro e m4 ⟨rfl, hbm4⟩
  have bA_15 : Hid (Box m4 w.heap.size [.string (strT x), .slice a0 (kidsOf x).length cap0] 24) := bA_14.out.below hbm4 bA_14.out.lt
  have bE_15 : Hid (Box m4 (w.heap.size + 1) [.int .i64 y.vKind, .slice ap y.vPath.length cp, .string y.vTag, .string (strT y.vTree), .slice a1 (kidsOf y.vTree).length c1] 27) := bE_14.out.below hbm4 bE_14.out.lt
  have wa_15 : Hid (EditO (nwa + 1) m4 [.int .i64 (resE oo).vKind, .slice pwa (resE oo).vPath.length dwa, .string (resE oo).vTag, .string (strT (resE oo).vTree), .slice awa (kidsOf (resE oo).vTree).length cwa] (resE oo) fwa) := EditO_stays _ _ _ _ _ _ (fun x hx => (hbm4).block x (EditO_lt _ _ _ _ _ wa_14.out x hx)) wa_14.out
  have bwa_15 : Hid (Box m4 gzwa [.int .i64 (resE oo).vKind, .slice pwa (resE oo).vPath.length dwa, .string (resE oo).vTag, .string (strT (resE oo).vTree), .slice awa (kidsOf (resE oo).vTree).length cwa] 36) := bwa_14.out.below hbm4 bwa_14.out.lt
  have ga_15 : Hid (EditO (nga + 1) m4 [.int .i64 (resE oo).vKind, .slice pga (resE oo).vPath.length dga, .string (resE oo).vTag, .string (strT (resE oo).vTree), .slice aga (kidsOf (resE oo).vTree).length cga] (resE oo) fga) := EditO_stays _ _ _ _ _ _ (fun x hx => (hbm4).block x (EditO_lt _ _ _ _ _ ga_14.out x hx)) ga_14.out
  have bga_15 : Hid (Box m4 w6.heap.size [.int .i64 (resE oo).vKind, .slice pga (resE oo).vPath.length dga, .string (resE oo).vTag, .string (strT (resE oo).vTree), .slice aga (kidsOf (resE oo).vTree).length cga] 36) := bga_14.out.below hbm4 bga_14.out.lt
  clear bA_14 bE_14 wa_14 bwa_14 ga_14 bga_14
  have hB15 : Hid (Below w.heap.size w m4) := hB14.out.trans ((hbm4).mono hB14.out.size)
  have sz15 := (hbm4).size
  clear z14_bA_0 z14_bA_1 z14_bE_0 z14_bE_1 z14_bE_2 z14_bE_3 z14_bE_4 z14_bwa_0 z14_bwa_1 z14_bwa_2 z14_bwa_3 z14_bwa_4 z14_bga_0 z14_bga_1 z14_bga_2 z14_bga_3 z14_bga_4
  have z15_bA_0 := bA_15.out.cell 0 rfl
  have z15_bA_1 := bA_15.out.cell 1 rfl
  have z15_bE_0 := bE_15.out.cell 0 rfl
  have z15_bE_1 := bE_15.out.cell 1 rfl
  have z15_bE_2 := bE_15.out.cell 2 rfl
  have z15_bE_3 := bE_15.out.cell 3 rfl
  have z15_bE_4 := bE_15.out.cell 4 rfl
  have z15_bwa_0 := bwa_15.out.cell 0 rfl
  have z15_bwa_1 := bwa_15.out.cell 1 rfl
  have z15_bwa_2 := bwa_15.out.cell 2 rfl
  have z15_bwa_3 := bwa_15.out.cell 3 rfl
  have z15_bwa_4 := bwa_15.out.cell 4 rfl
  have z15_bga_0 := bga_15.out.cell 0 rfl
  have z15_bga_1 := bga_15.out.cell 1 rfl
  have z15_bga_2 := bga_15.out.cell 2 rfl
  have z15_bga_3 := bga_15.out.cell 3 rfl
  have z15_bga_4 := bga_15.out.cell 4 rfl
  clear hbm4
  go_wp2_with fail
  refine (markEdit_any (n := nga) ga_15.out (by omega) (hYC.out nga)).mono ?_
  rintro e m5 ⟨rfl, ownM, hom5⟩
  have bA_16 : Hid (Box m5 w.heap.size [.string (strT x), .slice a0 (kidsOf x).length cap0] 24) := ((hom5).keep bA_15.out.lt (fun q => by have := rg_ga.out _ q; omega)).trans bA_15.out
  have bE_16 : Hid (Box m5 (w.heap.size + 1) [.int .i64 y.vKind, .slice ap y.vPath.length cp, .string y.vTag, .string (strT y.vTree), .slice a1 (kidsOf y.vTree).length c1] 27) := ((hom5).keep bE_15.out.lt (fun q => by have := rg_ga.out _ q; omega)).trans bE_15.out
  have wa_16 : Hid (EditO (nwa + 1) m5 [.int .i64 (resE oo).vKind, .slice pwa (resE oo).vPath.length dwa, .string (resE oo).vTag, .string (strT (resE oo).vTree), .slice awa (kidsOf (resE oo).vTree).length cwa] (resE oo) fwa) := EditO_stays _ _ _ _ _ _ (fun x hx => (hom5).keep (EditO_lt _ _ _ _ _ wa_15.out x hx) (fun q => by have := rg_ga.out _ q; have := rg_wa.out _ hx; omega)) wa_15.out
  have bwa_16 : Hid (Box m5 gzwa [.int .i64 (resE oo).vKind, .slice pwa (resE oo).vPath.length dwa, .string (resE oo).vTag, .string (strT (resE oo).vTree), .slice awa (kidsOf (resE oo).vTree).length cwa] 36) := ((hom5).keep bwa_15.out.lt (fun q => by have := rg_ga.out _ q; omega)).trans bwa_15.out
  have bga_16 : Hid (Box m5 w6.heap.size [.int .i64 (resE oo).vKind, .slice pga (resE oo).vPath.length dga, .string (resE oo).vTag, .string (strT (resE oo).vTree), .slice aga (kidsOf (resE oo).vTree).length cga] 36) := ((hom5).keep bga_15.out.lt (fun q => by have := rg_ga.out _ q; omega)).trans bga_15.out
  clear bA_15 bE_15 wa_15 bwa_15 ga_15 bga_15
  have hB16 : Hid (Below w.heap.size w m5) := hB15.out.trans ((hom5).below hB15.out.size (fun x hx => by have := rg_ga.out x hx; omega))
  have sz16 := (hom5).2.2.2.1
  clear z15_bA_0 z15_bA_1 z15_bE_0 z15_bE_1 z15_bE_2 z15_bE_3 z15_bE_4 z15_bwa_0 z15_bwa_1 z15_bwa_2 z15_bwa_3 z15_bwa_4 z15_bga_0 z15_bga_1 z15_bga_2 z15_bga_3 z15_bga_4
  have z16_bA_0 := bA_16.out.cell 0 rfl
  have z16_bA_1 := bA_16.out.cell 1 rfl
  have z16_bE_0 := bE_16.out.cell 0 rfl
  have z16_bE_1 := bE_16.out.cell 1 rfl
  have z16_bE_2 := bE_16.out.cell 2 rfl
  have z16_bE_3 := bE_16.out.cell 3 rfl
  have z16_bE_4 := bE_16.out.cell 4 rfl
  have z16_bwa_0 := bwa_16.out.cell 0 rfl
  have z16_bwa_1 := bwa_16.out.cell 1 rfl
  have z16_bwa_2 := bwa_16.out.cell 2 rfl
  have z16_bwa_3 := bwa_16.out.cell 3 rfl
  have z16_bwa_4 := bwa_16.out.cell 4 rfl
  have z16_bga_0 := bga_16.out.cell 0 rfl
  have z16_bga_1 := bga_16.out.cell 1 rfl
  have z16_bga_2 := bga_16.out.cell 2 rfl
  have z16_bga_3 := bga_16.out.cell 3 rfl
  have z16_bga_4 := bga_16.out.cell 4 rfl
  have ga_16 : Hid (EditO (nga + 1) m5 [.int .i64 (resE oo).vKind, .slice pga (resE oo).vPath.length dga, .string (resE oo).vTag, .string (strT (resE oo).vTree), .slice aga (kidsOf (resE oo).vTree).length cga] (mkE nga (resE oo) 1) fga) := ownM
  clear ownM hom5
  have hYN : Hid ((1 : Int) + (cntE nga (resE oo) : Nat) ≤ 4611686018427387904) := hYC.out nga
  generalize hCI : (1 : Int) + (cntE nga (resE oo) : Nat) = M at *
  have hCI' : Hid ((1 : Int) + (cntE nga (resE oo) : Nat) = M) := hCI
  clear hCI
  have hM0 : 0 ≤ M := by have := hCI'.out; omega
  have hM1 : decide (M < 0) = false := by simp; omega
  go_wp2_with fail
  refine (heldEdit_any (n := nga) (lo := 0) (m := 1) (x := (resE oo)) (EditO_at (lo := 0) ga_16.out (fun _ _ => Nat.zero_le _)) (by omega) (by rw [hCI'.out]; exact hYN.out)).mono ?_
  rintro e m6 ⟨rfl, hbm6⟩
  rw [hCI'.out]
  have bA_17 : Hid (Box m6 w.heap.size [.string (strT x), .slice a0 (kidsOf x).length cap0] 24) := bA_16.out.below hbm6 bA_16.out.lt
  have bE_17 : Hid (Box m6 (w.heap.size + 1) [.int .i64 y.vKind, .slice ap y.vPath.length cp, .string y.vTag, .string (strT y.vTree), .slice a1 (kidsOf y.vTree).length c1] 27) := bE_16.out.below hbm6 bE_16.out.lt
  have wa_17 : Hid (EditO (nwa + 1) m6 [.int .i64 (resE oo).vKind, .slice pwa (resE oo).vPath.length dwa, .string (resE oo).vTag, .string (strT (resE oo).vTree), .slice awa (kidsOf (resE oo).vTree).length cwa] (resE oo) fwa) := EditO_stays _ _ _ _ _ _ (fun x hx => (hbm6).block x (EditO_lt _ _ _ _ _ wa_16.out x hx)) wa_16.out
  have bwa_17 : Hid (Box m6 gzwa [.int .i64 (resE oo).vKind, .slice pwa (resE oo).vPath.length dwa, .string (resE oo).vTag, .string (strT (resE oo).vTree), .slice awa (kidsOf (resE oo).vTree).length cwa] 36) := bwa_16.out.below hbm6 bwa_16.out.lt
  have ga_17 : Hid (EditO (nga + 1) m6 [.int .i64 (resE oo).vKind, .slice pga (resE oo).vPath.length dga, .string (resE oo).vTag, .string (strT (resE oo).vTree), .slice aga (kidsOf (resE oo).vTree).length cga] (mkE nga (resE oo) 1) fga) := EditO_stays _ _ _ _ _ _ (fun x hx => (hbm6).block x (EditO_lt _ _ _ _ _ ga_16.out x hx)) ga_16.out
  have bga_17 : Hid (Box m6 w6.heap.size [.int .i64 (resE oo).vKind, .slice pga (resE oo).vPath.length dga, .string (resE oo).vTag, .string (strT (resE oo).vTree), .slice aga (kidsOf (resE oo).vTree).length cga] 36) := bga_16.out.below hbm6 bga_16.out.lt
  clear bA_16 bE_16 wa_16 bwa_16 ga_16 bga_16
  have hB17 : Hid (Below w.heap.size w m6) := hB16.out.trans ((hbm6).mono hB16.out.size)
  have sz17 := (hbm6).size
  clear z16_bA_0 z16_bA_1 z16_bE_0 z16_bE_1 z16_bE_2 z16_bE_3 z16_bE_4 z16_bwa_0 z16_bwa_1 z16_bwa_2 z16_bwa_3 z16_bwa_4 z16_bga_0 z16_bga_1 z16_bga_2 z16_bga_3 z16_bga_4
  have z17_bA_0 := bA_17.out.cell 0 rfl
  have z17_bA_1 := bA_17.out.cell 1 rfl
  have z17_bE_0 := bE_17.out.cell 0 rfl
  have z17_bE_1 := bE_17.out.cell 1 rfl
  have z17_bE_2 := bE_17.out.cell 2 rfl
  have z17_bE_3 := bE_17.out.cell 3 rfl
  have z17_bE_4 := bE_17.out.cell 4 rfl
  have z17_bwa_0 := bwa_17.out.cell 0 rfl
  have z17_bwa_1 := bwa_17.out.cell 1 rfl
  have z17_bwa_2 := bwa_17.out.cell 2 rfl
  have z17_bwa_3 := bwa_17.out.cell 3 rfl
  have z17_bwa_4 := bwa_17.out.cell 4 rfl
  have z17_bga_0 := bga_17.out.cell 0 rfl
  have z17_bga_1 := bga_17.out.cell 1 rfl
  have z17_bga_2 := bga_17.out.cell 2 rfl
  have z17_bga_3 := bga_17.out.cell 3 rfl
  have z17_bga_4 := bga_17.out.cell 4 rfl
  clear hbm6
  go_upto_region 31 with fail
  go_cut [15, 16] (fun sP sB wx => ∃ (gz : Nat) (pW : Option Addr) (dW : Nat) (aW : Option Addr) (cW : Nat), sP = .pointer (some ⟨gz, 0, none⟩) ∧ sB = .bool oo.isSome ∧ Hid (Below m6.heap.size m6 wx) ∧ Hid (Box wx gz [.int .i64 (resE oo).vKind, .slice pW (resE oo).vPath.length dW, .string (resE oo).vTag, .string (strT (resE oo).vTree), .slice aW (kidsOf (resE oo).vTree).length cW] 36) ∧ m6.heap.size ≤ gz ∧ Hid (∃ fz nz, EditO (nz + 1) wx [.int .i64 (resE oo).vKind, .slice pW (resE oo).vPath.length dW, .string (resE oo).vTag, .string (strT (resE oo).vTree), .slice aW (kidsOf (resE oo).vTree).length cW] (resE oo) fz ∧ fz.Nodup ∧ ∀ b ∈ fz, m6.heap.size ≤ b ∧ b ≠ gz))
  case first =>
    have lA_ := bE_17.out.lt
    have kp0 : Hid (Below m6.heap.size m6 m6.drew) := (Below.refl _ _).drew
    refine wp_region_held_drew (S := fun w' => w'.cell? ⟨w.heap.size, 0, none⟩ = some (.string (strT x)) ∧ w'.cell? ⟨w.heap.size, 1, none⟩ = some (.slice a0 (kidsOf x).length cap0) ∧ w'.cell? ⟨w.heap.size + 1, 0, none⟩ = some (.int .i64 y.vKind) ∧ w'.cell? ⟨w.heap.size + 1, 1, none⟩ = some (.slice ap y.vPath.length cp) ∧ w'.cell? ⟨w.heap.size + 1, 2, none⟩ = some (.string y.vTag) ∧ w'.cell? ⟨w.heap.size + 1, 3, none⟩ = some (.string (strT y.vTree)) ∧ w'.cell? ⟨w.heap.size + 1, 4, none⟩ = some (.slice a1 (kidsOf y.vTree).length c1)) (by kernel_rfl) ⟨bA_17.out.cell 0 rfl, bA_17.out.cell 1 rfl, bE_17.out.cell 0 rfl, bE_17.out.cell 1 rfl, bE_17.out.cell 2 rfl, bE_17.out.cell 3 rfl, bE_17.out.cell 4 rfl⟩ (fun hHeld => ?_)
    refine tq (i := 0) (d := 95) ?_
    simp only [sz, ss]
    refine tq (i := 2) (d := 97) ?_
    simp only [sz, ss]
    refine wpAnyH_ready (rs := [1, 8]) (by kernel_rfl) (by simp) ?_
    refine (AllReadyH.cons rfl (fun K hK => ?_) (AllReadyH.cons rfl (fun K hK => ?_) AllReadyH.nil))
    · go_simp
      refine ((toT_all (n + 1)).1 _ 0 _ x (by exact TreeL.below hx0.out (Below.trans hB17.out (Below.mono kp0.out hB17.out.size))) hsm.out).mono ?_
      rintro e vha1 ⟨⟨csA, fA, rfl, htA, _, _⟩, hbc1⟩
      obtain ⟨kA, rfl, sA, _⟩ := htA.opened
      obtain ⟨aA, cA, rfl⟩ := sA.form
      have kp1 : Hid (Below m6.heap.size m6 vha1) := kp0.out.trans (Below.mono (hbc1) kp0.out.size)
      have at1 : Hid (TreeAt vha1 0 (n + 1) (.string (strT x)) (.slice aA (kidsOf x).length cA) x) := treeO_ta htA
      clear htA sA
      refine hK.out _ _ ⟨cell_on hbc1 hHeld.1, cell_on hbc1 hHeld.2.1, cell_on hbc1 hHeld.2.2.1, cell_on hbc1 hHeld.2.2.2.1, cell_on hbc1 hHeld.2.2.2.2.1, cell_on hbc1 hHeld.2.2.2.2.2.1, cell_on hbc1 hHeld.2.2.2.2.2.2⟩ (fun hHeld => ?_)
      clear hK K
      refine wpAnyH_ready (rs := [3, 8]) (by kernel_rfl) (by simp) ?_
      refine (AllReadyH.cons rfl (fun K hK => ?_) (AllReadyH.cons rfl (fun K hK => ?_) AllReadyH.nil))
      · go_simp
        refine (toEdit_own (by exact EditL.below hy0.out (Below.trans hB17.out (Below.mono kp1.out hB17.out.size))) hpl.out hsy.out).mono ?_
        rintro e vha2 ⟨⟨csH, fH, rfl, htH, _⟩, hbc2⟩
        have hlH := EditO_at (lo := 0) htH (fun _ _ => Nat.zero_le _)
        obtain ⟨pH, qH, aH, cH, rfl, _, _, _⟩ := hlH.form
        have kp2 : Hid (Below m6.heap.size m6 vha2) := kp1.out.trans (Below.mono (hbc2) kp1.out.size)
        have at2 : Hid (TreeAt vha2 0 (n + 1) (.string (strT x)) (.slice aA (kidsOf x).length cA) x) := TreeAt.below at1.out (hbc2)
        have eh2 : Hid (EditAt (m + 1) vha2 0 [.int .i64 y.vKind, .slice pH y.vPath.length qH, .string y.vTag, .string (strT y.vTree), .slice aH (kidsOf y.vTree).length cH] y) := hlH.at
        clear htH hlH
        refine hK.out _ _ ⟨cell_on hbc2 hHeld.1, cell_on hbc2 hHeld.2.1, cell_on hbc2 hHeld.2.2.1, cell_on hbc2 hHeld.2.2.2.1, cell_on hbc2 hHeld.2.2.2.2.1, cell_on hbc2 hHeld.2.2.2.2.2.1, cell_on hbc2 hHeld.2.2.2.2.2.2⟩ (fun hHeld => ?_)
        clear hK K
        refine wpAnyH_ready (rs := [4, 8]) (by kernel_rfl) (by simp) ?_
        refine (AllReadyH.cons rfl (fun K hK => ?_) (AllReadyH.cons rfl (fun K hK => ?_) AllReadyH.nil))
        · go_simp
          refine (implUndone_any (by exact at2.out) (by exact eh2.out) hpl.out).mono ?_
          rw [hYS'.out]
          rintro e vha3 ⟨csW, fW, nW, rfl, hoW0, hndW0, hlW0, hbc3⟩
          have hlW : Hid (∀ b ∈ fW, m6.heap.size ≤ b) := fun b m => Nat.le_trans kp2.out.size (hlW0 b m)
          have hndW : Hid (fW.Nodup) := hndW0
          obtain ⟨pW, dW, aW, cW, rfl, _, _, _⟩ := (EditO_at (lo := 0) hoW0 (fun _ _ => Nat.zero_le _)).form
          have anW : Hid (EditO nW vha3 [.int .i64 (resE oo).vKind, .slice pW (resE oo).vPath.length dW, .string (resE oo).vTag, .string (strT (resE oo).vTree), .slice aW (kidsOf (resE oo).vTree).length cW] (resE oo) fW) := hoW0
          clear hoW0 hlW0 hndW0
          have kp3 : Hid (Below m6.heap.size m6 vha3) := kp2.out.trans (Below.mono (hbc3) kp2.out.size)
          have at3 : Hid (TreeAt vha3 0 (n + 1) (.string (strT x)) (.slice aA (kidsOf x).length cA) x) := TreeAt.below at2.out (hbc3)
          have eh3 : Hid (EditAt (m + 1) vha3 0 [.int .i64 y.vKind, .slice pH y.vPath.length qH, .string y.vTag, .string (strT y.vTree), .slice aH (kidsOf y.vTree).length cH] y) := EditAt.stays _ _ _ _ _ _ (.of_below (hbc3)) eh2.out
          refine hK.out _ _ ⟨cell_on hbc3 hHeld.1, cell_on hbc3 hHeld.2.1, cell_on hbc3 hHeld.2.2.1, cell_on hbc3 hHeld.2.2.2.1, cell_on hbc3 hHeld.2.2.2.2.1, cell_on hbc3 hHeld.2.2.2.2.2.1, cell_on hbc3 hHeld.2.2.2.2.2.2⟩ (fun hHeld => ?_)
          clear hK K
          refine tq (i := 5) (d := 94) ?_
          simp only [sz, ss]
          refine tq (i := 6) (d := 100) ?_
          simp only [sz, ss]
          refine tq (i := 7) (d := 101) ?_
          simp only [sz, ss]
          refine wpAnyH_ready (rs := [8]) (by kernel_rfl) (by simp) ?_
          refine AllReadyH.cons rfl (fun K hK => ?_) AllReadyH.nil
          go_simp
          have kp4 : Hid (Below m6.heap.size m6 (World.alloc vha3 (.cells (List.toArray [.int .i64 0, .slice none 0 0, .string ⟨#[]⟩, .string ⟨#[]⟩, .slice none 0 0]) 36))) := kp3.out.trans (Below.mono ((Below.refl (World.heap vha3).size vha3).alloc (Nat.le_refl _) _) kp3.out.size)
          have at4 : Hid (TreeAt (World.alloc vha3 (.cells (List.toArray [.int .i64 0, .slice none 0 0, .string ⟨#[]⟩, .string ⟨#[]⟩, .slice none 0 0]) 36)) 0 (n + 1) (.string (strT x)) (.slice aA (kidsOf x).length cA) x) := TreeAt.below at3.out ((Below.refl (World.heap vha3).size vha3).alloc (Nat.le_refl _) _)
          have eh4 : Hid (EditAt (m + 1) (World.alloc vha3 (.cells (List.toArray [.int .i64 0, .slice none 0 0, .string ⟨#[]⟩, .string ⟨#[]⟩, .slice none 0 0]) 36)) 0 [.int .i64 y.vKind, .slice pH y.vPath.length qH, .string y.vTag, .string (strT y.vTree), .slice aH (kidsOf y.vTree).length cH] y) := EditAt.stays _ _ _ _ _ _ (.of_below ((Below.refl (World.heap vha3).size vha3).alloc (Nat.le_refl _) _)) eh3.out
          have an4 : Hid (EditO nW (World.alloc vha3 (.cells (List.toArray [.int .i64 0, .slice none 0 0, .string ⟨#[]⟩, .string ⟨#[]⟩, .slice none 0 0]) 36)) [.int .i64 (resE oo).vKind, .slice pW (resE oo).vPath.length dW, .string (resE oo).vTag, .string (strT (resE oo).vTree), .slice aW (kidsOf (resE oo).vTree).length cW] (resE oo) fW) := EditO_stays _ _ _ _ _ _ (fun b m => Below.block ((Below.refl (World.heap vha3).size vha3).alloc (Nat.le_refl _) _) b (EditO_lt _ _ _ _ _ anW.out b m)) anW.out
          have bz4 : Hid (Box (World.alloc vha3 (.cells (List.toArray [.int .i64 0, .slice none 0 0, .string ⟨#[]⟩, .string ⟨#[]⟩, .slice none 0 0]) 36)) (World.heap vha3).size [.int .i64 0, .slice none 0 0, .string ⟨#[]⟩, .string ⟨#[]⟩, .slice none 0 0] 36) := Box.new vha3 _ _
          have gz4 : m6.heap.size ≤ (World.heap vha3).size := kp3.out.size
          have nzW : Hid (∀ b ∈ fW, b ≠ (World.heap vha3).size) := fun b m e => Nat.lt_irrefl _ (e ▸ EditO_lt _ _ _ _ _ anW.out b m)
          refine hK.out _ _ ⟨cell_alloc hHeld.1 _, cell_alloc hHeld.2.1 _, cell_alloc hHeld.2.2.1 _, cell_alloc hHeld.2.2.2.1 _, cell_alloc hHeld.2.2.2.2.1 _, cell_alloc hHeld.2.2.2.2.2.1 _, cell_alloc hHeld.2.2.2.2.2.2 _⟩ (fun hHeld => ?_)
          clear hK K
          refine wpAnyH_ready (rs := [9]) (by kernel_rfl) (by simp) ?_
          refine AllReadyH.cons rfl (fun K hK => ?_) AllReadyH.nil
          have hgz : m6.heap.size ≤ (World.heap vha3).size := gz4
          have lp_ : m6.heap.size ≤ (World.heap vha3).size := kp3.out.size
          go_simp
          refine hK.out _ _ ⟨cell_realloc hHeld.1 (by omega), cell_realloc hHeld.2.1 (by omega), cell_realloc hHeld.2.2.1 (by omega), cell_realloc hHeld.2.2.2.1 (by omega), cell_realloc hHeld.2.2.2.2.1 (by omega), cell_realloc hHeld.2.2.2.2.2.1 (by omega), cell_realloc hHeld.2.2.2.2.2.2 (by omega)⟩ (fun hHeld => ?_)
          clear hK K
          refine tq (i := 10) (d := 16) ?_
          simp only [sz, ss]
          refine wpAnyH_done (by kernel_rfl) ?_ _
          have bF : Hid (Box (World.alloc vha3 (.cells (List.toArray [.int .i64 (resE oo).vKind, .slice pW (resE oo).vPath.length dW, .string (resE oo).vTag, .string (strT (resE oo).vTree), .slice aW (kidsOf (resE oo).vTree).length cW]) 36)) ((World.heap vha3).size) [.int .i64 (resE oo).vKind, .slice pW (resE oo).vPath.length dW, .string (resE oo).vTag, .string (strT (resE oo).vTree), .slice aW (kidsOf (resE oo).vTree).length cW] 36) := Box.new vha3 _ _
          have kF : Hid (Below m6.heap.size m6 (World.alloc vha3 (.cells (List.toArray [.int .i64 (resE oo).vKind, .slice pW (resE oo).vPath.length dW, .string (resE oo).vTag, .string (strT (resE oo).vTree), .slice aW (kidsOf (resE oo).vTree).length cW]) 36))) := kp3.out.alloc lp_ _
          have aF : Hid (∃ fz nz, EditO (nz + 1) (World.alloc vha3 (.cells (List.toArray [.int .i64 (resE oo).vKind, .slice pW (resE oo).vPath.length dW, .string (resE oo).vTag, .string (strT (resE oo).vTree), .slice aW (kidsOf (resE oo).vTree).length cW]) 36)) [.int .i64 (resE oo).vKind, .slice pW (resE oo).vPath.length dW, .string (resE oo).vTag, .string (strT (resE oo).vTree), .slice aW (kidsOf (resE oo).vTree).length cW] (resE oo) fz ∧ fz.Nodup ∧ ∀ b ∈ fz, m6.heap.size ≤ b ∧ b ≠ (World.heap vha3).size) := ⟨fW, nW, EditO_mono (Nat.le_succ _) (EditO_stays _ _ _ _ _ _ (fun b m => Below.heap_alloc _ _ _ (EditO_lt _ _ _ _ _ anW.out b m)) anW.out), hndW.out, fun b m => ⟨hlW.out b m, nzW.out b m⟩⟩
          go_wp2_with fail
          go_meet
          exact ⟨_, pW, dW, aW, cW, rfl, rfl, kF, bF, hgz, aF⟩
        · go_simp
          have kp3 : Hid (Below m6.heap.size m6 (World.alloc vha2 (.cells (List.toArray [.int .i64 0, .slice none 0 0, .string ⟨#[]⟩, .string ⟨#[]⟩, .slice none 0 0]) 36))) := kp2.out.trans (Below.mono ((Below.refl (World.heap vha2).size vha2).alloc (Nat.le_refl _) _) kp2.out.size)
          have at3 : Hid (TreeAt (World.alloc vha2 (.cells (List.toArray [.int .i64 0, .slice none 0 0, .string ⟨#[]⟩, .string ⟨#[]⟩, .slice none 0 0]) 36)) 0 (n + 1) (.string (strT x)) (.slice aA (kidsOf x).length cA) x) := TreeAt.below at2.out ((Below.refl (World.heap vha2).size vha2).alloc (Nat.le_refl _) _)
          have eh3 : Hid (EditAt (m + 1) (World.alloc vha2 (.cells (List.toArray [.int .i64 0, .slice none 0 0, .string ⟨#[]⟩, .string ⟨#[]⟩, .slice none 0 0]) 36)) 0 [.int .i64 y.vKind, .slice pH y.vPath.length qH, .string y.vTag, .string (strT y.vTree), .slice aH (kidsOf y.vTree).length cH] y) := EditAt.stays _ _ _ _ _ _ (.of_below ((Below.refl (World.heap vha2).size vha2).alloc (Nat.le_refl _) _)) eh2.out
          have bz3 : Hid (Box (World.alloc vha2 (.cells (List.toArray [.int .i64 0, .slice none 0 0, .string ⟨#[]⟩, .string ⟨#[]⟩, .slice none 0 0]) 36)) (World.heap vha2).size [.int .i64 0, .slice none 0 0, .string ⟨#[]⟩, .string ⟨#[]⟩, .slice none 0 0] 36) := Box.new vha2 _ _
          have gz3 : m6.heap.size ≤ (World.heap vha2).size := kp2.out.size
          refine hK.out _ _ ⟨cell_alloc hHeld.1 _, cell_alloc hHeld.2.1 _, cell_alloc hHeld.2.2.1 _, cell_alloc hHeld.2.2.2.1 _, cell_alloc hHeld.2.2.2.2.1 _, cell_alloc hHeld.2.2.2.2.2.1 _, cell_alloc hHeld.2.2.2.2.2.2 _⟩ (fun hHeld => ?_)
          clear hK K
          refine wpAnyH_ready (rs := [4]) (by kernel_rfl) (by simp) ?_
          refine AllReadyH.cons rfl (fun K hK => ?_) AllReadyH.nil
          go_simp
          refine (implUndone_any (by exact at3.out) (by exact eh3.out) hpl.out).mono ?_
          rw [hYS'.out]
          rintro e vha4 ⟨csW, fW, nW, rfl, hoW0, hndW0, hlW0, hbc4⟩
          have hlW : Hid (∀ b ∈ fW, m6.heap.size ≤ b) := fun b m => Nat.le_trans kp3.out.size (hlW0 b m)
          have hndW : Hid (fW.Nodup) := hndW0
          have nzW : Hid (∀ b ∈ fW, b ≠ (World.heap vha2).size) := fun b m e => Nat.lt_irrefl _ (Nat.lt_of_lt_of_le (Box.lt bz3.out) (e ▸ hlW0 b m))
          obtain ⟨pW, dW, aW, cW, rfl, _, _, _⟩ := (EditO_at (lo := 0) hoW0 (fun _ _ => Nat.zero_le _)).form
          have anW : Hid (EditO nW vha4 [.int .i64 (resE oo).vKind, .slice pW (resE oo).vPath.length dW, .string (resE oo).vTag, .string (strT (resE oo).vTree), .slice aW (kidsOf (resE oo).vTree).length cW] (resE oo) fW) := hoW0
          clear hoW0 hlW0 hndW0
          have kp4 : Hid (Below m6.heap.size m6 vha4) := kp3.out.trans (Below.mono (hbc4) kp3.out.size)
          have bz4 : Hid (Box vha4 (World.heap vha2).size [.int .i64 0, .slice none 0 0, .string ⟨#[]⟩, .string ⟨#[]⟩, .slice none 0 0] 36) := Box.below bz3.out (hbc4) bz3.out.lt
          have at4 : Hid (TreeAt vha4 0 (n + 1) (.string (strT x)) (.slice aA (kidsOf x).length cA) x) := TreeAt.below at3.out (hbc4)
          have eh4 : Hid (EditAt (m + 1) vha4 0 [.int .i64 y.vKind, .slice pH y.vPath.length qH, .string y.vTag, .string (strT y.vTree), .slice aH (kidsOf y.vTree).length cH] y) := EditAt.stays _ _ _ _ _ _ (.of_below (hbc4)) eh3.out
          refine hK.out _ _ ⟨cell_on hbc4 hHeld.1, cell_on hbc4 hHeld.2.1, cell_on hbc4 hHeld.2.2.1, cell_on hbc4 hHeld.2.2.2.1, cell_on hbc4 hHeld.2.2.2.2.1, cell_on hbc4 hHeld.2.2.2.2.2.1, cell_on hbc4 hHeld.2.2.2.2.2.2⟩ (fun hHeld => ?_)
          clear hK K
          refine tq (i := 5) (d := 94) ?_
          simp only [sz, ss]
          refine tq (i := 6) (d := 100) ?_
          simp only [sz, ss]
          refine tq (i := 7) (d := 101) ?_
          simp only [sz, ss]
          refine wpAnyH_ready (rs := [9]) (by kernel_rfl) (by simp) ?_
          refine AllReadyH.cons rfl (fun K hK => ?_) AllReadyH.nil
          have hgz : m6.heap.size ≤ (World.heap vha2).size := gz3
          have u0_ := bz4.out.cell 0 rfl
          have u1_ := bz4.out.cell 1 rfl
          have u2_ := bz4.out.cell 2 rfl
          have u3_ := bz4.out.cell 3 rfl
          have u4_ := bz4.out.cell 4 rfl
          have uf_ := bz4.out.unfrozen
          go_simp
          refine hK.out _ _ ⟨cell_set (T := (World.heap vha2).size) (cell_set (T := (World.heap vha2).size) (cell_set (T := (World.heap vha2).size) (cell_set (T := (World.heap vha2).size) (cell_set (T := (World.heap vha2).size) (hHeld.1) (by omega) _) (by omega) _) (by omega) _) (by omega) _) (by omega) _, cell_set (T := (World.heap vha2).size) (cell_set (T := (World.heap vha2).size) (cell_set (T := (World.heap vha2).size) (cell_set (T := (World.heap vha2).size) (cell_set (T := (World.heap vha2).size) (hHeld.2.1) (by omega) _) (by omega) _) (by omega) _) (by omega) _) (by omega) _, cell_set (T := (World.heap vha2).size) (cell_set (T := (World.heap vha2).size) (cell_set (T := (World.heap vha2).size) (cell_set (T := (World.heap vha2).size) (cell_set (T := (World.heap vha2).size) (hHeld.2.2.1) (by omega) _) (by omega) _) (by omega) _) (by omega) _) (by omega) _, cell_set (T := (World.heap vha2).size) (cell_set (T := (World.heap vha2).size) (cell_set (T := (World.heap vha2).size) (cell_set (T := (World.heap vha2).size) (cell_set (T := (World.heap vha2).size) (hHeld.2.2.2.1) (by omega) _) (by omega) _) (by omega) _) (by omega) _) (by omega) _, cell_set (T := (World.heap vha2).size) (cell_set (T := (World.heap vha2).size) (cell_set (T := (World.heap vha2).size) (cell_set (T := (World.heap vha2).size) (cell_set (T := (World.heap vha2).size) (hHeld.2.2.2.2.1) (by omega) _) (by omega) _) (by omega) _) (by omega) _) (by omega) _, cell_set (T := (World.heap vha2).size) (cell_set (T := (World.heap vha2).size) (cell_set (T := (World.heap vha2).size) (cell_set (T := (World.heap vha2).size) (cell_set (T := (World.heap vha2).size) (hHeld.2.2.2.2.2.1) (by omega) _) (by omega) _) (by omega) _) (by omega) _) (by omega) _, cell_set (T := (World.heap vha2).size) (cell_set (T := (World.heap vha2).size) (cell_set (T := (World.heap vha2).size) (cell_set (T := (World.heap vha2).size) (cell_set (T := (World.heap vha2).size) (hHeld.2.2.2.2.2.2) (by omega) _) (by omega) _) (by omega) _) (by omega) _) (by omega) _⟩ (fun hHeld => ?_)
          clear hK K
          refine tq (i := 10) (d := 16) ?_
          simp only [sz, ss]
          refine wpAnyH_done (by kernel_rfl) ?_ _
          have bF : Hid (Box (putCells vha4 ((World.heap vha2).size) 0 [.int .i64 (resE oo).vKind, .slice pW (resE oo).vPath.length dW, .string (resE oo).vTag, .string (strT (resE oo).vTree), .slice aW (kidsOf (resE oo).vTree).length cW]) ((World.heap vha2).size) [.int .i64 (resE oo).vKind, .slice pW (resE oo).vPath.length dW, .string (resE oo).vTag, .string (strT (resE oo).vTree), .slice aW (kidsOf (resE oo).vTree).length cW] 36) := (((((bz4.out.set _).set _).set _).set _).set _)
          have kF : Hid (Below m6.heap.size m6 (putCells vha4 ((World.heap vha2).size) 0 [.int .i64 (resE oo).vKind, .slice pW (resE oo).vPath.length dW, .string (resE oo).vTag, .string (strT (resE oo).vTree), .slice aW (kidsOf (resE oo).vTree).length cW])) := putCells_below _ _ _ _ _ _ hgz kp4.out
          have aF : Hid (∃ fz nz, EditO (nz + 1) (putCells vha4 ((World.heap vha2).size) 0 [.int .i64 (resE oo).vKind, .slice pW (resE oo).vPath.length dW, .string (resE oo).vTag, .string (strT (resE oo).vTree), .slice aW (kidsOf (resE oo).vTree).length cW]) [.int .i64 (resE oo).vKind, .slice pW (resE oo).vPath.length dW, .string (resE oo).vTag, .string (strT (resE oo).vTree), .slice aW (kidsOf (resE oo).vTree).length cW] (resE oo) fz ∧ fz.Nodup ∧ ∀ b ∈ fz, m6.heap.size ≤ b ∧ b ≠ (World.heap vha2).size) := ⟨fW, nW, EditO_mono (Nat.le_succ _) (EditO_stays _ _ _ _ _ _ (fun b m => putCells_other _ _ _ _ _ (nzW.out b m)) anW.out), hndW.out, fun b m => ⟨hlW.out b m, nzW.out b m⟩⟩
          go_wp2_with fail
          go_meet
          exact ⟨_, pW, dW, aW, cW, rfl, rfl, kF, bF, hgz, aF⟩
      · go_simp
        have kp2 : Hid (Below m6.heap.size m6 (World.alloc vha1 (.cells (List.toArray [.int .i64 0, .slice none 0 0, .string ⟨#[]⟩, .string ⟨#[]⟩, .slice none 0 0]) 36))) := kp1.out.trans (Below.mono ((Below.refl (World.heap vha1).size vha1).alloc (Nat.le_refl _) _) kp1.out.size)
        have at2 : Hid (TreeAt (World.alloc vha1 (.cells (List.toArray [.int .i64 0, .slice none 0 0, .string ⟨#[]⟩, .string ⟨#[]⟩, .slice none 0 0]) 36)) 0 (n + 1) (.string (strT x)) (.slice aA (kidsOf x).length cA) x) := TreeAt.below at1.out ((Below.refl (World.heap vha1).size vha1).alloc (Nat.le_refl _) _)
        have bz2 : Hid (Box (World.alloc vha1 (.cells (List.toArray [.int .i64 0, .slice none 0 0, .string ⟨#[]⟩, .string ⟨#[]⟩, .slice none 0 0]) 36)) (World.heap vha1).size [.int .i64 0, .slice none 0 0, .string ⟨#[]⟩, .string ⟨#[]⟩, .slice none 0 0] 36) := Box.new vha1 _ _
        have gz2 : m6.heap.size ≤ (World.heap vha1).size := kp1.out.size
        refine hK.out _ _ ⟨cell_alloc hHeld.1 _, cell_alloc hHeld.2.1 _, cell_alloc hHeld.2.2.1 _, cell_alloc hHeld.2.2.2.1 _, cell_alloc hHeld.2.2.2.2.1 _, cell_alloc hHeld.2.2.2.2.2.1 _, cell_alloc hHeld.2.2.2.2.2.2 _⟩ (fun hHeld => ?_)
        clear hK K
        refine wpAnyH_ready (rs := [3]) (by kernel_rfl) (by simp) ?_
        refine AllReadyH.cons rfl (fun K hK => ?_) AllReadyH.nil
        go_simp
        refine (toEdit_own (by exact EditL.below hy0.out (Below.trans hB17.out (Below.mono kp2.out hB17.out.size))) hpl.out hsy.out).mono ?_
        rintro e vha3 ⟨⟨csH, fH, rfl, htH, _⟩, hbc3⟩
        have hlH := EditO_at (lo := 0) htH (fun _ _ => Nat.zero_le _)
        obtain ⟨pH, qH, aH, cH, rfl, _, _, _⟩ := hlH.form
        have kp3 : Hid (Below m6.heap.size m6 vha3) := kp2.out.trans (Below.mono (hbc3) kp2.out.size)
        have bz3 : Hid (Box vha3 (World.heap vha1).size [.int .i64 0, .slice none 0 0, .string ⟨#[]⟩, .string ⟨#[]⟩, .slice none 0 0] 36) := Box.below bz2.out (hbc3) bz2.out.lt
        have at3 : Hid (TreeAt vha3 0 (n + 1) (.string (strT x)) (.slice aA (kidsOf x).length cA) x) := TreeAt.below at2.out (hbc3)
        have eh3 : Hid (EditAt (m + 1) vha3 0 [.int .i64 y.vKind, .slice pH y.vPath.length qH, .string y.vTag, .string (strT y.vTree), .slice aH (kidsOf y.vTree).length cH] y) := hlH.at
        clear htH hlH
        refine hK.out _ _ ⟨cell_on hbc3 hHeld.1, cell_on hbc3 hHeld.2.1, cell_on hbc3 hHeld.2.2.1, cell_on hbc3 hHeld.2.2.2.1, cell_on hbc3 hHeld.2.2.2.2.1, cell_on hbc3 hHeld.2.2.2.2.2.1, cell_on hbc3 hHeld.2.2.2.2.2.2⟩ (fun hHeld => ?_)
        clear hK K
        refine wpAnyH_ready (rs := [4]) (by kernel_rfl) (by simp) ?_
        refine AllReadyH.cons rfl (fun K hK => ?_) AllReadyH.nil
        go_simp
        refine (implUndone_any (by exact at3.out) (by exact eh3.out) hpl.out).mono ?_
        rw [hYS'.out]
        rintro e vha4 ⟨csW, fW, nW, rfl, hoW0, hndW0, hlW0, hbc4⟩
        have hlW : Hid (∀ b ∈ fW, m6.heap.size ≤ b) := fun b m => Nat.le_trans kp3.out.size (hlW0 b m)
        have hndW : Hid (fW.Nodup) := hndW0
        have nzW : Hid (∀ b ∈ fW, b ≠ (World.heap vha1).size) := fun b m e => Nat.lt_irrefl _ (Nat.lt_of_lt_of_le (Box.lt bz3.out) (e ▸ hlW0 b m))
        obtain ⟨pW, dW, aW, cW, rfl, _, _, _⟩ := (EditO_at (lo := 0) hoW0 (fun _ _ => Nat.zero_le _)).form
        have anW : Hid (EditO nW vha4 [.int .i64 (resE oo).vKind, .slice pW (resE oo).vPath.length dW, .string (resE oo).vTag, .string (strT (resE oo).vTree), .slice aW (kidsOf (resE oo).vTree).length cW] (resE oo) fW) := hoW0
        clear hoW0 hlW0 hndW0
        have kp4 : Hid (Below m6.heap.size m6 vha4) := kp3.out.trans (Below.mono (hbc4) kp3.out.size)
        have bz4 : Hid (Box vha4 (World.heap vha1).size [.int .i64 0, .slice none 0 0, .string ⟨#[]⟩, .string ⟨#[]⟩, .slice none 0 0] 36) := Box.below bz3.out (hbc4) bz3.out.lt
        have at4 : Hid (TreeAt vha4 0 (n + 1) (.string (strT x)) (.slice aA (kidsOf x).length cA) x) := TreeAt.below at3.out (hbc4)
        have eh4 : Hid (EditAt (m + 1) vha4 0 [.int .i64 y.vKind, .slice pH y.vPath.length qH, .string y.vTag, .string (strT y.vTree), .slice aH (kidsOf y.vTree).length cH] y) := EditAt.stays _ _ _ _ _ _ (.of_below (hbc4)) eh3.out
        refine hK.out _ _ ⟨cell_on hbc4 hHeld.1, cell_on hbc4 hHeld.2.1, cell_on hbc4 hHeld.2.2.1, cell_on hbc4 hHeld.2.2.2.1, cell_on hbc4 hHeld.2.2.2.2.1, cell_on hbc4 hHeld.2.2.2.2.2.1, cell_on hbc4 hHeld.2.2.2.2.2.2⟩ (fun hHeld => ?_)
        clear hK K
        refine tq (i := 5) (d := 94) ?_
        simp only [sz, ss]
        refine tq (i := 6) (d := 100) ?_
        simp only [sz, ss]
        refine tq (i := 7) (d := 101) ?_
        simp only [sz, ss]
        refine wpAnyH_ready (rs := [9]) (by kernel_rfl) (by simp) ?_
        refine AllReadyH.cons rfl (fun K hK => ?_) AllReadyH.nil
        have hgz : m6.heap.size ≤ (World.heap vha1).size := gz2
        have u0_ := bz4.out.cell 0 rfl
        have u1_ := bz4.out.cell 1 rfl
        have u2_ := bz4.out.cell 2 rfl
        have u3_ := bz4.out.cell 3 rfl
        have u4_ := bz4.out.cell 4 rfl
        have uf_ := bz4.out.unfrozen
        go_simp
        refine hK.out _ _ ⟨cell_set (T := (World.heap vha1).size) (cell_set (T := (World.heap vha1).size) (cell_set (T := (World.heap vha1).size) (cell_set (T := (World.heap vha1).size) (cell_set (T := (World.heap vha1).size) (hHeld.1) (by omega) _) (by omega) _) (by omega) _) (by omega) _) (by omega) _, cell_set (T := (World.heap vha1).size) (cell_set (T := (World.heap vha1).size) (cell_set (T := (World.heap vha1).size) (cell_set (T := (World.heap vha1).size) (cell_set (T := (World.heap vha1).size) (hHeld.2.1) (by omega) _) (by omega) _) (by omega) _) (by omega) _) (by omega) _, cell_set (T := (World.heap vha1).size) (cell_set (T := (World.heap vha1).size) (cell_set (T := (World.heap vha1).size) (cell_set (T := (World.heap vha1).size) (cell_set (T := (World.heap vha1).size) (hHeld.2.2.1) (by omega) _) (by omega) _) (by omega) _) (by omega) _) (by omega) _, cell_set (T := (World.heap vha1).size) (cell_set (T := (World.heap vha1).size) (cell_set (T := (World.heap vha1).size) (cell_set (T := (World.heap vha1).size) (cell_set (T := (World.heap vha1).size) (hHeld.2.2.2.1) (by omega) _) (by omega) _) (by omega) _) (by omega) _) (by omega) _, cell_set (T := (World.heap vha1).size) (cell_set (T := (World.heap vha1).size) (cell_set (T := (World.heap vha1).size) (cell_set (T := (World.heap vha1).size) (cell_set (T := (World.heap vha1).size) (hHeld.2.2.2.2.1) (by omega) _) (by omega) _) (by omega) _) (by omega) _) (by omega) _, cell_set (T := (World.heap vha1).size) (cell_set (T := (World.heap vha1).size) (cell_set (T := (World.heap vha1).size) (cell_set (T := (World.heap vha1).size) (cell_set (T := (World.heap vha1).size) (hHeld.2.2.2.2.2.1) (by omega) _) (by omega) _) (by omega) _) (by omega) _) (by omega) _, cell_set (T := (World.heap vha1).size) (cell_set (T := (World.heap vha1).size) (cell_set (T := (World.heap vha1).size) (cell_set (T := (World.heap vha1).size) (cell_set (T := (World.heap vha1).size) (hHeld.2.2.2.2.2.2) (by omega) _) (by omega) _) (by omega) _) (by omega) _) (by omega) _⟩ (fun hHeld => ?_)
        clear hK K
        refine tq (i := 10) (d := 16) ?_
        simp only [sz, ss]
        refine wpAnyH_done (by kernel_rfl) ?_ _
        have bF : Hid (Box (putCells vha4 ((World.heap vha1).size) 0 [.int .i64 (resE oo).vKind, .slice pW (resE oo).vPath.length dW, .string (resE oo).vTag, .string (strT (resE oo).vTree), .slice aW (kidsOf (resE oo).vTree).length cW]) ((World.heap vha1).size) [.int .i64 (resE oo).vKind, .slice pW (resE oo).vPath.length dW, .string (resE oo).vTag, .string (strT (resE oo).vTree), .slice aW (kidsOf (resE oo).vTree).length cW] 36) := (((((bz4.out.set _).set _).set _).set _).set _)
        have kF : Hid (Below m6.heap.size m6 (putCells vha4 ((World.heap vha1).size) 0 [.int .i64 (resE oo).vKind, .slice pW (resE oo).vPath.length dW, .string (resE oo).vTag, .string (strT (resE oo).vTree), .slice aW (kidsOf (resE oo).vTree).length cW])) := putCells_below _ _ _ _ _ _ hgz kp4.out
        have aF : Hid (∃ fz nz, EditO (nz + 1) (putCells vha4 ((World.heap vha1).size) 0 [.int .i64 (resE oo).vKind, .slice pW (resE oo).vPath.length dW, .string (resE oo).vTag, .string (strT (resE oo).vTree), .slice aW (kidsOf (resE oo).vTree).length cW]) [.int .i64 (resE oo).vKind, .slice pW (resE oo).vPath.length dW, .string (resE oo).vTag, .string (strT (resE oo).vTree), .slice aW (kidsOf (resE oo).vTree).length cW] (resE oo) fz ∧ fz.Nodup ∧ ∀ b ∈ fz, m6.heap.size ≤ b ∧ b ≠ (World.heap vha1).size) := ⟨fW, nW, EditO_mono (Nat.le_succ _) (EditO_stays _ _ _ _ _ _ (fun b m => putCells_other _ _ _ _ _ (nzW.out b m)) anW.out), hndW.out, fun b m => ⟨hlW.out b m, nzW.out b m⟩⟩
        go_wp2_with fail
        go_meet
        exact ⟨_, pW, dW, aW, cW, rfl, rfl, kF, bF, hgz, aF⟩
    · go_simp
      have kp1 : Hid (Below m6.heap.size m6 (World.alloc m6.drew (.cells (List.toArray [.int .i64 0, .slice none 0 0, .string ⟨#[]⟩, .string ⟨#[]⟩, .slice none 0 0]) 36))) := kp0.out.trans (Below.mono ((Below.refl (World.heap m6.drew).size m6.drew).alloc (Nat.le_refl _) _) kp0.out.size)
      have bz1 : Hid (Box (World.alloc m6.drew (.cells (List.toArray [.int .i64 0, .slice none 0 0, .string ⟨#[]⟩, .string ⟨#[]⟩, .slice none 0 0]) 36)) m6.heap.size [.int .i64 0, .slice none 0 0, .string ⟨#[]⟩, .string ⟨#[]⟩, .slice none 0 0] 36) := Box.new m6.drew _ _
      have gz1 : m6.heap.size ≤ m6.heap.size := kp0.out.size
      refine hK.out _ _ ⟨cell_alloc hHeld.1 _, cell_alloc hHeld.2.1 _, cell_alloc hHeld.2.2.1 _, cell_alloc hHeld.2.2.2.1 _, cell_alloc hHeld.2.2.2.2.1 _, cell_alloc hHeld.2.2.2.2.2.1 _, cell_alloc hHeld.2.2.2.2.2.2 _⟩ (fun hHeld => ?_)
      clear hK K
      refine wpAnyH_ready (rs := [1]) (by kernel_rfl) (by simp) ?_
      refine AllReadyH.cons rfl (fun K hK => ?_) AllReadyH.nil
      go_simp
      refine ((toT_all (n + 1)).1 _ 0 _ x (by exact TreeL.below hx0.out (Below.trans hB17.out (Below.mono kp1.out hB17.out.size))) hsm.out).mono ?_
      rintro e vha2 ⟨⟨csA, fA, rfl, htA, _, _⟩, hbc2⟩
      obtain ⟨kA, rfl, sA, _⟩ := htA.opened
      obtain ⟨aA, cA, rfl⟩ := sA.form
      have kp2 : Hid (Below m6.heap.size m6 vha2) := kp1.out.trans (Below.mono (hbc2) kp1.out.size)
      have bz2 : Hid (Box vha2 m6.heap.size [.int .i64 0, .slice none 0 0, .string ⟨#[]⟩, .string ⟨#[]⟩, .slice none 0 0] 36) := Box.below bz1.out (hbc2) bz1.out.lt
      have at2 : Hid (TreeAt vha2 0 (n + 1) (.string (strT x)) (.slice aA (kidsOf x).length cA) x) := treeO_ta htA
      clear htA sA
      refine hK.out _ _ ⟨cell_on hbc2 hHeld.1, cell_on hbc2 hHeld.2.1, cell_on hbc2 hHeld.2.2.1, cell_on hbc2 hHeld.2.2.2.1, cell_on hbc2 hHeld.2.2.2.2.1, cell_on hbc2 hHeld.2.2.2.2.2.1, cell_on hbc2 hHeld.2.2.2.2.2.2⟩ (fun hHeld => ?_)
      clear hK K
      refine wpAnyH_ready (rs := [3]) (by kernel_rfl) (by simp) ?_
      refine AllReadyH.cons rfl (fun K hK => ?_) AllReadyH.nil
      go_simp
      refine (toEdit_own (by exact EditL.below hy0.out (Below.trans hB17.out (Below.mono kp2.out hB17.out.size))) hpl.out hsy.out).mono ?_
      rintro e vha3 ⟨⟨csH, fH, rfl, htH, _⟩, hbc3⟩
      have hlH := EditO_at (lo := 0) htH (fun _ _ => Nat.zero_le _)
      obtain ⟨pH, qH, aH, cH, rfl, _, _, _⟩ := hlH.form
      have kp3 : Hid (Below m6.heap.size m6 vha3) := kp2.out.trans (Below.mono (hbc3) kp2.out.size)
      have bz3 : Hid (Box vha3 m6.heap.size [.int .i64 0, .slice none 0 0, .string ⟨#[]⟩, .string ⟨#[]⟩, .slice none 0 0] 36) := Box.below bz2.out (hbc3) bz2.out.lt
      have at3 : Hid (TreeAt vha3 0 (n + 1) (.string (strT x)) (.slice aA (kidsOf x).length cA) x) := TreeAt.below at2.out (hbc3)
      have eh3 : Hid (EditAt (m + 1) vha3 0 [.int .i64 y.vKind, .slice pH y.vPath.length qH, .string y.vTag, .string (strT y.vTree), .slice aH (kidsOf y.vTree).length cH] y) := hlH.at
      clear htH hlH
      refine hK.out _ _ ⟨cell_on hbc3 hHeld.1, cell_on hbc3 hHeld.2.1, cell_on hbc3 hHeld.2.2.1, cell_on hbc3 hHeld.2.2.2.1, cell_on hbc3 hHeld.2.2.2.2.1, cell_on hbc3 hHeld.2.2.2.2.2.1, cell_on hbc3 hHeld.2.2.2.2.2.2⟩ (fun hHeld => ?_)
      clear hK K
      refine wpAnyH_ready (rs := [4]) (by kernel_rfl) (by simp) ?_
      refine AllReadyH.cons rfl (fun K hK => ?_) AllReadyH.nil
      go_simp
      refine (implUndone_any (by exact at3.out) (by exact eh3.out) hpl.out).mono ?_
      rw [hYS'.out]
      rintro e vha4 ⟨csW, fW, nW, rfl, hoW0, hndW0, hlW0, hbc4⟩
      have hlW : Hid (∀ b ∈ fW, m6.heap.size ≤ b) := fun b m => Nat.le_trans kp3.out.size (hlW0 b m)
      have hndW : Hid (fW.Nodup) := hndW0
      have nzW : Hid (∀ b ∈ fW, b ≠ m6.heap.size) := fun b m e => Nat.lt_irrefl _ (Nat.lt_of_lt_of_le (Box.lt bz3.out) (e ▸ hlW0 b m))
      obtain ⟨pW, dW, aW, cW, rfl, _, _, _⟩ := (EditO_at (lo := 0) hoW0 (fun _ _ => Nat.zero_le _)).form
      have anW : Hid (EditO nW vha4 [.int .i64 (resE oo).vKind, .slice pW (resE oo).vPath.length dW, .string (resE oo).vTag, .string (strT (resE oo).vTree), .slice aW (kidsOf (resE oo).vTree).length cW] (resE oo) fW) := hoW0
      clear hoW0 hlW0 hndW0
      have kp4 : Hid (Below m6.heap.size m6 vha4) := kp3.out.trans (Below.mono (hbc4) kp3.out.size)
      have bz4 : Hid (Box vha4 m6.heap.size [.int .i64 0, .slice none 0 0, .string ⟨#[]⟩, .string ⟨#[]⟩, .slice none 0 0] 36) := Box.below bz3.out (hbc4) bz3.out.lt
      have at4 : Hid (TreeAt vha4 0 (n + 1) (.string (strT x)) (.slice aA (kidsOf x).length cA) x) := TreeAt.below at3.out (hbc4)
      have eh4 : Hid (EditAt (m + 1) vha4 0 [.int .i64 y.vKind, .slice pH y.vPath.length qH, .string y.vTag, .string (strT y.vTree), .slice aH (kidsOf y.vTree).length cH] y) := EditAt.stays _ _ _ _ _ _ (.of_below (hbc4)) eh3.out
      refine hK.out _ _ ⟨cell_on hbc4 hHeld.1, cell_on hbc4 hHeld.2.1, cell_on hbc4 hHeld.2.2.1, cell_on hbc4 hHeld.2.2.2.1, cell_on hbc4 hHeld.2.2.2.2.1, cell_on hbc4 hHeld.2.2.2.2.2.1, cell_on hbc4 hHeld.2.2.2.2.2.2⟩ (fun hHeld => ?_)
      clear hK K
      refine tq (i := 5) (d := 94) ?_
      simp only [sz, ss]
      refine tq (i := 6) (d := 100) ?_
      simp only [sz, ss]
      refine tq (i := 7) (d := 101) ?_
      simp only [sz, ss]
      refine wpAnyH_ready (rs := [9]) (by kernel_rfl) (by simp) ?_
      refine AllReadyH.cons rfl (fun K hK => ?_) AllReadyH.nil
      have hgz : m6.heap.size ≤ m6.heap.size := gz1
      have u0_ := bz4.out.cell 0 rfl
      have u1_ := bz4.out.cell 1 rfl
      have u2_ := bz4.out.cell 2 rfl
      have u3_ := bz4.out.cell 3 rfl
      have u4_ := bz4.out.cell 4 rfl
      have uf_ := bz4.out.unfrozen
      go_simp
      refine hK.out _ _ ⟨cell_set (T := m6.heap.size) (cell_set (T := m6.heap.size) (cell_set (T := m6.heap.size) (cell_set (T := m6.heap.size) (cell_set (T := m6.heap.size) (hHeld.1) (by omega) _) (by omega) _) (by omega) _) (by omega) _) (by omega) _, cell_set (T := m6.heap.size) (cell_set (T := m6.heap.size) (cell_set (T := m6.heap.size) (cell_set (T := m6.heap.size) (cell_set (T := m6.heap.size) (hHeld.2.1) (by omega) _) (by omega) _) (by omega) _) (by omega) _) (by omega) _, cell_set (T := m6.heap.size) (cell_set (T := m6.heap.size) (cell_set (T := m6.heap.size) (cell_set (T := m6.heap.size) (cell_set (T := m6.heap.size) (hHeld.2.2.1) (by omega) _) (by omega) _) (by omega) _) (by omega) _) (by omega) _, cell_set (T := m6.heap.size) (cell_set (T := m6.heap.size) (cell_set (T := m6.heap.size) (cell_set (T := m6.heap.size) (cell_set (T := m6.heap.size) (hHeld.2.2.2.1) (by omega) _) (by omega) _) (by omega) _) (by omega) _) (by omega) _, cell_set (T := m6.heap.size) (cell_set (T := m6.heap.size) (cell_set (T := m6.heap.size) (cell_set (T := m6.heap.size) (cell_set (T := m6.heap.size) (hHeld.2.2.2.2.1) (by omega) _) (by omega) _) (by omega) _) (by omega) _) (by omega) _, cell_set (T := m6.heap.size) (cell_set (T := m6.heap.size) (cell_set (T := m6.heap.size) (cell_set (T := m6.heap.size) (cell_set (T := m6.heap.size) (hHeld.2.2.2.2.2.1) (by omega) _) (by omega) _) (by omega) _) (by omega) _) (by omega) _, cell_set (T := m6.heap.size) (cell_set (T := m6.heap.size) (cell_set (T := m6.heap.size) (cell_set (T := m6.heap.size) (cell_set (T := m6.heap.size) (hHeld.2.2.2.2.2.2) (by omega) _) (by omega) _) (by omega) _) (by omega) _) (by omega) _⟩ (fun hHeld => ?_)
      clear hK K
      refine tq (i := 10) (d := 16) ?_
      simp only [sz, ss]
      refine wpAnyH_done (by kernel_rfl) ?_ _
      have bF : Hid (Box (putCells vha4 (m6.heap.size) 0 [.int .i64 (resE oo).vKind, .slice pW (resE oo).vPath.length dW, .string (resE oo).vTag, .string (strT (resE oo).vTree), .slice aW (kidsOf (resE oo).vTree).length cW]) (m6.heap.size) [.int .i64 (resE oo).vKind, .slice pW (resE oo).vPath.length dW, .string (resE oo).vTag, .string (strT (resE oo).vTree), .slice aW (kidsOf (resE oo).vTree).length cW] 36) := (((((bz4.out.set _).set _).set _).set _).set _)
      have kF : Hid (Below m6.heap.size m6 (putCells vha4 (m6.heap.size) 0 [.int .i64 (resE oo).vKind, .slice pW (resE oo).vPath.length dW, .string (resE oo).vTag, .string (strT (resE oo).vTree), .slice aW (kidsOf (resE oo).vTree).length cW])) := putCells_below _ _ _ _ _ _ hgz kp4.out
      have aF : Hid (∃ fz nz, EditO (nz + 1) (putCells vha4 (m6.heap.size) 0 [.int .i64 (resE oo).vKind, .slice pW (resE oo).vPath.length dW, .string (resE oo).vTag, .string (strT (resE oo).vTree), .slice aW (kidsOf (resE oo).vTree).length cW]) [.int .i64 (resE oo).vKind, .slice pW (resE oo).vPath.length dW, .string (resE oo).vTag, .string (strT (resE oo).vTree), .slice aW (kidsOf (resE oo).vTree).length cW] (resE oo) fz ∧ fz.Nodup ∧ ∀ b ∈ fz, m6.heap.size ≤ b ∧ b ≠ m6.heap.size) := ⟨fW, nW, EditO_mono (Nat.le_succ _) (EditO_stays _ _ _ _ _ _ (fun b m => putCells_other _ _ _ _ _ (nzW.out b m)) anW.out), hndW.out, fun b m => ⟨hlW.out b m, nzW.out b m⟩⟩
      go_wp2_with fail
      go_meet
      exact ⟨_, pW, dW, aW, cW, rfl, rfl, kF, bF, hgz, aF⟩
  case rest =>
  obtain ⟨gzha, pha, dha, aha, cha, rfl, rfl, hkha, hbxha, hglha, hFha⟩ := hcut
  obtain ⟨fha, nha, ownha, ndha, lowha⟩ := hFha.out
  have rg_ha0 : Hid (∀ b ∈ fha, b < wc.heap.size) := EditO_lt _ _ _ _ _ ownha
  have ndhah : Hid (fha.Nodup) := ndha
  have lowha' : Hid (∀ b ∈ fha, m6.heap.size ≤ b ∧ b ≠ gzha) := lowha
  have hguha := hbxha.out.lt
  have ownsha : Hid (EditO (nha + 1) wc [.int .i64 (resE oo).vKind, .slice pha (resE oo).vPath.length dha, .string (resE oo).vTag, .string (strT (resE oo).vTree), .slice aha (kidsOf (resE oo).vTree).length cha] (resE oo) fha) := ownha
  clear ownha ndha lowha hFha
  have hkhao := hkha.out
  have bA_18 : Hid (Box wc w.heap.size [.string (strT x), .slice a0 (kidsOf x).length cap0] 24) := bA_17.out.below hkhao bA_17.out.lt
  have bE_18 : Hid (Box wc (w.heap.size + 1) [.int .i64 y.vKind, .slice ap y.vPath.length cp, .string y.vTag, .string (strT y.vTree), .slice a1 (kidsOf y.vTree).length c1] 27) := bE_17.out.below hkhao bE_17.out.lt
  have wa_18 : Hid (EditO (nwa + 1) wc [.int .i64 (resE oo).vKind, .slice pwa (resE oo).vPath.length dwa, .string (resE oo).vTag, .string (strT (resE oo).vTree), .slice awa (kidsOf (resE oo).vTree).length cwa] (resE oo) fwa) := EditO_stays _ _ _ _ _ _ (fun x hx => (hkhao).block x (EditO_lt _ _ _ _ _ wa_17.out x hx)) wa_17.out
  have bwa_18 : Hid (Box wc gzwa [.int .i64 (resE oo).vKind, .slice pwa (resE oo).vPath.length dwa, .string (resE oo).vTag, .string (strT (resE oo).vTree), .slice awa (kidsOf (resE oo).vTree).length cwa] 36) := bwa_17.out.below hkhao bwa_17.out.lt
  have ga_18 : Hid (EditO (nga + 1) wc [.int .i64 (resE oo).vKind, .slice pga (resE oo).vPath.length dga, .string (resE oo).vTag, .string (strT (resE oo).vTree), .slice aga (kidsOf (resE oo).vTree).length cga] (mkE nga (resE oo) 1) fga) := EditO_stays _ _ _ _ _ _ (fun x hx => (hkhao).block x (EditO_lt _ _ _ _ _ ga_17.out x hx)) ga_17.out
  have bga_18 : Hid (Box wc w6.heap.size [.int .i64 (resE oo).vKind, .slice pga (resE oo).vPath.length dga, .string (resE oo).vTag, .string (strT (resE oo).vTree), .slice aga (kidsOf (resE oo).vTree).length cga] 36) := bga_17.out.below hkhao bga_17.out.lt
  clear bA_17 bE_17 wa_17 bwa_17 ga_17 bga_17
  have hB18 : Hid (Below w.heap.size w wc) := hB17.out.trans ((hkhao).mono hB17.out.size)
  have sz18 := (hkhao).size
  clear z17_bA_0 z17_bA_1 z17_bE_0 z17_bE_1 z17_bE_2 z17_bE_3 z17_bE_4 z17_bwa_0 z17_bwa_1 z17_bwa_2 z17_bwa_3 z17_bwa_4 z17_bga_0 z17_bga_1 z17_bga_2 z17_bga_3 z17_bga_4
  have z18_bA_0 := bA_18.out.cell 0 rfl
  have z18_bA_1 := bA_18.out.cell 1 rfl
  have z18_bE_0 := bE_18.out.cell 0 rfl
  have z18_bE_1 := bE_18.out.cell 1 rfl
  have z18_bE_2 := bE_18.out.cell 2 rfl
  have z18_bE_3 := bE_18.out.cell 3 rfl
  have z18_bE_4 := bE_18.out.cell 4 rfl
  have z18_bwa_0 := bwa_18.out.cell 0 rfl
  have z18_bwa_1 := bwa_18.out.cell 1 rfl
  have z18_bwa_2 := bwa_18.out.cell 2 rfl
  have z18_bwa_3 := bwa_18.out.cell 3 rfl
  have z18_bwa_4 := bwa_18.out.cell 4 rfl
  have z18_bga_0 := bga_18.out.cell 0 rfl
  have z18_bga_1 := bga_18.out.cell 1 rfl
  have z18_bga_2 := bga_18.out.cell 2 rfl
  have z18_bga_3 := bga_18.out.cell 3 rfl
  have z18_bga_4 := bga_18.out.cell 4 rfl
  have ha_18 : Hid (EditO (nha + 1) wc [.int .i64 (resE oo).vKind, .slice pha (resE oo).vPath.length dha, .string (resE oo).vTag, .string (strT (resE oo).vTree), .slice aha (kidsOf (resE oo).vTree).length cha] (resE oo) fha) := ownsha
  have bha_18 : Hid (Box wc gzha [.int .i64 (resE oo).vKind, .slice pha (resE oo).vPath.length dha, .string (resE oo).vTag, .string (strT (resE oo).vTree), .slice aha (kidsOf (resE oo).vTree).length cha] 36) := hbxha
  have z18_bha_0 := bha_18.out.cell 0 rfl
  have z18_bha_1 := bha_18.out.cell 1 rfl
  have z18_bha_2 := bha_18.out.cell 2 rfl
  have z18_bha_3 := bha_18.out.cell 3 rfl
  have z18_bha_4 := bha_18.out.cell 4 rfl
  have rg_ha : Hid (∀ b ∈ fha, m6.heap.size ≤ b ∧ b < wc.heap.size ∧ b ≠ gzha) := fun b q => ⟨(lowha'.out b q).1, rg_ha0.out b q, (lowha'.out b q).2⟩
  clear ownsha hbxha hkha hkhao
  go_wp2_with fail
  refine (eqEdit_any (EditO_at (lo := 0) ha_18.out (fun _ _ => Nat.zero_le _)) (EditO_at (lo := 0) wa_18.out (fun _ _ => Nat.zero_le _))).mono ?_
  rintro e w12 ⟨rfl, hbw12⟩
  have bA_19 : Hid (Box w12 w.heap.size [.string (strT x), .slice a0 (kidsOf x).length cap0] 24) := bA_18.out.below hbw12 bA_18.out.lt
  have bE_19 : Hid (Box w12 (w.heap.size + 1) [.int .i64 y.vKind, .slice ap y.vPath.length cp, .string y.vTag, .string (strT y.vTree), .slice a1 (kidsOf y.vTree).length c1] 27) := bE_18.out.below hbw12 bE_18.out.lt
  have wa_19 : Hid (EditO (nwa + 1) w12 [.int .i64 (resE oo).vKind, .slice pwa (resE oo).vPath.length dwa, .string (resE oo).vTag, .string (strT (resE oo).vTree), .slice awa (kidsOf (resE oo).vTree).length cwa] (resE oo) fwa) := EditO_stays _ _ _ _ _ _ (fun x hx => (hbw12).block x (EditO_lt _ _ _ _ _ wa_18.out x hx)) wa_18.out
  have bwa_19 : Hid (Box w12 gzwa [.int .i64 (resE oo).vKind, .slice pwa (resE oo).vPath.length dwa, .string (resE oo).vTag, .string (strT (resE oo).vTree), .slice awa (kidsOf (resE oo).vTree).length cwa] 36) := bwa_18.out.below hbw12 bwa_18.out.lt
  have ga_19 : Hid (EditO (nga + 1) w12 [.int .i64 (resE oo).vKind, .slice pga (resE oo).vPath.length dga, .string (resE oo).vTag, .string (strT (resE oo).vTree), .slice aga (kidsOf (resE oo).vTree).length cga] (mkE nga (resE oo) 1) fga) := EditO_stays _ _ _ _ _ _ (fun x hx => (hbw12).block x (EditO_lt _ _ _ _ _ ga_18.out x hx)) ga_18.out
  have bga_19 : Hid (Box w12 w6.heap.size [.int .i64 (resE oo).vKind, .slice pga (resE oo).vPath.length dga, .string (resE oo).vTag, .string (strT (resE oo).vTree), .slice aga (kidsOf (resE oo).vTree).length cga] 36) := bga_18.out.below hbw12 bga_18.out.lt
  have ha_19 : Hid (EditO (nha + 1) w12 [.int .i64 (resE oo).vKind, .slice pha (resE oo).vPath.length dha, .string (resE oo).vTag, .string (strT (resE oo).vTree), .slice aha (kidsOf (resE oo).vTree).length cha] (resE oo) fha) := EditO_stays _ _ _ _ _ _ (fun x hx => (hbw12).block x (EditO_lt _ _ _ _ _ ha_18.out x hx)) ha_18.out
  have bha_19 : Hid (Box w12 gzha [.int .i64 (resE oo).vKind, .slice pha (resE oo).vPath.length dha, .string (resE oo).vTag, .string (strT (resE oo).vTree), .slice aha (kidsOf (resE oo).vTree).length cha] 36) := bha_18.out.below hbw12 bha_18.out.lt
  clear bA_18 bE_18 wa_18 bwa_18 ga_18 bga_18 ha_18 bha_18
  have hB19 : Hid (Below w.heap.size w w12) := hB18.out.trans ((hbw12).mono hB18.out.size)
  have sz19 := (hbw12).size
  clear z18_bA_0 z18_bA_1 z18_bE_0 z18_bE_1 z18_bE_2 z18_bE_3 z18_bE_4 z18_bwa_0 z18_bwa_1 z18_bwa_2 z18_bwa_3 z18_bwa_4 z18_bga_0 z18_bga_1 z18_bga_2 z18_bga_3 z18_bga_4 z18_bha_0 z18_bha_1 z18_bha_2 z18_bha_3 z18_bha_4
  have z19_bA_0 := bA_19.out.cell 0 rfl
  have z19_bA_1 := bA_19.out.cell 1 rfl
  have z19_bE_0 := bE_19.out.cell 0 rfl
  have z19_bE_1 := bE_19.out.cell 1 rfl
  have z19_bE_2 := bE_19.out.cell 2 rfl
  have z19_bE_3 := bE_19.out.cell 3 rfl
  have z19_bE_4 := bE_19.out.cell 4 rfl
  have z19_bwa_0 := bwa_19.out.cell 0 rfl
  have z19_bwa_1 := bwa_19.out.cell 1 rfl
  have z19_bwa_2 := bwa_19.out.cell 2 rfl
  have z19_bwa_3 := bwa_19.out.cell 3 rfl
  have z19_bwa_4 := bwa_19.out.cell 4 rfl
  have z19_bga_0 := bga_19.out.cell 0 rfl
  have z19_bga_1 := bga_19.out.cell 1 rfl
  have z19_bga_2 := bga_19.out.cell 2 rfl
  have z19_bga_3 := bga_19.out.cell 3 rfl
  have z19_bga_4 := bga_19.out.cell 4 rfl
  have z19_bha_0 := bha_19.out.cell 0 rfl
  have z19_bha_1 := bha_19.out.cell 1 rfl
  have z19_bha_2 := bha_19.out.cell 2 rfl
  have z19_bha_3 := bha_19.out.cell 3 rfl
  have z19_bha_4 := bha_19.out.cell 4 rfl
  clear hbw12
  go_wp2_with fail
  refine (heldEdit_any (n := nga) (lo := 0) (m := 1) (x := (resE oo)) (EditO_at (lo := 0) ga_19.out (fun _ _ => Nat.zero_le _)) (by omega) (by rw [hCI'.out]; exact hYN.out)).mono ?_
  rintro e w13 ⟨rfl, hbw13⟩
  rw [hCI'.out]
  have bA_20 : Hid (Box w13 w.heap.size [.string (strT x), .slice a0 (kidsOf x).length cap0] 24) := bA_19.out.below hbw13 bA_19.out.lt
  have bE_20 : Hid (Box w13 (w.heap.size + 1) [.int .i64 y.vKind, .slice ap y.vPath.length cp, .string y.vTag, .string (strT y.vTree), .slice a1 (kidsOf y.vTree).length c1] 27) := bE_19.out.below hbw13 bE_19.out.lt
  have wa_20 : Hid (EditO (nwa + 1) w13 [.int .i64 (resE oo).vKind, .slice pwa (resE oo).vPath.length dwa, .string (resE oo).vTag, .string (strT (resE oo).vTree), .slice awa (kidsOf (resE oo).vTree).length cwa] (resE oo) fwa) := EditO_stays _ _ _ _ _ _ (fun x hx => (hbw13).block x (EditO_lt _ _ _ _ _ wa_19.out x hx)) wa_19.out
  have bwa_20 : Hid (Box w13 gzwa [.int .i64 (resE oo).vKind, .slice pwa (resE oo).vPath.length dwa, .string (resE oo).vTag, .string (strT (resE oo).vTree), .slice awa (kidsOf (resE oo).vTree).length cwa] 36) := bwa_19.out.below hbw13 bwa_19.out.lt
  have ga_20 : Hid (EditO (nga + 1) w13 [.int .i64 (resE oo).vKind, .slice pga (resE oo).vPath.length dga, .string (resE oo).vTag, .string (strT (resE oo).vTree), .slice aga (kidsOf (resE oo).vTree).length cga] (mkE nga (resE oo) 1) fga) := EditO_stays _ _ _ _ _ _ (fun x hx => (hbw13).block x (EditO_lt _ _ _ _ _ ga_19.out x hx)) ga_19.out
  have bga_20 : Hid (Box w13 w6.heap.size [.int .i64 (resE oo).vKind, .slice pga (resE oo).vPath.length dga, .string (resE oo).vTag, .string (strT (resE oo).vTree), .slice aga (kidsOf (resE oo).vTree).length cga] 36) := bga_19.out.below hbw13 bga_19.out.lt
  have ha_20 : Hid (EditO (nha + 1) w13 [.int .i64 (resE oo).vKind, .slice pha (resE oo).vPath.length dha, .string (resE oo).vTag, .string (strT (resE oo).vTree), .slice aha (kidsOf (resE oo).vTree).length cha] (resE oo) fha) := EditO_stays _ _ _ _ _ _ (fun x hx => (hbw13).block x (EditO_lt _ _ _ _ _ ha_19.out x hx)) ha_19.out
  have bha_20 : Hid (Box w13 gzha [.int .i64 (resE oo).vKind, .slice pha (resE oo).vPath.length dha, .string (resE oo).vTag, .string (strT (resE oo).vTree), .slice aha (kidsOf (resE oo).vTree).length cha] 36) := bha_19.out.below hbw13 bha_19.out.lt
  clear bA_19 bE_19 wa_19 bwa_19 ga_19 bga_19 ha_19 bha_19
  have hB20 : Hid (Below w.heap.size w w13) := hB19.out.trans ((hbw13).mono hB19.out.size)
  have sz20 := (hbw13).size
  clear z19_bA_0 z19_bA_1 z19_bE_0 z19_bE_1 z19_bE_2 z19_bE_3 z19_bE_4 z19_bwa_0 z19_bwa_1 z19_bwa_2 z19_bwa_3 z19_bwa_4 z19_bga_0 z19_bga_1 z19_bga_2 z19_bga_3 z19_bga_4 z19_bha_0 z19_bha_1 z19_bha_2 z19_bha_3 z19_bha_4
  have z20_bA_0 := bA_20.out.cell 0 rfl
  have z20_bA_1 := bA_20.out.cell 1 rfl
  have z20_bE_0 := bE_20.out.cell 0 rfl
  have z20_bE_1 := bE_20.out.cell 1 rfl
  have z20_bE_2 := bE_20.out.cell 2 rfl
  have z20_bE_3 := bE_20.out.cell 3 rfl
  have z20_bE_4 := bE_20.out.cell 4 rfl
  have z20_bwa_0 := bwa_20.out.cell 0 rfl
  have z20_bwa_1 := bwa_20.out.cell 1 rfl
  have z20_bwa_2 := bwa_20.out.cell 2 rfl
  have z20_bwa_3 := bwa_20.out.cell 3 rfl
  have z20_bwa_4 := bwa_20.out.cell 4 rfl
  have z20_bga_0 := bga_20.out.cell 0 rfl
  have z20_bga_1 := bga_20.out.cell 1 rfl
  have z20_bga_2 := bga_20.out.cell 2 rfl
  have z20_bga_3 := bga_20.out.cell 3 rfl
  have z20_bga_4 := bga_20.out.cell 4 rfl
  have z20_bha_0 := bha_20.out.cell 0 rfl
  have z20_bha_1 := bha_20.out.cell 1 rfl
  have z20_bha_2 := bha_20.out.cell 2 rfl
  have z20_bha_3 := bha_20.out.cell 3 rfl
  have z20_bha_4 := bha_20.out.cell 4 rfl
  clear hbw13
  go_wp2_with fail
  go_ret
  exact ⟨rfl, hB20.out⟩
/-! The row -/
set_option maxRecDepth 100000 in
theorem lifted (os : Os) (started : os.Started) (H : Type) (enc : TypeId × Value → H) :
    ReturnsInHanded {} Try.checked os 6 .any (Rows.fnExactUndoneSpec.pre6 enc Try.prog Try.f6 Rows.fnExactUndoneRow.domain false) (Rows.fnExactUndoneSpec.post enc Try.prog Try.f6 false true false false) := by
  refine returnsInHanded_of_change (C := Try.checked) own started (by kernel_rfl) Try.func6
    (ChangeSpec.witness6 (enc := enc) (C := Try.checked) false ⟨#[], #[.agg #[.string ByteArray.empty, .slice none 0 0], .agg #[.int .i64 0, .slice none 0 0, .string ByteArray.empty, .string ByteArray.empty, .slice none 0 0]], []⟩ 8 (by kernel_rfl) (by kernel_rfl) (by kernel_rfl) (by kernel_rfl)) ?_
  intro W base args ds gs before hval0 hW hcnd _
  have hval : ∀ (j : Nat) t v, Try.f6.params[j]? = some t → args[j]? = some v → Value.okWide Try.prog W .any base t v := hval0
  have hW' := hW
  obtain ⟨p, q, hA0, hV, rfl, hfz, hnd⟩ := hW
  have hA : DataW.TrodAll enc Try.prog W 0 (fun _ => true) true Try.f6.params.toList args.toList ds p := hA0
  rw [Try.params6] at hA hval
  obtain ⟨v0, vs0, d0, ds0, p0, q0, hargs, rfl, rfl, h0, r0⟩ := trodAll_cons hA
  obtain ⟨v1, vs1, d1, ds1, p1, q1, rfl, rfl, rfl, h1, r1⟩ := trodAll_cons r0
  obtain ⟨rfl, rfl, rfl⟩ := trodAll_nil r1
  obtain rfl : args = #[v0, v1] := by cases args; simp_all
  obtain ⟨rfl, rfl⟩ := trodVars_none hV
  have k0 := h0
  have lt0 : ∀ x ∈ p0, x.block < W.heap.size := by obtain ⟨m, hm⟩ := k0; exact DataW.trod_lt m _ _ _ hm
  obtain ⟨cs0, rfl, _⟩ := okWide_struct Try.underlying24 (hval 0 24 v0 rfl rfl)
  obtain ⟨fuel0, hf0⟩ := h0
  obtain ⟨x0, hx0⟩ := TreeL_of_trod fuel0 _ _ hf0
  have hcs0 : (Value.agg cs0).cells = cs0 := rfl
  rw [hcs0] at hx0
  have k1 := h1
  have lt1 : ∀ x ∈ p1, x.block < W.heap.size := by obtain ⟨m, hm⟩ := k1; exact DataW.trod_lt m _ _ _ hm
  obtain ⟨cs1, rfl, _⟩ := okWide_struct Try.underlying27 (hval 1 27 v1 rfl rfl)
  obtain ⟨fuel1, hf1⟩ := h1
  obtain ⟨m1, x1, hx1⟩ := EditL_of_trod fuel1 _ _ hf1
  have hcs1 : (Value.agg cs1).cells = cs1 := rfl
  rw [hcs1] at hx1
  clear hA0 hval0
  have hwk := walk hx0 hx1
  rw [Array.toArray_toList] at hwk
  refine hwk.mono fun e W' ⟨he, bel⟩ => ?_
  subst he
  exact ⟨_, rfl, _, _, _, [], _, [], hW', trodAll_mk1 (shut_bool Try.underlying4 _), (trodAll_cons_mk (Below.trod laidOut (by kernel_rfl) (of_decide_eq_true (by kernel_rfl)) k0 bel lt0) (trodAll_cons_mk (Below.trod laidOut (by kernel_rfl) (of_decide_eq_true (by kernel_rfl)) k1 bel lt1) trodAll_mk0)), rfl, bel.frame _, fun h => by cases h⟩
theorem over : Rows.fnExactUndoneRow.holds Try.pinned (OpenSpec.ofChange Rows.fnExactUndoneSpec) :=
  OpenClaim.holds_of_wide 6 Try.f6 rfl rfl rfl rfl rfl rfl rfl ⟨rfl, rfl, rfl, rfl, rfl⟩ rfl rfl rfl rfl rfl (by kernel_rfl) Try.func6 (by kernel_rfl)
    (of_decide_eq_true (by kernel_rfl)) (by unfold Func.isWrapper; first | (rw [if_pos (by decide +kernel)]; kernel_rfl) | (rw [if_neg (by decide +kernel)]; exact ⟨rfl, rfl⟩))
    (fun os started H enc _ => lifted os started H enc)
end Go.Proofs.Ytfncmndgdomjiaa.fnExactUndone
namespace Go.Proofs.Ytfncmndgdomjiaa
theorem fnExactUndone_holds : Rows.FnExactUndoneSaid := fnExactUndone.over
end Go.Proofs.Ytfncmndgdomjiaa
