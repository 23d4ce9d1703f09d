/- At every arena and handle Released answers as its specification, writes into no argument, and its answer owns its memory, behind another call too. No condition. -/
import Derived.Test.YtcpbcpckmclciaaArSz
import Derived.Test.YtcpbcpckmclciaaArTo
import Derived.Test.YtcpbcpckmclciaaArRelI
import Derived.Test.YtcpbcpckmclciaaArHnd
import Derived.Test.YtcpbcpckmclciaaArEq
import Derived.Test.YtcpbcpckmclciaaToOwn
import Derived.Test.YtcpbcpckmclciaaMarkTops
import Derived.Test.YtcpbcpckmclciaaArCnt
import Derived.Test.YtcpbcpckmclciaaArCut
import Derived.ProofKit
import Derived.OpenShut
import Derived.ShutString
import Derived.ChangeOld
import Derived.Below
import Derived.Laws.Cover1
import Derived.WalkKit
namespace Go.Proofs.Ytcpbcpckmclciaa.fnExactReleased
open Go.ChangeShapes Go.WideShapes Go.ChangeAt Go.RowKit

theorem own : ownKnob Try.prog.godebug = none := by kernel_rfl
theorem laidOut : laidOutB Try.prog = true := by kernel_rfl
set_option maxRecDepth 100000 in
set_option maxHeartbeats 6400000 in
theorem walk {w : World} {cs : List Value} {x : ArenaD} {ch : List Value} {y : HandleD} (hx : ArenaAt w 0 cs x) (hy : HandleAt w 0 ch y) :
    Calls Try.prog 6 #[.agg cs.toArray, .agg ch.toArray] w fun e w' => e = .returned (.bool true) ∧ Below w.heap.size w w' := by
  have hx0 : Hid (ArenaAt w 0 cs x) := hx
  have hy0 : Hid (HandleAt w 0 ch y) := hy
  obtain ⟨k0, k1, rfl, s0, s1, _⟩ := hx
  obtain ⟨a0, c0, rfl⟩ := s0.form
  obtain ⟨a1, c1, rfl⟩ := s1.form
  obtain ⟨rfl, _⟩ := hy
  clear s0 s1
  have hB0 : Hid (Below w.heap.size w ((w.alloc (.cells (List.toArray [.slice a0 x.vSlots.length c0, .slice a1 x.vFree.length c1]) 25)).alloc (.cells (List.toArray [.int .i64 y.vAt, .int .i64 y.vGen]) 44))) := ((Below.refl _ _).alloc (Nat.le_refl _) _).alloc (by simp) _
  have bA_0 : Hid (Box ((w.alloc (.cells (List.toArray [.slice a0 x.vSlots.length c0, .slice a1 x.vFree.length c1]) 25)).alloc (.cells (List.toArray [.int .i64 y.vAt, .int .i64 y.vGen]) 44)) w.heap.size [.slice a0 x.vSlots.length c0, .slice a1 x.vFree.length c1] 25) := (Box.new w _ _).alloc _
  have z0_bA_0 := bA_0.out.cell 0 rfl
  have z0_bA_1 := bA_0.out.cell 1 rfl
  have bH_0 : Hid (Box ((w.alloc (.cells (List.toArray [.slice a0 x.vSlots.length c0, .slice a1 x.vFree.length c1]) 25)).alloc (.cells (List.toArray [.int .i64 y.vAt, .int .i64 y.vGen]) 44)) (w.heap.size + 1) [.int .i64 y.vAt, .int .i64 y.vGen] 44) := (by have hh := Box.new (w.alloc (.cells (List.toArray [.slice a0 x.vSlots.length c0, .slice a1 x.vFree.length c1]) 25)) [.int .i64 y.vAt, .int .i64 y.vGen] 44; simpa [Hid] using hh)
  have z0_bH_0 := bH_0.out.cell 0 rfl
  have z0_bH_1 := bH_0.out.cell 1 rfl
  have szA : w.heap.size + 1 + 1 ≤ ((w.alloc (.cells (List.toArray [.slice a0 x.vSlots.length c0, .slice a1 x.vFree.length c1]) 25)).alloc (.cells (List.toArray [.int .i64 y.vAt, .int .i64 y.vGen]) 44)).heap.size := by simp
  simp only [World.size_alloc] at szA
  have hXC0 : x.small → (1 : Int) + (cntL cntSlot x.vSlots : Nat) + (cntL cntI x.vFree : Nat) ≤ 4611686018427387904 := fun h => by have h1 := h.1.1; have h2 := h.2.1; rw [cntL_slot, cntL_int]; omega
  have hXC1 : Hid _ := hXC0
  clear hXC0
  go_enter Try.func6, Try.ntmps6
  go_wp2_with fail
  refine (szArena_any (ArenaAt_stays _ _ _ 0 _ _ (.of_below hB0.out) hx0.out) (by omega) (by omega)).mono ?_
  rintro e w1 ⟨⟨r, rfl, hr1, hr2, hsm⟩, hb1⟩
  have hsm' : Hid (r < 0 ∨ x.small) := hsm
  clear hsm
  have bA_1 : Hid (Box w1 w.heap.size [.slice a0 x.vSlots.length c0, .slice a1 x.vFree.length c1] 25) := bA_0.out.below hb1 bA_0.out.lt
  have bH_1 : Hid (Box w1 (w.heap.size + 1) [.int .i64 y.vAt, .int .i64 y.vGen] 44) := bH_0.out.below hb1 bH_0.out.lt
  clear bA_0 bH_0
  have hB1 : Hid (Below w.heap.size w w1) := hB0.out.trans ((hb1).mono hB0.out.size)
  have sz1 := (hb1).size
  simp only [World.size_alloc] at sz1
  clear z0_bA_0 z0_bA_1 z0_bH_0 z0_bH_1
  have z1_bA_0 := bA_1.out.cell 0 rfl
  have z1_bA_1 := bA_1.out.cell 1 rfl
  have z1_bH_0 := bH_1.out.cell 0 rfl
  have z1_bH_1 := bH_1.out.cell 1 rfl
  clear hb1
  by_cases hneg : r < 0
  · go_wp2_with fail
    go_ret
    exact ⟨rfl, hB1.out⟩
  have hsm : Hid (x.small) := hsm'.out.resolve_left hneg
  have hXC : Hid ((1 : Int) + (cntL cntSlot x.vSlots : Nat) + (cntL cntI x.vFree : Nat) ≤ 4611686018427387904) := hXC1.out hsm.out
  clear hsm'
  generalize hYS : releasedD x y.vAt y.vGen = rr
  have hYS' : Hid (releasedD x y.vAt y.vGen = rr) := hYS
  clear hYS
  obtain ⟨td, bb⟩ := rr
  have hYC : Hid ((1 : Int) + (cntL cntSlot td.vSlots : Nat) + (cntL cntI td.vFree : Nat) ≤ 4611686018427387904) := by show _ ≤ _; have := releasedD_few x y.vAt y.vGen; rw [hYS'.out] at this; dsimp only at this; rw [cntL_slot, cntL_int]; omega
  go_upto_region 5 with fail
  go_cut [6, 7] (fun sP sB wx => ∃ (gz : Nat) (_fz : List Nat) (pW : Option Addr) (dW : Nat) (qW : Option Addr) (eW : Nat), sP = .pointer (some ⟨gz, 0, none⟩) ∧ sB = .bool bb ∧ Hid (Below w1.heap.size w1 wx) ∧ Hid (Box wx gz [.slice pW td.vSlots.length dW, .slice qW td.vFree.length eW] 30) ∧ w1.heap.size ≤ gz ∧ Hid (∃ fz, ArenaOwn wx [.slice pW td.vSlots.length dW, .slice qW td.vFree.length eW] td fz ∧ fz.Nodup ∧ ∀ b ∈ fz, w1.heap.size ≤ b ∧ b ≠ gz))
  case first =>
    have lA_ := bH_1.out.lt
    have kp0 : Hid (Below w1.heap.size w1 w1.drew) := (Below.refl _ _).drew
    refine wp_region_held_drew (S := fun w' => w'.cell? ⟨w.heap.size, 0, none⟩ = some (.slice a0 x.vSlots.length c0) ∧ w'.cell? ⟨w.heap.size, 1, none⟩ = some (.slice a1 x.vFree.length c1) ∧ w'.cell? ⟨w.heap.size + 1, 0, none⟩ = some (.int .i64 y.vAt) ∧ w'.cell? ⟨w.heap.size + 1, 1, none⟩ = some (.int .i64 y.vGen)) (by kernel_rfl) ⟨bA_1.out.cell 0 rfl, bA_1.out.cell 1 rfl, bH_1.out.cell 0 rfl, bH_1.out.cell 1 rfl⟩ (fun hHeld => ?_)
    refine take_lit (i := 0) (d := 22) (v := ?_) rfl rfl (by kernel_rfl) (by kernel_rfl) (by kernel_rfl) (fun _ _ _ h => h) (Or.inl ⟨by rfl, ?_⟩) (by assumption) ?_
    rotate_left
    · (intro w hSw; (try dsimp only at hSw); first | (go_simp; done) | (go_simp; with_reducible rfl))
    simp only [List.set_cons_zero, List.set_cons_succ]
    refine take_lit (i := 2) (d := 24) (v := ?_) rfl rfl (by kernel_rfl) (by kernel_rfl) (by kernel_rfl) (fun _ _ _ h => h) (Or.inl ⟨by rfl, ?_⟩) (by assumption) ?_
    rotate_left
    · (intro w hSw; (try dsimp only at hSw); first | (go_simp; done) | (go_simp; with_reducible rfl))
    simp only [List.set_cons_zero, List.set_cons_succ]
    refine wpAnyH_ready (rs := [1, 8]) (by kernel_rfl) (by simp) ?_
    refine (AllReadyH.cons rfl (fun K hK => ?_) (AllReadyH.cons rfl (fun K hK => ?_) AllReadyH.nil))
    · go_simp
      refine (toArena_any (by exact ArenaAt_stays _ _ _ 0 _ _ (.of_below (Below.trans hB1.out (Below.mono kp0.out hB1.out.size))) hx0.out) hsm.out).mono ?_
      rintro e vwa1 ⟨⟨csA, rfl, htA⟩, hbc1⟩
      have kp1 : Hid (Below w1.heap.size w1 vwa1) := kp0.out.trans (Below.mono (hbc1) kp0.out.size)
      have at1 : Hid (ArenaAt vwa1 0 csA x) := htA.low
      refine hK.out _ _ ⟨cell_on hbc1 hHeld.1, cell_on hbc1 hHeld.2.1, cell_on hbc1 hHeld.2.2.1, cell_on hbc1 hHeld.2.2.2⟩ (fun hHeld => ?_)
      clear hK K
      refine wpAnyH_ready (rs := [3, 8]) (by kernel_rfl) (by simp) ?_
      refine (AllReadyH.cons rfl (fun K hK => ?_) (AllReadyH.cons rfl (fun K hK => ?_) AllReadyH.nil))
      · go_simp
        refine (toHandle_any (by exact HandleAt_stays _ _ _ 0 _ _ (.of_below (Below.trans hB1.out (Below.mono kp1.out hB1.out.size))) hy0.out)).mono ?_
        rintro e vwa2 ⟨⟨csH, rfl, htH⟩, hbc2⟩
        obtain ⟨rfl, _⟩ := htH
        have kp2 : Hid (Below w1.heap.size w1 vwa2) := kp1.out.trans (Below.mono (hbc2) kp1.out.size)
        have at2 : Hid (ArenaAt vwa2 0 csA x) := ArenaAt_stays _ _ _ 0 _ _ (.of_below (hbc2)) at1.out
        refine hK.out _ _ ⟨cell_on hbc2 hHeld.1, cell_on hbc2 hHeld.2.1, cell_on hbc2 hHeld.2.2.1, cell_on hbc2 hHeld.2.2.2⟩ (fun hHeld => ?_)
        clear hK K
        refine wpAnyH_ready (rs := [4, 8]) (by kernel_rfl) (by simp) ?_
        refine (AllReadyH.cons rfl (fun K hK => ?_) (AllReadyH.cons rfl (fun K hK => ?_) AllReadyH.nil))
        · go_simp
          refine (specReleased_any (by exact at2.out)).mono ?_
          rintro e vwa3 ⟨⟨csW, rfl, hansW⟩, hbc3⟩
          rw [hYS'.out] at hansW ⊢
          dsimp only at hansW ⊢
          obtain ⟨fW, hoW0, hndW0, hlW0⟩ := hansW
          have hlW : Hid (∀ b ∈ fW, w1.heap.size ≤ b) := fun b m => Nat.le_trans kp2.out.size (hlW0 b m)
          have hndW : Hid (fW.Nodup) := hndW0
          have anW0 : Hid (ArenaOwn vwa3 csW td fW) := hoW0
          obtain ⟨_, _, _, _, rfl, ss, st, _⟩ := hoW0
          obtain ⟨pW, dW, rfl⟩ := ss.form
          obtain ⟨qW, eW, rfl⟩ := st.form
          have anW : Hid (ArenaOwn vwa3 [.slice pW td.vSlots.length dW, .slice qW td.vFree.length eW] td fW) := anW0.out
          clear ss st anW0 hlW0 hndW0
          have kp3 : Hid (Below w1.heap.size w1 vwa3) := kp2.out.trans (Below.mono (hbc3) kp2.out.size)
          have at3 : Hid (ArenaAt vwa3 0 csA x) := ArenaAt_stays _ _ _ 0 _ _ (.of_below (hbc3)) at2.out
          refine hK.out _ _ ⟨cell_on hbc3 hHeld.1, cell_on hbc3 hHeld.2.1, cell_on hbc3 hHeld.2.2.1, cell_on hbc3 hHeld.2.2.2⟩ (fun hHeld => ?_)
          clear hK K
          refine take_lit (i := 5) (d := 21) (v := ?_) rfl rfl (by kernel_rfl) (by kernel_rfl) (by kernel_rfl) (fun _ _ _ h => h) (Or.inl ⟨by rfl, ?_⟩) (by assumption) ?_
          rotate_left
          · (intro w hSw; (try dsimp only at hSw); first | (go_simp; done) | (go_simp; with_reducible rfl))
          simp only [List.set_cons_zero, List.set_cons_succ]
          refine take_lit (i := 6) (d := 27) (v := ?_) rfl rfl (by kernel_rfl) (by kernel_rfl) (by kernel_rfl) (fun _ _ _ h => h) (Or.inl ⟨by rfl, ?_⟩) (by assumption) ?_
          rotate_left
          · (intro w hSw; (try dsimp only at hSw); first | (go_simp; done) | (go_simp; with_reducible rfl))
          simp only [List.set_cons_zero, List.set_cons_succ]
          refine take_lit (i := 7) (d := 28) (v := ?_) rfl rfl (by kernel_rfl) (by kernel_rfl) (by kernel_rfl) (fun _ _ _ h => h) (Or.inl ⟨by rfl, ?_⟩) (by assumption) ?_
          rotate_left
          · (intro w hSw; (try dsimp only at hSw); first | (go_simp; done) | (go_simp; with_reducible rfl))
          simp only [List.set_cons_zero, List.set_cons_succ]
          refine wpAnyH_ready (rs := [8]) (by kernel_rfl) (by simp) ?_
          refine AllReadyH.cons rfl (fun K hK => ?_) AllReadyH.nil
          go_simp
          have kp4 : Hid (Below w1.heap.size w1 (World.alloc vwa3 (.cells (List.toArray [.slice none 0 0, .slice none 0 0]) 30))) := kp3.out.trans (Below.mono ((Below.refl (World.heap vwa3).size vwa3).alloc (Nat.le_refl _) _) kp3.out.size)
          have at4 : Hid (ArenaAt (World.alloc vwa3 (.cells (List.toArray [.slice none 0 0, .slice none 0 0]) 30)) 0 csA x) := ArenaAt_stays _ _ _ 0 _ _ (.of_below ((Below.refl (World.heap vwa3).size vwa3).alloc (Nat.le_refl _) _)) at3.out
          have an4 : Hid (ArenaOwn (World.alloc vwa3 (.cells (List.toArray [.slice none 0 0, .slice none 0 0]) 30)) [.slice pW td.vSlots.length dW, .slice qW td.vFree.length eW] td fW) := ArenaOwn_stays _ _ _ _ _ (fun b m => Below.block ((Below.refl (World.heap vwa3).size vwa3).alloc (Nat.le_refl _) _) b (ArenaOwn_lt _ _ _ _ anW.out b m)) anW.out
          have bz4 : Hid (Box (World.alloc vwa3 (.cells (List.toArray [.slice none 0 0, .slice none 0 0]) 30)) (World.heap vwa3).size [.slice none 0 0, .slice none 0 0] 30) := Box.new vwa3 _ _
          have gz4 : w1.heap.size ≤ (World.heap vwa3).size := kp3.out.size
          have nzW : Hid (∀ b ∈ fW, b ≠ (World.heap vwa3).size) := fun b m e => Nat.lt_irrefl _ (e ▸ ArenaOwn_lt _ _ _ _ anW.out b m)
          refine hK.out _ _ ⟨cell_alloc hHeld.1 _, cell_alloc hHeld.2.1 _, cell_alloc hHeld.2.2.1 _, cell_alloc hHeld.2.2.2 _⟩ (fun hHeld => ?_)
          clear hK K
          refine wpAnyH_ready (rs := [9]) (by kernel_rfl) (by simp) ?_
          refine AllReadyH.cons rfl (fun K hK => ?_) AllReadyH.nil
          have hgz : w1.heap.size ≤ (World.heap vwa3).size := gz4
          have lp_ : w1.heap.size ≤ (World.heap vwa3).size := kp3.out.size
          go_simp
          refine hK.out _ _ ⟨cell_realloc hHeld.1 (by omega), cell_realloc hHeld.2.1 (by omega), cell_realloc hHeld.2.2.1 (by omega), cell_realloc hHeld.2.2.2 (by omega)⟩ (fun hHeld => ?_)
          clear hK K
          refine take_lit (i := 10) (d := 7) (v := ?_) rfl rfl (by kernel_rfl) (by kernel_rfl) (by kernel_rfl) (fun _ _ _ h => h) (Or.inl ⟨by rfl, ?_⟩) (by assumption) ?_
          rotate_left
          · (intro w hSw; (try dsimp only at hSw); first | (go_simp; done) | (go_simp; with_reducible rfl))
          simp only [List.set_cons_zero, List.set_cons_succ]
          refine wpAnyH_done (by kernel_rfl) ?_ _
          have bF : Hid (Box (World.alloc vwa3 (.cells (List.toArray [.slice pW td.vSlots.length dW, .slice qW td.vFree.length eW]) 30)) ((World.heap vwa3).size) [.slice pW td.vSlots.length dW, .slice qW td.vFree.length eW] 30) := Box.new vwa3 _ _
          have kF : Hid (Below w1.heap.size w1 (World.alloc vwa3 (.cells (List.toArray [.slice pW td.vSlots.length dW, .slice qW td.vFree.length eW]) 30))) := kp3.out.alloc lp_ _
          have aF : Hid (∃ fz, ArenaOwn (World.alloc vwa3 (.cells (List.toArray [.slice pW td.vSlots.length dW, .slice qW td.vFree.length eW]) 30)) [.slice pW td.vSlots.length dW, .slice qW td.vFree.length eW] td fz ∧ fz.Nodup ∧ ∀ b ∈ fz, w1.heap.size ≤ b ∧ b ≠ (World.heap vwa3).size) := ⟨fW, ArenaOwn_stays _ _ _ _ _ (fun b m => Below.heap_alloc _ _ _ (ArenaOwn_lt _ _ _ _ anW.out b m)) anW.out, hndW.out, fun b m => ⟨hlW.out b m, nzW.out b m⟩⟩
          go_wp2_with fail
          go_meet
          exact ⟨_, [], pW, dW, qW, eW, rfl, rfl, kF, bF, hgz, aF⟩
        · go_simp
          have kp3 : Hid (Below w1.heap.size w1 (World.alloc vwa2 (.cells (List.toArray [.slice none 0 0, .slice none 0 0]) 30))) := kp2.out.trans (Below.mono ((Below.refl (World.heap vwa2).size vwa2).alloc (Nat.le_refl _) _) kp2.out.size)
          have at3 : Hid (ArenaAt (World.alloc vwa2 (.cells (List.toArray [.slice none 0 0, .slice none 0 0]) 30)) 0 csA x) := ArenaAt_stays _ _ _ 0 _ _ (.of_below ((Below.refl (World.heap vwa2).size vwa2).alloc (Nat.le_refl _) _)) at2.out
          have bz3 : Hid (Box (World.alloc vwa2 (.cells (List.toArray [.slice none 0 0, .slice none 0 0]) 30)) (World.heap vwa2).size [.slice none 0 0, .slice none 0 0] 30) := Box.new vwa2 _ _
          have gz3 : w1.heap.size ≤ (World.heap vwa2).size := kp2.out.size
          refine hK.out _ _ ⟨cell_alloc hHeld.1 _, cell_alloc hHeld.2.1 _, cell_alloc hHeld.2.2.1 _, cell_alloc hHeld.2.2.2 _⟩ (fun hHeld => ?_)
          clear hK K
          refine wpAnyH_ready (rs := [4]) (by kernel_rfl) (by simp) ?_
          refine AllReadyH.cons rfl (fun K hK => ?_) AllReadyH.nil
          go_simp
          refine (specReleased_any (by exact at3.out)).mono ?_
          rintro e vwa4 ⟨⟨csW, rfl, hansW⟩, hbc4⟩
          rw [hYS'.out] at hansW ⊢
          dsimp only at hansW ⊢
          obtain ⟨fW, hoW0, hndW0, hlW0⟩ := hansW
          have hlW : Hid (∀ b ∈ fW, w1.heap.size ≤ b) := fun b m => Nat.le_trans kp3.out.size (hlW0 b m)
          have hndW : Hid (fW.Nodup) := hndW0
          have nzW : Hid (∀ b ∈ fW, b ≠ (World.heap vwa2).size) := fun b m e => Nat.lt_irrefl _ (Nat.lt_of_lt_of_le (Box.lt bz3.out) (e ▸ hlW0 b m))
          have anW0 : Hid (ArenaOwn vwa4 csW td fW) := hoW0
          obtain ⟨_, _, _, _, rfl, ss, st, _⟩ := hoW0
          obtain ⟨pW, dW, rfl⟩ := ss.form
          obtain ⟨qW, eW, rfl⟩ := st.form
          have anW : Hid (ArenaOwn vwa4 [.slice pW td.vSlots.length dW, .slice qW td.vFree.length eW] td fW) := anW0.out
          clear ss st anW0 hlW0 hndW0
          have kp4 : Hid (Below w1.heap.size w1 vwa4) := kp3.out.trans (Below.mono (hbc4) kp3.out.size)
          have bz4 : Hid (Box vwa4 (World.heap vwa2).size [.slice none 0 0, .slice none 0 0] 30) := Box.below bz3.out (hbc4) bz3.out.lt
          have at4 : Hid (ArenaAt vwa4 0 csA x) := ArenaAt_stays _ _ _ 0 _ _ (.of_below (hbc4)) at3.out
          refine hK.out _ _ ⟨cell_on hbc4 hHeld.1, cell_on hbc4 hHeld.2.1, cell_on hbc4 hHeld.2.2.1, cell_on hbc4 hHeld.2.2.2⟩ (fun hHeld => ?_)
          clear hK K
          refine take_lit (i := 5) (d := 21) (v := ?_) rfl rfl (by kernel_rfl) (by kernel_rfl) (by kernel_rfl) (fun _ _ _ h => h) (Or.inl ⟨by rfl, ?_⟩) (by assumption) ?_
          rotate_left
          · (intro w hSw; (try dsimp only at hSw); first | (go_simp; done) | (go_simp; with_reducible rfl))
          simp only [List.set_cons_zero, List.set_cons_succ]
          refine take_lit (i := 6) (d := 27) (v := ?_) rfl rfl (by kernel_rfl) (by kernel_rfl) (by kernel_rfl) (fun _ _ _ h => h) (Or.inl ⟨by rfl, ?_⟩) (by assumption) ?_
          rotate_left
          · (intro w hSw; (try dsimp only at hSw); first | (go_simp; done) | (go_simp; with_reducible rfl))
          simp only [List.set_cons_zero, List.set_cons_succ]
          refine take_lit (i := 7) (d := 28) (v := ?_) rfl rfl (by kernel_rfl) (by kernel_rfl) (by kernel_rfl) (fun _ _ _ h => h) (Or.inl ⟨by rfl, ?_⟩) (by assumption) ?_
          rotate_left
          · (intro w hSw; (try dsimp only at hSw); first | (go_simp; done) | (go_simp; with_reducible rfl))
          simp only [List.set_cons_zero, List.set_cons_succ]
          refine wpAnyH_ready (rs := [9]) (by kernel_rfl) (by simp) ?_
          refine AllReadyH.cons rfl (fun K hK => ?_) AllReadyH.nil
          have hgz : w1.heap.size ≤ (World.heap vwa2).size := gz3
          have u0_ := bz4.out.cell 0 rfl
          have u1_ := bz4.out.cell 1 rfl
          have u2_ := bz4.out.unfrozen
          go_simp
          refine hK.out _ _ ⟨cell_set (T := (World.heap vwa2).size) (cell_set (T := (World.heap vwa2).size) hHeld.1 (by omega) _) (by omega) _, cell_set (T := (World.heap vwa2).size) (cell_set (T := (World.heap vwa2).size) hHeld.2.1 (by omega) _) (by omega) _, cell_set (T := (World.heap vwa2).size) (cell_set (T := (World.heap vwa2).size) hHeld.2.2.1 (by omega) _) (by omega) _, cell_set (T := (World.heap vwa2).size) (cell_set (T := (World.heap vwa2).size) hHeld.2.2.2 (by omega) _) (by omega) _⟩ (fun hHeld => ?_)
          clear hK K
          refine take_lit (i := 10) (d := 7) (v := ?_) rfl rfl (by kernel_rfl) (by kernel_rfl) (by kernel_rfl) (fun _ _ _ h => h) (Or.inl ⟨by rfl, ?_⟩) (by assumption) ?_
          rotate_left
          · (intro w hSw; (try dsimp only at hSw); first | (go_simp; done) | (go_simp; with_reducible rfl))
          simp only [List.set_cons_zero, List.set_cons_succ]
          refine wpAnyH_done (by kernel_rfl) ?_ _
          have bF : Hid (Box (putCells vwa4 ((World.heap vwa2).size) 0 [.slice pW td.vSlots.length dW, .slice qW td.vFree.length eW]) ((World.heap vwa2).size) [.slice pW td.vSlots.length dW, .slice qW td.vFree.length eW] 30) := (bz4.out.set _).set _
          have kF : Hid (Below w1.heap.size w1 (putCells vwa4 ((World.heap vwa2).size) 0 [.slice pW td.vSlots.length dW, .slice qW td.vFree.length eW])) := putCells_below _ _ _ _ _ _ hgz kp4.out
          have aF : Hid (∃ fz, ArenaOwn (putCells vwa4 ((World.heap vwa2).size) 0 [.slice pW td.vSlots.length dW, .slice qW td.vFree.length eW]) [.slice pW td.vSlots.length dW, .slice qW td.vFree.length eW] td fz ∧ fz.Nodup ∧ ∀ b ∈ fz, w1.heap.size ≤ b ∧ b ≠ (World.heap vwa2).size) := ⟨fW, ArenaOwn_stays _ _ _ _ _ (fun b m => putCells_other _ _ _ _ _ (nzW.out b m)) anW.out, hndW.out, fun b m => ⟨hlW.out b m, nzW.out b m⟩⟩
          go_wp2_with fail
          go_meet
          exact ⟨_, [], pW, dW, qW, eW, rfl, rfl, kF, bF, hgz, aF⟩
      · go_simp
        have kp2 : Hid (Below w1.heap.size w1 (World.alloc vwa1 (.cells (List.toArray [.slice none 0 0, .slice none 0 0]) 30))) := kp1.out.trans (Below.mono ((Below.refl (World.heap vwa1).size vwa1).alloc (Nat.le_refl _) _) kp1.out.size)
        have at2 : Hid (ArenaAt (World.alloc vwa1 (.cells (List.toArray [.slice none 0 0, .slice none 0 0]) 30)) 0 csA x) := ArenaAt_stays _ _ _ 0 _ _ (.of_below ((Below.refl (World.heap vwa1).size vwa1).alloc (Nat.le_refl _) _)) at1.out
        have bz2 : Hid (Box (World.alloc vwa1 (.cells (List.toArray [.slice none 0 0, .slice none 0 0]) 30)) (World.heap vwa1).size [.slice none 0 0, .slice none 0 0] 30) := Box.new vwa1 _ _
        have gz2 : w1.heap.size ≤ (World.heap vwa1).size := kp1.out.size
        refine hK.out _ _ ⟨cell_alloc hHeld.1 _, cell_alloc hHeld.2.1 _, cell_alloc hHeld.2.2.1 _, cell_alloc hHeld.2.2.2 _⟩ (fun hHeld => ?_)
        clear hK K
        refine wpAnyH_ready (rs := [3]) (by kernel_rfl) (by simp) ?_
        refine AllReadyH.cons rfl (fun K hK => ?_) AllReadyH.nil
        go_simp
        refine (toHandle_any (by exact HandleAt_stays _ _ _ 0 _ _ (.of_below (Below.trans hB1.out (Below.mono kp2.out hB1.out.size))) hy0.out)).mono ?_
        rintro e vwa3 ⟨⟨csH, rfl, htH⟩, hbc3⟩
        obtain ⟨rfl, _⟩ := htH
        have kp3 : Hid (Below w1.heap.size w1 vwa3) := kp2.out.trans (Below.mono (hbc3) kp2.out.size)
        have bz3 : Hid (Box vwa3 (World.heap vwa1).size [.slice none 0 0, .slice none 0 0] 30) := Box.below bz2.out (hbc3) bz2.out.lt
        have at3 : Hid (ArenaAt vwa3 0 csA x) := ArenaAt_stays _ _ _ 0 _ _ (.of_below (hbc3)) at2.out
        refine hK.out _ _ ⟨cell_on hbc3 hHeld.1, cell_on hbc3 hHeld.2.1, cell_on hbc3 hHeld.2.2.1, cell_on hbc3 hHeld.2.2.2⟩ (fun hHeld => ?_)
        clear hK K
        refine wpAnyH_ready (rs := [4]) (by kernel_rfl) (by simp) ?_
        refine AllReadyH.cons rfl (fun K hK => ?_) AllReadyH.nil
        go_simp
        refine (specReleased_any (by exact at3.out)).mono ?_
        rintro e vwa4 ⟨⟨csW, rfl, hansW⟩, hbc4⟩
        rw [hYS'.out] at hansW ⊢
        dsimp only at hansW ⊢
        obtain ⟨fW, hoW0, hndW0, hlW0⟩ := hansW
        have hlW : Hid (∀ b ∈ fW, w1.heap.size ≤ b) := fun b m => Nat.le_trans kp3.out.size (hlW0 b m)
        have hndW : Hid (fW.Nodup) := hndW0
        have nzW : Hid (∀ b ∈ fW, b ≠ (World.heap vwa1).size) := fun b m e => Nat.lt_irrefl _ (Nat.lt_of_lt_of_le (Box.lt bz3.out) (e ▸ hlW0 b m))
        have anW0 : Hid (ArenaOwn vwa4 csW td fW) := hoW0
        obtain ⟨_, _, _, _, rfl, ss, st, _⟩ := hoW0
        obtain ⟨pW, dW, rfl⟩ := ss.form
        obtain ⟨qW, eW, rfl⟩ := st.form
        have anW : Hid (ArenaOwn vwa4 [.slice pW td.vSlots.length dW, .slice qW td.vFree.length eW] td fW) := anW0.out
        clear ss st anW0 hlW0 hndW0
        have kp4 : Hid (Below w1.heap.size w1 vwa4) := kp3.out.trans (Below.mono (hbc4) kp3.out.size)
        have bz4 : Hid (Box vwa4 (World.heap vwa1).size [.slice none 0 0, .slice none 0 0] 30) := Box.below bz3.out (hbc4) bz3.out.lt
        have at4 : Hid (ArenaAt vwa4 0 csA x) := ArenaAt_stays _ _ _ 0 _ _ (.of_below (hbc4)) at3.out
        refine hK.out _ _ ⟨cell_on hbc4 hHeld.1, cell_on hbc4 hHeld.2.1, cell_on hbc4 hHeld.2.2.1, cell_on hbc4 hHeld.2.2.2⟩ (fun hHeld => ?_)
        clear hK K
        refine take_lit (i := 5) (d := 21) (v := ?_) rfl rfl (by kernel_rfl) (by kernel_rfl) (by kernel_rfl) (fun _ _ _ h => h) (Or.inl ⟨by rfl, ?_⟩) (by assumption) ?_
        rotate_left
        · (intro w hSw; (try dsimp only at hSw); first | (go_simp; done) | (go_simp; with_reducible rfl))
        simp only [List.set_cons_zero, List.set_cons_succ]
        refine take_lit (i := 6) (d := 27) (v := ?_) rfl rfl (by kernel_rfl) (by kernel_rfl) (by kernel_rfl) (fun _ _ _ h => h) (Or.inl ⟨by rfl, ?_⟩) (by assumption) ?_
        rotate_left
        · (intro w hSw; (try dsimp only at hSw); first | (go_simp; done) | (go_simp; with_reducible rfl))
        simp only [List.set_cons_zero, List.set_cons_succ]
        refine take_lit (i := 7) (d := 28) (v := ?_) rfl rfl (by kernel_rfl) (by kernel_rfl) (by kernel_rfl) (fun _ _ _ h => h) (Or.inl ⟨by rfl, ?_⟩) (by assumption) ?_
        rotate_left
        · (intro w hSw; (try dsimp only at hSw); first | (go_simp; done) | (go_simp; with_reducible rfl))
        simp only [List.set_cons_zero, List.set_cons_succ]
        refine wpAnyH_ready (rs := [9]) (by kernel_rfl) (by simp) ?_
        refine AllReadyH.cons rfl (fun K hK => ?_) AllReadyH.nil
        have hgz : w1.heap.size ≤ (World.heap vwa1).size := gz2
        have u0_ := bz4.out.cell 0 rfl
        have u1_ := bz4.out.cell 1 rfl
        have u2_ := bz4.out.unfrozen
        go_simp
        refine hK.out _ _ ⟨cell_set (T := (World.heap vwa1).size) (cell_set (T := (World.heap vwa1).size) hHeld.1 (by omega) _) (by omega) _, cell_set (T := (World.heap vwa1).size) (cell_set (T := (World.heap vwa1).size) hHeld.2.1 (by omega) _) (by omega) _, cell_set (T := (World.heap vwa1).size) (cell_set (T := (World.heap vwa1).size) hHeld.2.2.1 (by omega) _) (by omega) _, cell_set (T := (World.heap vwa1).size) (cell_set (T := (World.heap vwa1).size) hHeld.2.2.2 (by omega) _) (by omega) _⟩ (fun hHeld => ?_)
        clear hK K
        refine take_lit (i := 10) (d := 7) (v := ?_) rfl rfl (by kernel_rfl) (by kernel_rfl) (by kernel_rfl) (fun _ _ _ h => h) (Or.inl ⟨by rfl, ?_⟩) (by assumption) ?_
        rotate_left
        · (intro w hSw; (try dsimp only at hSw); first | (go_simp; done) | (go_simp; with_reducible rfl))
        simp only [List.set_cons_zero, List.set_cons_succ]
        refine wpAnyH_done (by kernel_rfl) ?_ _
        have bF : Hid (Box (putCells vwa4 ((World.heap vwa1).size) 0 [.slice pW td.vSlots.length dW, .slice qW td.vFree.length eW]) ((World.heap vwa1).size) [.slice pW td.vSlots.length dW, .slice qW td.vFree.length eW] 30) := (bz4.out.set _).set _
        have kF : Hid (Below w1.heap.size w1 (putCells vwa4 ((World.heap vwa1).size) 0 [.slice pW td.vSlots.length dW, .slice qW td.vFree.length eW])) := putCells_below _ _ _ _ _ _ hgz kp4.out
        have aF : Hid (∃ fz, ArenaOwn (putCells vwa4 ((World.heap vwa1).size) 0 [.slice pW td.vSlots.length dW, .slice qW td.vFree.length eW]) [.slice pW td.vSlots.length dW, .slice qW td.vFree.length eW] td fz ∧ fz.Nodup ∧ ∀ b ∈ fz, w1.heap.size ≤ b ∧ b ≠ (World.heap vwa1).size) := ⟨fW, ArenaOwn_stays _ _ _ _ _ (fun b m => putCells_other _ _ _ _ _ (nzW.out b m)) anW.out, hndW.out, fun b m => ⟨hlW.out b m, nzW.out b m⟩⟩
        go_wp2_with fail
        go_meet
        exact ⟨_, [], pW, dW, qW, eW, rfl, rfl, kF, bF, hgz, aF⟩
    · go_simp
      have kp1 : Hid (Below w1.heap.size w1 (World.alloc w1.drew (.cells (List.toArray [.slice none 0 0, .slice none 0 0]) 30))) := kp0.out.trans (Below.mono ((Below.refl (World.heap w1.drew).size w1.drew).alloc (Nat.le_refl _) _) kp0.out.size)
      have bz1 : Hid (Box (World.alloc w1.drew (.cells (List.toArray [.slice none 0 0, .slice none 0 0]) 30)) w1.heap.size [.slice none 0 0, .slice none 0 0] 30) := Box.new w1.drew _ _
      have gz1 : w1.heap.size ≤ w1.heap.size := kp0.out.size
      refine hK.out _ _ ⟨cell_alloc hHeld.1 _, cell_alloc hHeld.2.1 _, cell_alloc hHeld.2.2.1 _, cell_alloc hHeld.2.2.2 _⟩ (fun hHeld => ?_)
      clear hK K
      refine wpAnyH_ready (rs := [1]) (by kernel_rfl) (by simp) ?_
      refine AllReadyH.cons rfl (fun K hK => ?_) AllReadyH.nil
      go_simp
      refine (toArena_any (by exact ArenaAt_stays _ _ _ 0 _ _ (.of_below (Below.trans hB1.out (Below.mono kp1.out hB1.out.size))) hx0.out) hsm.out).mono ?_
      rintro e vwa2 ⟨⟨csA, rfl, htA⟩, hbc2⟩
      have kp2 : Hid (Below w1.heap.size w1 vwa2) := kp1.out.trans (Below.mono (hbc2) kp1.out.size)
      have bz2 : Hid (Box vwa2 w1.heap.size [.slice none 0 0, .slice none 0 0] 30) := Box.below bz1.out (hbc2) bz1.out.lt
      have at2 : Hid (ArenaAt vwa2 0 csA x) := htA.low
      refine hK.out _ _ ⟨cell_on hbc2 hHeld.1, cell_on hbc2 hHeld.2.1, cell_on hbc2 hHeld.2.2.1, cell_on hbc2 hHeld.2.2.2⟩ (fun hHeld => ?_)
      clear hK K
      refine wpAnyH_ready (rs := [3]) (by kernel_rfl) (by simp) ?_
      refine AllReadyH.cons rfl (fun K hK => ?_) AllReadyH.nil
      go_simp
      refine (toHandle_any (by exact HandleAt_stays _ _ _ 0 _ _ (.of_below (Below.trans hB1.out (Below.mono kp2.out hB1.out.size))) hy0.out)).mono ?_
      rintro e vwa3 ⟨⟨csH, rfl, htH⟩, hbc3⟩
      obtain ⟨rfl, _⟩ := htH
      have kp3 : Hid (Below w1.heap.size w1 vwa3) := kp2.out.trans (Below.mono (hbc3) kp2.out.size)
      have bz3 : Hid (Box vwa3 w1.heap.size [.slice none 0 0, .slice none 0 0] 30) := Box.below bz2.out (hbc3) bz2.out.lt
      have at3 : Hid (ArenaAt vwa3 0 csA x) := ArenaAt_stays _ _ _ 0 _ _ (.of_below (hbc3)) at2.out
      refine hK.out _ _ ⟨cell_on hbc3 hHeld.1, cell_on hbc3 hHeld.2.1, cell_on hbc3 hHeld.2.2.1, cell_on hbc3 hHeld.2.2.2⟩ (fun hHeld => ?_)
      clear hK K
      refine wpAnyH_ready (rs := [4]) (by kernel_rfl) (by simp) ?_
      refine AllReadyH.cons rfl (fun K hK => ?_) AllReadyH.nil
      go_simp
      refine (specReleased_any (by exact at3.out)).mono ?_
      rintro e vwa4 ⟨⟨csW, rfl, hansW⟩, hbc4⟩
      rw [hYS'.out] at hansW ⊢
      dsimp only at hansW ⊢
      obtain ⟨fW, hoW0, hndW0, hlW0⟩ := hansW
      have hlW : Hid (∀ b ∈ fW, w1.heap.size ≤ b) := fun b m => Nat.le_trans kp3.out.size (hlW0 b m)
      have hndW : Hid (fW.Nodup) := hndW0
      have nzW : Hid (∀ b ∈ fW, b ≠ w1.heap.size) := fun b m e => Nat.lt_irrefl _ (Nat.lt_of_lt_of_le (Box.lt bz3.out) (e ▸ hlW0 b m))
      have anW0 : Hid (ArenaOwn vwa4 csW td fW) := hoW0
      obtain ⟨_, _, _, _, rfl, ss, st, _⟩ := hoW0
      obtain ⟨pW, dW, rfl⟩ := ss.form
      obtain ⟨qW, eW, rfl⟩ := st.form
      have anW : Hid (ArenaOwn vwa4 [.slice pW td.vSlots.length dW, .slice qW td.vFree.length eW] td fW) := anW0.out
      clear ss st anW0 hlW0 hndW0
      have kp4 : Hid (Below w1.heap.size w1 vwa4) := kp3.out.trans (Below.mono (hbc4) kp3.out.size)
      have bz4 : Hid (Box vwa4 w1.heap.size [.slice none 0 0, .slice none 0 0] 30) := Box.below bz3.out (hbc4) bz3.out.lt
      have at4 : Hid (ArenaAt vwa4 0 csA x) := ArenaAt_stays _ _ _ 0 _ _ (.of_below (hbc4)) at3.out
      refine hK.out _ _ ⟨cell_on hbc4 hHeld.1, cell_on hbc4 hHeld.2.1, cell_on hbc4 hHeld.2.2.1, cell_on hbc4 hHeld.2.2.2⟩ (fun hHeld => ?_)
      clear hK K
      refine take_lit (i := 5) (d := 21) (v := ?_) rfl rfl (by kernel_rfl) (by kernel_rfl) (by kernel_rfl) (fun _ _ _ h => h) (Or.inl ⟨by rfl, ?_⟩) (by assumption) ?_
      rotate_left
      · (intro w hSw; (try dsimp only at hSw); first | (go_simp; done) | (go_simp; with_reducible rfl))
      simp only [List.set_cons_zero, List.set_cons_succ]
      refine take_lit (i := 6) (d := 27) (v := ?_) rfl rfl (by kernel_rfl) (by kernel_rfl) (by kernel_rfl) (fun _ _ _ h => h) (Or.inl ⟨by rfl, ?_⟩) (by assumption) ?_
      rotate_left
      · (intro w hSw; (try dsimp only at hSw); first | (go_simp; done) | (go_simp; with_reducible rfl))
      simp only [List.set_cons_zero, List.set_cons_succ]
      refine take_lit (i := 7) (d := 28) (v := ?_) rfl rfl (by kernel_rfl) (by kernel_rfl) (by kernel_rfl) (fun _ _ _ h => h) (Or.inl ⟨by rfl, ?_⟩) (by assumption) ?_
      rotate_left
      · (intro w hSw; (try dsimp only at hSw); first | (go_simp; done) | (go_simp; with_reducible rfl))
      simp only [List.set_cons_zero, List.set_cons_succ]
      refine wpAnyH_ready (rs := [9]) (by kernel_rfl) (by simp) ?_
      refine AllReadyH.cons rfl (fun K hK => ?_) AllReadyH.nil
      have hgz : w1.heap.size ≤ w1.heap.size := gz1
      have u0_ := bz4.out.cell 0 rfl
      have u1_ := bz4.out.cell 1 rfl
      have u2_ := bz4.out.unfrozen
      go_simp
      refine hK.out _ _ ⟨cell_set (T := w1.heap.size) (cell_set (T := w1.heap.size) hHeld.1 (by omega) _) (by omega) _, cell_set (T := w1.heap.size) (cell_set (T := w1.heap.size) hHeld.2.1 (by omega) _) (by omega) _, cell_set (T := w1.heap.size) (cell_set (T := w1.heap.size) hHeld.2.2.1 (by omega) _) (by omega) _, cell_set (T := w1.heap.size) (cell_set (T := w1.heap.size) hHeld.2.2.2 (by omega) _) (by omega) _⟩ (fun hHeld => ?_)
      clear hK K
      refine take_lit (i := 10) (d := 7) (v := ?_) rfl rfl (by kernel_rfl) (by kernel_rfl) (by kernel_rfl) (fun _ _ _ h => h) (Or.inl ⟨by rfl, ?_⟩) (by assumption) ?_
      rotate_left
      · (intro w hSw; (try dsimp only at hSw); first | (go_simp; done) | (go_simp; with_reducible rfl))
      simp only [List.set_cons_zero, List.set_cons_succ]
      refine wpAnyH_done (by kernel_rfl) ?_ _
      have bF : Hid (Box (putCells vwa4 (w1.heap.size) 0 [.slice pW td.vSlots.length dW, .slice qW td.vFree.length eW]) (w1.heap.size) [.slice pW td.vSlots.length dW, .slice qW td.vFree.length eW] 30) := (bz4.out.set _).set _
      have kF : Hid (Below w1.heap.size w1 (putCells vwa4 (w1.heap.size) 0 [.slice pW td.vSlots.length dW, .slice qW td.vFree.length eW])) := putCells_below _ _ _ _ _ _ hgz kp4.out
      have aF : Hid (∃ fz, ArenaOwn (putCells vwa4 (w1.heap.size) 0 [.slice pW td.vSlots.length dW, .slice qW td.vFree.length eW]) [.slice pW td.vSlots.length dW, .slice qW td.vFree.length eW] td fz ∧ fz.Nodup ∧ ∀ b ∈ fz, w1.heap.size ≤ b ∧ b ≠ w1.heap.size) := ⟨fW, ArenaOwn_stays _ _ _ _ _ (fun b m => putCells_other _ _ _ _ _ (nzW.out b m)) anW.out, hndW.out, fun b m => ⟨hlW.out b m, nzW.out b m⟩⟩
      go_wp2_with fail
      go_meet
      exact ⟨_, [], pW, dW, qW, eW, rfl, rfl, kF, bF, hgz, aF⟩
  case rest =>
  obtain ⟨gzwa, _, pwa, dwa, qwa, ewa, rfl, rfl, hkwa, hbxwa, hglwa, hFwa⟩ := hcut
  obtain ⟨fwa, ownwa, ndwa, lowwa⟩ := hFwa.out
  have rg_wa0 : Hid (∀ b ∈ fwa, b < wc.heap.size) := ArenaOwn_lt _ _ _ _ ownwa
  have ndwah : Hid (fwa.Nodup) := ndwa
  have lowwa' : Hid (∀ b ∈ fwa, w1.heap.size ≤ b ∧ b ≠ gzwa) := lowwa
  have hguwa := hbxwa.out.lt
  have ownswa : Hid (ArenaOwn wc [.slice pwa td.vSlots.length dwa, .slice qwa td.vFree.length ewa] td fwa) := ownwa
  clear ownwa ndwa lowwa hFwa
  have hkwao := hkwa.out
  have bA_2 : Hid (Box wc w.heap.size [.slice a0 x.vSlots.length c0, .slice a1 x.vFree.length c1] 25) := bA_1.out.below hkwao bA_1.out.lt
  have bH_2 : Hid (Box wc (w.heap.size + 1) [.int .i64 y.vAt, .int .i64 y.vGen] 44) := bH_1.out.below hkwao bH_1.out.lt
  clear bA_1 bH_1
  have hB2 : Hid (Below w.heap.size w wc) := hB1.out.trans ((hkwao).mono hB1.out.size)
  have sz2 := (hkwao).size
  clear z1_bA_0 z1_bA_1 z1_bH_0 z1_bH_1
  have z2_bA_0 := bA_2.out.cell 0 rfl
  have z2_bA_1 := bA_2.out.cell 1 rfl
  have z2_bH_0 := bH_2.out.cell 0 rfl
  have z2_bH_1 := bH_2.out.cell 1 rfl
  have wa_2 : Hid (ArenaOwn wc [.slice pwa td.vSlots.length dwa, .slice qwa td.vFree.length ewa] td fwa) := ownswa
  have bwa_2 : Hid (Box wc gzwa [.slice pwa td.vSlots.length dwa, .slice qwa td.vFree.length ewa] 30) := hbxwa
  have z2_bwa_0 := bwa_2.out.cell 0 rfl
  have z2_bwa_1 := bwa_2.out.cell 1 rfl
  have rg_wa : Hid (∀ b ∈ fwa, w1.heap.size ≤ b ∧ b < wc.heap.size ∧ b ≠ gzwa) := fun b q => ⟨(lowwa'.out b q).1, rg_wa0.out b q, (lowwa'.out b q).2⟩
  clear ownswa hbxwa hkwa hkwao
  skip
  go_wp2_with fail
  refine (toArena_own (ArenaAt_stays _ _ _ 0 _ _ (.of_below hB2.out) hx0.out) hsm.out).mono ?_
  rintro e u5a ⟨⟨cs5, f5t, rfl, ht5, nd5, lo5t⟩, hba5⟩
  have nd5h : Hid (f5t.Nodup) := nd5
  have rg_x5t0 : Hid (∀ b ∈ f5t, b < u5a.heap.size) := ArenaOwn_lt _ _ _ _ ht5
  have lo5t' : Hid (∀ b ∈ f5t, wc.heap.size ≤ b) := lo5t
  have hto50 : Hid (ArenaOwn u5a cs5 x f5t) := ht5
  obtain ⟨_, _, _, _, rfl, ss5, st5, _⟩ := ht5
  obtain ⟨p5, d5, rfl⟩ := ss5.form
  obtain ⟨q5, e5, rfl⟩ := st5.form
  have hto5 : Hid (ArenaOwn u5a [.slice p5 x.vSlots.length d5, .slice q5 x.vFree.length e5] x f5t) := hto50.out
  clear ss5 st5 lo5t hto50 nd5
  have bA_3 : Hid (Box u5a w.heap.size [.slice a0 x.vSlots.length c0, .slice a1 x.vFree.length c1] 25) := bA_2.out.below hba5 bA_2.out.lt
  have bH_3 : Hid (Box u5a (w.heap.size + 1) [.int .i64 y.vAt, .int .i64 y.vGen] 44) := bH_2.out.below hba5 bH_2.out.lt
  have wa_3 : Hid (ArenaOwn u5a [.slice pwa td.vSlots.length dwa, .slice qwa td.vFree.length ewa] td fwa) := ArenaOwn_stays _ _ _ _ _ (fun x hx => (hba5).block x (ArenaOwn_lt _ _ _ _ wa_2.out x hx)) wa_2.out
  have bwa_3 : Hid (Box u5a gzwa [.slice pwa td.vSlots.length dwa, .slice qwa td.vFree.length ewa] 30) := bwa_2.out.below hba5 bwa_2.out.lt
  clear bA_2 bH_2 wa_2 bwa_2
  have hB3 : Hid (Below w.heap.size w u5a) := hB2.out.trans ((hba5).mono hB2.out.size)
  have sz3 := (hba5).size
  clear z2_bA_0 z2_bA_1 z2_bH_0 z2_bH_1 z2_bwa_0 z2_bwa_1
  have z3_bA_0 := bA_3.out.cell 0 rfl
  have z3_bA_1 := bA_3.out.cell 1 rfl
  have z3_bH_0 := bH_3.out.cell 0 rfl
  have z3_bH_1 := bH_3.out.cell 1 rfl
  have z3_bwa_0 := bwa_3.out.cell 0 rfl
  have z3_bwa_1 := bwa_3.out.cell 1 rfl
  have x5t_3 : Hid (ArenaOwn u5a [.slice p5 x.vSlots.length d5, .slice q5 x.vFree.length e5] x f5t) := hto5
  clear hto5 hba5
  have rg_x5t : Hid (∀ b ∈ f5t, wc.heap.size ≤ b ∧ b < u5a.heap.size) := fun b q => ⟨lo5t'.out b q, rg_x5t0.out b q⟩
  have hbx5 : Below u5a.heap.size u5a (u5a.alloc (.cells (List.toArray [.slice p5 x.vSlots.length d5, .slice q5 x.vFree.length e5]) 30)) := (Below.refl _ _).alloc (Nat.le_refl _) _
  have szx5 : (u5a.alloc (.cells (List.toArray [.slice p5 x.vSlots.length d5, .slice q5 x.vFree.length e5]) 30)).heap.size = u5a.heap.size + 1 := by simp
  have bA_4 : Hid (Box (u5a.alloc (.cells (List.toArray [.slice p5 x.vSlots.length d5, .slice q5 x.vFree.length e5]) 30)) w.heap.size [.slice a0 x.vSlots.length c0, .slice a1 x.vFree.length c1] 25) := bA_3.out.below hbx5 bA_3.out.lt
  have bH_4 : Hid (Box (u5a.alloc (.cells (List.toArray [.slice p5 x.vSlots.length d5, .slice q5 x.vFree.length e5]) 30)) (w.heap.size + 1) [.int .i64 y.vAt, .int .i64 y.vGen] 44) := bH_3.out.below hbx5 bH_3.out.lt
  have wa_4 : Hid (ArenaOwn (u5a.alloc (.cells (List.toArray [.slice p5 x.vSlots.length d5, .slice q5 x.vFree.length e5]) 30)) [.slice pwa td.vSlots.length dwa, .slice qwa td.vFree.length ewa] td fwa) := ArenaOwn_stays _ _ _ _ _ (fun x hx => (hbx5).block x (ArenaOwn_lt _ _ _ _ wa_3.out x hx)) wa_3.out
  have bwa_4 : Hid (Box (u5a.alloc (.cells (List.toArray [.slice p5 x.vSlots.length d5, .slice q5 x.vFree.length e5]) 30)) gzwa [.slice pwa td.vSlots.length dwa, .slice qwa td.vFree.length ewa] 30) := bwa_3.out.below hbx5 bwa_3.out.lt
  have x5t_4 : Hid (ArenaOwn (u5a.alloc (.cells (List.toArray [.slice p5 x.vSlots.length d5, .slice q5 x.vFree.length e5]) 30)) [.slice p5 x.vSlots.length d5, .slice q5 x.vFree.length e5] x f5t) := ArenaOwn_stays _ _ _ _ _ (fun x hx => (hbx5).block x (ArenaOwn_lt _ _ _ _ x5t_3.out x hx)) x5t_3.out
  clear bA_3 bH_3 wa_3 bwa_3 x5t_3
  have hB4 : Hid (Below w.heap.size w (u5a.alloc (.cells (List.toArray [.slice p5 x.vSlots.length d5, .slice q5 x.vFree.length e5]) 30))) := hB3.out.trans ((hbx5).mono hB3.out.size)
  have sz4 := (hbx5).size
  simp only [World.size_alloc] at sz4
  clear z3_bA_0 z3_bA_1 z3_bH_0 z3_bH_1 z3_bwa_0 z3_bwa_1
  have z4_bA_0 := bA_4.out.cell 0 rfl
  have z4_bA_1 := bA_4.out.cell 1 rfl
  have z4_bH_0 := bH_4.out.cell 0 rfl
  have z4_bH_1 := bH_4.out.cell 1 rfl
  have z4_bwa_0 := bwa_4.out.cell 0 rfl
  have z4_bwa_1 := bwa_4.out.cell 1 rfl
  have bX5_4 : Hid (Box (u5a.alloc (.cells (List.toArray [.slice p5 x.vSlots.length d5, .slice q5 x.vFree.length e5]) 30)) u5a.heap.size [.slice p5 x.vSlots.length d5, .slice q5 x.vFree.length e5] 30) := Box.new u5a _ _
  have z4_bX5_0 := bX5_4.out.cell 0 rfl
  have z4_bX5_1 := bX5_4.out.cell 1 rfl
  clear hbx5
  go_upto_region 7 with fail
  generalize (u5a.alloc (.cells (List.toArray [.slice p5 x.vSlots.length d5, .slice q5 x.vFree.length e5]) 30)) = u5 at bA_4 bH_4 wa_4 bwa_4 x5t_4 bX5_4 z4_bA_0 z4_bA_1 z4_bH_0 z4_bH_1 z4_bwa_0 z4_bwa_1 z4_bX5_0 z4_bX5_1 hB4 sz4 szx5 ⊢
  have szu : u5a.heap.size < u5.heap.size := bX5_4.out.lt
  clear szx5
  go_upto_region 7 with fail
  go_cut [9, 10] (fun sP sB wx => ∃ (gz : Nat) (_fz : List Nat) (pW : Option Addr) (dW : Nat) (qW : Option Addr) (eW : Nat), sP = .pointer (some ⟨gz, 0, none⟩) ∧ sB = .bool bb ∧ Hid (Below u5.heap.size u5 wx) ∧ Hid (Box wx gz [.slice pW td.vSlots.length dW, .slice qW td.vFree.length eW] 30) ∧ u5.heap.size ≤ gz ∧ Hid (∃ fz, ArenaOwn wx [.slice pW td.vSlots.length dW, .slice qW td.vFree.length eW] td fz ∧ fz.Nodup ∧ ∀ b ∈ fz, u5.heap.size ≤ b ∧ b ≠ gz))
  case first =>
    have lA_ := bH_4.out.lt
    have lX_ := bX5_4.out.lt
    have kp0 : Hid (Below u5.heap.size u5 u5.drew) := (Below.refl _ _).drew
    have atS : Hid (ArenaAt u5.drew 0 [.slice p5 x.vSlots.length d5, .slice q5 x.vFree.length e5] x) := ArenaAt_stays _ _ _ 0 _ _ (.of_below (Below.refl _ _).drew) (ArenaOwn_at (lo := 0) _ _ _ _ x5t_4.out (fun _ _ => Nat.zero_le _))
    refine wp_region_held_drew (S := fun w' => w'.cell? ⟨u5a.heap.size, 0, none⟩ = some (.slice p5 x.vSlots.length d5) ∧ w'.cell? ⟨u5a.heap.size, 1, none⟩ = some (.slice q5 x.vFree.length e5) ∧ w'.cell? ⟨w.heap.size + 1, 0, none⟩ = some (.int .i64 y.vAt) ∧ w'.cell? ⟨w.heap.size + 1, 1, none⟩ = some (.int .i64 y.vGen)) (by kernel_rfl) ⟨bX5_4.out.cell 0 rfl, bX5_4.out.cell 1 rfl, bH_4.out.cell 0 rfl, bH_4.out.cell 1 rfl⟩ (fun hHeld => ?_)
    refine take_lit (i := 0) (d := 32) (v := ?_) rfl rfl (by kernel_rfl) (by kernel_rfl) (by kernel_rfl) (fun _ _ _ h => h) (Or.inl ⟨by rfl, ?_⟩) (by assumption) ?_
    rotate_left
    · (intro w hSw; (try dsimp only at hSw); first | (go_simp; done) | (go_simp; with_reducible rfl))
    simp only [List.set_cons_zero, List.set_cons_succ]
    refine take_lit (i := 1) (d := 33) (v := ?_) rfl rfl (by kernel_rfl) (by kernel_rfl) (by kernel_rfl) (fun _ _ _ h => h) (Or.inl ⟨by rfl, ?_⟩) (by assumption) ?_
    rotate_left
    · (intro w hSw; (try dsimp only at hSw); first | (go_simp; done) | (go_simp; with_reducible rfl))
    simp only [List.set_cons_zero, List.set_cons_succ]
    refine wpAnyH_ready (rs := [2, 7]) (by kernel_rfl) (by simp) ?_
    refine (AllReadyH.cons rfl (fun K hK => ?_) (AllReadyH.cons rfl (fun K hK => ?_) AllReadyH.nil))
    · go_simp
      refine (toHandle_any (by exact HandleAt_stays _ _ _ 0 _ _ (.of_below (Below.trans hB4.out (Below.mono kp0.out hB4.out.size))) hy0.out)).mono ?_
      rintro e vga1 ⟨⟨csH, rfl, htH⟩, hbc1⟩
      obtain ⟨rfl, _⟩ := htH
      have kp1 : Hid (Below u5.heap.size u5 vga1) := kp0.out.trans (Below.mono (hbc1) kp0.out.size)
      have at1 : Hid (ArenaAt vga1 0 [.slice p5 x.vSlots.length d5, .slice q5 x.vFree.length e5] x) := ArenaAt_stays _ _ _ 0 _ _ (.of_below (hbc1)) atS.out
      refine hK.out _ _ ⟨cell_on hbc1 hHeld.1, cell_on hbc1 hHeld.2.1, cell_on hbc1 hHeld.2.2.1, cell_on hbc1 hHeld.2.2.2⟩ (fun hHeld => ?_)
      clear hK K
      refine wpAnyH_ready (rs := [3, 7]) (by kernel_rfl) (by simp) ?_
      refine (AllReadyH.cons rfl (fun K hK => ?_) (AllReadyH.cons rfl (fun K hK => ?_) AllReadyH.nil))
      · go_simp
        refine (implReleased_any (by exact at1.out)).mono ?_
        rintro e vga2 ⟨⟨csW, rfl, hansW⟩, hbc2⟩
        rw [hYS'.out] at hansW ⊢
        dsimp only at hansW ⊢
        obtain ⟨fW, hoW0, hndW0, hlW0⟩ := hansW
        have hlW : Hid (∀ b ∈ fW, u5.heap.size ≤ b) := fun b m => Nat.le_trans kp1.out.size (hlW0 b m)
        have hndW : Hid (fW.Nodup) := hndW0
        have anW0 : Hid (ArenaOwn vga2 csW td fW) := hoW0
        obtain ⟨_, _, _, _, rfl, ss, st, _⟩ := hoW0
        obtain ⟨pW, dW, rfl⟩ := ss.form
        obtain ⟨qW, eW, rfl⟩ := st.form
        have anW : Hid (ArenaOwn vga2 [.slice pW td.vSlots.length dW, .slice qW td.vFree.length eW] td fW) := anW0.out
        clear ss st anW0 hlW0 hndW0
        have kp2 : Hid (Below u5.heap.size u5 vga2) := kp1.out.trans (Below.mono (hbc2) kp1.out.size)
        have at2 : Hid (ArenaAt vga2 0 [.slice p5 x.vSlots.length d5, .slice q5 x.vFree.length e5] x) := ArenaAt_stays _ _ _ 0 _ _ (.of_below (hbc2)) at1.out
        refine hK.out _ _ ⟨cell_on hbc2 hHeld.1, cell_on hbc2 hHeld.2.1, cell_on hbc2 hHeld.2.2.1, cell_on hbc2 hHeld.2.2.2⟩ (fun hHeld => ?_)
        clear hK K
        refine take_lit (i := 4) (d := 31) (v := ?_) rfl rfl (by kernel_rfl) (by kernel_rfl) (by kernel_rfl) (fun _ _ _ h => h) (Or.inl ⟨by rfl, ?_⟩) (by assumption) ?_
        rotate_left
        · (intro w hSw; (try dsimp only at hSw); first | (go_simp; done) | (go_simp; with_reducible rfl))
        simp only [List.set_cons_zero, List.set_cons_succ]
        refine take_lit (i := 5) (d := 36) (v := ?_) rfl rfl (by kernel_rfl) (by kernel_rfl) (by kernel_rfl) (fun _ _ _ h => h) (Or.inl ⟨by rfl, ?_⟩) (by assumption) ?_
        rotate_left
        · (intro w hSw; (try dsimp only at hSw); first | (go_simp; done) | (go_simp; with_reducible rfl))
        simp only [List.set_cons_zero, List.set_cons_succ]
        refine take_lit (i := 6) (d := 37) (v := ?_) rfl rfl (by kernel_rfl) (by kernel_rfl) (by kernel_rfl) (fun _ _ _ h => h) (Or.inl ⟨by rfl, ?_⟩) (by assumption) ?_
        rotate_left
        · (intro w hSw; (try dsimp only at hSw); first | (go_simp; done) | (go_simp; with_reducible rfl))
        simp only [List.set_cons_zero, List.set_cons_succ]
        refine wpAnyH_ready (rs := [7]) (by kernel_rfl) (by simp) ?_
        refine AllReadyH.cons rfl (fun K hK => ?_) AllReadyH.nil
        go_simp
        have kp3 : Hid (Below u5.heap.size u5 (World.alloc vga2 (.cells (List.toArray [.slice none 0 0, .slice none 0 0]) 30))) := kp2.out.trans (Below.mono ((Below.refl (World.heap vga2).size vga2).alloc (Nat.le_refl _) _) kp2.out.size)
        have at3 : Hid (ArenaAt (World.alloc vga2 (.cells (List.toArray [.slice none 0 0, .slice none 0 0]) 30)) 0 [.slice p5 x.vSlots.length d5, .slice q5 x.vFree.length e5] x) := ArenaAt_stays _ _ _ 0 _ _ (.of_below ((Below.refl (World.heap vga2).size vga2).alloc (Nat.le_refl _) _)) at2.out
        have an3 : Hid (ArenaOwn (World.alloc vga2 (.cells (List.toArray [.slice none 0 0, .slice none 0 0]) 30)) [.slice pW td.vSlots.length dW, .slice qW td.vFree.length eW] td fW) := ArenaOwn_stays _ _ _ _ _ (fun b m => Below.block ((Below.refl (World.heap vga2).size vga2).alloc (Nat.le_refl _) _) b (ArenaOwn_lt _ _ _ _ anW.out b m)) anW.out
        have bz3 : Hid (Box (World.alloc vga2 (.cells (List.toArray [.slice none 0 0, .slice none 0 0]) 30)) (World.heap vga2).size [.slice none 0 0, .slice none 0 0] 30) := Box.new vga2 _ _
        have gz3 : u5.heap.size ≤ (World.heap vga2).size := kp2.out.size
        have nzW : Hid (∀ b ∈ fW, b ≠ (World.heap vga2).size) := fun b m e => Nat.lt_irrefl _ (e ▸ ArenaOwn_lt _ _ _ _ anW.out b m)
        refine hK.out _ _ ⟨cell_alloc hHeld.1 _, cell_alloc hHeld.2.1 _, cell_alloc hHeld.2.2.1 _, cell_alloc hHeld.2.2.2 _⟩ (fun hHeld => ?_)
        clear hK K
        refine wpAnyH_ready (rs := [8]) (by kernel_rfl) (by simp) ?_
        refine AllReadyH.cons rfl (fun K hK => ?_) AllReadyH.nil
        have hgz : u5.heap.size ≤ (World.heap vga2).size := gz3
        have lp_ : u5.heap.size ≤ (World.heap vga2).size := kp2.out.size
        go_simp
        refine hK.out _ _ ⟨cell_realloc hHeld.1 (by omega), cell_realloc hHeld.2.1 (by omega), cell_realloc hHeld.2.2.1 (by omega), cell_realloc hHeld.2.2.2 (by omega)⟩ (fun hHeld => ?_)
        clear hK K
        refine take_lit (i := 9) (d := 10) (v := ?_) rfl rfl (by kernel_rfl) (by kernel_rfl) (by kernel_rfl) (fun _ _ _ h => h) (Or.inl ⟨by rfl, ?_⟩) (by assumption) ?_
        rotate_left
        · (intro w hSw; (try dsimp only at hSw); first | (go_simp; done) | (go_simp; with_reducible rfl))
        simp only [List.set_cons_zero, List.set_cons_succ]
        refine wpAnyH_done (by kernel_rfl) ?_ _
        have bF : Hid (Box (World.alloc vga2 (.cells (List.toArray [.slice pW td.vSlots.length dW, .slice qW td.vFree.length eW]) 30)) ((World.heap vga2).size) [.slice pW td.vSlots.length dW, .slice qW td.vFree.length eW] 30) := Box.new vga2 _ _
        have kF : Hid (Below u5.heap.size u5 (World.alloc vga2 (.cells (List.toArray [.slice pW td.vSlots.length dW, .slice qW td.vFree.length eW]) 30))) := kp2.out.alloc lp_ _
        have aF : Hid (∃ fz, ArenaOwn (World.alloc vga2 (.cells (List.toArray [.slice pW td.vSlots.length dW, .slice qW td.vFree.length eW]) 30)) [.slice pW td.vSlots.length dW, .slice qW td.vFree.length eW] td fz ∧ fz.Nodup ∧ ∀ b ∈ fz, u5.heap.size ≤ b ∧ b ≠ (World.heap vga2).size) := ⟨fW, ArenaOwn_stays _ _ _ _ _ (fun b m => Below.heap_alloc _ _ _ (ArenaOwn_lt _ _ _ _ anW.out b m)) anW.out, hndW.out, fun b m => ⟨hlW.out b m, nzW.out b m⟩⟩
        go_wp2_with fail
        go_meet
        exact ⟨_, [], pW, dW, qW, eW, rfl, rfl, kF, bF, hgz, aF⟩
      · go_simp
        have kp2 : Hid (Below u5.heap.size u5 (World.alloc vga1 (.cells (List.toArray [.slice none 0 0, .slice none 0 0]) 30))) := kp1.out.trans (Below.mono ((Below.refl (World.heap vga1).size vga1).alloc (Nat.le_refl _) _) kp1.out.size)
        have at2 : Hid (ArenaAt (World.alloc vga1 (.cells (List.toArray [.slice none 0 0, .slice none 0 0]) 30)) 0 [.slice p5 x.vSlots.length d5, .slice q5 x.vFree.length e5] x) := ArenaAt_stays _ _ _ 0 _ _ (.of_below ((Below.refl (World.heap vga1).size vga1).alloc (Nat.le_refl _) _)) at1.out
        have bz2 : Hid (Box (World.alloc vga1 (.cells (List.toArray [.slice none 0 0, .slice none 0 0]) 30)) (World.heap vga1).size [.slice none 0 0, .slice none 0 0] 30) := Box.new vga1 _ _
        have gz2 : u5.heap.size ≤ (World.heap vga1).size := kp1.out.size
        refine hK.out _ _ ⟨cell_alloc hHeld.1 _, cell_alloc hHeld.2.1 _, cell_alloc hHeld.2.2.1 _, cell_alloc hHeld.2.2.2 _⟩ (fun hHeld => ?_)
        clear hK K
        refine wpAnyH_ready (rs := [3]) (by kernel_rfl) (by simp) ?_
        refine AllReadyH.cons rfl (fun K hK => ?_) AllReadyH.nil
        go_simp
        refine (implReleased_any (by exact at2.out)).mono ?_
        rintro e vga3 ⟨⟨csW, rfl, hansW⟩, hbc3⟩
        rw [hYS'.out] at hansW ⊢
        dsimp only at hansW ⊢
        obtain ⟨fW, hoW0, hndW0, hlW0⟩ := hansW
        have hlW : Hid (∀ b ∈ fW, u5.heap.size ≤ b) := fun b m => Nat.le_trans kp2.out.size (hlW0 b m)
        have hndW : Hid (fW.Nodup) := hndW0
        have nzW : Hid (∀ b ∈ fW, b ≠ (World.heap vga1).size) := fun b m e => Nat.lt_irrefl _ (Nat.lt_of_lt_of_le (Box.lt bz2.out) (e ▸ hlW0 b m))
        have anW0 : Hid (ArenaOwn vga3 csW td fW) := hoW0
        obtain ⟨_, _, _, _, rfl, ss, st, _⟩ := hoW0
        obtain ⟨pW, dW, rfl⟩ := ss.form
        obtain ⟨qW, eW, rfl⟩ := st.form
        have anW : Hid (ArenaOwn vga3 [.slice pW td.vSlots.length dW, .slice qW td.vFree.length eW] td fW) := anW0.out
        clear ss st anW0 hlW0 hndW0
        have kp3 : Hid (Below u5.heap.size u5 vga3) := kp2.out.trans (Below.mono (hbc3) kp2.out.size)
        have bz3 : Hid (Box vga3 (World.heap vga1).size [.slice none 0 0, .slice none 0 0] 30) := Box.below bz2.out (hbc3) bz2.out.lt
        have at3 : Hid (ArenaAt vga3 0 [.slice p5 x.vSlots.length d5, .slice q5 x.vFree.length e5] x) := ArenaAt_stays _ _ _ 0 _ _ (.of_below (hbc3)) at2.out
        refine hK.out _ _ ⟨cell_on hbc3 hHeld.1, cell_on hbc3 hHeld.2.1, cell_on hbc3 hHeld.2.2.1, cell_on hbc3 hHeld.2.2.2⟩ (fun hHeld => ?_)
        clear hK K
        refine take_lit (i := 4) (d := 31) (v := ?_) rfl rfl (by kernel_rfl) (by kernel_rfl) (by kernel_rfl) (fun _ _ _ h => h) (Or.inl ⟨by rfl, ?_⟩) (by assumption) ?_
        rotate_left
        · (intro w hSw; (try dsimp only at hSw); first | (go_simp; done) | (go_simp; with_reducible rfl))
        simp only [List.set_cons_zero, List.set_cons_succ]
        refine take_lit (i := 5) (d := 36) (v := ?_) rfl rfl (by kernel_rfl) (by kernel_rfl) (by kernel_rfl) (fun _ _ _ h => h) (Or.inl ⟨by rfl, ?_⟩) (by assumption) ?_
        rotate_left
        · (intro w hSw; (try dsimp only at hSw); first | (go_simp; done) | (go_simp; with_reducible rfl))
        simp only [List.set_cons_zero, List.set_cons_succ]
        refine take_lit (i := 6) (d := 37) (v := ?_) rfl rfl (by kernel_rfl) (by kernel_rfl) (by kernel_rfl) (fun _ _ _ h => h) (Or.inl ⟨by rfl, ?_⟩) (by assumption) ?_
        rotate_left
        · (intro w hSw; (try dsimp only at hSw); first | (go_simp; done) | (go_simp; with_reducible rfl))
        simp only [List.set_cons_zero, List.set_cons_succ]
        refine wpAnyH_ready (rs := [8]) (by kernel_rfl) (by simp) ?_
        refine AllReadyH.cons rfl (fun K hK => ?_) AllReadyH.nil
        have hgz : u5.heap.size ≤ (World.heap vga1).size := gz2
        have u0_ := bz3.out.cell 0 rfl
        have u1_ := bz3.out.cell 1 rfl
        have u2_ := bz3.out.unfrozen
        go_simp
        refine hK.out _ _ ⟨cell_set (T := (World.heap vga1).size) (cell_set (T := (World.heap vga1).size) hHeld.1 (by omega) _) (by omega) _, cell_set (T := (World.heap vga1).size) (cell_set (T := (World.heap vga1).size) hHeld.2.1 (by omega) _) (by omega) _, cell_set (T := (World.heap vga1).size) (cell_set (T := (World.heap vga1).size) hHeld.2.2.1 (by omega) _) (by omega) _, cell_set (T := (World.heap vga1).size) (cell_set (T := (World.heap vga1).size) hHeld.2.2.2 (by omega) _) (by omega) _⟩ (fun hHeld => ?_)
        clear hK K
        refine take_lit (i := 9) (d := 10) (v := ?_) rfl rfl (by kernel_rfl) (by kernel_rfl) (by kernel_rfl) (fun _ _ _ h => h) (Or.inl ⟨by rfl, ?_⟩) (by assumption) ?_
        rotate_left
        · (intro w hSw; (try dsimp only at hSw); first | (go_simp; done) | (go_simp; with_reducible rfl))
        simp only [List.set_cons_zero, List.set_cons_succ]
        refine wpAnyH_done (by kernel_rfl) ?_ _
        have bF : Hid (Box (putCells vga3 ((World.heap vga1).size) 0 [.slice pW td.vSlots.length dW, .slice qW td.vFree.length eW]) ((World.heap vga1).size) [.slice pW td.vSlots.length dW, .slice qW td.vFree.length eW] 30) := (bz3.out.set _).set _
        have kF : Hid (Below u5.heap.size u5 (putCells vga3 ((World.heap vga1).size) 0 [.slice pW td.vSlots.length dW, .slice qW td.vFree.length eW])) := putCells_below _ _ _ _ _ _ hgz kp3.out
        have aF : Hid (∃ fz, ArenaOwn (putCells vga3 ((World.heap vga1).size) 0 [.slice pW td.vSlots.length dW, .slice qW td.vFree.length eW]) [.slice pW td.vSlots.length dW, .slice qW td.vFree.length eW] td fz ∧ fz.Nodup ∧ ∀ b ∈ fz, u5.heap.size ≤ b ∧ b ≠ (World.heap vga1).size) := ⟨fW, ArenaOwn_stays _ _ _ _ _ (fun b m => putCells_other _ _ _ _ _ (nzW.out b m)) anW.out, hndW.out, fun b m => ⟨hlW.out b m, nzW.out b m⟩⟩
        go_wp2_with fail
        go_meet
        exact ⟨_, [], pW, dW, qW, eW, rfl, rfl, kF, bF, hgz, aF⟩
    · go_simp
      have kp1 : Hid (Below u5.heap.size u5 (World.alloc u5.drew (.cells (List.toArray [.slice none 0 0, .slice none 0 0]) 30))) := kp0.out.trans (Below.mono ((Below.refl (World.heap u5.drew).size u5.drew).alloc (Nat.le_refl _) _) kp0.out.size)
      have at1 : Hid (ArenaAt (World.alloc u5.drew (.cells (List.toArray [.slice none 0 0, .slice none 0 0]) 30)) 0 [.slice p5 x.vSlots.length d5, .slice q5 x.vFree.length e5] x) := ArenaAt_stays _ _ _ 0 _ _ (.of_below ((Below.refl (World.heap u5.drew).size u5.drew).alloc (Nat.le_refl _) _)) atS.out
      have bz1 : Hid (Box (World.alloc u5.drew (.cells (List.toArray [.slice none 0 0, .slice none 0 0]) 30)) u5.heap.size [.slice none 0 0, .slice none 0 0] 30) := Box.new u5.drew _ _
      have gz1 : u5.heap.size ≤ u5.heap.size := kp0.out.size
      refine hK.out _ _ ⟨cell_alloc hHeld.1 _, cell_alloc hHeld.2.1 _, cell_alloc hHeld.2.2.1 _, cell_alloc hHeld.2.2.2 _⟩ (fun hHeld => ?_)
      clear hK K
      refine wpAnyH_ready (rs := [2]) (by kernel_rfl) (by simp) ?_
      refine AllReadyH.cons rfl (fun K hK => ?_) AllReadyH.nil
      go_simp
      refine (toHandle_any (by exact HandleAt_stays _ _ _ 0 _ _ (.of_below (Below.trans hB4.out (Below.mono kp1.out hB4.out.size))) hy0.out)).mono ?_
      rintro e vga2 ⟨⟨csH, rfl, htH⟩, hbc2⟩
      obtain ⟨rfl, _⟩ := htH
      have kp2 : Hid (Below u5.heap.size u5 vga2) := kp1.out.trans (Below.mono (hbc2) kp1.out.size)
      have bz2 : Hid (Box vga2 u5.heap.size [.slice none 0 0, .slice none 0 0] 30) := Box.below bz1.out (hbc2) bz1.out.lt
      have at2 : Hid (ArenaAt vga2 0 [.slice p5 x.vSlots.length d5, .slice q5 x.vFree.length e5] x) := ArenaAt_stays _ _ _ 0 _ _ (.of_below (hbc2)) at1.out
      refine hK.out _ _ ⟨cell_on hbc2 hHeld.1, cell_on hbc2 hHeld.2.1, cell_on hbc2 hHeld.2.2.1, cell_on hbc2 hHeld.2.2.2⟩ (fun hHeld => ?_)
      clear hK K
      refine wpAnyH_ready (rs := [3]) (by kernel_rfl) (by simp) ?_
      refine AllReadyH.cons rfl (fun K hK => ?_) AllReadyH.nil
      go_simp
      refine (implReleased_any (by exact at2.out)).mono ?_
      rintro e vga3 ⟨⟨csW, rfl, hansW⟩, hbc3⟩
      rw [hYS'.out] at hansW ⊢
      dsimp only at hansW ⊢
      obtain ⟨fW, hoW0, hndW0, hlW0⟩ := hansW
      have hlW : Hid (∀ b ∈ fW, u5.heap.size ≤ b) := fun b m => Nat.le_trans kp2.out.size (hlW0 b m)
      have hndW : Hid (fW.Nodup) := hndW0
      have nzW : Hid (∀ b ∈ fW, b ≠ u5.heap.size) := fun b m e => Nat.lt_irrefl _ (Nat.lt_of_lt_of_le (Box.lt bz2.out) (e ▸ hlW0 b m))
      have anW0 : Hid (ArenaOwn vga3 csW td fW) := hoW0
      obtain ⟨_, _, _, _, rfl, ss, st, _⟩ := hoW0
      obtain ⟨pW, dW, rfl⟩ := ss.form
      obtain ⟨qW, eW, rfl⟩ := st.form
      have anW : Hid (ArenaOwn vga3 [.slice pW td.vSlots.length dW, .slice qW td.vFree.length eW] td fW) := anW0.out
      clear ss st anW0 hlW0 hndW0
      have kp3 : Hid (Below u5.heap.size u5 vga3) := kp2.out.trans (Below.mono (hbc3) kp2.out.size)
      have bz3 : Hid (Box vga3 u5.heap.size [.slice none 0 0, .slice none 0 0] 30) := Box.below bz2.out (hbc3) bz2.out.lt
      have at3 : Hid (ArenaAt vga3 0 [.slice p5 x.vSlots.length d5, .slice q5 x.vFree.length e5] x) := ArenaAt_stays _ _ _ 0 _ _ (.of_below (hbc3)) at2.out
      refine hK.out _ _ ⟨cell_on hbc3 hHeld.1, cell_on hbc3 hHeld.2.1, cell_on hbc3 hHeld.2.2.1, cell_on hbc3 hHeld.2.2.2⟩ (fun hHeld => ?_)
      clear hK K
      refine take_lit (i := 4) (d := 31) (v := ?_) rfl rfl (by kernel_rfl) (by kernel_rfl) (by kernel_rfl) (fun _ _ _ h => h) (Or.inl ⟨by rfl, ?_⟩) (by assumption) ?_
      rotate_left
      · (intro w hSw; (try dsimp only at hSw); first | (go_simp; done) | (go_simp; with_reducible rfl))
      simp only [List.set_cons_zero, List.set_cons_succ]
      refine take_lit (i := 5) (d := 36) (v := ?_) rfl rfl (by kernel_rfl) (by kernel_rfl) (by kernel_rfl) (fun _ _ _ h => h) (Or.inl ⟨by rfl, ?_⟩) (by assumption) ?_
      rotate_left
      · (intro w hSw; (try dsimp only at hSw); first | (go_simp; done) | (go_simp; with_reducible rfl))
      simp only [List.set_cons_zero, List.set_cons_succ]
      refine take_lit (i := 6) (d := 37) (v := ?_) rfl rfl (by kernel_rfl) (by kernel_rfl) (by kernel_rfl) (fun _ _ _ h => h) (Or.inl ⟨by rfl, ?_⟩) (by assumption) ?_
      rotate_left
      · (intro w hSw; (try dsimp only at hSw); first | (go_simp; done) | (go_simp; with_reducible rfl))
      simp only [List.set_cons_zero, List.set_cons_succ]
      refine wpAnyH_ready (rs := [8]) (by kernel_rfl) (by simp) ?_
      refine AllReadyH.cons rfl (fun K hK => ?_) AllReadyH.nil
      have hgz : u5.heap.size ≤ u5.heap.size := gz1
      have u0_ := bz3.out.cell 0 rfl
      have u1_ := bz3.out.cell 1 rfl
      have u2_ := bz3.out.unfrozen
      go_simp
      refine hK.out _ _ ⟨cell_set (T := u5.heap.size) (cell_set (T := u5.heap.size) hHeld.1 (by omega) _) (by omega) _, cell_set (T := u5.heap.size) (cell_set (T := u5.heap.size) hHeld.2.1 (by omega) _) (by omega) _, cell_set (T := u5.heap.size) (cell_set (T := u5.heap.size) hHeld.2.2.1 (by omega) _) (by omega) _, cell_set (T := u5.heap.size) (cell_set (T := u5.heap.size) hHeld.2.2.2 (by omega) _) (by omega) _⟩ (fun hHeld => ?_)
      clear hK K
      refine take_lit (i := 9) (d := 10) (v := ?_) rfl rfl (by kernel_rfl) (by kernel_rfl) (by kernel_rfl) (fun _ _ _ h => h) (Or.inl ⟨by rfl, ?_⟩) (by assumption) ?_
      rotate_left
      · (intro w hSw; (try dsimp only at hSw); first | (go_simp; done) | (go_simp; with_reducible rfl))
      simp only [List.set_cons_zero, List.set_cons_succ]
      refine wpAnyH_done (by kernel_rfl) ?_ _
      have bF : Hid (Box (putCells vga3 (u5.heap.size) 0 [.slice pW td.vSlots.length dW, .slice qW td.vFree.length eW]) (u5.heap.size) [.slice pW td.vSlots.length dW, .slice qW td.vFree.length eW] 30) := (bz3.out.set _).set _
      have kF : Hid (Below u5.heap.size u5 (putCells vga3 (u5.heap.size) 0 [.slice pW td.vSlots.length dW, .slice qW td.vFree.length eW])) := putCells_below _ _ _ _ _ _ hgz kp3.out
      have aF : Hid (∃ fz, ArenaOwn (putCells vga3 (u5.heap.size) 0 [.slice pW td.vSlots.length dW, .slice qW td.vFree.length eW]) [.slice pW td.vSlots.length dW, .slice qW td.vFree.length eW] td fz ∧ fz.Nodup ∧ ∀ b ∈ fz, u5.heap.size ≤ b ∧ b ≠ u5.heap.size) := ⟨fW, ArenaOwn_stays _ _ _ _ _ (fun b m => putCells_other _ _ _ _ _ (nzW.out b m)) anW.out, hndW.out, fun b m => ⟨hlW.out b m, nzW.out b m⟩⟩
      go_wp2_with fail
      go_meet
      exact ⟨_, [], pW, dW, qW, eW, rfl, rfl, kF, bF, hgz, aF⟩
  case rest =>
  obtain ⟨gzga, _, pga, dga, qga, ega, rfl, rfl, hkga, hbxga, hglga, hFga⟩ := hcut
  obtain ⟨fga, ownga, ndga, lowga⟩ := hFga.out
  have rg_ga0 : Hid (∀ b ∈ fga, b < wc.heap.size) := ArenaOwn_lt _ _ _ _ ownga
  have ndgah : Hid (fga.Nodup) := ndga
  have lowga' : Hid (∀ b ∈ fga, u5.heap.size ≤ b ∧ b ≠ gzga) := lowga
  have hguga := hbxga.out.lt
  have ownsga : Hid (ArenaOwn wc [.slice pga td.vSlots.length dga, .slice qga td.vFree.length ega] td fga) := ownga
  clear ownga ndga lowga hFga
  have hkgao := hkga.out
  have bA_5 : Hid (Box wc w.heap.size [.slice a0 x.vSlots.length c0, .slice a1 x.vFree.length c1] 25) := bA_4.out.below hkgao bA_4.out.lt
  have bH_5 : Hid (Box wc (w.heap.size + 1) [.int .i64 y.vAt, .int .i64 y.vGen] 44) := bH_4.out.below hkgao bH_4.out.lt
  have wa_5 : Hid (ArenaOwn wc [.slice pwa td.vSlots.length dwa, .slice qwa td.vFree.length ewa] td fwa) := ArenaOwn_stays _ _ _ _ _ (fun x hx => (hkgao).block x (ArenaOwn_lt _ _ _ _ wa_4.out x hx)) wa_4.out
  have bwa_5 : Hid (Box wc gzwa [.slice pwa td.vSlots.length dwa, .slice qwa td.vFree.length ewa] 30) := bwa_4.out.below hkgao bwa_4.out.lt
  have x5t_5 : Hid (ArenaOwn wc [.slice p5 x.vSlots.length d5, .slice q5 x.vFree.length e5] x f5t) := ArenaOwn_stays _ _ _ _ _ (fun x hx => (hkgao).block x (ArenaOwn_lt _ _ _ _ x5t_4.out x hx)) x5t_4.out
  have bX5_5 : Hid (Box wc u5a.heap.size [.slice p5 x.vSlots.length d5, .slice q5 x.vFree.length e5] 30) := bX5_4.out.below hkgao bX5_4.out.lt
  clear bA_4 bH_4 wa_4 bwa_4 x5t_4 bX5_4
  have hB5 : Hid (Below w.heap.size w wc) := hB4.out.trans ((hkgao).mono hB4.out.size)
  have sz5 := (hkgao).size
  clear z4_bA_0 z4_bA_1 z4_bH_0 z4_bH_1 z4_bwa_0 z4_bwa_1 z4_bX5_0 z4_bX5_1
  have z5_bA_0 := bA_5.out.cell 0 rfl
  have z5_bA_1 := bA_5.out.cell 1 rfl
  have z5_bH_0 := bH_5.out.cell 0 rfl
  have z5_bH_1 := bH_5.out.cell 1 rfl
  have z5_bwa_0 := bwa_5.out.cell 0 rfl
  have z5_bwa_1 := bwa_5.out.cell 1 rfl
  have z5_bX5_0 := bX5_5.out.cell 0 rfl
  have z5_bX5_1 := bX5_5.out.cell 1 rfl
  have ga_5 : Hid (ArenaOwn wc [.slice pga td.vSlots.length dga, .slice qga td.vFree.length ega] td fga) := ownsga
  have bga_5 : Hid (Box wc gzga [.slice pga td.vSlots.length dga, .slice qga td.vFree.length ega] 30) := hbxga
  have z5_bga_0 := bga_5.out.cell 0 rfl
  have z5_bga_1 := bga_5.out.cell 1 rfl
  have rg_ga : Hid (∀ b ∈ fga, u5.heap.size ≤ b ∧ b < wc.heap.size ∧ b ≠ gzga) := fun b q => ⟨(lowga'.out b q).1, rg_ga0.out b q, (lowga'.out b q).2⟩
  clear ownsga hbxga hkga hkgao
  skip
  go_wp2_with fail
  refine (eqArena_any (lo := 0) (lo2 := 0) (ArenaOwn_at (lo := 0) _ _ _ _ ga_5.out (fun _ _ => Nat.zero_le _)) (ArenaOwn_at (lo := 0) _ _ _ _ wa_5.out (fun _ _ => Nat.zero_le _))).mono ?_
  rintro e w7 ⟨rfl, hbw7⟩
  have bA_6 : Hid (Box w7 w.heap.size [.slice a0 x.vSlots.length c0, .slice a1 x.vFree.length c1] 25) := bA_5.out.below hbw7 bA_5.out.lt
  have bH_6 : Hid (Box w7 (w.heap.size + 1) [.int .i64 y.vAt, .int .i64 y.vGen] 44) := bH_5.out.below hbw7 bH_5.out.lt
  have wa_6 : Hid (ArenaOwn w7 [.slice pwa td.vSlots.length dwa, .slice qwa td.vFree.length ewa] td fwa) := ArenaOwn_stays _ _ _ _ _ (fun x hx => (hbw7).block x (ArenaOwn_lt _ _ _ _ wa_5.out x hx)) wa_5.out
  have bwa_6 : Hid (Box w7 gzwa [.slice pwa td.vSlots.length dwa, .slice qwa td.vFree.length ewa] 30) := bwa_5.out.below hbw7 bwa_5.out.lt
  have x5t_6 : Hid (ArenaOwn w7 [.slice p5 x.vSlots.length d5, .slice q5 x.vFree.length e5] x f5t) := ArenaOwn_stays _ _ _ _ _ (fun x hx => (hbw7).block x (ArenaOwn_lt _ _ _ _ x5t_5.out x hx)) x5t_5.out
  have bX5_6 : Hid (Box w7 u5a.heap.size [.slice p5 x.vSlots.length d5, .slice q5 x.vFree.length e5] 30) := bX5_5.out.below hbw7 bX5_5.out.lt
  have ga_6 : Hid (ArenaOwn w7 [.slice pga td.vSlots.length dga, .slice qga td.vFree.length ega] td fga) := ArenaOwn_stays _ _ _ _ _ (fun x hx => (hbw7).block x (ArenaOwn_lt _ _ _ _ ga_5.out x hx)) ga_5.out
  have bga_6 : Hid (Box w7 gzga [.slice pga td.vSlots.length dga, .slice qga td.vFree.length ega] 30) := bga_5.out.below hbw7 bga_5.out.lt
  clear bA_5 bH_5 wa_5 bwa_5 x5t_5 bX5_5 ga_5 bga_5
  have hB6 : Hid (Below w.heap.size w w7) := hB5.out.trans ((hbw7).mono hB5.out.size)
  have sz6 := (hbw7).size
  clear z5_bA_0 z5_bA_1 z5_bH_0 z5_bH_1 z5_bwa_0 z5_bwa_1 z5_bX5_0 z5_bX5_1 z5_bga_0 z5_bga_1
  have z6_bA_0 := bA_6.out.cell 0 rfl
  have z6_bA_1 := bA_6.out.cell 1 rfl
  have z6_bH_0 := bH_6.out.cell 0 rfl
  have z6_bH_1 := bH_6.out.cell 1 rfl
  have z6_bwa_0 := bwa_6.out.cell 0 rfl
  have z6_bwa_1 := bwa_6.out.cell 1 rfl
  have z6_bX5_0 := bX5_6.out.cell 0 rfl
  have z6_bX5_1 := bX5_6.out.cell 1 rfl
  have z6_bga_0 := bga_6.out.cell 0 rfl
  have z6_bga_1 := bga_6.out.cell 1 rfl
  clear hbw7
  go_wp2_with fail
  have ltA : w.heap.size < w7.heap.size := bA_6.out.lt
  have ltX : u5a.heap.size < w7.heap.size := bX5_6.out.lt
  have htx7 : Hid (ArenaAt w7 0 [.slice p5 x.vSlots.length d5, .slice q5 x.vFree.length e5] x) := ArenaOwn_at (lo := 0) _ _ _ _ x5t_6.out (fun _ _ => Nat.zero_le _)
  go_region_held3 (fun w' => w'.cell? ⟨u5a.heap.size, 0, none⟩ = some (.slice p5 x.vSlots.length d5) ∧ w'.cell? ⟨u5a.heap.size, 1, none⟩ = some (.slice q5 x.vFree.length e5) ∧ w'.cell? ⟨w.heap.size, 0, none⟩ = some (.slice a0 x.vSlots.length c0) ∧ w'.cell? ⟨w.heap.size, 1, none⟩ = some (.slice a1 x.vFree.length c1)) (go_keep)
    (first | (go_at_call 11; refine (toArena_own (by exact ArenaAt_stays _ _ _ 0 _ _ (.of_below hB6.out.drew) hx0.out) hsm.out).mono ?_; rintro e w8 ⟨⟨cs8, fs8, rfl, ht8, _, _⟩, hb8⟩; have hb8' := undrew hb8; have x8 : Hid (Box w8 u5a.heap.size _ _) := Box.below bX5_6.out hb8' ltX; have g8 : Hid (Box w8 w.heap.size _ _) := Box.below bA_6.out hb8' ltA; have y0 := x8.out.cell 0 rfl; have y1 := x8.out.cell 1 rfl; have v0 := g8.out.cell 0 rfl; have v1 := g8.out.cell 1 rfl; have lt8 : Hid (ArenaAt w8 0 [.slice p5 x.vSlots.length d5, .slice q5 x.vFree.length e5] x) := ArenaAt_stays _ _ _ 0 _ _ (.of_below hb8') htx7.out; have lt8b : Hid (ArenaAt w8 0 cs8 x) := ArenaOwn_at (lo := 0) _ _ _ _ ht8 (fun _ _ => Nat.zero_le _); have hb8h : Hid (Below w7.heap.size w7 w8) := hb8'; clear hb8 hb8' ht8) | (go_at_call 13; refine (eqArena_any (by exact lt8.out) (by exact lt8b.out)).mono ?_; rintro e w9 ⟨rfl, hb9⟩; have x9 : Hid (Box w9 u5a.heap.size _ _) := Box.below x8.out hb9 x8.out.lt; have g9 : Hid (Box w9 w.heap.size _ _) := Box.below g8.out hb9 g8.out.lt; have k0 := x9.out.cell 0 rfl; have k1 := x9.out.cell 1 rfl; have j0 := g9.out.cell 0 rfl; have j1 := g9.out.cell 1 rfl; have hb9h : Hid (Below w7.heap.size w7 w9) := hb8h.out.trans (hb9.mono hb8h.out.size); clear hb9))
  have hb79 : Below w7.heap.size w7 w9 := hb9h.out
  clear x8 g8 x9 g9 htx7 lt8 lt8b hb8h hb9h k0 k1 j0 j1 y0 y1 v0 v1 ltA ltX
  have bA_7 : Hid (Box w9 w.heap.size [.slice a0 x.vSlots.length c0, .slice a1 x.vFree.length c1] 25) := bA_6.out.below hb79 bA_6.out.lt
  have bH_7 : Hid (Box w9 (w.heap.size + 1) [.int .i64 y.vAt, .int .i64 y.vGen] 44) := bH_6.out.below hb79 bH_6.out.lt
  have wa_7 : Hid (ArenaOwn w9 [.slice pwa td.vSlots.length dwa, .slice qwa td.vFree.length ewa] td fwa) := ArenaOwn_stays _ _ _ _ _ (fun x hx => (hb79).block x (ArenaOwn_lt _ _ _ _ wa_6.out x hx)) wa_6.out
  have bwa_7 : Hid (Box w9 gzwa [.slice pwa td.vSlots.length dwa, .slice qwa td.vFree.length ewa] 30) := bwa_6.out.below hb79 bwa_6.out.lt
  have x5t_7 : Hid (ArenaOwn w9 [.slice p5 x.vSlots.length d5, .slice q5 x.vFree.length e5] x f5t) := ArenaOwn_stays _ _ _ _ _ (fun x hx => (hb79).block x (ArenaOwn_lt _ _ _ _ x5t_6.out x hx)) x5t_6.out
  have bX5_7 : Hid (Box w9 u5a.heap.size [.slice p5 x.vSlots.length d5, .slice q5 x.vFree.length e5] 30) := bX5_6.out.below hb79 bX5_6.out.lt
  have ga_7 : Hid (ArenaOwn w9 [.slice pga td.vSlots.length dga, .slice qga td.vFree.length ega] td fga) := ArenaOwn_stays _ _ _ _ _ (fun x hx => (hb79).block x (ArenaOwn_lt _ _ _ _ ga_6.out x hx)) ga_6.out
  have bga_7 : Hid (Box w9 gzga [.slice pga td.vSlots.length dga, .slice qga td.vFree.length ega] 30) := bga_6.out.below hb79 bga_6.out.lt
  clear bA_6 bH_6 wa_6 bwa_6 x5t_6 bX5_6 ga_6 bga_6
  have hB7 : Hid (Below w.heap.size w w9) := hB6.out.trans ((hb79).mono hB6.out.size)
  have sz7 := (hb79).size
  clear z6_bA_0 z6_bA_1 z6_bH_0 z6_bH_1 z6_bwa_0 z6_bwa_1 z6_bX5_0 z6_bX5_1 z6_bga_0 z6_bga_1
  have z7_bA_0 := bA_7.out.cell 0 rfl
  have z7_bA_1 := bA_7.out.cell 1 rfl
  have z7_bH_0 := bH_7.out.cell 0 rfl
  have z7_bH_1 := bH_7.out.cell 1 rfl
  have z7_bwa_0 := bwa_7.out.cell 0 rfl
  have z7_bwa_1 := bwa_7.out.cell 1 rfl
  have z7_bX5_0 := bX5_7.out.cell 0 rfl
  have z7_bX5_1 := bX5_7.out.cell 1 rfl
  have z7_bga_0 := bga_7.out.cell 0 rfl
  have z7_bga_1 := bga_7.out.cell 1 rfl
  clear hb79
  go_wp2_with fail
  refine (markArena_any x5t_7.out nd5h.out (by omega) hXC.out).mono ?_
  rintro e m1 ⟨rfl, _, hom1⟩
  have bA_8 : Hid (Box m1 w.heap.size [.slice a0 x.vSlots.length c0, .slice a1 x.vFree.length c1] 25) := ((hom1).keep bA_7.out.lt (fun q => by have := rg_x5t.out _ q; omega)).trans bA_7.out
  have bH_8 : Hid (Box m1 (w.heap.size + 1) [.int .i64 y.vAt, .int .i64 y.vGen] 44) := ((hom1).keep bH_7.out.lt (fun q => by have := rg_x5t.out _ q; omega)).trans bH_7.out
  have wa_8 : Hid (ArenaOwn m1 [.slice pwa td.vSlots.length dwa, .slice qwa td.vFree.length ewa] td fwa) := ArenaOwn_stays _ _ _ _ _ (fun x hx => (hom1).keep (ArenaOwn_lt _ _ _ _ wa_7.out x hx) (fun q => by have := rg_x5t.out _ q; have := rg_wa.out _ hx; omega)) wa_7.out
  have bwa_8 : Hid (Box m1 gzwa [.slice pwa td.vSlots.length dwa, .slice qwa td.vFree.length ewa] 30) := ((hom1).keep bwa_7.out.lt (fun q => by have := rg_x5t.out _ q; omega)).trans bwa_7.out
  have bX5_8 : Hid (Box m1 u5a.heap.size [.slice p5 x.vSlots.length d5, .slice q5 x.vFree.length e5] 30) := ((hom1).keep bX5_7.out.lt (fun q => by have := rg_x5t.out _ q; omega)).trans bX5_7.out
  have ga_8 : Hid (ArenaOwn m1 [.slice pga td.vSlots.length dga, .slice qga td.vFree.length ega] td fga) := ArenaOwn_stays _ _ _ _ _ (fun x hx => (hom1).keep (ArenaOwn_lt _ _ _ _ ga_7.out x hx) (fun q => by have := rg_x5t.out _ q; have := rg_ga.out _ hx; omega)) ga_7.out
  have bga_8 : Hid (Box m1 gzga [.slice pga td.vSlots.length dga, .slice qga td.vFree.length ega] 30) := ((hom1).keep bga_7.out.lt (fun q => by have := rg_x5t.out _ q; omega)).trans bga_7.out
  clear bA_7 bH_7 wa_7 bwa_7 x5t_7 bX5_7 ga_7 bga_7
  have hB8 : Hid (Below w.heap.size w m1) := hB7.out.trans ((hom1).below hB7.out.size (fun x hx => by have := rg_x5t.out x hx; omega))
  have sz8 := (hom1).2.2.2.1
  clear z7_bA_0 z7_bA_1 z7_bH_0 z7_bH_1 z7_bwa_0 z7_bwa_1 z7_bX5_0 z7_bX5_1 z7_bga_0 z7_bga_1
  have z8_bA_0 := bA_8.out.cell 0 rfl
  have z8_bA_1 := bA_8.out.cell 1 rfl
  have z8_bH_0 := bH_8.out.cell 0 rfl
  have z8_bH_1 := bH_8.out.cell 1 rfl
  have z8_bwa_0 := bwa_8.out.cell 0 rfl
  have z8_bwa_1 := bwa_8.out.cell 1 rfl
  have z8_bX5_0 := bX5_8.out.cell 0 rfl
  have z8_bX5_1 := bX5_8.out.cell 1 rfl
  have z8_bga_0 := bga_8.out.cell 0 rfl
  have z8_bga_1 := bga_8.out.cell 1 rfl
  clear hom1
  generalize hK1 : (1 : Int) + (cntL cntSlot x.vSlots : Nat) + (cntL cntI x.vFree : Nat) = K1
  have hK1b : 0 ≤ K1 := by omega
  clear hK1
  clear bX5_8 z8_bX5_0 z8_bX5_1
  have hKn : decide (K1 < 0) = false := by simp; omega
  go_wp2_with fail
  refine (eqArena_any (lo := 0) (lo2 := 0) (ArenaOwn_at (lo := 0) _ _ _ _ ga_8.out (fun _ _ => Nat.zero_le _)) (ArenaOwn_at (lo := 0) _ _ _ _ wa_8.out (fun _ _ => Nat.zero_le _))).mono ?_
  rintro e m4 ⟨rfl, hbm4⟩
  have bA_9 : Hid (Box m4 w.heap.size [.slice a0 x.vSlots.length c0, .slice a1 x.vFree.length c1] 25) := bA_8.out.below hbm4 bA_8.out.lt
  have bH_9 : Hid (Box m4 (w.heap.size + 1) [.int .i64 y.vAt, .int .i64 y.vGen] 44) := bH_8.out.below hbm4 bH_8.out.lt
  have wa_9 : Hid (ArenaOwn m4 [.slice pwa td.vSlots.length dwa, .slice qwa td.vFree.length ewa] td fwa) := ArenaOwn_stays _ _ _ _ _ (fun x hx => (hbm4).block x (ArenaOwn_lt _ _ _ _ wa_8.out x hx)) wa_8.out
  have bwa_9 : Hid (Box m4 gzwa [.slice pwa td.vSlots.length dwa, .slice qwa td.vFree.length ewa] 30) := bwa_8.out.below hbm4 bwa_8.out.lt
  have ga_9 : Hid (ArenaOwn m4 [.slice pga td.vSlots.length dga, .slice qga td.vFree.length ega] td fga) := ArenaOwn_stays _ _ _ _ _ (fun x hx => (hbm4).block x (ArenaOwn_lt _ _ _ _ ga_8.out x hx)) ga_8.out
  have bga_9 : Hid (Box m4 gzga [.slice pga td.vSlots.length dga, .slice qga td.vFree.length ega] 30) := bga_8.out.below hbm4 bga_8.out.lt
  clear bA_8 bH_8 wa_8 bwa_8 ga_8 bga_8
  have hB9 : Hid (Below w.heap.size w m4) := hB8.out.trans ((hbm4).mono hB8.out.size)
  have sz9 := (hbm4).size
  clear z8_bA_0 z8_bA_1 z8_bH_0 z8_bH_1 z8_bwa_0 z8_bwa_1 z8_bga_0 z8_bga_1
  have z9_bA_0 := bA_9.out.cell 0 rfl
  have z9_bA_1 := bA_9.out.cell 1 rfl
  have z9_bH_0 := bH_9.out.cell 0 rfl
  have z9_bH_1 := bH_9.out.cell 1 rfl
  have z9_bwa_0 := bwa_9.out.cell 0 rfl
  have z9_bwa_1 := bwa_9.out.cell 1 rfl
  have z9_bga_0 := bga_9.out.cell 0 rfl
  have z9_bga_1 := bga_9.out.cell 1 rfl
  clear hbm4
  go_wp2_with fail
  refine (markArena_any ga_9.out ndgah.out (by omega) hYC.out).mono ?_
  rintro e m5 ⟨rfl, ownM, hom5⟩
  have bA_10 : Hid (Box m5 w.heap.size [.slice a0 x.vSlots.length c0, .slice a1 x.vFree.length c1] 25) := ((hom5).keep bA_9.out.lt (fun q => by have := rg_ga.out _ q; omega)).trans bA_9.out
  have bH_10 : Hid (Box m5 (w.heap.size + 1) [.int .i64 y.vAt, .int .i64 y.vGen] 44) := ((hom5).keep bH_9.out.lt (fun q => by have := rg_ga.out _ q; omega)).trans bH_9.out
  have wa_10 : Hid (ArenaOwn m5 [.slice pwa td.vSlots.length dwa, .slice qwa td.vFree.length ewa] td fwa) := ArenaOwn_stays _ _ _ _ _ (fun x hx => (hom5).keep (ArenaOwn_lt _ _ _ _ wa_9.out x hx) (fun q => by have := rg_ga.out _ q; have := rg_wa.out _ hx; omega)) wa_9.out
  have bwa_10 : Hid (Box m5 gzwa [.slice pwa td.vSlots.length dwa, .slice qwa td.vFree.length ewa] 30) := ((hom5).keep bwa_9.out.lt (fun q => by have := rg_ga.out _ q; omega)).trans bwa_9.out
  have bga_10 : Hid (Box m5 gzga [.slice pga td.vSlots.length dga, .slice qga td.vFree.length ega] 30) := ((hom5).keep bga_9.out.lt (fun q => by have := rg_ga.out _ q; omega)).trans bga_9.out
  clear bA_9 bH_9 wa_9 bwa_9 ga_9 bga_9
  have hB10 : Hid (Below w.heap.size w m5) := hB9.out.trans ((hom5).below hB9.out.size (fun x hx => by have := rg_ga.out x hx; omega))
  have sz10 := (hom5).2.2.2.1
  clear z9_bA_0 z9_bA_1 z9_bH_0 z9_bH_1 z9_bwa_0 z9_bwa_1 z9_bga_0 z9_bga_1
  have z10_bA_0 := bA_10.out.cell 0 rfl
  have z10_bA_1 := bA_10.out.cell 1 rfl
  have z10_bH_0 := bH_10.out.cell 0 rfl
  have z10_bH_1 := bH_10.out.cell 1 rfl
  have z10_bwa_0 := bwa_10.out.cell 0 rfl
  have z10_bwa_1 := bwa_10.out.cell 1 rfl
  have z10_bga_0 := bga_10.out.cell 0 rfl
  have z10_bga_1 := bga_10.out.cell 1 rfl
  have ga_10 : Hid (ArenaOwn m5 [.slice pga td.vSlots.length dga, .slice qga td.vFree.length ega] (mkTArena td 1) fga) := ownM
  clear ownM hom5
  generalize hCI : (1 : Int) + (cntL cntSlot td.vSlots : Nat) + (cntL cntI td.vFree : Nat) = M at *
  have hCI' : Hid ((1 : Int) + (cntL cntSlot td.vSlots : Nat) + (cntL cntI td.vFree : Nat) = M) := hCI
  clear hCI
  have hM0 : 0 ≤ M := by have := hCI'.out; omega
  have hM1 : decide (M < 0) = false := by simp; omega
  go_wp2_with fail
  refine (heldArena_any (lo := 0) (m := 1) (x := td) (ArenaOwn_at (lo := 0) _ _ _ _ ga_10.out (fun _ _ => Nat.zero_le _)) (by omega) (by rw [hCI'.out]; exact hYC.out)).mono ?_
  rintro e m6 ⟨rfl, hbm6⟩
  rw [hCI'.out]
  have bA_11 : Hid (Box m6 w.heap.size [.slice a0 x.vSlots.length c0, .slice a1 x.vFree.length c1] 25) := bA_10.out.below hbm6 bA_10.out.lt
  have bH_11 : Hid (Box m6 (w.heap.size + 1) [.int .i64 y.vAt, .int .i64 y.vGen] 44) := bH_10.out.below hbm6 bH_10.out.lt
  have wa_11 : Hid (ArenaOwn m6 [.slice pwa td.vSlots.length dwa, .slice qwa td.vFree.length ewa] td fwa) := ArenaOwn_stays _ _ _ _ _ (fun x hx => (hbm6).block x (ArenaOwn_lt _ _ _ _ wa_10.out x hx)) wa_10.out
  have bwa_11 : Hid (Box m6 gzwa [.slice pwa td.vSlots.length dwa, .slice qwa td.vFree.length ewa] 30) := bwa_10.out.below hbm6 bwa_10.out.lt
  have ga_11 : Hid (ArenaOwn m6 [.slice pga td.vSlots.length dga, .slice qga td.vFree.length ega] (mkTArena td 1) fga) := ArenaOwn_stays _ _ _ _ _ (fun x hx => (hbm6).block x (ArenaOwn_lt _ _ _ _ ga_10.out x hx)) ga_10.out
  have bga_11 : Hid (Box m6 gzga [.slice pga td.vSlots.length dga, .slice qga td.vFree.length ega] 30) := bga_10.out.below hbm6 bga_10.out.lt
  clear bA_10 bH_10 wa_10 bwa_10 ga_10 bga_10
  have hB11 : Hid (Below w.heap.size w m6) := hB10.out.trans ((hbm6).mono hB10.out.size)
  have sz11 := (hbm6).size
  clear z10_bA_0 z10_bA_1 z10_bH_0 z10_bH_1 z10_bwa_0 z10_bwa_1 z10_bga_0 z10_bga_1
  have z11_bA_0 := bA_11.out.cell 0 rfl
  have z11_bA_1 := bA_11.out.cell 1 rfl
  have z11_bH_0 := bH_11.out.cell 0 rfl
  have z11_bH_1 := bH_11.out.cell 1 rfl
  have z11_bwa_0 := bwa_11.out.cell 0 rfl
  have z11_bwa_1 := bwa_11.out.cell 1 rfl
  have z11_bga_0 := bga_11.out.cell 0 rfl
  have z11_bga_1 := bga_11.out.cell 1 rfl
  clear hbm6
  go_upto_region 24 with fail
  go_cut [14, 15] (fun sP sB wx => ∃ (gz : Nat) (_fz : List Nat) (pW : Option Addr) (dW : Nat) (qW : Option Addr) (eW : Nat), sP = .pointer (some ⟨gz, 0, none⟩) ∧ sB = .bool bb ∧ Hid (Below m6.heap.size m6 wx) ∧ Hid (Box wx gz [.slice pW td.vSlots.length dW, .slice qW td.vFree.length eW] 30) ∧ m6.heap.size ≤ gz ∧ Hid (∃ fz, ArenaOwn wx [.slice pW td.vSlots.length dW, .slice qW td.vFree.length eW] td fz ∧ fz.Nodup ∧ ∀ b ∈ fz, m6.heap.size ≤ b ∧ b ≠ gz))
  case first =>
    have lA_ := bH_11.out.lt
    have kp0 : Hid (Below m6.heap.size m6 m6.drew) := (Below.refl _ _).drew
    refine wp_region_held_drew (S := fun w' => w'.cell? ⟨w.heap.size, 0, none⟩ = some (.slice a0 x.vSlots.length c0) ∧ w'.cell? ⟨w.heap.size, 1, none⟩ = some (.slice a1 x.vFree.length c1) ∧ w'.cell? ⟨w.heap.size + 1, 0, none⟩ = some (.int .i64 y.vAt) ∧ w'.cell? ⟨w.heap.size + 1, 1, none⟩ = some (.int .i64 y.vGen)) (by kernel_rfl) ⟨bA_11.out.cell 0 rfl, bA_11.out.cell 1 rfl, bH_11.out.cell 0 rfl, bH_11.out.cell 1 rfl⟩ (fun hHeld => ?_)
    refine take_lit (i := 0) (d := 80) (v := ?_) rfl rfl (by kernel_rfl) (by kernel_rfl) (by kernel_rfl) (fun _ _ _ h => h) (Or.inl ⟨by rfl, ?_⟩) (by assumption) ?_
    rotate_left
    · (intro w hSw; (try dsimp only at hSw); first | (go_simp; done) | (go_simp; with_reducible rfl))
    simp only [List.set_cons_zero, List.set_cons_succ]
    refine take_lit (i := 2) (d := 82) (v := ?_) rfl rfl (by kernel_rfl) (by kernel_rfl) (by kernel_rfl) (fun _ _ _ h => h) (Or.inl ⟨by rfl, ?_⟩) (by assumption) ?_
    rotate_left
    · (intro w hSw; (try dsimp only at hSw); first | (go_simp; done) | (go_simp; with_reducible rfl))
    simp only [List.set_cons_zero, List.set_cons_succ]
    refine wpAnyH_ready (rs := [1, 8]) (by kernel_rfl) (by simp) ?_
    refine (AllReadyH.cons rfl (fun K hK => ?_) (AllReadyH.cons rfl (fun K hK => ?_) AllReadyH.nil))
    · go_simp
      refine (toArena_any (by exact ArenaAt_stays _ _ _ 0 _ _ (.of_below (Below.trans hB11.out (Below.mono kp0.out hB11.out.size))) hx0.out) hsm.out).mono ?_
      rintro e vha1 ⟨⟨csA, rfl, htA⟩, hbc1⟩
      have kp1 : Hid (Below m6.heap.size m6 vha1) := kp0.out.trans (Below.mono (hbc1) kp0.out.size)
      have at1 : Hid (ArenaAt vha1 0 csA x) := htA.low
      refine hK.out _ _ ⟨cell_on hbc1 hHeld.1, cell_on hbc1 hHeld.2.1, cell_on hbc1 hHeld.2.2.1, cell_on hbc1 hHeld.2.2.2⟩ (fun hHeld => ?_)
      clear hK K
      refine wpAnyH_ready (rs := [3, 8]) (by kernel_rfl) (by simp) ?_
      refine (AllReadyH.cons rfl (fun K hK => ?_) (AllReadyH.cons rfl (fun K hK => ?_) AllReadyH.nil))
      · go_simp
        refine (toHandle_any (by exact HandleAt_stays _ _ _ 0 _ _ (.of_below (Below.trans hB11.out (Below.mono kp1.out hB11.out.size))) hy0.out)).mono ?_
        rintro e vha2 ⟨⟨csH, rfl, htH⟩, hbc2⟩
        obtain ⟨rfl, _⟩ := htH
        have kp2 : Hid (Below m6.heap.size m6 vha2) := kp1.out.trans (Below.mono (hbc2) kp1.out.size)
        have at2 : Hid (ArenaAt vha2 0 csA x) := ArenaAt_stays _ _ _ 0 _ _ (.of_below (hbc2)) at1.out
        refine hK.out _ _ ⟨cell_on hbc2 hHeld.1, cell_on hbc2 hHeld.2.1, cell_on hbc2 hHeld.2.2.1, cell_on hbc2 hHeld.2.2.2⟩ (fun hHeld => ?_)
        clear hK K
        refine wpAnyH_ready (rs := [4, 8]) (by kernel_rfl) (by simp) ?_
        refine (AllReadyH.cons rfl (fun K hK => ?_) (AllReadyH.cons rfl (fun K hK => ?_) AllReadyH.nil))
        · go_simp
          refine (implReleased_any (by exact at2.out)).mono ?_
          rintro e vha3 ⟨⟨csW, rfl, hansW⟩, hbc3⟩
          rw [hYS'.out] at hansW ⊢
          dsimp only at hansW ⊢
          obtain ⟨fW, hoW0, hndW0, hlW0⟩ := hansW
          have hlW : Hid (∀ b ∈ fW, m6.heap.size ≤ b) := fun b m => Nat.le_trans kp2.out.size (hlW0 b m)
          have hndW : Hid (fW.Nodup) := hndW0
          have anW0 : Hid (ArenaOwn vha3 csW td fW) := hoW0
          obtain ⟨_, _, _, _, rfl, ss, st, _⟩ := hoW0
          obtain ⟨pW, dW, rfl⟩ := ss.form
          obtain ⟨qW, eW, rfl⟩ := st.form
          have anW : Hid (ArenaOwn vha3 [.slice pW td.vSlots.length dW, .slice qW td.vFree.length eW] td fW) := anW0.out
          clear ss st anW0 hlW0 hndW0
          have kp3 : Hid (Below m6.heap.size m6 vha3) := kp2.out.trans (Below.mono (hbc3) kp2.out.size)
          have at3 : Hid (ArenaAt vha3 0 csA x) := ArenaAt_stays _ _ _ 0 _ _ (.of_below (hbc3)) at2.out
          refine hK.out _ _ ⟨cell_on hbc3 hHeld.1, cell_on hbc3 hHeld.2.1, cell_on hbc3 hHeld.2.2.1, cell_on hbc3 hHeld.2.2.2⟩ (fun hHeld => ?_)
          clear hK K
          refine take_lit (i := 5) (d := 79) (v := ?_) rfl rfl (by kernel_rfl) (by kernel_rfl) (by kernel_rfl) (fun _ _ _ h => h) (Or.inl ⟨by rfl, ?_⟩) (by assumption) ?_
          rotate_left
          · (intro w hSw; (try dsimp only at hSw); first | (go_simp; done) | (go_simp; with_reducible rfl))
          simp only [List.set_cons_zero, List.set_cons_succ]
          refine take_lit (i := 6) (d := 85) (v := ?_) rfl rfl (by kernel_rfl) (by kernel_rfl) (by kernel_rfl) (fun _ _ _ h => h) (Or.inl ⟨by rfl, ?_⟩) (by assumption) ?_
          rotate_left
          · (intro w hSw; (try dsimp only at hSw); first | (go_simp; done) | (go_simp; with_reducible rfl))
          simp only [List.set_cons_zero, List.set_cons_succ]
          refine take_lit (i := 7) (d := 86) (v := ?_) rfl rfl (by kernel_rfl) (by kernel_rfl) (by kernel_rfl) (fun _ _ _ h => h) (Or.inl ⟨by rfl, ?_⟩) (by assumption) ?_
          rotate_left
          · (intro w hSw; (try dsimp only at hSw); first | (go_simp; done) | (go_simp; with_reducible rfl))
          simp only [List.set_cons_zero, List.set_cons_succ]
          refine wpAnyH_ready (rs := [8]) (by kernel_rfl) (by simp) ?_
          refine AllReadyH.cons rfl (fun K hK => ?_) AllReadyH.nil
          go_simp
          have kp4 : Hid (Below m6.heap.size m6 (World.alloc vha3 (.cells (List.toArray [.slice none 0 0, .slice none 0 0]) 30))) := kp3.out.trans (Below.mono ((Below.refl (World.heap vha3).size vha3).alloc (Nat.le_refl _) _) kp3.out.size)
          have at4 : Hid (ArenaAt (World.alloc vha3 (.cells (List.toArray [.slice none 0 0, .slice none 0 0]) 30)) 0 csA x) := ArenaAt_stays _ _ _ 0 _ _ (.of_below ((Below.refl (World.heap vha3).size vha3).alloc (Nat.le_refl _) _)) at3.out
          have an4 : Hid (ArenaOwn (World.alloc vha3 (.cells (List.toArray [.slice none 0 0, .slice none 0 0]) 30)) [.slice pW td.vSlots.length dW, .slice qW td.vFree.length eW] td fW) := ArenaOwn_stays _ _ _ _ _ (fun b m => Below.block ((Below.refl (World.heap vha3).size vha3).alloc (Nat.le_refl _) _) b (ArenaOwn_lt _ _ _ _ anW.out b m)) anW.out
          have bz4 : Hid (Box (World.alloc vha3 (.cells (List.toArray [.slice none 0 0, .slice none 0 0]) 30)) (World.heap vha3).size [.slice none 0 0, .slice none 0 0] 30) := Box.new vha3 _ _
          have gz4 : m6.heap.size ≤ (World.heap vha3).size := kp3.out.size
          have nzW : Hid (∀ b ∈ fW, b ≠ (World.heap vha3).size) := fun b m e => Nat.lt_irrefl _ (e ▸ ArenaOwn_lt _ _ _ _ anW.out b m)
          refine hK.out _ _ ⟨cell_alloc hHeld.1 _, cell_alloc hHeld.2.1 _, cell_alloc hHeld.2.2.1 _, cell_alloc hHeld.2.2.2 _⟩ (fun hHeld => ?_)
          clear hK K
          refine wpAnyH_ready (rs := [9]) (by kernel_rfl) (by simp) ?_
          refine AllReadyH.cons rfl (fun K hK => ?_) AllReadyH.nil
          have hgz : m6.heap.size ≤ (World.heap vha3).size := gz4
          have lp_ : m6.heap.size ≤ (World.heap vha3).size := kp3.out.size
          go_simp
          refine hK.out _ _ ⟨cell_realloc hHeld.1 (by omega), cell_realloc hHeld.2.1 (by omega), cell_realloc hHeld.2.2.1 (by omega), cell_realloc hHeld.2.2.2 (by omega)⟩ (fun hHeld => ?_)
          clear hK K
          refine take_lit (i := 10) (d := 15) (v := ?_) rfl rfl (by kernel_rfl) (by kernel_rfl) (by kernel_rfl) (fun _ _ _ h => h) (Or.inl ⟨by rfl, ?_⟩) (by assumption) ?_
          rotate_left
          · (intro w hSw; (try dsimp only at hSw); first | (go_simp; done) | (go_simp; with_reducible rfl))
          simp only [List.set_cons_zero, List.set_cons_succ]
          refine wpAnyH_done (by kernel_rfl) ?_ _
          have bF : Hid (Box (World.alloc vha3 (.cells (List.toArray [.slice pW td.vSlots.length dW, .slice qW td.vFree.length eW]) 30)) ((World.heap vha3).size) [.slice pW td.vSlots.length dW, .slice qW td.vFree.length eW] 30) := Box.new vha3 _ _
          have kF : Hid (Below m6.heap.size m6 (World.alloc vha3 (.cells (List.toArray [.slice pW td.vSlots.length dW, .slice qW td.vFree.length eW]) 30))) := kp3.out.alloc lp_ _
          have aF : Hid (∃ fz, ArenaOwn (World.alloc vha3 (.cells (List.toArray [.slice pW td.vSlots.length dW, .slice qW td.vFree.length eW]) 30)) [.slice pW td.vSlots.length dW, .slice qW td.vFree.length eW] td fz ∧ fz.Nodup ∧ ∀ b ∈ fz, m6.heap.size ≤ b ∧ b ≠ (World.heap vha3).size) := ⟨fW, ArenaOwn_stays _ _ _ _ _ (fun b m => Below.heap_alloc _ _ _ (ArenaOwn_lt _ _ _ _ anW.out b m)) anW.out, hndW.out, fun b m => ⟨hlW.out b m, nzW.out b m⟩⟩
          go_wp2_with fail
          go_meet
          exact ⟨_, [], pW, dW, qW, eW, rfl, rfl, kF, bF, hgz, aF⟩
        · go_simp
          have kp3 : Hid (Below m6.heap.size m6 (World.alloc vha2 (.cells (List.toArray [.slice none 0 0, .slice none 0 0]) 30))) := kp2.out.trans (Below.mono ((Below.refl (World.heap vha2).size vha2).alloc (Nat.le_refl _) _) kp2.out.size)
          have at3 : Hid (ArenaAt (World.alloc vha2 (.cells (List.toArray [.slice none 0 0, .slice none 0 0]) 30)) 0 csA x) := ArenaAt_stays _ _ _ 0 _ _ (.of_below ((Below.refl (World.heap vha2).size vha2).alloc (Nat.le_refl _) _)) at2.out
          have bz3 : Hid (Box (World.alloc vha2 (.cells (List.toArray [.slice none 0 0, .slice none 0 0]) 30)) (World.heap vha2).size [.slice none 0 0, .slice none 0 0] 30) := Box.new vha2 _ _
          have gz3 : m6.heap.size ≤ (World.heap vha2).size := kp2.out.size
          refine hK.out _ _ ⟨cell_alloc hHeld.1 _, cell_alloc hHeld.2.1 _, cell_alloc hHeld.2.2.1 _, cell_alloc hHeld.2.2.2 _⟩ (fun hHeld => ?_)
          clear hK K
          refine wpAnyH_ready (rs := [4]) (by kernel_rfl) (by simp) ?_
          refine AllReadyH.cons rfl (fun K hK => ?_) AllReadyH.nil
          go_simp
          refine (implReleased_any (by exact at3.out)).mono ?_
          rintro e vha4 ⟨⟨csW, rfl, hansW⟩, hbc4⟩
          rw [hYS'.out] at hansW ⊢
          dsimp only at hansW ⊢
          obtain ⟨fW, hoW0, hndW0, hlW0⟩ := hansW
          have hlW : Hid (∀ b ∈ fW, m6.heap.size ≤ b) := fun b m => Nat.le_trans kp3.out.size (hlW0 b m)
          have hndW : Hid (fW.Nodup) := hndW0
          have nzW : Hid (∀ b ∈ fW, b ≠ (World.heap vha2).size) := fun b m e => Nat.lt_irrefl _ (Nat.lt_of_lt_of_le (Box.lt bz3.out) (e ▸ hlW0 b m))
          have anW0 : Hid (ArenaOwn vha4 csW td fW) := hoW0
          obtain ⟨_, _, _, _, rfl, ss, st, _⟩ := hoW0
          obtain ⟨pW, dW, rfl⟩ := ss.form
          obtain ⟨qW, eW, rfl⟩ := st.form
          have anW : Hid (ArenaOwn vha4 [.slice pW td.vSlots.length dW, .slice qW td.vFree.length eW] td fW) := anW0.out
          clear ss st anW0 hlW0 hndW0
          have kp4 : Hid (Below m6.heap.size m6 vha4) := kp3.out.trans (Below.mono (hbc4) kp3.out.size)
          have bz4 : Hid (Box vha4 (World.heap vha2).size [.slice none 0 0, .slice none 0 0] 30) := Box.below bz3.out (hbc4) bz3.out.lt
          have at4 : Hid (ArenaAt vha4 0 csA x) := ArenaAt_stays _ _ _ 0 _ _ (.of_below (hbc4)) at3.out
          refine hK.out _ _ ⟨cell_on hbc4 hHeld.1, cell_on hbc4 hHeld.2.1, cell_on hbc4 hHeld.2.2.1, cell_on hbc4 hHeld.2.2.2⟩ (fun hHeld => ?_)
          clear hK K
          refine take_lit (i := 5) (d := 79) (v := ?_) rfl rfl (by kernel_rfl) (by kernel_rfl) (by kernel_rfl) (fun _ _ _ h => h) (Or.inl ⟨by rfl, ?_⟩) (by assumption) ?_
          rotate_left
          · (intro w hSw; (try dsimp only at hSw); first | (go_simp; done) | (go_simp; with_reducible rfl))
          simp only [List.set_cons_zero, List.set_cons_succ]
          refine take_lit (i := 6) (d := 85) (v := ?_) rfl rfl (by kernel_rfl) (by kernel_rfl) (by kernel_rfl) (fun _ _ _ h => h) (Or.inl ⟨by rfl, ?_⟩) (by assumption) ?_
          rotate_left
          · (intro w hSw; (try dsimp only at hSw); first | (go_simp; done) | (go_simp; with_reducible rfl))
          simp only [List.set_cons_zero, List.set_cons_succ]
          refine take_lit (i := 7) (d := 86) (v := ?_) rfl rfl (by kernel_rfl) (by kernel_rfl) (by kernel_rfl) (fun _ _ _ h => h) (Or.inl ⟨by rfl, ?_⟩) (by assumption) ?_
          rotate_left
          · (intro w hSw; (try dsimp only at hSw); first | (go_simp; done) | (go_simp; with_reducible rfl))
          simp only [List.set_cons_zero, List.set_cons_succ]
          refine wpAnyH_ready (rs := [9]) (by kernel_rfl) (by simp) ?_
          refine AllReadyH.cons rfl (fun K hK => ?_) AllReadyH.nil
          have hgz : m6.heap.size ≤ (World.heap vha2).size := gz3
          have u0_ := bz4.out.cell 0 rfl
          have u1_ := bz4.out.cell 1 rfl
          have u2_ := bz4.out.unfrozen
          go_simp
          refine hK.out _ _ ⟨cell_set (T := (World.heap vha2).size) (cell_set (T := (World.heap vha2).size) hHeld.1 (by omega) _) (by omega) _, cell_set (T := (World.heap vha2).size) (cell_set (T := (World.heap vha2).size) hHeld.2.1 (by omega) _) (by omega) _, cell_set (T := (World.heap vha2).size) (cell_set (T := (World.heap vha2).size) hHeld.2.2.1 (by omega) _) (by omega) _, cell_set (T := (World.heap vha2).size) (cell_set (T := (World.heap vha2).size) hHeld.2.2.2 (by omega) _) (by omega) _⟩ (fun hHeld => ?_)
          clear hK K
          refine take_lit (i := 10) (d := 15) (v := ?_) rfl rfl (by kernel_rfl) (by kernel_rfl) (by kernel_rfl) (fun _ _ _ h => h) (Or.inl ⟨by rfl, ?_⟩) (by assumption) ?_
          rotate_left
          · (intro w hSw; (try dsimp only at hSw); first | (go_simp; done) | (go_simp; with_reducible rfl))
          simp only [List.set_cons_zero, List.set_cons_succ]
          refine wpAnyH_done (by kernel_rfl) ?_ _
          have bF : Hid (Box (putCells vha4 ((World.heap vha2).size) 0 [.slice pW td.vSlots.length dW, .slice qW td.vFree.length eW]) ((World.heap vha2).size) [.slice pW td.vSlots.length dW, .slice qW td.vFree.length eW] 30) := (bz4.out.set _).set _
          have kF : Hid (Below m6.heap.size m6 (putCells vha4 ((World.heap vha2).size) 0 [.slice pW td.vSlots.length dW, .slice qW td.vFree.length eW])) := putCells_below _ _ _ _ _ _ hgz kp4.out
          have aF : Hid (∃ fz, ArenaOwn (putCells vha4 ((World.heap vha2).size) 0 [.slice pW td.vSlots.length dW, .slice qW td.vFree.length eW]) [.slice pW td.vSlots.length dW, .slice qW td.vFree.length eW] td fz ∧ fz.Nodup ∧ ∀ b ∈ fz, m6.heap.size ≤ b ∧ b ≠ (World.heap vha2).size) := ⟨fW, ArenaOwn_stays _ _ _ _ _ (fun b m => putCells_other _ _ _ _ _ (nzW.out b m)) anW.out, hndW.out, fun b m => ⟨hlW.out b m, nzW.out b m⟩⟩
          go_wp2_with fail
          go_meet
          exact ⟨_, [], pW, dW, qW, eW, rfl, rfl, kF, bF, hgz, aF⟩
      · go_simp
        have kp2 : Hid (Below m6.heap.size m6 (World.alloc vha1 (.cells (List.toArray [.slice none 0 0, .slice none 0 0]) 30))) := kp1.out.trans (Below.mono ((Below.refl (World.heap vha1).size vha1).alloc (Nat.le_refl _) _) kp1.out.size)
        have at2 : Hid (ArenaAt (World.alloc vha1 (.cells (List.toArray [.slice none 0 0, .slice none 0 0]) 30)) 0 csA x) := ArenaAt_stays _ _ _ 0 _ _ (.of_below ((Below.refl (World.heap vha1).size vha1).alloc (Nat.le_refl _) _)) at1.out
        have bz2 : Hid (Box (World.alloc vha1 (.cells (List.toArray [.slice none 0 0, .slice none 0 0]) 30)) (World.heap vha1).size [.slice none 0 0, .slice none 0 0] 30) := Box.new vha1 _ _
        have gz2 : m6.heap.size ≤ (World.heap vha1).size := kp1.out.size
        refine hK.out _ _ ⟨cell_alloc hHeld.1 _, cell_alloc hHeld.2.1 _, cell_alloc hHeld.2.2.1 _, cell_alloc hHeld.2.2.2 _⟩ (fun hHeld => ?_)
        clear hK K
        refine wpAnyH_ready (rs := [3]) (by kernel_rfl) (by simp) ?_
        refine AllReadyH.cons rfl (fun K hK => ?_) AllReadyH.nil
        go_simp
        refine (toHandle_any (by exact HandleAt_stays _ _ _ 0 _ _ (.of_below (Below.trans hB11.out (Below.mono kp2.out hB11.out.size))) hy0.out)).mono ?_
        rintro e vha3 ⟨⟨csH, rfl, htH⟩, hbc3⟩
        obtain ⟨rfl, _⟩ := htH
        have kp3 : Hid (Below m6.heap.size m6 vha3) := kp2.out.trans (Below.mono (hbc3) kp2.out.size)
        have bz3 : Hid (Box vha3 (World.heap vha1).size [.slice none 0 0, .slice none 0 0] 30) := Box.below bz2.out (hbc3) bz2.out.lt
        have at3 : Hid (ArenaAt vha3 0 csA x) := ArenaAt_stays _ _ _ 0 _ _ (.of_below (hbc3)) at2.out
        refine hK.out _ _ ⟨cell_on hbc3 hHeld.1, cell_on hbc3 hHeld.2.1, cell_on hbc3 hHeld.2.2.1, cell_on hbc3 hHeld.2.2.2⟩ (fun hHeld => ?_)
        clear hK K
        refine wpAnyH_ready (rs := [4]) (by kernel_rfl) (by simp) ?_
        refine AllReadyH.cons rfl (fun K hK => ?_) AllReadyH.nil
        go_simp
        refine (implReleased_any (by exact at3.out)).mono ?_
        rintro e vha4 ⟨⟨csW, rfl, hansW⟩, hbc4⟩
        rw [hYS'.out] at hansW ⊢
        dsimp only at hansW ⊢
        obtain ⟨fW, hoW0, hndW0, hlW0⟩ := hansW
        have hlW : Hid (∀ b ∈ fW, m6.heap.size ≤ b) := fun b m => Nat.le_trans kp3.out.size (hlW0 b m)
        have hndW : Hid (fW.Nodup) := hndW0
        have nzW : Hid (∀ b ∈ fW, b ≠ (World.heap vha1).size) := fun b m e => Nat.lt_irrefl _ (Nat.lt_of_lt_of_le (Box.lt bz3.out) (e ▸ hlW0 b m))
        have anW0 : Hid (ArenaOwn vha4 csW td fW) := hoW0
        obtain ⟨_, _, _, _, rfl, ss, st, _⟩ := hoW0
        obtain ⟨pW, dW, rfl⟩ := ss.form
        obtain ⟨qW, eW, rfl⟩ := st.form
        have anW : Hid (ArenaOwn vha4 [.slice pW td.vSlots.length dW, .slice qW td.vFree.length eW] td fW) := anW0.out
        clear ss st anW0 hlW0 hndW0
        have kp4 : Hid (Below m6.heap.size m6 vha4) := kp3.out.trans (Below.mono (hbc4) kp3.out.size)
        have bz4 : Hid (Box vha4 (World.heap vha1).size [.slice none 0 0, .slice none 0 0] 30) := Box.below bz3.out (hbc4) bz3.out.lt
        have at4 : Hid (ArenaAt vha4 0 csA x) := ArenaAt_stays _ _ _ 0 _ _ (.of_below (hbc4)) at3.out
        refine hK.out _ _ ⟨cell_on hbc4 hHeld.1, cell_on hbc4 hHeld.2.1, cell_on hbc4 hHeld.2.2.1, cell_on hbc4 hHeld.2.2.2⟩ (fun hHeld => ?_)
        clear hK K
        refine take_lit (i := 5) (d := 79) (v := ?_) rfl rfl (by kernel_rfl) (by kernel_rfl) (by kernel_rfl) (fun _ _ _ h => h) (Or.inl ⟨by rfl, ?_⟩) (by assumption) ?_
        rotate_left
        · (intro w hSw; (try dsimp only at hSw); first | (go_simp; done) | (go_simp; with_reducible rfl))
        simp only [List.set_cons_zero, List.set_cons_succ]
        refine take_lit (i := 6) (d := 85) (v := ?_) rfl rfl (by kernel_rfl) (by kernel_rfl) (by kernel_rfl) (fun _ _ _ h => h) (Or.inl ⟨by rfl, ?_⟩) (by assumption) ?_
        rotate_left
        · (intro w hSw; (try dsimp only at hSw); first | (go_simp; done) | (go_simp; with_reducible rfl))
        simp only [List.set_cons_zero, List.set_cons_succ]
        refine take_lit (i := 7) (d := 86) (v := ?_) rfl rfl (by kernel_rfl) (by kernel_rfl) (by kernel_rfl) (fun _ _ _ h => h) (Or.inl ⟨by rfl, ?_⟩) (by assumption) ?_
        rotate_left
        · (intro w hSw; (try dsimp only at hSw); first | (go_simp; done) | (go_simp; with_reducible rfl))
        simp only [List.set_cons_zero, List.set_cons_succ]
        refine wpAnyH_ready (rs := [9]) (by kernel_rfl) (by simp) ?_
        refine AllReadyH.cons rfl (fun K hK => ?_) AllReadyH.nil
        have hgz : m6.heap.size ≤ (World.heap vha1).size := gz2
        have u0_ := bz4.out.cell 0 rfl
        have u1_ := bz4.out.cell 1 rfl
        have u2_ := bz4.out.unfrozen
        go_simp
        refine hK.out _ _ ⟨cell_set (T := (World.heap vha1).size) (cell_set (T := (World.heap vha1).size) hHeld.1 (by omega) _) (by omega) _, cell_set (T := (World.heap vha1).size) (cell_set (T := (World.heap vha1).size) hHeld.2.1 (by omega) _) (by omega) _, cell_set (T := (World.heap vha1).size) (cell_set (T := (World.heap vha1).size) hHeld.2.2.1 (by omega) _) (by omega) _, cell_set (T := (World.heap vha1).size) (cell_set (T := (World.heap vha1).size) hHeld.2.2.2 (by omega) _) (by omega) _⟩ (fun hHeld => ?_)
        clear hK K
        refine take_lit (i := 10) (d := 15) (v := ?_) rfl rfl (by kernel_rfl) (by kernel_rfl) (by kernel_rfl) (fun _ _ _ h => h) (Or.inl ⟨by rfl, ?_⟩) (by assumption) ?_
        rotate_left
        · (intro w hSw; (try dsimp only at hSw); first | (go_simp; done) | (go_simp; with_reducible rfl))
        simp only [List.set_cons_zero, List.set_cons_succ]
        refine wpAnyH_done (by kernel_rfl) ?_ _
        have bF : Hid (Box (putCells vha4 ((World.heap vha1).size) 0 [.slice pW td.vSlots.length dW, .slice qW td.vFree.length eW]) ((World.heap vha1).size) [.slice pW td.vSlots.length dW, .slice qW td.vFree.length eW] 30) := (bz4.out.set _).set _
        have kF : Hid (Below m6.heap.size m6 (putCells vha4 ((World.heap vha1).size) 0 [.slice pW td.vSlots.length dW, .slice qW td.vFree.length eW])) := putCells_below _ _ _ _ _ _ hgz kp4.out
        have aF : Hid (∃ fz, ArenaOwn (putCells vha4 ((World.heap vha1).size) 0 [.slice pW td.vSlots.length dW, .slice qW td.vFree.length eW]) [.slice pW td.vSlots.length dW, .slice qW td.vFree.length eW] td fz ∧ fz.Nodup ∧ ∀ b ∈ fz, m6.heap.size ≤ b ∧ b ≠ (World.heap vha1).size) := ⟨fW, ArenaOwn_stays _ _ _ _ _ (fun b m => putCells_other _ _ _ _ _ (nzW.out b m)) anW.out, hndW.out, fun b m => ⟨hlW.out b m, nzW.out b m⟩⟩
        go_wp2_with fail
        go_meet
        exact ⟨_, [], pW, dW, qW, eW, rfl, rfl, kF, bF, hgz, aF⟩
    · go_simp
      have kp1 : Hid (Below m6.heap.size m6 (World.alloc m6.drew (.cells (List.toArray [.slice none 0 0, .slice none 0 0]) 30))) := kp0.out.trans (Below.mono ((Below.refl (World.heap m6.drew).size m6.drew).alloc (Nat.le_refl _) _) kp0.out.size)
      have bz1 : Hid (Box (World.alloc m6.drew (.cells (List.toArray [.slice none 0 0, .slice none 0 0]) 30)) m6.heap.size [.slice none 0 0, .slice none 0 0] 30) := Box.new m6.drew _ _
      have gz1 : m6.heap.size ≤ m6.heap.size := kp0.out.size
      refine hK.out _ _ ⟨cell_alloc hHeld.1 _, cell_alloc hHeld.2.1 _, cell_alloc hHeld.2.2.1 _, cell_alloc hHeld.2.2.2 _⟩ (fun hHeld => ?_)
      clear hK K
      refine wpAnyH_ready (rs := [1]) (by kernel_rfl) (by simp) ?_
      refine AllReadyH.cons rfl (fun K hK => ?_) AllReadyH.nil
      go_simp
      refine (toArena_any (by exact ArenaAt_stays _ _ _ 0 _ _ (.of_below (Below.trans hB11.out (Below.mono kp1.out hB11.out.size))) hx0.out) hsm.out).mono ?_
      rintro e vha2 ⟨⟨csA, rfl, htA⟩, hbc2⟩
      have kp2 : Hid (Below m6.heap.size m6 vha2) := kp1.out.trans (Below.mono (hbc2) kp1.out.size)
      have bz2 : Hid (Box vha2 m6.heap.size [.slice none 0 0, .slice none 0 0] 30) := Box.below bz1.out (hbc2) bz1.out.lt
      have at2 : Hid (ArenaAt vha2 0 csA x) := htA.low
      refine hK.out _ _ ⟨cell_on hbc2 hHeld.1, cell_on hbc2 hHeld.2.1, cell_on hbc2 hHeld.2.2.1, cell_on hbc2 hHeld.2.2.2⟩ (fun hHeld => ?_)
      clear hK K
      refine wpAnyH_ready (rs := [3]) (by kernel_rfl) (by simp) ?_
      refine AllReadyH.cons rfl (fun K hK => ?_) AllReadyH.nil
      go_simp
      refine (toHandle_any (by exact HandleAt_stays _ _ _ 0 _ _ (.of_below (Below.trans hB11.out (Below.mono kp2.out hB11.out.size))) hy0.out)).mono ?_
      rintro e vha3 ⟨⟨csH, rfl, htH⟩, hbc3⟩
      obtain ⟨rfl, _⟩ := htH
      have kp3 : Hid (Below m6.heap.size m6 vha3) := kp2.out.trans (Below.mono (hbc3) kp2.out.size)
      have bz3 : Hid (Box vha3 m6.heap.size [.slice none 0 0, .slice none 0 0] 30) := Box.below bz2.out (hbc3) bz2.out.lt
      have at3 : Hid (ArenaAt vha3 0 csA x) := ArenaAt_stays _ _ _ 0 _ _ (.of_below (hbc3)) at2.out
      refine hK.out _ _ ⟨cell_on hbc3 hHeld.1, cell_on hbc3 hHeld.2.1, cell_on hbc3 hHeld.2.2.1, cell_on hbc3 hHeld.2.2.2⟩ (fun hHeld => ?_)
      clear hK K
      refine wpAnyH_ready (rs := [4]) (by kernel_rfl) (by simp) ?_
      refine AllReadyH.cons rfl (fun K hK => ?_) AllReadyH.nil
      go_simp
      refine (implReleased_any (by exact at3.out)).mono ?_
      rintro e vha4 ⟨⟨csW, rfl, hansW⟩, hbc4⟩
      rw [hYS'.out] at hansW ⊢
      dsimp only at hansW ⊢
      obtain ⟨fW, hoW0, hndW0, hlW0⟩ := hansW
      have hlW : Hid (∀ b ∈ fW, m6.heap.size ≤ b) := fun b m => Nat.le_trans kp3.out.size (hlW0 b m)
      have hndW : Hid (fW.Nodup) := hndW0
      have nzW : Hid (∀ b ∈ fW, b ≠ m6.heap.size) := fun b m e => Nat.lt_irrefl _ (Nat.lt_of_lt_of_le (Box.lt bz3.out) (e ▸ hlW0 b m))
      have anW0 : Hid (ArenaOwn vha4 csW td fW) := hoW0
      obtain ⟨_, _, _, _, rfl, ss, st, _⟩ := hoW0
      obtain ⟨pW, dW, rfl⟩ := ss.form
      obtain ⟨qW, eW, rfl⟩ := st.form
      have anW : Hid (ArenaOwn vha4 [.slice pW td.vSlots.length dW, .slice qW td.vFree.length eW] td fW) := anW0.out
      clear ss st anW0 hlW0 hndW0
      have kp4 : Hid (Below m6.heap.size m6 vha4) := kp3.out.trans (Below.mono (hbc4) kp3.out.size)
      have bz4 : Hid (Box vha4 m6.heap.size [.slice none 0 0, .slice none 0 0] 30) := Box.below bz3.out (hbc4) bz3.out.lt
      have at4 : Hid (ArenaAt vha4 0 csA x) := ArenaAt_stays _ _ _ 0 _ _ (.of_below (hbc4)) at3.out
      refine hK.out _ _ ⟨cell_on hbc4 hHeld.1, cell_on hbc4 hHeld.2.1, cell_on hbc4 hHeld.2.2.1, cell_on hbc4 hHeld.2.2.2⟩ (fun hHeld => ?_)
      clear hK K
      refine take_lit (i := 5) (d := 79) (v := ?_) rfl rfl (by kernel_rfl) (by kernel_rfl) (by kernel_rfl) (fun _ _ _ h => h) (Or.inl ⟨by rfl, ?_⟩) (by assumption) ?_
      rotate_left
      · (intro w hSw; (try dsimp only at hSw); first | (go_simp; done) | (go_simp; with_reducible rfl))
      simp only [List.set_cons_zero, List.set_cons_succ]
      refine take_lit (i := 6) (d := 85) (v := ?_) rfl rfl (by kernel_rfl) (by kernel_rfl) (by kernel_rfl) (fun _ _ _ h => h) (Or.inl ⟨by rfl, ?_⟩) (by assumption) ?_
      rotate_left
      · (intro w hSw; (try dsimp only at hSw); first | (go_simp; done) | (go_simp; with_reducible rfl))
      simp only [List.set_cons_zero, List.set_cons_succ]
      refine take_lit (i := 7) (d := 86) (v := ?_) rfl rfl (by kernel_rfl) (by kernel_rfl) (by kernel_rfl) (fun _ _ _ h => h) (Or.inl ⟨by rfl, ?_⟩) (by assumption) ?_
      rotate_left
      · (intro w hSw; (try dsimp only at hSw); first | (go_simp; done) | (go_simp; with_reducible rfl))
      simp only [List.set_cons_zero, List.set_cons_succ]
      refine wpAnyH_ready (rs := [9]) (by kernel_rfl) (by simp) ?_
      refine AllReadyH.cons rfl (fun K hK => ?_) AllReadyH.nil
      have hgz : m6.heap.size ≤ m6.heap.size := gz1
      have u0_ := bz4.out.cell 0 rfl
      have u1_ := bz4.out.cell 1 rfl
      have u2_ := bz4.out.unfrozen
      go_simp
      refine hK.out _ _ ⟨cell_set (T := m6.heap.size) (cell_set (T := m6.heap.size) hHeld.1 (by omega) _) (by omega) _, cell_set (T := m6.heap.size) (cell_set (T := m6.heap.size) hHeld.2.1 (by omega) _) (by omega) _, cell_set (T := m6.heap.size) (cell_set (T := m6.heap.size) hHeld.2.2.1 (by omega) _) (by omega) _, cell_set (T := m6.heap.size) (cell_set (T := m6.heap.size) hHeld.2.2.2 (by omega) _) (by omega) _⟩ (fun hHeld => ?_)
      clear hK K
      refine take_lit (i := 10) (d := 15) (v := ?_) rfl rfl (by kernel_rfl) (by kernel_rfl) (by kernel_rfl) (fun _ _ _ h => h) (Or.inl ⟨by rfl, ?_⟩) (by assumption) ?_
      rotate_left
      · (intro w hSw; (try dsimp only at hSw); first | (go_simp; done) | (go_simp; with_reducible rfl))
      simp only [List.set_cons_zero, List.set_cons_succ]
      refine wpAnyH_done (by kernel_rfl) ?_ _
      have bF : Hid (Box (putCells vha4 (m6.heap.size) 0 [.slice pW td.vSlots.length dW, .slice qW td.vFree.length eW]) (m6.heap.size) [.slice pW td.vSlots.length dW, .slice qW td.vFree.length eW] 30) := (bz4.out.set _).set _
      have kF : Hid (Below m6.heap.size m6 (putCells vha4 (m6.heap.size) 0 [.slice pW td.vSlots.length dW, .slice qW td.vFree.length eW])) := putCells_below _ _ _ _ _ _ hgz kp4.out
      have aF : Hid (∃ fz, ArenaOwn (putCells vha4 (m6.heap.size) 0 [.slice pW td.vSlots.length dW, .slice qW td.vFree.length eW]) [.slice pW td.vSlots.length dW, .slice qW td.vFree.length eW] td fz ∧ fz.Nodup ∧ ∀ b ∈ fz, m6.heap.size ≤ b ∧ b ≠ m6.heap.size) := ⟨fW, ArenaOwn_stays _ _ _ _ _ (fun b m => putCells_other _ _ _ _ _ (nzW.out b m)) anW.out, hndW.out, fun b m => ⟨hlW.out b m, nzW.out b m⟩⟩
      go_wp2_with fail
      go_meet
      exact ⟨_, [], pW, dW, qW, eW, rfl, rfl, kF, bF, hgz, aF⟩
  case rest =>
  obtain ⟨gzha, _, pha, dha, qha, eha, rfl, rfl, hkha, hbxha, hglha, hFha⟩ := hcut
  obtain ⟨fha, ownha, ndha, lowha⟩ := hFha.out
  have rg_ha0 : Hid (∀ b ∈ fha, b < wc.heap.size) := ArenaOwn_lt _ _ _ _ ownha
  have ndhah : Hid (fha.Nodup) := ndha
  have lowha' : Hid (∀ b ∈ fha, m6.heap.size ≤ b ∧ b ≠ gzha) := lowha
  have hguha := hbxha.out.lt
  have ownsha : Hid (ArenaOwn wc [.slice pha td.vSlots.length dha, .slice qha td.vFree.length eha] td fha) := ownha
  clear ownha ndha lowha hFha
  have hkhao := hkha.out
  have bA_12 : Hid (Box wc w.heap.size [.slice a0 x.vSlots.length c0, .slice a1 x.vFree.length c1] 25) := bA_11.out.below hkhao bA_11.out.lt
  have bH_12 : Hid (Box wc (w.heap.size + 1) [.int .i64 y.vAt, .int .i64 y.vGen] 44) := bH_11.out.below hkhao bH_11.out.lt
  have wa_12 : Hid (ArenaOwn wc [.slice pwa td.vSlots.length dwa, .slice qwa td.vFree.length ewa] td fwa) := ArenaOwn_stays _ _ _ _ _ (fun x hx => (hkhao).block x (ArenaOwn_lt _ _ _ _ wa_11.out x hx)) wa_11.out
  have bwa_12 : Hid (Box wc gzwa [.slice pwa td.vSlots.length dwa, .slice qwa td.vFree.length ewa] 30) := bwa_11.out.below hkhao bwa_11.out.lt
  have ga_12 : Hid (ArenaOwn wc [.slice pga td.vSlots.length dga, .slice qga td.vFree.length ega] (mkTArena td 1) fga) := ArenaOwn_stays _ _ _ _ _ (fun x hx => (hkhao).block x (ArenaOwn_lt _ _ _ _ ga_11.out x hx)) ga_11.out
  have bga_12 : Hid (Box wc gzga [.slice pga td.vSlots.length dga, .slice qga td.vFree.length ega] 30) := bga_11.out.below hkhao bga_11.out.lt
  clear bA_11 bH_11 wa_11 bwa_11 ga_11 bga_11
  have hB12 : Hid (Below w.heap.size w wc) := hB11.out.trans ((hkhao).mono hB11.out.size)
  have sz12 := (hkhao).size
  clear z11_bA_0 z11_bA_1 z11_bH_0 z11_bH_1 z11_bwa_0 z11_bwa_1 z11_bga_0 z11_bga_1
  have z12_bA_0 := bA_12.out.cell 0 rfl
  have z12_bA_1 := bA_12.out.cell 1 rfl
  have z12_bH_0 := bH_12.out.cell 0 rfl
  have z12_bH_1 := bH_12.out.cell 1 rfl
  have z12_bwa_0 := bwa_12.out.cell 0 rfl
  have z12_bwa_1 := bwa_12.out.cell 1 rfl
  have z12_bga_0 := bga_12.out.cell 0 rfl
  have z12_bga_1 := bga_12.out.cell 1 rfl
  have ha_12 : Hid (ArenaOwn wc [.slice pha td.vSlots.length dha, .slice qha td.vFree.length eha] td fha) := ownsha
  have bha_12 : Hid (Box wc gzha [.slice pha td.vSlots.length dha, .slice qha td.vFree.length eha] 30) := hbxha
  have z12_bha_0 := bha_12.out.cell 0 rfl
  have z12_bha_1 := bha_12.out.cell 1 rfl
  have rg_ha : Hid (∀ b ∈ fha, m6.heap.size ≤ b ∧ b < wc.heap.size ∧ b ≠ gzha) := fun b q => ⟨(lowha'.out b q).1, rg_ha0.out b q, (lowha'.out b q).2⟩
  clear ownsha hbxha hkha hkhao
  skip
  go_wp2_with fail
  refine (eqArena_any (lo := 0) (lo2 := 0) (ArenaOwn_at (lo := 0) _ _ _ _ ha_12.out (fun _ _ => Nat.zero_le _)) (ArenaOwn_at (lo := 0) _ _ _ _ wa_12.out (fun _ _ => Nat.zero_le _))).mono ?_
  rintro e w11 ⟨rfl, hbw11⟩
  have bA_13 : Hid (Box w11 w.heap.size [.slice a0 x.vSlots.length c0, .slice a1 x.vFree.length c1] 25) := bA_12.out.below hbw11 bA_12.out.lt
  have bH_13 : Hid (Box w11 (w.heap.size + 1) [.int .i64 y.vAt, .int .i64 y.vGen] 44) := bH_12.out.below hbw11 bH_12.out.lt
  have wa_13 : Hid (ArenaOwn w11 [.slice pwa td.vSlots.length dwa, .slice qwa td.vFree.length ewa] td fwa) := ArenaOwn_stays _ _ _ _ _ (fun x hx => (hbw11).block x (ArenaOwn_lt _ _ _ _ wa_12.out x hx)) wa_12.out
  have bwa_13 : Hid (Box w11 gzwa [.slice pwa td.vSlots.length dwa, .slice qwa td.vFree.length ewa] 30) := bwa_12.out.below hbw11 bwa_12.out.lt
  have ga_13 : Hid (ArenaOwn w11 [.slice pga td.vSlots.length dga, .slice qga td.vFree.length ega] (mkTArena td 1) fga) := ArenaOwn_stays _ _ _ _ _ (fun x hx => (hbw11).block x (ArenaOwn_lt _ _ _ _ ga_12.out x hx)) ga_12.out
  have bga_13 : Hid (Box w11 gzga [.slice pga td.vSlots.length dga, .slice qga td.vFree.length ega] 30) := bga_12.out.below hbw11 bga_12.out.lt
  have ha_13 : Hid (ArenaOwn w11 [.slice pha td.vSlots.length dha, .slice qha td.vFree.length eha] td fha) := ArenaOwn_stays _ _ _ _ _ (fun x hx => (hbw11).block x (ArenaOwn_lt _ _ _ _ ha_12.out x hx)) ha_12.out
  have bha_13 : Hid (Box w11 gzha [.slice pha td.vSlots.length dha, .slice qha td.vFree.length eha] 30) := bha_12.out.below hbw11 bha_12.out.lt
  clear bA_12 bH_12 wa_12 bwa_12 ga_12 bga_12 ha_12 bha_12
  have hB13 : Hid (Below w.heap.size w w11) := hB12.out.trans ((hbw11).mono hB12.out.size)
  have sz13 := (hbw11).size
  clear z12_bA_0 z12_bA_1 z12_bH_0 z12_bH_1 z12_bwa_0 z12_bwa_1 z12_bga_0 z12_bga_1 z12_bha_0 z12_bha_1
  have z13_bA_0 := bA_13.out.cell 0 rfl
  have z13_bA_1 := bA_13.out.cell 1 rfl
  have z13_bH_0 := bH_13.out.cell 0 rfl
  have z13_bH_1 := bH_13.out.cell 1 rfl
  have z13_bwa_0 := bwa_13.out.cell 0 rfl
  have z13_bwa_1 := bwa_13.out.cell 1 rfl
  have z13_bga_0 := bga_13.out.cell 0 rfl
  have z13_bga_1 := bga_13.out.cell 1 rfl
  have z13_bha_0 := bha_13.out.cell 0 rfl
  have z13_bha_1 := bha_13.out.cell 1 rfl
  clear hbw11
  go_wp2_with fail
  refine (heldArena_any (lo := 0) (m := 1) (x := td) (ArenaOwn_at (lo := 0) _ _ _ _ ga_13.out (fun _ _ => Nat.zero_le _)) (by omega) (by rw [hCI'.out]; exact hYC.out)).mono ?_
  rintro e w12 ⟨rfl, hbw12⟩
  rw [hCI'.out]
  have bA_14 : Hid (Box w12 w.heap.size [.slice a0 x.vSlots.length c0, .slice a1 x.vFree.length c1] 25) := bA_13.out.below hbw12 bA_13.out.lt
  have bH_14 : Hid (Box w12 (w.heap.size + 1) [.int .i64 y.vAt, .int .i64 y.vGen] 44) := bH_13.out.below hbw12 bH_13.out.lt
  have wa_14 : Hid (ArenaOwn w12 [.slice pwa td.vSlots.length dwa, .slice qwa td.vFree.length ewa] td fwa) := ArenaOwn_stays _ _ _ _ _ (fun x hx => (hbw12).block x (ArenaOwn_lt _ _ _ _ wa_13.out x hx)) wa_13.out
  have bwa_14 : Hid (Box w12 gzwa [.slice pwa td.vSlots.length dwa, .slice qwa td.vFree.length ewa] 30) := bwa_13.out.below hbw12 bwa_13.out.lt
  have ga_14 : Hid (ArenaOwn w12 [.slice pga td.vSlots.length dga, .slice qga td.vFree.length ega] (mkTArena td 1) fga) := ArenaOwn_stays _ _ _ _ _ (fun x hx => (hbw12).block x (ArenaOwn_lt _ _ _ _ ga_13.out x hx)) ga_13.out
  have bga_14 : Hid (Box w12 gzga [.slice pga td.vSlots.length dga, .slice qga td.vFree.length ega] 30) := bga_13.out.below hbw12 bga_13.out.lt
  have ha_14 : Hid (ArenaOwn w12 [.slice pha td.vSlots.length dha, .slice qha td.vFree.length eha] td fha) := ArenaOwn_stays _ _ _ _ _ (fun x hx => (hbw12).block x (ArenaOwn_lt _ _ _ _ ha_13.out x hx)) ha_13.out
  have bha_14 : Hid (Box w12 gzha [.slice pha td.vSlots.length dha, .slice qha td.vFree.length eha] 30) := bha_13.out.below hbw12 bha_13.out.lt
  clear bA_13 bH_13 wa_13 bwa_13 ga_13 bga_13 ha_13 bha_13
  have hB14 : Hid (Below w.heap.size w w12) := hB13.out.trans ((hbw12).mono hB13.out.size)
  have sz14 := (hbw12).size
  clear z13_bA_0 z13_bA_1 z13_bH_0 z13_bH_1 z13_bwa_0 z13_bwa_1 z13_bga_0 z13_bga_1 z13_bha_0 z13_bha_1
  have z14_bA_0 := bA_14.out.cell 0 rfl
  have z14_bA_1 := bA_14.out.cell 1 rfl
  have z14_bH_0 := bH_14.out.cell 0 rfl
  have z14_bH_1 := bH_14.out.cell 1 rfl
  have z14_bwa_0 := bwa_14.out.cell 0 rfl
  have z14_bwa_1 := bwa_14.out.cell 1 rfl
  have z14_bga_0 := bga_14.out.cell 0 rfl
  have z14_bga_1 := bga_14.out.cell 1 rfl
  have z14_bha_0 := bha_14.out.cell 0 rfl
  have z14_bha_1 := bha_14.out.cell 1 rfl
  clear hbw12
  go_wp2_with fail
  go_ret
  exact ⟨rfl, hB14.out⟩
/-! The row -/
set_option maxRecDepth 100000 in
theorem lifted (os : Os) (started : os.Started) (H : Type) (enc : TypeId × Value → H) :
    ReturnsInHanded {} Try.checked os 6 .any (Rows.fnExactReleasedSpec.pre6 enc Try.prog Try.f6 Rows.fnExactReleasedRow.domain false) (Rows.fnExactReleasedSpec.post enc Try.prog Try.f6 false true false false) := by
  refine returnsInHanded_of_change (C := Try.checked) own started (by kernel_rfl) Try.func6
    (ChangeSpec.witness6 (enc := enc) (C := Try.checked) false ⟨#[], #[.agg #[.slice none 0 0, .slice none 0 0], .agg #[.int .i64 0, .int .i64 0]], []⟩ 8 (by kernel_rfl) (by kernel_rfl) (by kernel_rfl) (by kernel_rfl)) ?_
  intro W base args ds gs before hval0 hW hcnd _
  have hval : ∀ (j : Nat) t v, Try.f6.params[j]? = some t → args[j]? = some v → Value.okWide Try.prog W .any base t v := hval0
  have hW' := hW
  obtain ⟨p, q, hA0, hV, rfl, hfz, hnd⟩ := hW
  have hA : DataW.TrodAll enc Try.prog W 0 (fun _ => true) true Try.f6.params.toList args.toList ds p := hA0
  rw [Try.params6] at hA hval
  obtain ⟨v0, vs0, d0, ds0, p0, q0, hargs, rfl, rfl, h0, r0⟩ := trodAll_cons hA
  obtain ⟨v1, vs1, d1, ds1, p1, q1, rfl, rfl, rfl, h1, r1⟩ := trodAll_cons r0
  obtain ⟨rfl, rfl, rfl⟩ := trodAll_nil r1
  obtain rfl : args = #[v0, v1] := by cases args; simp_all
  obtain ⟨rfl, rfl⟩ := trodVars_none hV
  have k0 := h0
  have lt0 : ∀ x ∈ p0, x.block < W.heap.size := by obtain ⟨m, hm⟩ := k0; exact DataW.trod_lt m _ _ _ hm
  obtain ⟨cs0, rfl, _⟩ := okWide_struct Try.underlying25 (hval 0 25 v0 rfl rfl)
  obtain ⟨fuel0, hf0⟩ := h0
  obtain ⟨x0, hx0⟩ := ArenaAt_of_trod fuel0 _ _ hf0
  have hcs0 : (Value.agg cs0).cells = cs0 := rfl
  rw [hcs0] at hx0
  have k1 := h1
  have lt1 : ∀ x ∈ p1, x.block < W.heap.size := by obtain ⟨m, hm⟩ := k1; exact DataW.trod_lt m _ _ _ hm
  obtain ⟨cs1, rfl, _⟩ := okWide_struct Try.underlying44 (hval 1 44 v1 rfl rfl)
  obtain ⟨fuel1, hf1⟩ := h1
  obtain ⟨x1, hx1⟩ := HandleAt_of_trod fuel1 _ _ hf1
  have hcs1 : (Value.agg cs1).cells = cs1 := rfl
  rw [hcs1] at hx1
  clear hA0 hval0
  have hwk := walk (w := W) hx0 hx1
  rw [Array.toArray_toList, Array.toArray_toList] at hwk
  refine hwk.mono fun e W' ⟨he, bel⟩ => ?_
  subst he
  exact ⟨_, rfl, _, _, _, [], _, [], hW', trodAll_mk1 (shut_bool Try.underlying4 _), (trodAll_cons_mk (Below.trod laidOut (by kernel_rfl) (of_decide_eq_true (by kernel_rfl)) k0 bel lt0) (trodAll_cons_mk (Below.trod laidOut (by kernel_rfl) (of_decide_eq_true (by kernel_rfl)) k1 bel lt1) trodAll_mk0)), rfl, bel.frame _, fun h => by cases h⟩
theorem over : Rows.fnExactReleasedRow.holds Try.pinned (OpenSpec.ofChange Rows.fnExactReleasedSpec) :=
  OpenClaim.holds_of_wide 6 Try.f6 rfl rfl rfl rfl rfl rfl rfl ⟨rfl, rfl, rfl, rfl, rfl⟩ rfl rfl rfl rfl rfl (by kernel_rfl) Try.func6 (by kernel_rfl)
    (of_decide_eq_true (by kernel_rfl)) (by unfold Func.isWrapper; first | (rw [if_pos (by decide +kernel)]; kernel_rfl) | (rw [if_neg (by decide +kernel)]; exact ⟨rfl, rfl⟩))
    (fun os started H enc _ => lifted os started H enc)
end Go.Proofs.Ytcpbcpckmclciaa.fnExactReleased
namespace Go.Proofs.Ytcpbcpckmclciaa
theorem fnExactReleased_holds : Rows.FnExactReleasedSaid := fnExactReleased.over
end Go.Proofs.Ytcpbcpckmclciaa
