/- At every number ArenaNew answers as its specification, and its answer owns its memory, behind another call too. No condition. -/
import Derived.Test.YtcpbcpckmclciaaArNew
import Derived.Test.YtcpbcpckmclciaaArEq
import Derived.Test.YtcpbcpckmclciaaMarkTops
import Derived.Test.YtcpbcpckmclciaaArCnt
import Derived.ProofKit
import Derived.OpenShut
import Derived.ShutString
import Derived.ChangeOld
import Derived.Below
import Derived.Laws.Cover1
import Derived.WalkKit
namespace Go.Proofs.Ytcpbcpckmclciaa.fnExactArenaNew
open Go.ChangeShapes Go.WideShapes Go.ChangeAt Go.RowKit

theorem own : ownKnob Try.prog.godebug = none := by kernel_rfl
theorem laidOut : laidOutB Try.prog = true := by kernel_rfl
set_option maxRecDepth 100000 in
set_option maxHeartbeats 6400000 in
theorem walk {w : World} {n : Int} :
    Calls Try.prog 4 #[.int .i64 n] w fun e w' => e = .returned (.bool true) ∧ Below w.heap.size w w' := by
  have hB0 : Hid (Below w.heap.size w w) := Below.refl _ _
  go_enter Try.func4, Try.ntmps4
  go_wp2_with fail
  refine (specArenaNew_any).mono ?_
  rintro e w4 ⟨⟨cswa, rfl, fwa, ownwa, ndwa, lowwa⟩, hbwa⟩
  have lowwa' : Hid (∀ b ∈ fwa, w.heap.size ≤ b) := lowwa
  have ndwah : Hid (fwa.Nodup) := ndwa
  clear ndwa
  have hB1 : Hid (Below w.heap.size w w4) := hB0.out.trans ((hbwa).mono hB0.out.size)
  have sz1 := (hbwa).size
  clear hbwa lowwa
  generalize hYS : newA n = rr at ownwa ⊢
  have hYS' : Hid (newA n = rr) := hYS
  clear hYS
  obtain ⟨td, bb⟩ := rr
  dsimp only at ownwa ⊢
  have rg_wa0 : Hid (∀ b ∈ fwa, b < w4.heap.size) := ArenaOwn_lt _ _ _ _ ownwa
  have ownswa0 : Hid (ArenaOwn w4 cswa td fwa) := ownwa
  obtain ⟨_, _, _, _, rfl, sswa, stwa, _⟩ := ownwa
  obtain ⟨pwa, dwa, rfl⟩ := sswa.form
  obtain ⟨qwa, ewa, rfl⟩ := stwa.form
  have ownswa : Hid (ArenaOwn w4 [.slice pwa td.vSlots.length dwa, .slice qwa td.vFree.length ewa] td fwa) := ownswa0.out
  clear sswa stwa ownswa0
  have wa_1 : Hid (ArenaOwn w4 [.slice pwa td.vSlots.length dwa, .slice qwa td.vFree.length ewa] td fwa) := ownswa
  have rg_wa : Hid (∀ b ∈ fwa, w.heap.size ≤ b ∧ b < w4.heap.size) := fun b q => ⟨by have := lowwa'.out b q; omega, rg_wa0.out b q⟩
  clear ownswa
  have hbzwa : Below w4.heap.size w4 (w4.alloc (.cells (List.toArray [.slice pwa td.vSlots.length dwa, .slice qwa td.vFree.length ewa]) 30)) := (Below.refl _ _).alloc (Nat.le_refl _) _
  have szzwa : (w4.alloc (.cells (List.toArray [.slice pwa td.vSlots.length dwa, .slice qwa td.vFree.length ewa]) 30)).heap.size = w4.heap.size + 1 := by simp
  have wa_2 : Hid (ArenaOwn (w4.alloc (.cells (List.toArray [.slice pwa td.vSlots.length dwa, .slice qwa td.vFree.length ewa]) 30)) [.slice pwa td.vSlots.length dwa, .slice qwa td.vFree.length ewa] td fwa) := ArenaOwn_stays _ _ _ _ _ (fun x hx => (hbzwa).block x (ArenaOwn_lt _ _ _ _ wa_1.out x hx)) wa_1.out
  clear wa_1
  have hB2 : Hid (Below w.heap.size w (w4.alloc (.cells (List.toArray [.slice pwa td.vSlots.length dwa, .slice qwa td.vFree.length ewa]) 30))) := hB1.out.trans ((hbzwa).mono hB1.out.size)
  have sz2 := (hbzwa).size
  simp only [World.size_alloc] at sz2
  have bwa_2 : Hid (Box (w4.alloc (.cells (List.toArray [.slice pwa td.vSlots.length dwa, .slice qwa td.vFree.length ewa]) 30)) w4.heap.size [.slice pwa td.vSlots.length dwa, .slice qwa td.vFree.length ewa] 30) := Box.new w4 _ _
  have z2_bwa_0 := bwa_2.out.cell 0 rfl
  have z2_bwa_1 := bwa_2.out.cell 1 rfl
  clear hbzwa
  have hYC : Hid ((1 : Int) + (cntL cntSlot td.vSlots : Nat) + (cntL cntI td.vFree : Nat) ≤ 4611686018427387904) := by show _ ≤ _; have := newA_few n; rw [hYS'.out] at this; dsimp only at this; rw [cntL_slot, cntL_int]; omega
  go_wp2_with fail
  refine (implArenaNew_any).mono ?_
  rintro e w6 ⟨⟨csga, rfl, fga, ownga, ndga, lowga⟩, hbga⟩
  rw [hYS'.out] at ownga ⊢
  dsimp only at ownga ⊢
  have lowga' : Hid (∀ b ∈ fga, ((w4.alloc (.cells (List.toArray [.slice pwa td.vSlots.length dwa, .slice qwa td.vFree.length ewa]) 30))).heap.size ≤ b) := lowga
  have ndgah : Hid (fga.Nodup) := ndga
  clear ndga
  have wa_3 : Hid (ArenaOwn w6 [.slice pwa td.vSlots.length dwa, .slice qwa td.vFree.length ewa] td fwa) := ArenaOwn_stays _ _ _ _ _ (fun x hx => (hbga).block x (ArenaOwn_lt _ _ _ _ wa_2.out x hx)) wa_2.out
  have bwa_3 : Hid (Box w6 w4.heap.size [.slice pwa td.vSlots.length dwa, .slice qwa td.vFree.length ewa] 30) := bwa_2.out.below hbga bwa_2.out.lt
  clear wa_2 bwa_2
  have hB3 : Hid (Below w.heap.size w w6) := hB2.out.trans ((hbga).mono hB2.out.size)
  have sz3 := (hbga).size
  simp only [World.size_alloc] at sz3
  clear z2_bwa_0 z2_bwa_1
  have z3_bwa_0 := bwa_3.out.cell 0 rfl
  have z3_bwa_1 := bwa_3.out.cell 1 rfl
  clear hbga lowga
  have rg_ga0 : Hid (∀ b ∈ fga, b < w6.heap.size) := ArenaOwn_lt _ _ _ _ ownga
  have ownsga0 : Hid (ArenaOwn w6 csga td fga) := ownga
  obtain ⟨_, _, _, _, rfl, ssga, stga, _⟩ := ownga
  obtain ⟨pga, dga, rfl⟩ := ssga.form
  obtain ⟨qga, ega, rfl⟩ := stga.form
  have ownsga : Hid (ArenaOwn w6 [.slice pga td.vSlots.length dga, .slice qga td.vFree.length ega] td fga) := ownsga0.out
  clear ssga stga ownsga0
  have ga_3 : Hid (ArenaOwn w6 [.slice pga td.vSlots.length dga, .slice qga td.vFree.length ega] td fga) := ownsga
  have rg_ga : Hid (∀ b ∈ fga, w4.heap.size + 1 ≤ b ∧ b < w6.heap.size) := fun b q => ⟨by have := lowga'.out b q; simp only [World.size_alloc] at this; omega, rg_ga0.out b q⟩
  clear ownsga
  have hbzga : Below w6.heap.size w6 (w6.alloc (.cells (List.toArray [.slice pga td.vSlots.length dga, .slice qga td.vFree.length ega]) 30)) := (Below.refl _ _).alloc (Nat.le_refl _) _
  have szzga : (w6.alloc (.cells (List.toArray [.slice pga td.vSlots.length dga, .slice qga td.vFree.length ega]) 30)).heap.size = w6.heap.size + 1 := by simp
  have wa_4 : Hid (ArenaOwn (w6.alloc (.cells (List.toArray [.slice pga td.vSlots.length dga, .slice qga td.vFree.length ega]) 30)) [.slice pwa td.vSlots.length dwa, .slice qwa td.vFree.length ewa] td fwa) := ArenaOwn_stays _ _ _ _ _ (fun x hx => (hbzga).block x (ArenaOwn_lt _ _ _ _ wa_3.out x hx)) wa_3.out
  have bwa_4 : Hid (Box (w6.alloc (.cells (List.toArray [.slice pga td.vSlots.length dga, .slice qga td.vFree.length ega]) 30)) w4.heap.size [.slice pwa td.vSlots.length dwa, .slice qwa td.vFree.length ewa] 30) := bwa_3.out.below hbzga bwa_3.out.lt
  have ga_4 : Hid (ArenaOwn (w6.alloc (.cells (List.toArray [.slice pga td.vSlots.length dga, .slice qga td.vFree.length ega]) 30)) [.slice pga td.vSlots.length dga, .slice qga td.vFree.length ega] td fga) := ArenaOwn_stays _ _ _ _ _ (fun x hx => (hbzga).block x (ArenaOwn_lt _ _ _ _ ga_3.out x hx)) ga_3.out
  clear wa_3 bwa_3 ga_3
  have hB4 : Hid (Below w.heap.size w (w6.alloc (.cells (List.toArray [.slice pga td.vSlots.length dga, .slice qga td.vFree.length ega]) 30))) := hB3.out.trans ((hbzga).mono hB3.out.size)
  have sz4 := (hbzga).size
  simp only [World.size_alloc] at sz4
  clear z3_bwa_0 z3_bwa_1
  have z4_bwa_0 := bwa_4.out.cell 0 rfl
  have z4_bwa_1 := bwa_4.out.cell 1 rfl
  have bga_4 : Hid (Box (w6.alloc (.cells (List.toArray [.slice pga td.vSlots.length dga, .slice qga td.vFree.length ega]) 30)) w6.heap.size [.slice pga td.vSlots.length dga, .slice qga td.vFree.length ega] 30) := Box.new w6 _ _
  have z4_bga_0 := bga_4.out.cell 0 rfl
  have z4_bga_1 := bga_4.out.cell 1 rfl
  clear hbzga
  go_wp2_with fail
  refine (eqArena_any (lo := 0) (lo2 := 0) (ArenaOwn_at (lo := 0) _ _ _ _ ga_4.out (fun _ _ => Nat.zero_le _)) (ArenaOwn_at (lo := 0) _ _ _ _ wa_4.out (fun _ _ => Nat.zero_le _))).mono ?_
  rintro e w7 ⟨rfl, hbw7⟩
  have wa_5 : Hid (ArenaOwn w7 [.slice pwa td.vSlots.length dwa, .slice qwa td.vFree.length ewa] td fwa) := ArenaOwn_stays _ _ _ _ _ (fun x hx => (hbw7).block x (ArenaOwn_lt _ _ _ _ wa_4.out x hx)) wa_4.out
  have bwa_5 : Hid (Box w7 w4.heap.size [.slice pwa td.vSlots.length dwa, .slice qwa td.vFree.length ewa] 30) := bwa_4.out.below hbw7 bwa_4.out.lt
  have ga_5 : Hid (ArenaOwn w7 [.slice pga td.vSlots.length dga, .slice qga td.vFree.length ega] td fga) := ArenaOwn_stays _ _ _ _ _ (fun x hx => (hbw7).block x (ArenaOwn_lt _ _ _ _ ga_4.out x hx)) ga_4.out
  have bga_5 : Hid (Box w7 w6.heap.size [.slice pga td.vSlots.length dga, .slice qga td.vFree.length ega] 30) := bga_4.out.below hbw7 bga_4.out.lt
  clear wa_4 bwa_4 ga_4 bga_4
  have hB5 : Hid (Below w.heap.size w w7) := hB4.out.trans ((hbw7).mono hB4.out.size)
  have sz5 := (hbw7).size
  simp only [World.size_alloc] at sz5
  clear z4_bwa_0 z4_bwa_1 z4_bga_0 z4_bga_1
  have z5_bwa_0 := bwa_5.out.cell 0 rfl
  have z5_bwa_1 := bwa_5.out.cell 1 rfl
  have z5_bga_0 := bga_5.out.cell 0 rfl
  have z5_bga_1 := bga_5.out.cell 1 rfl
  clear hbw7
  go_wp2_with fail
  refine (markArena_any ga_5.out ndgah.out (by omega) hYC.out).mono ?_
  rintro e m5 ⟨rfl, ownM, hom5⟩
  have wa_6 : Hid (ArenaOwn m5 [.slice pwa td.vSlots.length dwa, .slice qwa td.vFree.length ewa] td fwa) := ArenaOwn_stays _ _ _ _ _ (fun x hx => (hom5).keep (ArenaOwn_lt _ _ _ _ wa_5.out x hx) (fun q => by have := rg_ga.out _ q; have := rg_wa.out _ hx; omega)) wa_5.out
  have bwa_6 : Hid (Box m5 w4.heap.size [.slice pwa td.vSlots.length dwa, .slice qwa td.vFree.length ewa] 30) := ((hom5).keep bwa_5.out.lt (fun q => by have := rg_ga.out _ q; omega)).trans bwa_5.out
  have bga_6 : Hid (Box m5 w6.heap.size [.slice pga td.vSlots.length dga, .slice qga td.vFree.length ega] 30) := ((hom5).keep bga_5.out.lt (fun q => by have := rg_ga.out _ q; omega)).trans bga_5.out
  clear wa_5 bwa_5 ga_5 bga_5
  have hB6 : Hid (Below w.heap.size w m5) := hB5.out.trans ((hom5).below hB5.out.size (fun x hx => by have := rg_ga.out x hx; omega))
  have sz6 := (hom5).2.2.2.1
  clear z5_bwa_0 z5_bwa_1 z5_bga_0 z5_bga_1
  have z6_bwa_0 := bwa_6.out.cell 0 rfl
  have z6_bwa_1 := bwa_6.out.cell 1 rfl
  have z6_bga_0 := bga_6.out.cell 0 rfl
  have z6_bga_1 := bga_6.out.cell 1 rfl
  have ga_6 : Hid (ArenaOwn m5 [.slice pga td.vSlots.length dga, .slice qga td.vFree.length ega] (mkTArena td 1) fga) := ownM
  clear ownM hom5
  generalize hCI : (1 : Int) + (cntL cntSlot td.vSlots : Nat) + (cntL cntI td.vFree : Nat) = M at *
  have hCI' : Hid ((1 : Int) + (cntL cntSlot td.vSlots : Nat) + (cntL cntI td.vFree : Nat) = M) := hCI
  clear hCI
  have hM0 : 0 ≤ M := by have := hCI'.out; omega
  have hM1 : decide (M < 0) = false := by simp; omega
  go_wp2_with fail
  refine (heldArena_any (lo := 0) (m := 1) (x := td) (ArenaOwn_at (lo := 0) _ _ _ _ ga_6.out (fun _ _ => Nat.zero_le _)) (by omega) (by rw [hCI'.out]; exact hYC.out)).mono ?_
  rintro e m6 ⟨rfl, hbm6⟩
  rw [hCI'.out]
  have wa_7 : Hid (ArenaOwn m6 [.slice pwa td.vSlots.length dwa, .slice qwa td.vFree.length ewa] td fwa) := ArenaOwn_stays _ _ _ _ _ (fun x hx => (hbm6).block x (ArenaOwn_lt _ _ _ _ wa_6.out x hx)) wa_6.out
  have bwa_7 : Hid (Box m6 w4.heap.size [.slice pwa td.vSlots.length dwa, .slice qwa td.vFree.length ewa] 30) := bwa_6.out.below hbm6 bwa_6.out.lt
  have ga_7 : Hid (ArenaOwn m6 [.slice pga td.vSlots.length dga, .slice qga td.vFree.length ega] (mkTArena td 1) fga) := ArenaOwn_stays _ _ _ _ _ (fun x hx => (hbm6).block x (ArenaOwn_lt _ _ _ _ ga_6.out x hx)) ga_6.out
  have bga_7 : Hid (Box m6 w6.heap.size [.slice pga td.vSlots.length dga, .slice qga td.vFree.length ega] 30) := bga_6.out.below hbm6 bga_6.out.lt
  clear wa_6 bwa_6 ga_6 bga_6
  have hB7 : Hid (Below w.heap.size w m6) := hB6.out.trans ((hbm6).mono hB6.out.size)
  have sz7 := (hbm6).size
  clear z6_bwa_0 z6_bwa_1 z6_bga_0 z6_bga_1
  have z7_bwa_0 := bwa_7.out.cell 0 rfl
  have z7_bwa_1 := bwa_7.out.cell 1 rfl
  have z7_bga_0 := bga_7.out.cell 0 rfl
  have z7_bga_1 := bga_7.out.cell 1 rfl
  clear hbm6
  go_wp2_with fail
  refine (implArenaNew_any).mono ?_
  rintro e w10 ⟨⟨csha, rfl, fha, ownha, ndha, lowha⟩, hbha⟩
  rw [hYS'.out] at ownha ⊢
  dsimp only at ownha ⊢
  have lowha' : Hid (∀ b ∈ fha, m6.heap.size ≤ b) := lowha
  have ndhah : Hid (fha.Nodup) := ndha
  clear ndha
  have wa_8 : Hid (ArenaOwn w10 [.slice pwa td.vSlots.length dwa, .slice qwa td.vFree.length ewa] td fwa) := ArenaOwn_stays _ _ _ _ _ (fun x hx => (hbha).block x (ArenaOwn_lt _ _ _ _ wa_7.out x hx)) wa_7.out
  have bwa_8 : Hid (Box w10 w4.heap.size [.slice pwa td.vSlots.length dwa, .slice qwa td.vFree.length ewa] 30) := bwa_7.out.below hbha bwa_7.out.lt
  have ga_8 : Hid (ArenaOwn w10 [.slice pga td.vSlots.length dga, .slice qga td.vFree.length ega] (mkTArena td 1) fga) := ArenaOwn_stays _ _ _ _ _ (fun x hx => (hbha).block x (ArenaOwn_lt _ _ _ _ ga_7.out x hx)) ga_7.out
  have bga_8 : Hid (Box w10 w6.heap.size [.slice pga td.vSlots.length dga, .slice qga td.vFree.length ega] 30) := bga_7.out.below hbha bga_7.out.lt
  clear wa_7 bwa_7 ga_7 bga_7
  have hB8 : Hid (Below w.heap.size w w10) := hB7.out.trans ((hbha).mono hB7.out.size)
  have sz8 := (hbha).size
  clear z7_bwa_0 z7_bwa_1 z7_bga_0 z7_bga_1
  have z8_bwa_0 := bwa_8.out.cell 0 rfl
  have z8_bwa_1 := bwa_8.out.cell 1 rfl
  have z8_bga_0 := bga_8.out.cell 0 rfl
  have z8_bga_1 := bga_8.out.cell 1 rfl
  clear hbha lowha
  have rg_ha0 : Hid (∀ b ∈ fha, b < w10.heap.size) := ArenaOwn_lt _ _ _ _ ownha
  have ownsha0 : Hid (ArenaOwn w10 csha td fha) := ownha
  obtain ⟨_, _, _, _, rfl, ssha, stha, _⟩ := ownha
  obtain ⟨pha, dha, rfl⟩ := ssha.form
  obtain ⟨qha, eha, rfl⟩ := stha.form
  have ownsha : Hid (ArenaOwn w10 [.slice pha td.vSlots.length dha, .slice qha td.vFree.length eha] td fha) := ownsha0.out
  clear ssha stha ownsha0
  have ha_8 : Hid (ArenaOwn w10 [.slice pha td.vSlots.length dha, .slice qha td.vFree.length eha] td fha) := ownsha
  have rg_ha : Hid (∀ b ∈ fha, m6.heap.size ≤ b ∧ b < w10.heap.size) := fun b q => ⟨by have := lowha'.out b q; omega, rg_ha0.out b q⟩
  clear ownsha
  have hbzha : Below w10.heap.size w10 (w10.alloc (.cells (List.toArray [.slice pha td.vSlots.length dha, .slice qha td.vFree.length eha]) 30)) := (Below.refl _ _).alloc (Nat.le_refl _) _
  have szzha : (w10.alloc (.cells (List.toArray [.slice pha td.vSlots.length dha, .slice qha td.vFree.length eha]) 30)).heap.size = w10.heap.size + 1 := by simp
  have wa_9 : Hid (ArenaOwn (w10.alloc (.cells (List.toArray [.slice pha td.vSlots.length dha, .slice qha td.vFree.length eha]) 30)) [.slice pwa td.vSlots.length dwa, .slice qwa td.vFree.length ewa] td fwa) := ArenaOwn_stays _ _ _ _ _ (fun x hx => (hbzha).block x (ArenaOwn_lt _ _ _ _ wa_8.out x hx)) wa_8.out
  have bwa_9 : Hid (Box (w10.alloc (.cells (List.toArray [.slice pha td.vSlots.length dha, .slice qha td.vFree.length eha]) 30)) w4.heap.size [.slice pwa td.vSlots.length dwa, .slice qwa td.vFree.length ewa] 30) := bwa_8.out.below hbzha bwa_8.out.lt
  have ga_9 : Hid (ArenaOwn (w10.alloc (.cells (List.toArray [.slice pha td.vSlots.length dha, .slice qha td.vFree.length eha]) 30)) [.slice pga td.vSlots.length dga, .slice qga td.vFree.length ega] (mkTArena td 1) fga) := ArenaOwn_stays _ _ _ _ _ (fun x hx => (hbzha).block x (ArenaOwn_lt _ _ _ _ ga_8.out x hx)) ga_8.out
  have bga_9 : Hid (Box (w10.alloc (.cells (List.toArray [.slice pha td.vSlots.length dha, .slice qha td.vFree.length eha]) 30)) w6.heap.size [.slice pga td.vSlots.length dga, .slice qga td.vFree.length ega] 30) := bga_8.out.below hbzha bga_8.out.lt
  have ha_9 : Hid (ArenaOwn (w10.alloc (.cells (List.toArray [.slice pha td.vSlots.length dha, .slice qha td.vFree.length eha]) 30)) [.slice pha td.vSlots.length dha, .slice qha td.vFree.length eha] td fha) := ArenaOwn_stays _ _ _ _ _ (fun x hx => (hbzha).block x (ArenaOwn_lt _ _ _ _ ha_8.out x hx)) ha_8.out
  clear wa_8 bwa_8 ga_8 bga_8 ha_8
  have hB9 : Hid (Below w.heap.size w (w10.alloc (.cells (List.toArray [.slice pha td.vSlots.length dha, .slice qha td.vFree.length eha]) 30))) := hB8.out.trans ((hbzha).mono hB8.out.size)
  have sz9 := (hbzha).size
  simp only [World.size_alloc] at sz9
  clear z8_bwa_0 z8_bwa_1 z8_bga_0 z8_bga_1
  have z9_bwa_0 := bwa_9.out.cell 0 rfl
  have z9_bwa_1 := bwa_9.out.cell 1 rfl
  have z9_bga_0 := bga_9.out.cell 0 rfl
  have z9_bga_1 := bga_9.out.cell 1 rfl
  have bha_9 : Hid (Box (w10.alloc (.cells (List.toArray [.slice pha td.vSlots.length dha, .slice qha td.vFree.length eha]) 30)) w10.heap.size [.slice pha td.vSlots.length dha, .slice qha td.vFree.length eha] 30) := Box.new w10 _ _
  have z9_bha_0 := bha_9.out.cell 0 rfl
  have z9_bha_1 := bha_9.out.cell 1 rfl
  clear hbzha
  go_wp2_with fail
  refine (eqArena_any (lo := 0) (lo2 := 0) (ArenaOwn_at (lo := 0) _ _ _ _ ha_9.out (fun _ _ => Nat.zero_le _)) (ArenaOwn_at (lo := 0) _ _ _ _ wa_9.out (fun _ _ => Nat.zero_le _))).mono ?_
  rintro e w11 ⟨rfl, hbw11⟩
  have wa_10 : Hid (ArenaOwn w11 [.slice pwa td.vSlots.length dwa, .slice qwa td.vFree.length ewa] td fwa) := ArenaOwn_stays _ _ _ _ _ (fun x hx => (hbw11).block x (ArenaOwn_lt _ _ _ _ wa_9.out x hx)) wa_9.out
  have bwa_10 : Hid (Box w11 w4.heap.size [.slice pwa td.vSlots.length dwa, .slice qwa td.vFree.length ewa] 30) := bwa_9.out.below hbw11 bwa_9.out.lt
  have ga_10 : Hid (ArenaOwn w11 [.slice pga td.vSlots.length dga, .slice qga td.vFree.length ega] (mkTArena td 1) fga) := ArenaOwn_stays _ _ _ _ _ (fun x hx => (hbw11).block x (ArenaOwn_lt _ _ _ _ ga_9.out x hx)) ga_9.out
  have bga_10 : Hid (Box w11 w6.heap.size [.slice pga td.vSlots.length dga, .slice qga td.vFree.length ega] 30) := bga_9.out.below hbw11 bga_9.out.lt
  have ha_10 : Hid (ArenaOwn w11 [.slice pha td.vSlots.length dha, .slice qha td.vFree.length eha] td fha) := ArenaOwn_stays _ _ _ _ _ (fun x hx => (hbw11).block x (ArenaOwn_lt _ _ _ _ ha_9.out x hx)) ha_9.out
  have bha_10 : Hid (Box w11 w10.heap.size [.slice pha td.vSlots.length dha, .slice qha td.vFree.length eha] 30) := bha_9.out.below hbw11 bha_9.out.lt
  clear wa_9 bwa_9 ga_9 bga_9 ha_9 bha_9
  have hB10 : Hid (Below w.heap.size w w11) := hB9.out.trans ((hbw11).mono hB9.out.size)
  have sz10 := (hbw11).size
  simp only [World.size_alloc] at sz10
  clear z9_bwa_0 z9_bwa_1 z9_bga_0 z9_bga_1 z9_bha_0 z9_bha_1
  have z10_bwa_0 := bwa_10.out.cell 0 rfl
  have z10_bwa_1 := bwa_10.out.cell 1 rfl
  have z10_bga_0 := bga_10.out.cell 0 rfl
  have z10_bga_1 := bga_10.out.cell 1 rfl
  have z10_bha_0 := bha_10.out.cell 0 rfl
  have z10_bha_1 := bha_10.out.cell 1 rfl
  clear hbw11
  go_wp2_with fail
  refine (heldArena_any (lo := 0) (m := 1) (x := td) (ArenaOwn_at (lo := 0) _ _ _ _ ga_10.out (fun _ _ => Nat.zero_le _)) (by omega) (by rw [hCI'.out]; exact hYC.out)).mono ?_
  rintro e w12 ⟨rfl, hbw12⟩
  rw [hCI'.out]
  have wa_11 : Hid (ArenaOwn w12 [.slice pwa td.vSlots.length dwa, .slice qwa td.vFree.length ewa] td fwa) := ArenaOwn_stays _ _ _ _ _ (fun x hx => (hbw12).block x (ArenaOwn_lt _ _ _ _ wa_10.out x hx)) wa_10.out
  have bwa_11 : Hid (Box w12 w4.heap.size [.slice pwa td.vSlots.length dwa, .slice qwa td.vFree.length ewa] 30) := bwa_10.out.below hbw12 bwa_10.out.lt
  have ga_11 : Hid (ArenaOwn w12 [.slice pga td.vSlots.length dga, .slice qga td.vFree.length ega] (mkTArena td 1) fga) := ArenaOwn_stays _ _ _ _ _ (fun x hx => (hbw12).block x (ArenaOwn_lt _ _ _ _ ga_10.out x hx)) ga_10.out
  have bga_11 : Hid (Box w12 w6.heap.size [.slice pga td.vSlots.length dga, .slice qga td.vFree.length ega] 30) := bga_10.out.below hbw12 bga_10.out.lt
  have ha_11 : Hid (ArenaOwn w12 [.slice pha td.vSlots.length dha, .slice qha td.vFree.length eha] td fha) := ArenaOwn_stays _ _ _ _ _ (fun x hx => (hbw12).block x (ArenaOwn_lt _ _ _ _ ha_10.out x hx)) ha_10.out
  have bha_11 : Hid (Box w12 w10.heap.size [.slice pha td.vSlots.length dha, .slice qha td.vFree.length eha] 30) := bha_10.out.below hbw12 bha_10.out.lt
  clear wa_10 bwa_10 ga_10 bga_10 ha_10 bha_10
  have hB11 : Hid (Below w.heap.size w w12) := hB10.out.trans ((hbw12).mono hB10.out.size)
  have sz11 := (hbw12).size
  clear z10_bwa_0 z10_bwa_1 z10_bga_0 z10_bga_1 z10_bha_0 z10_bha_1
  have z11_bwa_0 := bwa_11.out.cell 0 rfl
  have z11_bwa_1 := bwa_11.out.cell 1 rfl
  have z11_bga_0 := bga_11.out.cell 0 rfl
  have z11_bga_1 := bga_11.out.cell 1 rfl
  have z11_bha_0 := bha_11.out.cell 0 rfl
  have z11_bha_1 := bha_11.out.cell 1 rfl
  clear hbw12
  go_wp2_with fail
  go_ret
  exact ⟨rfl, hB11.out⟩
/-! The row -/
set_option maxRecDepth 100000 in
theorem lifted (os : Os) (started : os.Started) (H : Type) (enc : TypeId × Value → H) :
    ReturnsInHanded {} Try.checked os 4 .any (Rows.fnExactArenaNewSpec.pre6 enc Try.prog Try.f4 Rows.fnExactArenaNewRow.domain false) (Rows.fnExactArenaNewSpec.post enc Try.prog Try.f4 false true false false) := by
  refine returnsInHanded_of_change (C := Try.checked) own started (by kernel_rfl) Try.func4
    (ChangeSpec.witness6 (enc := enc) (C := Try.checked) false ⟨#[], #[.int .i64 0], []⟩ 8 (by kernel_rfl) (by kernel_rfl) (by kernel_rfl) (by kernel_rfl)) ?_
  intro W base args ds gs before hval0 hW hcnd _
  have hval : ∀ (j : Nat) t v, Try.f4.params[j]? = some t → args[j]? = some v → Value.okWide Try.prog W .any base t v := hval0
  have hW' := hW
  obtain ⟨p, q, hA0, hV, rfl, hfz, hnd⟩ := hW
  have hA : DataW.TrodAll enc Try.prog W 0 (fun _ => true) true Try.f4.params.toList args.toList ds p := hA0
  rw [Try.params4] at hA hval
  obtain ⟨v0, vs0, d0, ds0, p0, q0, hargs, rfl, rfl, h0, r0⟩ := trodAll_cons hA
  obtain ⟨rfl, rfl, rfl⟩ := trodAll_nil r0
  obtain rfl : args = #[v0] := by cases args; simp_all
  obtain ⟨rfl, rfl⟩ := trodVars_none hV
  obtain ⟨s0, rfl, rfl, rfl, hm0⟩ := open_int Try.underlying2 (hval 0 2 v0 rfl rfl) h0
  clear hA0 hval0
  have hwk := walk (w := W) (n := s0)
  refine hwk.mono fun e W' ⟨he, bel⟩ => ?_
  subst he
  exact ⟨_, rfl, _, _, _, [], _, [], hW', trodAll_mk1 (shut_bool Try.underlying4 _), (trodAll_cons_mk (shut_int Try.underlying2 hm0) trodAll_mk0), rfl, bel.frame _, fun h => by cases h⟩
theorem over : Rows.fnExactArenaNewRow.holds Try.pinned (OpenSpec.ofChange Rows.fnExactArenaNewSpec) :=
  OpenClaim.holds_of_wide 4 Try.f4 rfl rfl rfl rfl rfl rfl rfl ⟨rfl, rfl, rfl, rfl, rfl⟩ rfl rfl rfl rfl rfl (by kernel_rfl) Try.func4 (by kernel_rfl)
    (of_decide_eq_true (by kernel_rfl)) (by unfold Func.isWrapper; first | (rw [if_pos (by decide +kernel)]; kernel_rfl) | (rw [if_neg (by decide +kernel)]; exact ⟨rfl, rfl⟩))
    (fun os started H enc _ => lifted os started H enc)
end Go.Proofs.Ytcpbcpckmclciaa.fnExactArenaNew
namespace Go.Proofs.Ytcpbcpckmclciaa
theorem fnExactArenaNew_holds : Rows.FnExactArenaNewSaid := fnExactArenaNew.over
end Go.Proofs.Ytcpbcpckmclciaa
