/- At every arena and data Allocated answers as its specification, writes into no argument, and its answer owns its memory, behind another call too. No condition. -/
import Derived.Test.YtcpbcpckmclciaaArSz
import Derived.Test.YtcpbcpckmclciaaArAllocI
import Derived.Test.YtcpbcpckmclciaaArRng
import Derived.Test.YtcpbcpckmclciaaArEq
import Derived.Test.YtcpbcpckmclciaaToOwn
import Derived.Test.YtcpbcpckmclciaaMarkTops
import Derived.Test.YtcpbcpckmclciaaArCnt
import Derived.ProofKit
import Derived.OpenShut
import Derived.ShutString
import Derived.ChangeOld
import Derived.Below
import Derived.Laws.Cover1
import Derived.ChangeMaps5
namespace Go.Proofs.Ytcpbcpckmclciaa.fnExactAllocated
open Go.ChangeShapes Go.WideShapes Go.ChangeAt Go.RowKit
open Go.ChangeMaps (open_string shut_string)
theorem own : ownKnob Try.prog.godebug = none := by kernel_rfl
theorem laidOut : laidOutB Try.prog = true := by kernel_rfl
set_option maxRecDepth 100000 in
set_option maxHeartbeats 6400000 in
theorem walk {w : World} {cs : List Value} {x : ArenaD} {dt : ByteArray} (hx : ArenaAt w 0 cs x) (hd : dt.size ≤ maxLen) :
    Calls Try.prog 5 #[.agg cs.toArray, .string dt] w fun e w' => e = .returned (.bool true) ∧ Below w.heap.size w w' := by
  have hx0 : Hid (ArenaAt w 0 cs x) := hx
  obtain ⟨k0, k1, rfl, s0, s1, _⟩ := hx
  obtain ⟨a0, c0, rfl⟩ := s0.form
  obtain ⟨a1, c1, rfl⟩ := s1.form
  clear s0 s1
  have hdt : Hid (dt.size ≤ maxLen) := hd
  clear hd
  have hB0 : Hid (Below w.heap.size w (w.alloc (.cells (List.toArray [.slice a0 x.vSlots.length c0, .slice a1 x.vFree.length c1]) 25))) := (Below.refl _ _).alloc (Nat.le_refl _) _
  have bA_0 : Hid (Box (w.alloc (.cells (List.toArray [.slice a0 x.vSlots.length c0, .slice a1 x.vFree.length c1]) 25)) w.heap.size [.slice a0 x.vSlots.length c0, .slice a1 x.vFree.length c1] 25) := Box.new w _ _
  have z0_bA_0 := bA_0.out.cell 0 rfl
  have z0_bA_1 := bA_0.out.cell 1 rfl
  have szA : w.heap.size + 1 ≤ (w.alloc (.cells (List.toArray [.slice a0 x.vSlots.length c0, .slice a1 x.vFree.length c1]) 25)).heap.size := by simp
  simp only [World.size_alloc] at szA
  have hXC0 : x.small → (1 : Int) + (cntL cntSlot x.vSlots : Nat) + (cntL cntI x.vFree : Nat) ≤ 4611686018427387904 := fun h => by have h1 := h.1.1; have h2 := h.2.1; rw [cntL_slot, cntL_int]; omega
  have hXC1 : Hid _ := hXC0
  clear hXC0
  go_enter Try.func5, Try.ntmps5
  by_cases hbigs : 1048576 < dt.size
  · have hbigs' : (1048576 : Int) < (dt.size : Int) := by omega
    go_wp2_with fail
    go_ret
    exact ⟨rfl, hB0.out⟩
  have hbigs' : ¬ (1048576 : Int) < (dt.size : Int) := by omega
  clear hbigs
  go_wp2_with fail
  refine (szArena_any (ArenaAt_stays _ _ _ 0 _ _ (.of_below hB0.out) hx0.out) (by omega) (by omega)).mono ?_
  rintro e w1 ⟨⟨r, rfl, hr1, hr2, hsm⟩, hb1⟩
  have hsm' : Hid (r < 0 ∨ x.small) := hsm
  clear hsm
  have bA_1 : Hid (Box w1 w.heap.size [.slice a0 x.vSlots.length c0, .slice a1 x.vFree.length c1] 25) := bA_0.out.below hb1 bA_0.out.lt
  clear bA_0
  have hB1 : Hid (Below w.heap.size w w1) := hB0.out.trans ((hb1).mono hB0.out.size)
  have sz1 := (hb1).size
  simp only [World.size_alloc] at sz1
  clear z0_bA_0 z0_bA_1
  have z1_bA_0 := bA_1.out.cell 0 rfl
  have z1_bA_1 := bA_1.out.cell 1 rfl
  clear hb1
  by_cases hneg : r < 0
  · go_wp2_with fail
    go_ret
    exact ⟨rfl, hB1.out⟩
  have hsm : Hid (x.small) := hsm'.out.resolve_left hneg
  have hXC : Hid ((1 : Int) + (cntL cntSlot x.vSlots : Nat) + (cntL cntI x.vFree : Nat) ≤ 4611686018427387904) := hXC1.out hsm.out
  clear hsm'
  go_wp2_with fail
  refine (toArena_own (ArenaAt_stays _ _ _ 0 _ _ (.of_below hB1.out) hx0.out) hsm.out).mono ?_
  rintro e u3a ⟨⟨cs3, f3t, rfl, ht3, nd3, lo3t⟩, hba3⟩
  have nd3h : Hid (f3t.Nodup) := nd3
  have rg_x3t0 : Hid (∀ b ∈ f3t, b < u3a.heap.size) := ArenaOwn_lt _ _ _ _ ht3
  have lo3t' : Hid (∀ b ∈ f3t, w1.heap.size ≤ b) := lo3t
  have hto30 : Hid (ArenaOwn u3a cs3 x f3t) := ht3
  obtain ⟨_, _, _, _, rfl, ss3, st3, _⟩ := ht3
  obtain ⟨p3, d3, rfl⟩ := ss3.form
  obtain ⟨q3, e3, rfl⟩ := st3.form
  have hto3 : Hid (ArenaOwn u3a [.slice p3 x.vSlots.length d3, .slice q3 x.vFree.length e3] x f3t) := hto30.out
  clear ss3 st3 lo3t hto30 nd3
  have bA_2 : Hid (Box u3a w.heap.size [.slice a0 x.vSlots.length c0, .slice a1 x.vFree.length c1] 25) := bA_1.out.below hba3 bA_1.out.lt
  clear bA_1
  have hB2 : Hid (Below w.heap.size w u3a) := hB1.out.trans ((hba3).mono hB1.out.size)
  have sz2 := (hba3).size
  clear z1_bA_0 z1_bA_1
  have z2_bA_0 := bA_2.out.cell 0 rfl
  have z2_bA_1 := bA_2.out.cell 1 rfl
  have x3t_2 : Hid (ArenaOwn u3a [.slice p3 x.vSlots.length d3, .slice q3 x.vFree.length e3] x f3t) := hto3
  clear hto3 hba3
  have rg_x3t : Hid (∀ b ∈ f3t, w1.heap.size ≤ b ∧ b < u3a.heap.size) := fun b q => ⟨by have := lo3t'.out b q; omega, rg_x3t0.out b q⟩
  go_wp2_with fail
  refine (specAllocated_any (ArenaOwn_at (lo := 0) _ _ _ _ x3t_2.out (fun _ _ => Nat.zero_le _)) hdt.out).mono ?_
  rintro e w4 ⟨⟨cswa, rfl, fwa, ownwa, ndwa, lowwa⟩, hbwa⟩
  have lowwa' : Hid (∀ b ∈ fwa, u3a.heap.size ≤ b) := lowwa
  have ndwah : Hid (fwa.Nodup) := ndwa
  clear ndwa
  have bA_3 : Hid (Box w4 w.heap.size [.slice a0 x.vSlots.length c0, .slice a1 x.vFree.length c1] 25) := bA_2.out.below hbwa bA_2.out.lt
  have x3t_3 : Hid (ArenaOwn w4 [.slice p3 x.vSlots.length d3, .slice q3 x.vFree.length e3] x f3t) := ArenaOwn_stays _ _ _ _ _ (fun x hx => (hbwa).block x (ArenaOwn_lt _ _ _ _ x3t_2.out x hx)) x3t_2.out
  clear bA_2 x3t_2
  have hB3 : Hid (Below w.heap.size w w4) := hB2.out.trans ((hbwa).mono hB2.out.size)
  have sz3 := (hbwa).size
  clear z2_bA_0 z2_bA_1
  have z3_bA_0 := bA_3.out.cell 0 rfl
  have z3_bA_1 := bA_3.out.cell 1 rfl
  clear hbwa lowwa
  generalize hYS : allocD x dt = rr at ownwa ⊢
  have hYS' : Hid (allocD x dt = rr) := hYS
  clear hYS
  obtain ⟨td, hA_, hG_, bb⟩ := rr
  dsimp only at ownwa ⊢
  have rg_wa0 : Hid (∀ b ∈ fwa, b < w4.heap.size) := ArenaOwn_lt _ _ _ _ ownwa
  have ownswa0 : Hid (ArenaOwn w4 cswa td fwa) := ownwa
  obtain ⟨_, _, _, _, rfl, sswa, stwa, _⟩ := ownwa
  obtain ⟨pwa, dwa, rfl⟩ := sswa.form
  obtain ⟨qwa, ewa, rfl⟩ := stwa.form
  have ownswa : Hid (ArenaOwn w4 [.slice pwa td.vSlots.length dwa, .slice qwa td.vFree.length ewa] td fwa) := ownswa0.out
  clear sswa stwa ownswa0
  have wa_3 : Hid (ArenaOwn w4 [.slice pwa td.vSlots.length dwa, .slice qwa td.vFree.length ewa] td fwa) := ownswa
  have rg_wa : Hid (∀ b ∈ fwa, u3a.heap.size ≤ b ∧ b < w4.heap.size) := fun b q => ⟨by have := lowwa'.out b q; omega, rg_wa0.out b q⟩
  clear ownswa
  have hbzwa : Below w4.heap.size w4 (w4.alloc (.cells (List.toArray [.slice pwa td.vSlots.length dwa, .slice qwa td.vFree.length ewa]) 30)) := (Below.refl _ _).alloc (Nat.le_refl _) _
  have szzwa : (w4.alloc (.cells (List.toArray [.slice pwa td.vSlots.length dwa, .slice qwa td.vFree.length ewa]) 30)).heap.size = w4.heap.size + 1 := by simp
  have bA_4 : Hid (Box (w4.alloc (.cells (List.toArray [.slice pwa td.vSlots.length dwa, .slice qwa td.vFree.length ewa]) 30)) w.heap.size [.slice a0 x.vSlots.length c0, .slice a1 x.vFree.length c1] 25) := bA_3.out.below hbzwa bA_3.out.lt
  have x3t_4 : Hid (ArenaOwn (w4.alloc (.cells (List.toArray [.slice pwa td.vSlots.length dwa, .slice qwa td.vFree.length ewa]) 30)) [.slice p3 x.vSlots.length d3, .slice q3 x.vFree.length e3] x f3t) := ArenaOwn_stays _ _ _ _ _ (fun x hx => (hbzwa).block x (ArenaOwn_lt _ _ _ _ x3t_3.out x hx)) x3t_3.out
  have wa_4 : Hid (ArenaOwn (w4.alloc (.cells (List.toArray [.slice pwa td.vSlots.length dwa, .slice qwa td.vFree.length ewa]) 30)) [.slice pwa td.vSlots.length dwa, .slice qwa td.vFree.length ewa] td fwa) := ArenaOwn_stays _ _ _ _ _ (fun x hx => (hbzwa).block x (ArenaOwn_lt _ _ _ _ wa_3.out x hx)) wa_3.out
  clear bA_3 x3t_3 wa_3
  have hB4 : Hid (Below w.heap.size w (w4.alloc (.cells (List.toArray [.slice pwa td.vSlots.length dwa, .slice qwa td.vFree.length ewa]) 30))) := hB3.out.trans ((hbzwa).mono hB3.out.size)
  have sz4 := (hbzwa).size
  simp only [World.size_alloc] at sz4
  clear z3_bA_0 z3_bA_1
  have z4_bA_0 := bA_4.out.cell 0 rfl
  have z4_bA_1 := bA_4.out.cell 1 rfl
  have bwa_4 : Hid (Box (w4.alloc (.cells (List.toArray [.slice pwa td.vSlots.length dwa, .slice qwa td.vFree.length ewa]) 30)) w4.heap.size [.slice pwa td.vSlots.length dwa, .slice qwa td.vFree.length ewa] 30) := Box.new w4 _ _
  have z4_bwa_0 := bwa_4.out.cell 0 rfl
  have z4_bwa_1 := bwa_4.out.cell 1 rfl
  clear hbzwa
  have hbywa : Below (w4.alloc (.cells (List.toArray [.slice pwa td.vSlots.length dwa, .slice qwa td.vFree.length ewa]) 30)).heap.size (w4.alloc (.cells (List.toArray [.slice pwa td.vSlots.length dwa, .slice qwa td.vFree.length ewa]) 30)) ((w4.alloc (.cells (List.toArray [.slice pwa td.vSlots.length dwa, .slice qwa td.vFree.length ewa]) 30)).alloc (.cells (List.toArray [.int .i64 hA_, .int .i64 hG_]) 39)) := (Below.refl _ _).alloc (Nat.le_refl _) _
  have szywa : ((w4.alloc (.cells (List.toArray [.slice pwa td.vSlots.length dwa, .slice qwa td.vFree.length ewa]) 30)).alloc (.cells (List.toArray [.int .i64 hA_, .int .i64 hG_]) 39)).heap.size = w4.heap.size + 2 := by simp
  have bA_5 : Hid (Box ((w4.alloc (.cells (List.toArray [.slice pwa td.vSlots.length dwa, .slice qwa td.vFree.length ewa]) 30)).alloc (.cells (List.toArray [.int .i64 hA_, .int .i64 hG_]) 39)) w.heap.size [.slice a0 x.vSlots.length c0, .slice a1 x.vFree.length c1] 25) := bA_4.out.below hbywa bA_4.out.lt
  have x3t_5 : Hid (ArenaOwn ((w4.alloc (.cells (List.toArray [.slice pwa td.vSlots.length dwa, .slice qwa td.vFree.length ewa]) 30)).alloc (.cells (List.toArray [.int .i64 hA_, .int .i64 hG_]) 39)) [.slice p3 x.vSlots.length d3, .slice q3 x.vFree.length e3] x f3t) := ArenaOwn_stays _ _ _ _ _ (fun x hx => (hbywa).block x (ArenaOwn_lt _ _ _ _ x3t_4.out x hx)) x3t_4.out
  have wa_5 : Hid (ArenaOwn ((w4.alloc (.cells (List.toArray [.slice pwa td.vSlots.length dwa, .slice qwa td.vFree.length ewa]) 30)).alloc (.cells (List.toArray [.int .i64 hA_, .int .i64 hG_]) 39)) [.slice pwa td.vSlots.length dwa, .slice qwa td.vFree.length ewa] td fwa) := ArenaOwn_stays _ _ _ _ _ (fun x hx => (hbywa).block x (ArenaOwn_lt _ _ _ _ wa_4.out x hx)) wa_4.out
  have bwa_5 : Hid (Box ((w4.alloc (.cells (List.toArray [.slice pwa td.vSlots.length dwa, .slice qwa td.vFree.length ewa]) 30)).alloc (.cells (List.toArray [.int .i64 hA_, .int .i64 hG_]) 39)) w4.heap.size [.slice pwa td.vSlots.length dwa, .slice qwa td.vFree.length ewa] 30) := bwa_4.out.below hbywa bwa_4.out.lt
  clear bA_4 x3t_4 wa_4 bwa_4
  have hB5 : Hid (Below w.heap.size w ((w4.alloc (.cells (List.toArray [.slice pwa td.vSlots.length dwa, .slice qwa td.vFree.length ewa]) 30)).alloc (.cells (List.toArray [.int .i64 hA_, .int .i64 hG_]) 39))) := hB4.out.trans ((hbywa).mono hB4.out.size)
  have sz5 := (hbywa).size
  simp only [World.size_alloc] at sz5
  clear z4_bA_0 z4_bA_1 z4_bwa_0 z4_bwa_1
  have z5_bA_0 := bA_5.out.cell 0 rfl
  have z5_bA_1 := bA_5.out.cell 1 rfl
  have z5_bwa_0 := bwa_5.out.cell 0 rfl
  have z5_bwa_1 := bwa_5.out.cell 1 rfl
  have hwa_5 : Hid (Box ((w4.alloc (.cells (List.toArray [.slice pwa td.vSlots.length dwa, .slice qwa td.vFree.length ewa]) 30)).alloc (.cells (List.toArray [.int .i64 hA_, .int .i64 hG_]) 39)) (w4.heap.size + 1) [.int .i64 hA_, .int .i64 hG_] 39) := (by have hh := Box.new (w4.alloc (.cells (List.toArray [.slice pwa td.vSlots.length dwa, .slice qwa td.vFree.length ewa]) 30)) [.int .i64 hA_, .int .i64 hG_] 39; simpa [Hid] using hh)
  have z5_hwa_0 := hwa_5.out.cell 0 rfl
  have z5_hwa_1 := hwa_5.out.cell 1 rfl
  clear hbywa
  clear x3t_5
  have hYC : Hid ((1 : Int) + (cntL cntSlot td.vSlots : Nat) + (cntL cntI td.vFree : Nat) ≤ 4611686018427387904) := by show _ ≤ _; have := allocD_few x dt; rw [hYS'.out] at this; dsimp only at this; rw [cntL_slot, cntL_int]; omega
  have hHR : Hid (InI hA_ ∧ InI hG_) := by have h5 := allocD_rng x dt (small_rng hx0.out); rw [hYS'.out] at h5; exact h5
  go_wp2_with fail
  refine (toArena_own (ArenaAt_stays _ _ _ 0 _ _ (.of_below hB5.out) hx0.out) hsm.out).mono ?_
  rintro e u5a ⟨⟨cs5, f5t, rfl, ht5, nd5, lo5t⟩, hba5⟩
  have nd5h : Hid (f5t.Nodup) := nd5
  have rg_x5t0 : Hid (∀ b ∈ f5t, b < u5a.heap.size) := ArenaOwn_lt _ _ _ _ ht5
  have lo5t' : Hid (∀ b ∈ f5t, (((w4.alloc (.cells (List.toArray [.slice pwa td.vSlots.length dwa, .slice qwa td.vFree.length ewa]) 30)).alloc (.cells (List.toArray [.int .i64 hA_, .int .i64 hG_]) 39))).heap.size ≤ b) := lo5t
  have hto50 : Hid (ArenaOwn u5a cs5 x f5t) := ht5
  obtain ⟨_, _, _, _, rfl, ss5, st5, _⟩ := ht5
  obtain ⟨p5, d5, rfl⟩ := ss5.form
  obtain ⟨q5, e5, rfl⟩ := st5.form
  have hto5 : Hid (ArenaOwn u5a [.slice p5 x.vSlots.length d5, .slice q5 x.vFree.length e5] x f5t) := hto50.out
  clear ss5 st5 lo5t hto50 nd5
  have bA_6 : Hid (Box u5a w.heap.size [.slice a0 x.vSlots.length c0, .slice a1 x.vFree.length c1] 25) := bA_5.out.below hba5 bA_5.out.lt
  have wa_6 : Hid (ArenaOwn u5a [.slice pwa td.vSlots.length dwa, .slice qwa td.vFree.length ewa] td fwa) := ArenaOwn_stays _ _ _ _ _ (fun x hx => (hba5).block x (ArenaOwn_lt _ _ _ _ wa_5.out x hx)) wa_5.out
  have bwa_6 : Hid (Box u5a w4.heap.size [.slice pwa td.vSlots.length dwa, .slice qwa td.vFree.length ewa] 30) := bwa_5.out.below hba5 bwa_5.out.lt
  have hwa_6 : Hid (Box u5a (w4.heap.size + 1) [.int .i64 hA_, .int .i64 hG_] 39) := hwa_5.out.below hba5 hwa_5.out.lt
  clear bA_5 wa_5 bwa_5 hwa_5
  have hB6 : Hid (Below w.heap.size w u5a) := hB5.out.trans ((hba5).mono hB5.out.size)
  have sz6 := (hba5).size
  simp only [World.size_alloc] at sz6
  clear z5_bA_0 z5_bA_1 z5_bwa_0 z5_bwa_1 z5_hwa_0 z5_hwa_1
  have z6_bA_0 := bA_6.out.cell 0 rfl
  have z6_bA_1 := bA_6.out.cell 1 rfl
  have z6_bwa_0 := bwa_6.out.cell 0 rfl
  have z6_bwa_1 := bwa_6.out.cell 1 rfl
  have z6_hwa_0 := hwa_6.out.cell 0 rfl
  have z6_hwa_1 := hwa_6.out.cell 1 rfl
  have x5t_6 : Hid (ArenaOwn u5a [.slice p5 x.vSlots.length d5, .slice q5 x.vFree.length e5] x f5t) := hto5
  clear hto5 hba5
  have rg_x5t : Hid (∀ b ∈ f5t, w4.heap.size + 2 ≤ b ∧ b < u5a.heap.size) := fun b q => ⟨by have := lo5t'.out b q; simp only [World.size_alloc] at this; omega, rg_x5t0.out b q⟩
  have hbx5 : Below u5a.heap.size u5a (u5a.alloc (.cells (List.toArray [.slice p5 x.vSlots.length d5, .slice q5 x.vFree.length e5]) 30)) := (Below.refl _ _).alloc (Nat.le_refl _) _
  have szx5 : (u5a.alloc (.cells (List.toArray [.slice p5 x.vSlots.length d5, .slice q5 x.vFree.length e5]) 30)).heap.size = u5a.heap.size + 1 := by simp
  have bA_7 : Hid (Box (u5a.alloc (.cells (List.toArray [.slice p5 x.vSlots.length d5, .slice q5 x.vFree.length e5]) 30)) w.heap.size [.slice a0 x.vSlots.length c0, .slice a1 x.vFree.length c1] 25) := bA_6.out.below hbx5 bA_6.out.lt
  have wa_7 : Hid (ArenaOwn (u5a.alloc (.cells (List.toArray [.slice p5 x.vSlots.length d5, .slice q5 x.vFree.length e5]) 30)) [.slice pwa td.vSlots.length dwa, .slice qwa td.vFree.length ewa] td fwa) := ArenaOwn_stays _ _ _ _ _ (fun x hx => (hbx5).block x (ArenaOwn_lt _ _ _ _ wa_6.out x hx)) wa_6.out
  have bwa_7 : Hid (Box (u5a.alloc (.cells (List.toArray [.slice p5 x.vSlots.length d5, .slice q5 x.vFree.length e5]) 30)) w4.heap.size [.slice pwa td.vSlots.length dwa, .slice qwa td.vFree.length ewa] 30) := bwa_6.out.below hbx5 bwa_6.out.lt
  have hwa_7 : Hid (Box (u5a.alloc (.cells (List.toArray [.slice p5 x.vSlots.length d5, .slice q5 x.vFree.length e5]) 30)) (w4.heap.size + 1) [.int .i64 hA_, .int .i64 hG_] 39) := hwa_6.out.below hbx5 hwa_6.out.lt
  have x5t_7 : Hid (ArenaOwn (u5a.alloc (.cells (List.toArray [.slice p5 x.vSlots.length d5, .slice q5 x.vFree.length e5]) 30)) [.slice p5 x.vSlots.length d5, .slice q5 x.vFree.length e5] x f5t) := ArenaOwn_stays _ _ _ _ _ (fun x hx => (hbx5).block x (ArenaOwn_lt _ _ _ _ x5t_6.out x hx)) x5t_6.out
  clear bA_6 wa_6 bwa_6 hwa_6 x5t_6
  have hB7 : Hid (Below w.heap.size w (u5a.alloc (.cells (List.toArray [.slice p5 x.vSlots.length d5, .slice q5 x.vFree.length e5]) 30))) := hB6.out.trans ((hbx5).mono hB6.out.size)
  have sz7 := (hbx5).size
  simp only [World.size_alloc] at sz7
  clear z6_bA_0 z6_bA_1 z6_bwa_0 z6_bwa_1 z6_hwa_0 z6_hwa_1
  have z7_bA_0 := bA_7.out.cell 0 rfl
  have z7_bA_1 := bA_7.out.cell 1 rfl
  have z7_bwa_0 := bwa_7.out.cell 0 rfl
  have z7_bwa_1 := bwa_7.out.cell 1 rfl
  have z7_hwa_0 := hwa_7.out.cell 0 rfl
  have z7_hwa_1 := hwa_7.out.cell 1 rfl
  have bX5_7 : Hid (Box (u5a.alloc (.cells (List.toArray [.slice p5 x.vSlots.length d5, .slice q5 x.vFree.length e5]) 30)) u5a.heap.size [.slice p5 x.vSlots.length d5, .slice q5 x.vFree.length e5] 30) := Box.new u5a _ _
  have z7_bX5_0 := bX5_7.out.cell 0 rfl
  have z7_bX5_1 := bX5_7.out.cell 1 rfl
  clear hbx5
  go_wp2_with fail
  refine (implAllocated_any (ArenaOwn_at (lo := 0) _ _ _ _ x5t_7.out (fun _ _ => Nat.zero_le _)) hdt.out).mono ?_
  rintro e w6 ⟨⟨csga, rfl, fga, ownga, ndga, lowga⟩, hbga⟩
  rw [hYS'.out] at ownga ⊢
  dsimp only at ownga ⊢
  have lowga' : Hid (∀ b ∈ fga, ((u5a.alloc (.cells (List.toArray [.slice p5 x.vSlots.length d5, .slice q5 x.vFree.length e5]) 30))).heap.size ≤ b) := lowga
  have ndgah : Hid (fga.Nodup) := ndga
  clear ndga
  have bA_8 : Hid (Box w6 w.heap.size [.slice a0 x.vSlots.length c0, .slice a1 x.vFree.length c1] 25) := bA_7.out.below hbga bA_7.out.lt
  have wa_8 : Hid (ArenaOwn w6 [.slice pwa td.vSlots.length dwa, .slice qwa td.vFree.length ewa] td fwa) := ArenaOwn_stays _ _ _ _ _ (fun x hx => (hbga).block x (ArenaOwn_lt _ _ _ _ wa_7.out x hx)) wa_7.out
  have bwa_8 : Hid (Box w6 w4.heap.size [.slice pwa td.vSlots.length dwa, .slice qwa td.vFree.length ewa] 30) := bwa_7.out.below hbga bwa_7.out.lt
  have hwa_8 : Hid (Box w6 (w4.heap.size + 1) [.int .i64 hA_, .int .i64 hG_] 39) := hwa_7.out.below hbga hwa_7.out.lt
  have x5t_8 : Hid (ArenaOwn w6 [.slice p5 x.vSlots.length d5, .slice q5 x.vFree.length e5] x f5t) := ArenaOwn_stays _ _ _ _ _ (fun x hx => (hbga).block x (ArenaOwn_lt _ _ _ _ x5t_7.out x hx)) x5t_7.out
  have bX5_8 : Hid (Box w6 u5a.heap.size [.slice p5 x.vSlots.length d5, .slice q5 x.vFree.length e5] 30) := bX5_7.out.below hbga bX5_7.out.lt
  clear bA_7 wa_7 bwa_7 hwa_7 x5t_7 bX5_7
  have hB8 : Hid (Below w.heap.size w w6) := hB7.out.trans ((hbga).mono hB7.out.size)
  have sz8 := (hbga).size
  simp only [World.size_alloc] at sz8
  clear z7_bA_0 z7_bA_1 z7_bwa_0 z7_bwa_1 z7_hwa_0 z7_hwa_1 z7_bX5_0 z7_bX5_1
  have z8_bA_0 := bA_8.out.cell 0 rfl
  have z8_bA_1 := bA_8.out.cell 1 rfl
  have z8_bwa_0 := bwa_8.out.cell 0 rfl
  have z8_bwa_1 := bwa_8.out.cell 1 rfl
  have z8_hwa_0 := hwa_8.out.cell 0 rfl
  have z8_hwa_1 := hwa_8.out.cell 1 rfl
  have z8_bX5_0 := bX5_8.out.cell 0 rfl
  have z8_bX5_1 := bX5_8.out.cell 1 rfl
  clear hbga lowga
  have rg_ga0 : Hid (∀ b ∈ fga, b < w6.heap.size) := ArenaOwn_lt _ _ _ _ ownga
  have ownsga0 : Hid (ArenaOwn w6 csga td fga) := ownga
  obtain ⟨_, _, _, _, rfl, ssga, stga, _⟩ := ownga
  obtain ⟨pga, dga, rfl⟩ := ssga.form
  obtain ⟨qga, ega, rfl⟩ := stga.form
  have ownsga : Hid (ArenaOwn w6 [.slice pga td.vSlots.length dga, .slice qga td.vFree.length ega] td fga) := ownsga0.out
  clear ssga stga ownsga0
  have ga_8 : Hid (ArenaOwn w6 [.slice pga td.vSlots.length dga, .slice qga td.vFree.length ega] td fga) := ownsga
  have rg_ga : Hid (∀ b ∈ fga, u5a.heap.size + 1 ≤ b ∧ b < w6.heap.size) := fun b q => ⟨by have := lowga'.out b q; simp only [World.size_alloc] at this; omega, rg_ga0.out b q⟩
  clear ownsga
  have hbzga : Below w6.heap.size w6 (w6.alloc (.cells (List.toArray [.slice pga td.vSlots.length dga, .slice qga td.vFree.length ega]) 30)) := (Below.refl _ _).alloc (Nat.le_refl _) _
  have szzga : (w6.alloc (.cells (List.toArray [.slice pga td.vSlots.length dga, .slice qga td.vFree.length ega]) 30)).heap.size = w6.heap.size + 1 := by simp
  have bA_9 : Hid (Box (w6.alloc (.cells (List.toArray [.slice pga td.vSlots.length dga, .slice qga td.vFree.length ega]) 30)) w.heap.size [.slice a0 x.vSlots.length c0, .slice a1 x.vFree.length c1] 25) := bA_8.out.below hbzga bA_8.out.lt
  have wa_9 : Hid (ArenaOwn (w6.alloc (.cells (List.toArray [.slice pga td.vSlots.length dga, .slice qga td.vFree.length ega]) 30)) [.slice pwa td.vSlots.length dwa, .slice qwa td.vFree.length ewa] td fwa) := ArenaOwn_stays _ _ _ _ _ (fun x hx => (hbzga).block x (ArenaOwn_lt _ _ _ _ wa_8.out x hx)) wa_8.out
  have bwa_9 : Hid (Box (w6.alloc (.cells (List.toArray [.slice pga td.vSlots.length dga, .slice qga td.vFree.length ega]) 30)) w4.heap.size [.slice pwa td.vSlots.length dwa, .slice qwa td.vFree.length ewa] 30) := bwa_8.out.below hbzga bwa_8.out.lt
  have hwa_9 : Hid (Box (w6.alloc (.cells (List.toArray [.slice pga td.vSlots.length dga, .slice qga td.vFree.length ega]) 30)) (w4.heap.size + 1) [.int .i64 hA_, .int .i64 hG_] 39) := hwa_8.out.below hbzga hwa_8.out.lt
  have x5t_9 : Hid (ArenaOwn (w6.alloc (.cells (List.toArray [.slice pga td.vSlots.length dga, .slice qga td.vFree.length ega]) 30)) [.slice p5 x.vSlots.length d5, .slice q5 x.vFree.length e5] x f5t) := ArenaOwn_stays _ _ _ _ _ (fun x hx => (hbzga).block x (ArenaOwn_lt _ _ _ _ x5t_8.out x hx)) x5t_8.out
  have bX5_9 : Hid (Box (w6.alloc (.cells (List.toArray [.slice pga td.vSlots.length dga, .slice qga td.vFree.length ega]) 30)) u5a.heap.size [.slice p5 x.vSlots.length d5, .slice q5 x.vFree.length e5] 30) := bX5_8.out.below hbzga bX5_8.out.lt
  have ga_9 : Hid (ArenaOwn (w6.alloc (.cells (List.toArray [.slice pga td.vSlots.length dga, .slice qga td.vFree.length ega]) 30)) [.slice pga td.vSlots.length dga, .slice qga td.vFree.length ega] td fga) := ArenaOwn_stays _ _ _ _ _ (fun x hx => (hbzga).block x (ArenaOwn_lt _ _ _ _ ga_8.out x hx)) ga_8.out
  clear bA_8 wa_8 bwa_8 hwa_8 x5t_8 bX5_8 ga_8
  have hB9 : Hid (Below w.heap.size w (w6.alloc (.cells (List.toArray [.slice pga td.vSlots.length dga, .slice qga td.vFree.length ega]) 30))) := hB8.out.trans ((hbzga).mono hB8.out.size)
  have sz9 := (hbzga).size
  simp only [World.size_alloc] at sz9
  clear z8_bA_0 z8_bA_1 z8_bwa_0 z8_bwa_1 z8_hwa_0 z8_hwa_1 z8_bX5_0 z8_bX5_1
  have z9_bA_0 := bA_9.out.cell 0 rfl
  have z9_bA_1 := bA_9.out.cell 1 rfl
  have z9_bwa_0 := bwa_9.out.cell 0 rfl
  have z9_bwa_1 := bwa_9.out.cell 1 rfl
  have z9_hwa_0 := hwa_9.out.cell 0 rfl
  have z9_hwa_1 := hwa_9.out.cell 1 rfl
  have z9_bX5_0 := bX5_9.out.cell 0 rfl
  have z9_bX5_1 := bX5_9.out.cell 1 rfl
  have bga_9 : Hid (Box (w6.alloc (.cells (List.toArray [.slice pga td.vSlots.length dga, .slice qga td.vFree.length ega]) 30)) w6.heap.size [.slice pga td.vSlots.length dga, .slice qga td.vFree.length ega] 30) := Box.new w6 _ _
  have z9_bga_0 := bga_9.out.cell 0 rfl
  have z9_bga_1 := bga_9.out.cell 1 rfl
  clear hbzga
  have hbyga : Below (w6.alloc (.cells (List.toArray [.slice pga td.vSlots.length dga, .slice qga td.vFree.length ega]) 30)).heap.size (w6.alloc (.cells (List.toArray [.slice pga td.vSlots.length dga, .slice qga td.vFree.length ega]) 30)) ((w6.alloc (.cells (List.toArray [.slice pga td.vSlots.length dga, .slice qga td.vFree.length ega]) 30)).alloc (.cells (List.toArray [.int .i64 hA_, .int .i64 hG_]) 39)) := (Below.refl _ _).alloc (Nat.le_refl _) _
  have szyga : ((w6.alloc (.cells (List.toArray [.slice pga td.vSlots.length dga, .slice qga td.vFree.length ega]) 30)).alloc (.cells (List.toArray [.int .i64 hA_, .int .i64 hG_]) 39)).heap.size = w6.heap.size + 2 := by simp
  have bA_10 : Hid (Box ((w6.alloc (.cells (List.toArray [.slice pga td.vSlots.length dga, .slice qga td.vFree.length ega]) 30)).alloc (.cells (List.toArray [.int .i64 hA_, .int .i64 hG_]) 39)) w.heap.size [.slice a0 x.vSlots.length c0, .slice a1 x.vFree.length c1] 25) := bA_9.out.below hbyga bA_9.out.lt
  have wa_10 : Hid (ArenaOwn ((w6.alloc (.cells (List.toArray [.slice pga td.vSlots.length dga, .slice qga td.vFree.length ega]) 30)).alloc (.cells (List.toArray [.int .i64 hA_, .int .i64 hG_]) 39)) [.slice pwa td.vSlots.length dwa, .slice qwa td.vFree.length ewa] td fwa) := ArenaOwn_stays _ _ _ _ _ (fun x hx => (hbyga).block x (ArenaOwn_lt _ _ _ _ wa_9.out x hx)) wa_9.out
  have bwa_10 : Hid (Box ((w6.alloc (.cells (List.toArray [.slice pga td.vSlots.length dga, .slice qga td.vFree.length ega]) 30)).alloc (.cells (List.toArray [.int .i64 hA_, .int .i64 hG_]) 39)) w4.heap.size [.slice pwa td.vSlots.length dwa, .slice qwa td.vFree.length ewa] 30) := bwa_9.out.below hbyga bwa_9.out.lt
  have hwa_10 : Hid (Box ((w6.alloc (.cells (List.toArray [.slice pga td.vSlots.length dga, .slice qga td.vFree.length ega]) 30)).alloc (.cells (List.toArray [.int .i64 hA_, .int .i64 hG_]) 39)) (w4.heap.size + 1) [.int .i64 hA_, .int .i64 hG_] 39) := hwa_9.out.below hbyga hwa_9.out.lt
  have x5t_10 : Hid (ArenaOwn ((w6.alloc (.cells (List.toArray [.slice pga td.vSlots.length dga, .slice qga td.vFree.length ega]) 30)).alloc (.cells (List.toArray [.int .i64 hA_, .int .i64 hG_]) 39)) [.slice p5 x.vSlots.length d5, .slice q5 x.vFree.length e5] x f5t) := ArenaOwn_stays _ _ _ _ _ (fun x hx => (hbyga).block x (ArenaOwn_lt _ _ _ _ x5t_9.out x hx)) x5t_9.out
  have bX5_10 : Hid (Box ((w6.alloc (.cells (List.toArray [.slice pga td.vSlots.length dga, .slice qga td.vFree.length ega]) 30)).alloc (.cells (List.toArray [.int .i64 hA_, .int .i64 hG_]) 39)) u5a.heap.size [.slice p5 x.vSlots.length d5, .slice q5 x.vFree.length e5] 30) := bX5_9.out.below hbyga bX5_9.out.lt
  have ga_10 : Hid (ArenaOwn ((w6.alloc (.cells (List.toArray [.slice pga td.vSlots.length dga, .slice qga td.vFree.length ega]) 30)).alloc (.cells (List.toArray [.int .i64 hA_, .int .i64 hG_]) 39)) [.slice pga td.vSlots.length dga, .slice qga td.vFree.length ega] td fga) := ArenaOwn_stays _ _ _ _ _ (fun x hx => (hbyga).block x (ArenaOwn_lt _ _ _ _ ga_9.out x hx)) ga_9.out
  have bga_10 : Hid (Box ((w6.alloc (.cells (List.toArray [.slice pga td.vSlots.length dga, .slice qga td.vFree.length ega]) 30)).alloc (.cells (List.toArray [.int .i64 hA_, .int .i64 hG_]) 39)) w6.heap.size [.slice pga td.vSlots.length dga, .slice qga td.vFree.length ega] 30) := bga_9.out.below hbyga bga_9.out.lt
  clear bA_9 wa_9 bwa_9 hwa_9 x5t_9 bX5_9 ga_9 bga_9
  have hB10 : Hid (Below w.heap.size w ((w6.alloc (.cells (List.toArray [.slice pga td.vSlots.length dga, .slice qga td.vFree.length ega]) 30)).alloc (.cells (List.toArray [.int .i64 hA_, .int .i64 hG_]) 39))) := hB9.out.trans ((hbyga).mono hB9.out.size)
  have sz10 := (hbyga).size
  simp only [World.size_alloc] at sz10
  clear z9_bA_0 z9_bA_1 z9_bwa_0 z9_bwa_1 z9_hwa_0 z9_hwa_1 z9_bX5_0 z9_bX5_1 z9_bga_0 z9_bga_1
  have z10_bA_0 := bA_10.out.cell 0 rfl
  have z10_bA_1 := bA_10.out.cell 1 rfl
  have z10_bwa_0 := bwa_10.out.cell 0 rfl
  have z10_bwa_1 := bwa_10.out.cell 1 rfl
  have z10_hwa_0 := hwa_10.out.cell 0 rfl
  have z10_hwa_1 := hwa_10.out.cell 1 rfl
  have z10_bX5_0 := bX5_10.out.cell 0 rfl
  have z10_bX5_1 := bX5_10.out.cell 1 rfl
  have z10_bga_0 := bga_10.out.cell 0 rfl
  have z10_bga_1 := bga_10.out.cell 1 rfl
  have hga_10 : Hid (Box ((w6.alloc (.cells (List.toArray [.slice pga td.vSlots.length dga, .slice qga td.vFree.length ega]) 30)).alloc (.cells (List.toArray [.int .i64 hA_, .int .i64 hG_]) 39)) (w6.heap.size + 1) [.int .i64 hA_, .int .i64 hG_] 39) := (by have hh := Box.new (w6.alloc (.cells (List.toArray [.slice pga td.vSlots.length dga, .slice qga td.vFree.length ega]) 30)) [.int .i64 hA_, .int .i64 hG_] 39; simpa [Hid] using hh)
  have z10_hga_0 := hga_10.out.cell 0 rfl
  have z10_hga_1 := hga_10.out.cell 1 rfl
  clear hbyga
  go_wp2_with fail
  refine (eqArena_any (lo := 0) (lo2 := 0) (ArenaOwn_at (lo := 0) _ _ _ _ ga_10.out (fun _ _ => Nat.zero_le _)) (ArenaOwn_at (lo := 0) _ _ _ _ wa_10.out (fun _ _ => Nat.zero_le _))).mono ?_
  rintro e w7 ⟨rfl, hbw7⟩
  have bA_11 : Hid (Box w7 w.heap.size [.slice a0 x.vSlots.length c0, .slice a1 x.vFree.length c1] 25) := bA_10.out.below hbw7 bA_10.out.lt
  have wa_11 : Hid (ArenaOwn w7 [.slice pwa td.vSlots.length dwa, .slice qwa td.vFree.length ewa] td fwa) := ArenaOwn_stays _ _ _ _ _ (fun x hx => (hbw7).block x (ArenaOwn_lt _ _ _ _ wa_10.out x hx)) wa_10.out
  have bwa_11 : Hid (Box w7 w4.heap.size [.slice pwa td.vSlots.length dwa, .slice qwa td.vFree.length ewa] 30) := bwa_10.out.below hbw7 bwa_10.out.lt
  have hwa_11 : Hid (Box w7 (w4.heap.size + 1) [.int .i64 hA_, .int .i64 hG_] 39) := hwa_10.out.below hbw7 hwa_10.out.lt
  have x5t_11 : Hid (ArenaOwn w7 [.slice p5 x.vSlots.length d5, .slice q5 x.vFree.length e5] x f5t) := ArenaOwn_stays _ _ _ _ _ (fun x hx => (hbw7).block x (ArenaOwn_lt _ _ _ _ x5t_10.out x hx)) x5t_10.out
  have bX5_11 : Hid (Box w7 u5a.heap.size [.slice p5 x.vSlots.length d5, .slice q5 x.vFree.length e5] 30) := bX5_10.out.below hbw7 bX5_10.out.lt
  have ga_11 : Hid (ArenaOwn w7 [.slice pga td.vSlots.length dga, .slice qga td.vFree.length ega] td fga) := ArenaOwn_stays _ _ _ _ _ (fun x hx => (hbw7).block x (ArenaOwn_lt _ _ _ _ ga_10.out x hx)) ga_10.out
  have bga_11 : Hid (Box w7 w6.heap.size [.slice pga td.vSlots.length dga, .slice qga td.vFree.length ega] 30) := bga_10.out.below hbw7 bga_10.out.lt
  have hga_11 : Hid (Box w7 (w6.heap.size + 1) [.int .i64 hA_, .int .i64 hG_] 39) := hga_10.out.below hbw7 hga_10.out.lt
  clear bA_10 wa_10 bwa_10 hwa_10 x5t_10 bX5_10 ga_10 bga_10 hga_10
  have hB11 : Hid (Below w.heap.size w w7) := hB10.out.trans ((hbw7).mono hB10.out.size)
  have sz11 := (hbw7).size
  simp only [World.size_alloc] at sz11
  clear z10_bA_0 z10_bA_1 z10_bwa_0 z10_bwa_1 z10_hwa_0 z10_hwa_1 z10_bX5_0 z10_bX5_1 z10_bga_0 z10_bga_1 z10_hga_0 z10_hga_1
  have z11_bA_0 := bA_11.out.cell 0 rfl
  have z11_bA_1 := bA_11.out.cell 1 rfl
  have z11_bwa_0 := bwa_11.out.cell 0 rfl
  have z11_bwa_1 := bwa_11.out.cell 1 rfl
  have z11_hwa_0 := hwa_11.out.cell 0 rfl
  have z11_hwa_1 := hwa_11.out.cell 1 rfl
  have z11_bX5_0 := bX5_11.out.cell 0 rfl
  have z11_bX5_1 := bX5_11.out.cell 1 rfl
  have z11_bga_0 := bga_11.out.cell 0 rfl
  have z11_bga_1 := bga_11.out.cell 1 rfl
  have z11_hga_0 := hga_11.out.cell 0 rfl
  have z11_hga_1 := hga_11.out.cell 1 rfl
  clear hbw7
  go_wp2_with fail
  refine (eqHandle_any (lo := 0) (lo2 := 0) (x := ⟨hA_, hG_⟩) (by exact ⟨rfl, hHR.out.1, hHR.out.2, trivial⟩) (by exact ⟨rfl, hHR.out.1, hHR.out.2, trivial⟩)).mono ?_
  rintro e w7h ⟨rfl, hbw7h⟩
  have bA_12 : Hid (Box w7h w.heap.size [.slice a0 x.vSlots.length c0, .slice a1 x.vFree.length c1] 25) := bA_11.out.below hbw7h bA_11.out.lt
  have wa_12 : Hid (ArenaOwn w7h [.slice pwa td.vSlots.length dwa, .slice qwa td.vFree.length ewa] td fwa) := ArenaOwn_stays _ _ _ _ _ (fun x hx => (hbw7h).block x (ArenaOwn_lt _ _ _ _ wa_11.out x hx)) wa_11.out
  have bwa_12 : Hid (Box w7h w4.heap.size [.slice pwa td.vSlots.length dwa, .slice qwa td.vFree.length ewa] 30) := bwa_11.out.below hbw7h bwa_11.out.lt
  have hwa_12 : Hid (Box w7h (w4.heap.size + 1) [.int .i64 hA_, .int .i64 hG_] 39) := hwa_11.out.below hbw7h hwa_11.out.lt
  have x5t_12 : Hid (ArenaOwn w7h [.slice p5 x.vSlots.length d5, .slice q5 x.vFree.length e5] x f5t) := ArenaOwn_stays _ _ _ _ _ (fun x hx => (hbw7h).block x (ArenaOwn_lt _ _ _ _ x5t_11.out x hx)) x5t_11.out
  have bX5_12 : Hid (Box w7h u5a.heap.size [.slice p5 x.vSlots.length d5, .slice q5 x.vFree.length e5] 30) := bX5_11.out.below hbw7h bX5_11.out.lt
  have ga_12 : Hid (ArenaOwn w7h [.slice pga td.vSlots.length dga, .slice qga td.vFree.length ega] td fga) := ArenaOwn_stays _ _ _ _ _ (fun x hx => (hbw7h).block x (ArenaOwn_lt _ _ _ _ ga_11.out x hx)) ga_11.out
  have bga_12 : Hid (Box w7h w6.heap.size [.slice pga td.vSlots.length dga, .slice qga td.vFree.length ega] 30) := bga_11.out.below hbw7h bga_11.out.lt
  have hga_12 : Hid (Box w7h (w6.heap.size + 1) [.int .i64 hA_, .int .i64 hG_] 39) := hga_11.out.below hbw7h hga_11.out.lt
  clear bA_11 wa_11 bwa_11 hwa_11 x5t_11 bX5_11 ga_11 bga_11 hga_11
  have hB12 : Hid (Below w.heap.size w w7h) := hB11.out.trans ((hbw7h).mono hB11.out.size)
  have sz12 := (hbw7h).size
  clear z11_bA_0 z11_bA_1 z11_bwa_0 z11_bwa_1 z11_hwa_0 z11_hwa_1 z11_bX5_0 z11_bX5_1 z11_bga_0 z11_bga_1 z11_hga_0 z11_hga_1
  have z12_bA_0 := bA_12.out.cell 0 rfl
  have z12_bA_1 := bA_12.out.cell 1 rfl
  have z12_bwa_0 := bwa_12.out.cell 0 rfl
  have z12_bwa_1 := bwa_12.out.cell 1 rfl
  have z12_hwa_0 := hwa_12.out.cell 0 rfl
  have z12_hwa_1 := hwa_12.out.cell 1 rfl
  have z12_bX5_0 := bX5_12.out.cell 0 rfl
  have z12_bX5_1 := bX5_12.out.cell 1 rfl
  have z12_bga_0 := bga_12.out.cell 0 rfl
  have z12_bga_1 := bga_12.out.cell 1 rfl
  have z12_hga_0 := hga_12.out.cell 0 rfl
  have z12_hga_1 := hga_12.out.cell 1 rfl
  clear hbw7h
  go_wp2_with fail
  have ltA : w.heap.size < w7h.heap.size := bA_12.out.lt
  have ltX : u5a.heap.size < w7h.heap.size := bX5_12.out.lt
  have htx7 : Hid (ArenaAt w7h 0 [.slice p5 x.vSlots.length d5, .slice q5 x.vFree.length e5] x) := ArenaOwn_at (lo := 0) _ _ _ _ x5t_12.out (fun _ _ => Nat.zero_le _)
  go_region_held3 (fun w' => w'.cell? ⟨u5a.heap.size, 0, none⟩ = some (.slice p5 x.vSlots.length d5) ∧ w'.cell? ⟨u5a.heap.size, 1, none⟩ = some (.slice q5 x.vFree.length e5) ∧ w'.cell? ⟨w.heap.size, 0, none⟩ = some (.slice a0 x.vSlots.length c0) ∧ w'.cell? ⟨w.heap.size, 1, none⟩ = some (.slice a1 x.vFree.length c1)) (go_keep)
    (first | (go_at_call 11; refine (toArena_own (by exact ArenaAt_stays _ _ _ 0 _ _ (.of_below hB12.out.drew) hx0.out) hsm.out).mono ?_; rintro e w8 ⟨⟨cs8, fs8, rfl, ht8, _, _⟩, hb8⟩; have hb8' := undrew hb8; have x8 : Hid (Box w8 u5a.heap.size _ _) := Box.below bX5_12.out hb8' ltX; have g8 : Hid (Box w8 w.heap.size _ _) := Box.below bA_12.out hb8' ltA; have y0 := x8.out.cell 0 rfl; have y1 := x8.out.cell 1 rfl; have v0 := g8.out.cell 0 rfl; have v1 := g8.out.cell 1 rfl; have lt8 : Hid (ArenaAt w8 0 [.slice p5 x.vSlots.length d5, .slice q5 x.vFree.length e5] x) := ArenaAt_stays _ _ _ 0 _ _ (.of_below hb8') htx7.out; have lt8b : Hid (ArenaAt w8 0 cs8 x) := ArenaOwn_at (lo := 0) _ _ _ _ ht8 (fun _ _ => Nat.zero_le _); have hb8h : Hid (Below w7h.heap.size w7h w8) := hb8'; clear hb8 hb8' ht8) | (go_at_call 13; refine (eqArena_any (by exact lt8.out) (by exact lt8b.out)).mono ?_; rintro e w9 ⟨rfl, hb9⟩; have x9 : Hid (Box w9 u5a.heap.size _ _) := Box.below x8.out hb9 x8.out.lt; have g9 : Hid (Box w9 w.heap.size _ _) := Box.below g8.out hb9 g8.out.lt; have k0 := x9.out.cell 0 rfl; have k1 := x9.out.cell 1 rfl; have j0 := g9.out.cell 0 rfl; have j1 := g9.out.cell 1 rfl; have hb9h : Hid (Below w7h.heap.size w7h w9) := hb8h.out.trans (hb9.mono hb8h.out.size); clear hb9))
  have hb79 : Below w7h.heap.size w7h w9 := hb9h.out
  clear x8 g8 x9 g9 htx7 lt8 lt8b hb8h hb9h k0 k1 j0 j1 y0 y1 v0 v1 ltA ltX
  have bA_13 : Hid (Box w9 w.heap.size [.slice a0 x.vSlots.length c0, .slice a1 x.vFree.length c1] 25) := bA_12.out.below hb79 bA_12.out.lt
  have wa_13 : Hid (ArenaOwn w9 [.slice pwa td.vSlots.length dwa, .slice qwa td.vFree.length ewa] td fwa) := ArenaOwn_stays _ _ _ _ _ (fun x hx => (hb79).block x (ArenaOwn_lt _ _ _ _ wa_12.out x hx)) wa_12.out
  have bwa_13 : Hid (Box w9 w4.heap.size [.slice pwa td.vSlots.length dwa, .slice qwa td.vFree.length ewa] 30) := bwa_12.out.below hb79 bwa_12.out.lt
  have hwa_13 : Hid (Box w9 (w4.heap.size + 1) [.int .i64 hA_, .int .i64 hG_] 39) := hwa_12.out.below hb79 hwa_12.out.lt
  have x5t_13 : Hid (ArenaOwn w9 [.slice p5 x.vSlots.length d5, .slice q5 x.vFree.length e5] x f5t) := ArenaOwn_stays _ _ _ _ _ (fun x hx => (hb79).block x (ArenaOwn_lt _ _ _ _ x5t_12.out x hx)) x5t_12.out
  have bX5_13 : Hid (Box w9 u5a.heap.size [.slice p5 x.vSlots.length d5, .slice q5 x.vFree.length e5] 30) := bX5_12.out.below hb79 bX5_12.out.lt
  have ga_13 : Hid (ArenaOwn w9 [.slice pga td.vSlots.length dga, .slice qga td.vFree.length ega] td fga) := ArenaOwn_stays _ _ _ _ _ (fun x hx => (hb79).block x (ArenaOwn_lt _ _ _ _ ga_12.out x hx)) ga_12.out
  have bga_13 : Hid (Box w9 w6.heap.size [.slice pga td.vSlots.length dga, .slice qga td.vFree.length ega] 30) := bga_12.out.below hb79 bga_12.out.lt
  have hga_13 : Hid (Box w9 (w6.heap.size + 1) [.int .i64 hA_, .int .i64 hG_] 39) := hga_12.out.below hb79 hga_12.out.lt
  clear bA_12 wa_12 bwa_12 hwa_12 x5t_12 bX5_12 ga_12 bga_12 hga_12
  have hB13 : Hid (Below w.heap.size w w9) := hB12.out.trans ((hb79).mono hB12.out.size)
  have sz13 := (hb79).size
  clear z12_bA_0 z12_bA_1 z12_bwa_0 z12_bwa_1 z12_hwa_0 z12_hwa_1 z12_bX5_0 z12_bX5_1 z12_bga_0 z12_bga_1 z12_hga_0 z12_hga_1
  have z13_bA_0 := bA_13.out.cell 0 rfl
  have z13_bA_1 := bA_13.out.cell 1 rfl
  have z13_bwa_0 := bwa_13.out.cell 0 rfl
  have z13_bwa_1 := bwa_13.out.cell 1 rfl
  have z13_hwa_0 := hwa_13.out.cell 0 rfl
  have z13_hwa_1 := hwa_13.out.cell 1 rfl
  have z13_bX5_0 := bX5_13.out.cell 0 rfl
  have z13_bX5_1 := bX5_13.out.cell 1 rfl
  have z13_bga_0 := bga_13.out.cell 0 rfl
  have z13_bga_1 := bga_13.out.cell 1 rfl
  have z13_hga_0 := hga_13.out.cell 0 rfl
  have z13_hga_1 := hga_13.out.cell 1 rfl
  clear hb79
  go_wp2_with fail
  refine (markArena_any x5t_13.out nd5h.out (by omega) hXC.out).mono ?_
  rintro e m1 ⟨rfl, _, hom1⟩
  have bA_14 : Hid (Box m1 w.heap.size [.slice a0 x.vSlots.length c0, .slice a1 x.vFree.length c1] 25) := ((hom1).keep bA_13.out.lt (fun q => by have := rg_x5t.out _ q; omega)).trans bA_13.out
  have wa_14 : Hid (ArenaOwn m1 [.slice pwa td.vSlots.length dwa, .slice qwa td.vFree.length ewa] td fwa) := ArenaOwn_stays _ _ _ _ _ (fun x hx => (hom1).keep (ArenaOwn_lt _ _ _ _ wa_13.out x hx) (fun q => by have := rg_x5t.out _ q; have := rg_wa.out _ hx; omega)) wa_13.out
  have bwa_14 : Hid (Box m1 w4.heap.size [.slice pwa td.vSlots.length dwa, .slice qwa td.vFree.length ewa] 30) := ((hom1).keep bwa_13.out.lt (fun q => by have := rg_x5t.out _ q; omega)).trans bwa_13.out
  have hwa_14 : Hid (Box m1 (w4.heap.size + 1) [.int .i64 hA_, .int .i64 hG_] 39) := ((hom1).keep hwa_13.out.lt (fun q => by have := rg_x5t.out _ q; omega)).trans hwa_13.out
  have bX5_14 : Hid (Box m1 u5a.heap.size [.slice p5 x.vSlots.length d5, .slice q5 x.vFree.length e5] 30) := ((hom1).keep bX5_13.out.lt (fun q => by have := rg_x5t.out _ q; omega)).trans bX5_13.out
  have ga_14 : Hid (ArenaOwn m1 [.slice pga td.vSlots.length dga, .slice qga td.vFree.length ega] td fga) := ArenaOwn_stays _ _ _ _ _ (fun x hx => (hom1).keep (ArenaOwn_lt _ _ _ _ ga_13.out x hx) (fun q => by have := rg_x5t.out _ q; have := rg_ga.out _ hx; omega)) ga_13.out
  have bga_14 : Hid (Box m1 w6.heap.size [.slice pga td.vSlots.length dga, .slice qga td.vFree.length ega] 30) := ((hom1).keep bga_13.out.lt (fun q => by have := rg_x5t.out _ q; omega)).trans bga_13.out
  have hga_14 : Hid (Box m1 (w6.heap.size + 1) [.int .i64 hA_, .int .i64 hG_] 39) := ((hom1).keep hga_13.out.lt (fun q => by have := rg_x5t.out _ q; omega)).trans hga_13.out
  clear bA_13 wa_13 bwa_13 hwa_13 x5t_13 bX5_13 ga_13 bga_13 hga_13
  have hB14 : Hid (Below w.heap.size w m1) := hB13.out.trans ((hom1).below hB13.out.size (fun x hx => by have := rg_x5t.out x hx; omega))
  have sz14 := (hom1).2.2.2.1
  clear z13_bA_0 z13_bA_1 z13_bwa_0 z13_bwa_1 z13_hwa_0 z13_hwa_1 z13_bX5_0 z13_bX5_1 z13_bga_0 z13_bga_1 z13_hga_0 z13_hga_1
  have z14_bA_0 := bA_14.out.cell 0 rfl
  have z14_bA_1 := bA_14.out.cell 1 rfl
  have z14_bwa_0 := bwa_14.out.cell 0 rfl
  have z14_bwa_1 := bwa_14.out.cell 1 rfl
  have z14_hwa_0 := hwa_14.out.cell 0 rfl
  have z14_hwa_1 := hwa_14.out.cell 1 rfl
  have z14_bX5_0 := bX5_14.out.cell 0 rfl
  have z14_bX5_1 := bX5_14.out.cell 1 rfl
  have z14_bga_0 := bga_14.out.cell 0 rfl
  have z14_bga_1 := bga_14.out.cell 1 rfl
  have z14_hga_0 := hga_14.out.cell 0 rfl
  have z14_hga_1 := hga_14.out.cell 1 rfl
  clear hom1
  generalize hK1 : (1 : Int) + (cntL cntSlot x.vSlots : Nat) + (cntL cntI x.vFree : Nat) = K1
  have hK1b : 0 ≤ K1 := by omega
  clear hK1
  clear bX5_14 z14_bX5_0 z14_bX5_1
  have hKn : decide (K1 < 0) = false := by simp; omega
  go_wp2_with fail
  refine (eqArena_any (lo := 0) (lo2 := 0) (ArenaOwn_at (lo := 0) _ _ _ _ ga_14.out (fun _ _ => Nat.zero_le _)) (ArenaOwn_at (lo := 0) _ _ _ _ wa_14.out (fun _ _ => Nat.zero_le _))).mono ?_
  rintro e m4 ⟨rfl, hbm4⟩
  have bA_15 : Hid (Box m4 w.heap.size [.slice a0 x.vSlots.length c0, .slice a1 x.vFree.length c1] 25) := bA_14.out.below hbm4 bA_14.out.lt
  have wa_15 : Hid (ArenaOwn m4 [.slice pwa td.vSlots.length dwa, .slice qwa td.vFree.length ewa] td fwa) := ArenaOwn_stays _ _ _ _ _ (fun x hx => (hbm4).block x (ArenaOwn_lt _ _ _ _ wa_14.out x hx)) wa_14.out
  have bwa_15 : Hid (Box m4 w4.heap.size [.slice pwa td.vSlots.length dwa, .slice qwa td.vFree.length ewa] 30) := bwa_14.out.below hbm4 bwa_14.out.lt
  have hwa_15 : Hid (Box m4 (w4.heap.size + 1) [.int .i64 hA_, .int .i64 hG_] 39) := hwa_14.out.below hbm4 hwa_14.out.lt
  have ga_15 : Hid (ArenaOwn m4 [.slice pga td.vSlots.length dga, .slice qga td.vFree.length ega] td fga) := ArenaOwn_stays _ _ _ _ _ (fun x hx => (hbm4).block x (ArenaOwn_lt _ _ _ _ ga_14.out x hx)) ga_14.out
  have bga_15 : Hid (Box m4 w6.heap.size [.slice pga td.vSlots.length dga, .slice qga td.vFree.length ega] 30) := bga_14.out.below hbm4 bga_14.out.lt
  have hga_15 : Hid (Box m4 (w6.heap.size + 1) [.int .i64 hA_, .int .i64 hG_] 39) := hga_14.out.below hbm4 hga_14.out.lt
  clear bA_14 wa_14 bwa_14 hwa_14 ga_14 bga_14 hga_14
  have hB15 : Hid (Below w.heap.size w m4) := hB14.out.trans ((hbm4).mono hB14.out.size)
  have sz15 := (hbm4).size
  clear z14_bA_0 z14_bA_1 z14_bwa_0 z14_bwa_1 z14_hwa_0 z14_hwa_1 z14_bga_0 z14_bga_1 z14_hga_0 z14_hga_1
  have z15_bA_0 := bA_15.out.cell 0 rfl
  have z15_bA_1 := bA_15.out.cell 1 rfl
  have z15_bwa_0 := bwa_15.out.cell 0 rfl
  have z15_bwa_1 := bwa_15.out.cell 1 rfl
  have z15_hwa_0 := hwa_15.out.cell 0 rfl
  have z15_hwa_1 := hwa_15.out.cell 1 rfl
  have z15_bga_0 := bga_15.out.cell 0 rfl
  have z15_bga_1 := bga_15.out.cell 1 rfl
  have z15_hga_0 := hga_15.out.cell 0 rfl
  have z15_hga_1 := hga_15.out.cell 1 rfl
  clear hbm4
  go_wp2_with fail
  refine (eqHandle_any (lo := 0) (lo2 := 0) (x := ⟨hA_, hG_⟩) (by exact ⟨rfl, hHR.out.1, hHR.out.2, trivial⟩) (by exact ⟨rfl, hHR.out.1, hHR.out.2, trivial⟩)).mono ?_
  rintro e m4h ⟨rfl, hbm4h⟩
  have bA_16 : Hid (Box m4h w.heap.size [.slice a0 x.vSlots.length c0, .slice a1 x.vFree.length c1] 25) := bA_15.out.below hbm4h bA_15.out.lt
  have wa_16 : Hid (ArenaOwn m4h [.slice pwa td.vSlots.length dwa, .slice qwa td.vFree.length ewa] td fwa) := ArenaOwn_stays _ _ _ _ _ (fun x hx => (hbm4h).block x (ArenaOwn_lt _ _ _ _ wa_15.out x hx)) wa_15.out
  have bwa_16 : Hid (Box m4h w4.heap.size [.slice pwa td.vSlots.length dwa, .slice qwa td.vFree.length ewa] 30) := bwa_15.out.below hbm4h bwa_15.out.lt
  have hwa_16 : Hid (Box m4h (w4.heap.size + 1) [.int .i64 hA_, .int .i64 hG_] 39) := hwa_15.out.below hbm4h hwa_15.out.lt
  have ga_16 : Hid (ArenaOwn m4h [.slice pga td.vSlots.length dga, .slice qga td.vFree.length ega] td fga) := ArenaOwn_stays _ _ _ _ _ (fun x hx => (hbm4h).block x (ArenaOwn_lt _ _ _ _ ga_15.out x hx)) ga_15.out
  have bga_16 : Hid (Box m4h w6.heap.size [.slice pga td.vSlots.length dga, .slice qga td.vFree.length ega] 30) := bga_15.out.below hbm4h bga_15.out.lt
  have hga_16 : Hid (Box m4h (w6.heap.size + 1) [.int .i64 hA_, .int .i64 hG_] 39) := hga_15.out.below hbm4h hga_15.out.lt
  clear bA_15 wa_15 bwa_15 hwa_15 ga_15 bga_15 hga_15
  have hB16 : Hid (Below w.heap.size w m4h) := hB15.out.trans ((hbm4h).mono hB15.out.size)
  have sz16 := (hbm4h).size
  clear z15_bA_0 z15_bA_1 z15_bwa_0 z15_bwa_1 z15_hwa_0 z15_hwa_1 z15_bga_0 z15_bga_1 z15_hga_0 z15_hga_1
  have z16_bA_0 := bA_16.out.cell 0 rfl
  have z16_bA_1 := bA_16.out.cell 1 rfl
  have z16_bwa_0 := bwa_16.out.cell 0 rfl
  have z16_bwa_1 := bwa_16.out.cell 1 rfl
  have z16_hwa_0 := hwa_16.out.cell 0 rfl
  have z16_hwa_1 := hwa_16.out.cell 1 rfl
  have z16_bga_0 := bga_16.out.cell 0 rfl
  have z16_bga_1 := bga_16.out.cell 1 rfl
  have z16_hga_0 := hga_16.out.cell 0 rfl
  have z16_hga_1 := hga_16.out.cell 1 rfl
  clear hbm4h
  go_wp2_with fail
  refine (markArena_any ga_16.out ndgah.out (by omega) hYC.out).mono ?_
  rintro e m5 ⟨rfl, ownM, hom5⟩
  have bA_17 : Hid (Box m5 w.heap.size [.slice a0 x.vSlots.length c0, .slice a1 x.vFree.length c1] 25) := ((hom5).keep bA_16.out.lt (fun q => by have := rg_ga.out _ q; omega)).trans bA_16.out
  have wa_17 : Hid (ArenaOwn m5 [.slice pwa td.vSlots.length dwa, .slice qwa td.vFree.length ewa] td fwa) := ArenaOwn_stays _ _ _ _ _ (fun x hx => (hom5).keep (ArenaOwn_lt _ _ _ _ wa_16.out x hx) (fun q => by have := rg_ga.out _ q; have := rg_wa.out _ hx; omega)) wa_16.out
  have bwa_17 : Hid (Box m5 w4.heap.size [.slice pwa td.vSlots.length dwa, .slice qwa td.vFree.length ewa] 30) := ((hom5).keep bwa_16.out.lt (fun q => by have := rg_ga.out _ q; omega)).trans bwa_16.out
  have hwa_17 : Hid (Box m5 (w4.heap.size + 1) [.int .i64 hA_, .int .i64 hG_] 39) := ((hom5).keep hwa_16.out.lt (fun q => by have := rg_ga.out _ q; omega)).trans hwa_16.out
  have bga_17 : Hid (Box m5 w6.heap.size [.slice pga td.vSlots.length dga, .slice qga td.vFree.length ega] 30) := ((hom5).keep bga_16.out.lt (fun q => by have := rg_ga.out _ q; omega)).trans bga_16.out
  have hga_17 : Hid (Box m5 (w6.heap.size + 1) [.int .i64 hA_, .int .i64 hG_] 39) := ((hom5).keep hga_16.out.lt (fun q => by have := rg_ga.out _ q; omega)).trans hga_16.out
  clear bA_16 wa_16 bwa_16 hwa_16 ga_16 bga_16 hga_16
  have hB17 : Hid (Below w.heap.size w m5) := hB16.out.trans ((hom5).below hB16.out.size (fun x hx => by have := rg_ga.out x hx; omega))
  have sz17 := (hom5).2.2.2.1
  clear z16_bA_0 z16_bA_1 z16_bwa_0 z16_bwa_1 z16_hwa_0 z16_hwa_1 z16_bga_0 z16_bga_1 z16_hga_0 z16_hga_1
  have z17_bA_0 := bA_17.out.cell 0 rfl
  have z17_bA_1 := bA_17.out.cell 1 rfl
  have z17_bwa_0 := bwa_17.out.cell 0 rfl
  have z17_bwa_1 := bwa_17.out.cell 1 rfl
  have z17_hwa_0 := hwa_17.out.cell 0 rfl
  have z17_hwa_1 := hwa_17.out.cell 1 rfl
  have z17_bga_0 := bga_17.out.cell 0 rfl
  have z17_bga_1 := bga_17.out.cell 1 rfl
  have z17_hga_0 := hga_17.out.cell 0 rfl
  have z17_hga_1 := hga_17.out.cell 1 rfl
  have ga_17 : Hid (ArenaOwn m5 [.slice pga td.vSlots.length dga, .slice qga td.vFree.length ega] (mkTArena td 1) fga) := ownM
  clear ownM hom5
  generalize hCI : (1 : Int) + (cntL cntSlot td.vSlots : Nat) + (cntL cntI td.vFree : Nat) = M at *
  have hCI' : Hid ((1 : Int) + (cntL cntSlot td.vSlots : Nat) + (cntL cntI td.vFree : Nat) = M) := hCI
  clear hCI
  have hM0 : 0 ≤ M := by have := hCI'.out; omega
  have hM1 : decide (M < 0) = false := by simp; omega
  go_wp2_with fail
  refine (heldArena_any (lo := 0) (m := 1) (x := td) (ArenaOwn_at (lo := 0) _ _ _ _ ga_17.out (fun _ _ => Nat.zero_le _)) (by omega) (by rw [hCI'.out]; exact hYC.out)).mono ?_
  rintro e m6 ⟨rfl, hbm6⟩
  rw [hCI'.out]
  have bA_18 : Hid (Box m6 w.heap.size [.slice a0 x.vSlots.length c0, .slice a1 x.vFree.length c1] 25) := bA_17.out.below hbm6 bA_17.out.lt
  have wa_18 : Hid (ArenaOwn m6 [.slice pwa td.vSlots.length dwa, .slice qwa td.vFree.length ewa] td fwa) := ArenaOwn_stays _ _ _ _ _ (fun x hx => (hbm6).block x (ArenaOwn_lt _ _ _ _ wa_17.out x hx)) wa_17.out
  have bwa_18 : Hid (Box m6 w4.heap.size [.slice pwa td.vSlots.length dwa, .slice qwa td.vFree.length ewa] 30) := bwa_17.out.below hbm6 bwa_17.out.lt
  have hwa_18 : Hid (Box m6 (w4.heap.size + 1) [.int .i64 hA_, .int .i64 hG_] 39) := hwa_17.out.below hbm6 hwa_17.out.lt
  have ga_18 : Hid (ArenaOwn m6 [.slice pga td.vSlots.length dga, .slice qga td.vFree.length ega] (mkTArena td 1) fga) := ArenaOwn_stays _ _ _ _ _ (fun x hx => (hbm6).block x (ArenaOwn_lt _ _ _ _ ga_17.out x hx)) ga_17.out
  have bga_18 : Hid (Box m6 w6.heap.size [.slice pga td.vSlots.length dga, .slice qga td.vFree.length ega] 30) := bga_17.out.below hbm6 bga_17.out.lt
  have hga_18 : Hid (Box m6 (w6.heap.size + 1) [.int .i64 hA_, .int .i64 hG_] 39) := hga_17.out.below hbm6 hga_17.out.lt
  clear bA_17 wa_17 bwa_17 hwa_17 ga_17 bga_17 hga_17
  have hB18 : Hid (Below w.heap.size w m6) := hB17.out.trans ((hbm6).mono hB17.out.size)
  have sz18 := (hbm6).size
  clear z17_bA_0 z17_bA_1 z17_bwa_0 z17_bwa_1 z17_hwa_0 z17_hwa_1 z17_bga_0 z17_bga_1 z17_hga_0 z17_hga_1
  have z18_bA_0 := bA_18.out.cell 0 rfl
  have z18_bA_1 := bA_18.out.cell 1 rfl
  have z18_bwa_0 := bwa_18.out.cell 0 rfl
  have z18_bwa_1 := bwa_18.out.cell 1 rfl
  have z18_hwa_0 := hwa_18.out.cell 0 rfl
  have z18_hwa_1 := hwa_18.out.cell 1 rfl
  have z18_bga_0 := bga_18.out.cell 0 rfl
  have z18_bga_1 := bga_18.out.cell 1 rfl
  have z18_hga_0 := hga_18.out.cell 0 rfl
  have z18_hga_1 := hga_18.out.cell 1 rfl
  clear hbm6
  go_wp2_with fail
  refine (toArena_own (ArenaAt_stays _ _ _ 0 _ _ (.of_below hB18.out) hx0.out) hsm.out).mono ?_
  rintro e u7a ⟨⟨cs7, f7t, rfl, ht7, nd7, lo7t⟩, hba7⟩
  have nd7h : Hid (f7t.Nodup) := nd7
  have rg_x7t0 : Hid (∀ b ∈ f7t, b < u7a.heap.size) := ArenaOwn_lt _ _ _ _ ht7
  have lo7t' : Hid (∀ b ∈ f7t, m6.heap.size ≤ b) := lo7t
  have hto70 : Hid (ArenaOwn u7a cs7 x f7t) := ht7
  obtain ⟨_, _, _, _, rfl, ss7, st7, _⟩ := ht7
  obtain ⟨p7, d7, rfl⟩ := ss7.form
  obtain ⟨q7, e7, rfl⟩ := st7.form
  have hto7 : Hid (ArenaOwn u7a [.slice p7 x.vSlots.length d7, .slice q7 x.vFree.length e7] x f7t) := hto70.out
  clear ss7 st7 lo7t hto70 nd7
  have bA_19 : Hid (Box u7a w.heap.size [.slice a0 x.vSlots.length c0, .slice a1 x.vFree.length c1] 25) := bA_18.out.below hba7 bA_18.out.lt
  have wa_19 : Hid (ArenaOwn u7a [.slice pwa td.vSlots.length dwa, .slice qwa td.vFree.length ewa] td fwa) := ArenaOwn_stays _ _ _ _ _ (fun x hx => (hba7).block x (ArenaOwn_lt _ _ _ _ wa_18.out x hx)) wa_18.out
  have bwa_19 : Hid (Box u7a w4.heap.size [.slice pwa td.vSlots.length dwa, .slice qwa td.vFree.length ewa] 30) := bwa_18.out.below hba7 bwa_18.out.lt
  have hwa_19 : Hid (Box u7a (w4.heap.size + 1) [.int .i64 hA_, .int .i64 hG_] 39) := hwa_18.out.below hba7 hwa_18.out.lt
  have ga_19 : Hid (ArenaOwn u7a [.slice pga td.vSlots.length dga, .slice qga td.vFree.length ega] (mkTArena td 1) fga) := ArenaOwn_stays _ _ _ _ _ (fun x hx => (hba7).block x (ArenaOwn_lt _ _ _ _ ga_18.out x hx)) ga_18.out
  have bga_19 : Hid (Box u7a w6.heap.size [.slice pga td.vSlots.length dga, .slice qga td.vFree.length ega] 30) := bga_18.out.below hba7 bga_18.out.lt
  have hga_19 : Hid (Box u7a (w6.heap.size + 1) [.int .i64 hA_, .int .i64 hG_] 39) := hga_18.out.below hba7 hga_18.out.lt
  clear bA_18 wa_18 bwa_18 hwa_18 ga_18 bga_18 hga_18
  have hB19 : Hid (Below w.heap.size w u7a) := hB18.out.trans ((hba7).mono hB18.out.size)
  have sz19 := (hba7).size
  clear z18_bA_0 z18_bA_1 z18_bwa_0 z18_bwa_1 z18_hwa_0 z18_hwa_1 z18_bga_0 z18_bga_1 z18_hga_0 z18_hga_1
  have z19_bA_0 := bA_19.out.cell 0 rfl
  have z19_bA_1 := bA_19.out.cell 1 rfl
  have z19_bwa_0 := bwa_19.out.cell 0 rfl
  have z19_bwa_1 := bwa_19.out.cell 1 rfl
  have z19_hwa_0 := hwa_19.out.cell 0 rfl
  have z19_hwa_1 := hwa_19.out.cell 1 rfl
  have z19_bga_0 := bga_19.out.cell 0 rfl
  have z19_bga_1 := bga_19.out.cell 1 rfl
  have z19_hga_0 := hga_19.out.cell 0 rfl
  have z19_hga_1 := hga_19.out.cell 1 rfl
  have x7t_19 : Hid (ArenaOwn u7a [.slice p7 x.vSlots.length d7, .slice q7 x.vFree.length e7] x f7t) := hto7
  clear hto7 hba7
  have rg_x7t : Hid (∀ b ∈ f7t, m6.heap.size ≤ b ∧ b < u7a.heap.size) := fun b q => ⟨by have := lo7t'.out b q; omega, rg_x7t0.out b q⟩
  go_wp2_with fail
  refine (implAllocated_any (ArenaOwn_at (lo := 0) _ _ _ _ x7t_19.out (fun _ _ => Nat.zero_le _)) hdt.out).mono ?_
  rintro e w10 ⟨⟨csha, rfl, fha, ownha, ndha, lowha⟩, hbha⟩
  rw [hYS'.out] at ownha ⊢
  dsimp only at ownha ⊢
  have lowha' : Hid (∀ b ∈ fha, u7a.heap.size ≤ b) := lowha
  have ndhah : Hid (fha.Nodup) := ndha
  clear ndha
  have bA_20 : Hid (Box w10 w.heap.size [.slice a0 x.vSlots.length c0, .slice a1 x.vFree.length c1] 25) := bA_19.out.below hbha bA_19.out.lt
  have wa_20 : Hid (ArenaOwn w10 [.slice pwa td.vSlots.length dwa, .slice qwa td.vFree.length ewa] td fwa) := ArenaOwn_stays _ _ _ _ _ (fun x hx => (hbha).block x (ArenaOwn_lt _ _ _ _ wa_19.out x hx)) wa_19.out
  have bwa_20 : Hid (Box w10 w4.heap.size [.slice pwa td.vSlots.length dwa, .slice qwa td.vFree.length ewa] 30) := bwa_19.out.below hbha bwa_19.out.lt
  have hwa_20 : Hid (Box w10 (w4.heap.size + 1) [.int .i64 hA_, .int .i64 hG_] 39) := hwa_19.out.below hbha hwa_19.out.lt
  have ga_20 : Hid (ArenaOwn w10 [.slice pga td.vSlots.length dga, .slice qga td.vFree.length ega] (mkTArena td 1) fga) := ArenaOwn_stays _ _ _ _ _ (fun x hx => (hbha).block x (ArenaOwn_lt _ _ _ _ ga_19.out x hx)) ga_19.out
  have bga_20 : Hid (Box w10 w6.heap.size [.slice pga td.vSlots.length dga, .slice qga td.vFree.length ega] 30) := bga_19.out.below hbha bga_19.out.lt
  have hga_20 : Hid (Box w10 (w6.heap.size + 1) [.int .i64 hA_, .int .i64 hG_] 39) := hga_19.out.below hbha hga_19.out.lt
  have x7t_20 : Hid (ArenaOwn w10 [.slice p7 x.vSlots.length d7, .slice q7 x.vFree.length e7] x f7t) := ArenaOwn_stays _ _ _ _ _ (fun x hx => (hbha).block x (ArenaOwn_lt _ _ _ _ x7t_19.out x hx)) x7t_19.out
  clear bA_19 wa_19 bwa_19 hwa_19 ga_19 bga_19 hga_19 x7t_19
  have hB20 : Hid (Below w.heap.size w w10) := hB19.out.trans ((hbha).mono hB19.out.size)
  have sz20 := (hbha).size
  clear z19_bA_0 z19_bA_1 z19_bwa_0 z19_bwa_1 z19_hwa_0 z19_hwa_1 z19_bga_0 z19_bga_1 z19_hga_0 z19_hga_1
  have z20_bA_0 := bA_20.out.cell 0 rfl
  have z20_bA_1 := bA_20.out.cell 1 rfl
  have z20_bwa_0 := bwa_20.out.cell 0 rfl
  have z20_bwa_1 := bwa_20.out.cell 1 rfl
  have z20_hwa_0 := hwa_20.out.cell 0 rfl
  have z20_hwa_1 := hwa_20.out.cell 1 rfl
  have z20_bga_0 := bga_20.out.cell 0 rfl
  have z20_bga_1 := bga_20.out.cell 1 rfl
  have z20_hga_0 := hga_20.out.cell 0 rfl
  have z20_hga_1 := hga_20.out.cell 1 rfl
  clear hbha lowha
  have rg_ha0 : Hid (∀ b ∈ fha, b < w10.heap.size) := ArenaOwn_lt _ _ _ _ ownha
  have ownsha0 : Hid (ArenaOwn w10 csha td fha) := ownha
  obtain ⟨_, _, _, _, rfl, ssha, stha, _⟩ := ownha
  obtain ⟨pha, dha, rfl⟩ := ssha.form
  obtain ⟨qha, eha, rfl⟩ := stha.form
  have ownsha : Hid (ArenaOwn w10 [.slice pha td.vSlots.length dha, .slice qha td.vFree.length eha] td fha) := ownsha0.out
  clear ssha stha ownsha0
  have ha_20 : Hid (ArenaOwn w10 [.slice pha td.vSlots.length dha, .slice qha td.vFree.length eha] td fha) := ownsha
  have rg_ha : Hid (∀ b ∈ fha, u7a.heap.size ≤ b ∧ b < w10.heap.size) := fun b q => ⟨by have := lowha'.out b q; omega, rg_ha0.out b q⟩
  clear ownsha
  have hbzha : Below w10.heap.size w10 (w10.alloc (.cells (List.toArray [.slice pha td.vSlots.length dha, .slice qha td.vFree.length eha]) 30)) := (Below.refl _ _).alloc (Nat.le_refl _) _
  have szzha : (w10.alloc (.cells (List.toArray [.slice pha td.vSlots.length dha, .slice qha td.vFree.length eha]) 30)).heap.size = w10.heap.size + 1 := by simp
  have bA_21 : Hid (Box (w10.alloc (.cells (List.toArray [.slice pha td.vSlots.length dha, .slice qha td.vFree.length eha]) 30)) w.heap.size [.slice a0 x.vSlots.length c0, .slice a1 x.vFree.length c1] 25) := bA_20.out.below hbzha bA_20.out.lt
  have wa_21 : Hid (ArenaOwn (w10.alloc (.cells (List.toArray [.slice pha td.vSlots.length dha, .slice qha td.vFree.length eha]) 30)) [.slice pwa td.vSlots.length dwa, .slice qwa td.vFree.length ewa] td fwa) := ArenaOwn_stays _ _ _ _ _ (fun x hx => (hbzha).block x (ArenaOwn_lt _ _ _ _ wa_20.out x hx)) wa_20.out
  have bwa_21 : Hid (Box (w10.alloc (.cells (List.toArray [.slice pha td.vSlots.length dha, .slice qha td.vFree.length eha]) 30)) w4.heap.size [.slice pwa td.vSlots.length dwa, .slice qwa td.vFree.length ewa] 30) := bwa_20.out.below hbzha bwa_20.out.lt
  have hwa_21 : Hid (Box (w10.alloc (.cells (List.toArray [.slice pha td.vSlots.length dha, .slice qha td.vFree.length eha]) 30)) (w4.heap.size + 1) [.int .i64 hA_, .int .i64 hG_] 39) := hwa_20.out.below hbzha hwa_20.out.lt
  have ga_21 : Hid (ArenaOwn (w10.alloc (.cells (List.toArray [.slice pha td.vSlots.length dha, .slice qha td.vFree.length eha]) 30)) [.slice pga td.vSlots.length dga, .slice qga td.vFree.length ega] (mkTArena td 1) fga) := ArenaOwn_stays _ _ _ _ _ (fun x hx => (hbzha).block x (ArenaOwn_lt _ _ _ _ ga_20.out x hx)) ga_20.out
  have bga_21 : Hid (Box (w10.alloc (.cells (List.toArray [.slice pha td.vSlots.length dha, .slice qha td.vFree.length eha]) 30)) w6.heap.size [.slice pga td.vSlots.length dga, .slice qga td.vFree.length ega] 30) := bga_20.out.below hbzha bga_20.out.lt
  have hga_21 : Hid (Box (w10.alloc (.cells (List.toArray [.slice pha td.vSlots.length dha, .slice qha td.vFree.length eha]) 30)) (w6.heap.size + 1) [.int .i64 hA_, .int .i64 hG_] 39) := hga_20.out.below hbzha hga_20.out.lt
  have x7t_21 : Hid (ArenaOwn (w10.alloc (.cells (List.toArray [.slice pha td.vSlots.length dha, .slice qha td.vFree.length eha]) 30)) [.slice p7 x.vSlots.length d7, .slice q7 x.vFree.length e7] x f7t) := ArenaOwn_stays _ _ _ _ _ (fun x hx => (hbzha).block x (ArenaOwn_lt _ _ _ _ x7t_20.out x hx)) x7t_20.out
  have ha_21 : Hid (ArenaOwn (w10.alloc (.cells (List.toArray [.slice pha td.vSlots.length dha, .slice qha td.vFree.length eha]) 30)) [.slice pha td.vSlots.length dha, .slice qha td.vFree.length eha] td fha) := ArenaOwn_stays _ _ _ _ _ (fun x hx => (hbzha).block x (ArenaOwn_lt _ _ _ _ ha_20.out x hx)) ha_20.out
  clear bA_20 wa_20 bwa_20 hwa_20 ga_20 bga_20 hga_20 x7t_20 ha_20
  have hB21 : Hid (Below w.heap.size w (w10.alloc (.cells (List.toArray [.slice pha td.vSlots.length dha, .slice qha td.vFree.length eha]) 30))) := hB20.out.trans ((hbzha).mono hB20.out.size)
  have sz21 := (hbzha).size
  simp only [World.size_alloc] at sz21
  clear z20_bA_0 z20_bA_1 z20_bwa_0 z20_bwa_1 z20_hwa_0 z20_hwa_1 z20_bga_0 z20_bga_1 z20_hga_0 z20_hga_1
  have z21_bA_0 := bA_21.out.cell 0 rfl
  have z21_bA_1 := bA_21.out.cell 1 rfl
  have z21_bwa_0 := bwa_21.out.cell 0 rfl
  have z21_bwa_1 := bwa_21.out.cell 1 rfl
  have z21_hwa_0 := hwa_21.out.cell 0 rfl
  have z21_hwa_1 := hwa_21.out.cell 1 rfl
  have z21_bga_0 := bga_21.out.cell 0 rfl
  have z21_bga_1 := bga_21.out.cell 1 rfl
  have z21_hga_0 := hga_21.out.cell 0 rfl
  have z21_hga_1 := hga_21.out.cell 1 rfl
  have bha_21 : Hid (Box (w10.alloc (.cells (List.toArray [.slice pha td.vSlots.length dha, .slice qha td.vFree.length eha]) 30)) w10.heap.size [.slice pha td.vSlots.length dha, .slice qha td.vFree.length eha] 30) := Box.new w10 _ _
  have z21_bha_0 := bha_21.out.cell 0 rfl
  have z21_bha_1 := bha_21.out.cell 1 rfl
  clear hbzha
  have hbyha : Below (w10.alloc (.cells (List.toArray [.slice pha td.vSlots.length dha, .slice qha td.vFree.length eha]) 30)).heap.size (w10.alloc (.cells (List.toArray [.slice pha td.vSlots.length dha, .slice qha td.vFree.length eha]) 30)) ((w10.alloc (.cells (List.toArray [.slice pha td.vSlots.length dha, .slice qha td.vFree.length eha]) 30)).alloc (.cells (List.toArray [.int .i64 hA_, .int .i64 hG_]) 39)) := (Below.refl _ _).alloc (Nat.le_refl _) _
  have szyha : ((w10.alloc (.cells (List.toArray [.slice pha td.vSlots.length dha, .slice qha td.vFree.length eha]) 30)).alloc (.cells (List.toArray [.int .i64 hA_, .int .i64 hG_]) 39)).heap.size = w10.heap.size + 2 := by simp
  have bA_22 : Hid (Box ((w10.alloc (.cells (List.toArray [.slice pha td.vSlots.length dha, .slice qha td.vFree.length eha]) 30)).alloc (.cells (List.toArray [.int .i64 hA_, .int .i64 hG_]) 39)) w.heap.size [.slice a0 x.vSlots.length c0, .slice a1 x.vFree.length c1] 25) := bA_21.out.below hbyha bA_21.out.lt
  have wa_22 : Hid (ArenaOwn ((w10.alloc (.cells (List.toArray [.slice pha td.vSlots.length dha, .slice qha td.vFree.length eha]) 30)).alloc (.cells (List.toArray [.int .i64 hA_, .int .i64 hG_]) 39)) [.slice pwa td.vSlots.length dwa, .slice qwa td.vFree.length ewa] td fwa) := ArenaOwn_stays _ _ _ _ _ (fun x hx => (hbyha).block x (ArenaOwn_lt _ _ _ _ wa_21.out x hx)) wa_21.out
  have bwa_22 : Hid (Box ((w10.alloc (.cells (List.toArray [.slice pha td.vSlots.length dha, .slice qha td.vFree.length eha]) 30)).alloc (.cells (List.toArray [.int .i64 hA_, .int .i64 hG_]) 39)) w4.heap.size [.slice pwa td.vSlots.length dwa, .slice qwa td.vFree.length ewa] 30) := bwa_21.out.below hbyha bwa_21.out.lt
  have hwa_22 : Hid (Box ((w10.alloc (.cells (List.toArray [.slice pha td.vSlots.length dha, .slice qha td.vFree.length eha]) 30)).alloc (.cells (List.toArray [.int .i64 hA_, .int .i64 hG_]) 39)) (w4.heap.size + 1) [.int .i64 hA_, .int .i64 hG_] 39) := hwa_21.out.below hbyha hwa_21.out.lt
  have ga_22 : Hid (ArenaOwn ((w10.alloc (.cells (List.toArray [.slice pha td.vSlots.length dha, .slice qha td.vFree.length eha]) 30)).alloc (.cells (List.toArray [.int .i64 hA_, .int .i64 hG_]) 39)) [.slice pga td.vSlots.length dga, .slice qga td.vFree.length ega] (mkTArena td 1) fga) := ArenaOwn_stays _ _ _ _ _ (fun x hx => (hbyha).block x (ArenaOwn_lt _ _ _ _ ga_21.out x hx)) ga_21.out
  have bga_22 : Hid (Box ((w10.alloc (.cells (List.toArray [.slice pha td.vSlots.length dha, .slice qha td.vFree.length eha]) 30)).alloc (.cells (List.toArray [.int .i64 hA_, .int .i64 hG_]) 39)) w6.heap.size [.slice pga td.vSlots.length dga, .slice qga td.vFree.length ega] 30) := bga_21.out.below hbyha bga_21.out.lt
  have hga_22 : Hid (Box ((w10.alloc (.cells (List.toArray [.slice pha td.vSlots.length dha, .slice qha td.vFree.length eha]) 30)).alloc (.cells (List.toArray [.int .i64 hA_, .int .i64 hG_]) 39)) (w6.heap.size + 1) [.int .i64 hA_, .int .i64 hG_] 39) := hga_21.out.below hbyha hga_21.out.lt
  have x7t_22 : Hid (ArenaOwn ((w10.alloc (.cells (List.toArray [.slice pha td.vSlots.length dha, .slice qha td.vFree.length eha]) 30)).alloc (.cells (List.toArray [.int .i64 hA_, .int .i64 hG_]) 39)) [.slice p7 x.vSlots.length d7, .slice q7 x.vFree.length e7] x f7t) := ArenaOwn_stays _ _ _ _ _ (fun x hx => (hbyha).block x (ArenaOwn_lt _ _ _ _ x7t_21.out x hx)) x7t_21.out
  have ha_22 : Hid (ArenaOwn ((w10.alloc (.cells (List.toArray [.slice pha td.vSlots.length dha, .slice qha td.vFree.length eha]) 30)).alloc (.cells (List.toArray [.int .i64 hA_, .int .i64 hG_]) 39)) [.slice pha td.vSlots.length dha, .slice qha td.vFree.length eha] td fha) := ArenaOwn_stays _ _ _ _ _ (fun x hx => (hbyha).block x (ArenaOwn_lt _ _ _ _ ha_21.out x hx)) ha_21.out
  have bha_22 : Hid (Box ((w10.alloc (.cells (List.toArray [.slice pha td.vSlots.length dha, .slice qha td.vFree.length eha]) 30)).alloc (.cells (List.toArray [.int .i64 hA_, .int .i64 hG_]) 39)) w10.heap.size [.slice pha td.vSlots.length dha, .slice qha td.vFree.length eha] 30) := bha_21.out.below hbyha bha_21.out.lt
  clear bA_21 wa_21 bwa_21 hwa_21 ga_21 bga_21 hga_21 x7t_21 ha_21 bha_21
  have hB22 : Hid (Below w.heap.size w ((w10.alloc (.cells (List.toArray [.slice pha td.vSlots.length dha, .slice qha td.vFree.length eha]) 30)).alloc (.cells (List.toArray [.int .i64 hA_, .int .i64 hG_]) 39))) := hB21.out.trans ((hbyha).mono hB21.out.size)
  have sz22 := (hbyha).size
  simp only [World.size_alloc] at sz22
  clear z21_bA_0 z21_bA_1 z21_bwa_0 z21_bwa_1 z21_hwa_0 z21_hwa_1 z21_bga_0 z21_bga_1 z21_hga_0 z21_hga_1 z21_bha_0 z21_bha_1
  have z22_bA_0 := bA_22.out.cell 0 rfl
  have z22_bA_1 := bA_22.out.cell 1 rfl
  have z22_bwa_0 := bwa_22.out.cell 0 rfl
  have z22_bwa_1 := bwa_22.out.cell 1 rfl
  have z22_hwa_0 := hwa_22.out.cell 0 rfl
  have z22_hwa_1 := hwa_22.out.cell 1 rfl
  have z22_bga_0 := bga_22.out.cell 0 rfl
  have z22_bga_1 := bga_22.out.cell 1 rfl
  have z22_hga_0 := hga_22.out.cell 0 rfl
  have z22_hga_1 := hga_22.out.cell 1 rfl
  have z22_bha_0 := bha_22.out.cell 0 rfl
  have z22_bha_1 := bha_22.out.cell 1 rfl
  have hha_22 : Hid (Box ((w10.alloc (.cells (List.toArray [.slice pha td.vSlots.length dha, .slice qha td.vFree.length eha]) 30)).alloc (.cells (List.toArray [.int .i64 hA_, .int .i64 hG_]) 39)) (w10.heap.size + 1) [.int .i64 hA_, .int .i64 hG_] 39) := (by have hh := Box.new (w10.alloc (.cells (List.toArray [.slice pha td.vSlots.length dha, .slice qha td.vFree.length eha]) 30)) [.int .i64 hA_, .int .i64 hG_] 39; simpa [Hid] using hh)
  have z22_hha_0 := hha_22.out.cell 0 rfl
  have z22_hha_1 := hha_22.out.cell 1 rfl
  clear hbyha
  clear x7t_22
  go_wp2_with fail
  refine (eqArena_any (lo := 0) (lo2 := 0) (ArenaOwn_at (lo := 0) _ _ _ _ ha_22.out (fun _ _ => Nat.zero_le _)) (ArenaOwn_at (lo := 0) _ _ _ _ wa_22.out (fun _ _ => Nat.zero_le _))).mono ?_
  rintro e w11 ⟨rfl, hbw11⟩
  have bA_23 : Hid (Box w11 w.heap.size [.slice a0 x.vSlots.length c0, .slice a1 x.vFree.length c1] 25) := bA_22.out.below hbw11 bA_22.out.lt
  have wa_23 : Hid (ArenaOwn w11 [.slice pwa td.vSlots.length dwa, .slice qwa td.vFree.length ewa] td fwa) := ArenaOwn_stays _ _ _ _ _ (fun x hx => (hbw11).block x (ArenaOwn_lt _ _ _ _ wa_22.out x hx)) wa_22.out
  have bwa_23 : Hid (Box w11 w4.heap.size [.slice pwa td.vSlots.length dwa, .slice qwa td.vFree.length ewa] 30) := bwa_22.out.below hbw11 bwa_22.out.lt
  have hwa_23 : Hid (Box w11 (w4.heap.size + 1) [.int .i64 hA_, .int .i64 hG_] 39) := hwa_22.out.below hbw11 hwa_22.out.lt
  have ga_23 : Hid (ArenaOwn w11 [.slice pga td.vSlots.length dga, .slice qga td.vFree.length ega] (mkTArena td 1) fga) := ArenaOwn_stays _ _ _ _ _ (fun x hx => (hbw11).block x (ArenaOwn_lt _ _ _ _ ga_22.out x hx)) ga_22.out
  have bga_23 : Hid (Box w11 w6.heap.size [.slice pga td.vSlots.length dga, .slice qga td.vFree.length ega] 30) := bga_22.out.below hbw11 bga_22.out.lt
  have hga_23 : Hid (Box w11 (w6.heap.size + 1) [.int .i64 hA_, .int .i64 hG_] 39) := hga_22.out.below hbw11 hga_22.out.lt
  have ha_23 : Hid (ArenaOwn w11 [.slice pha td.vSlots.length dha, .slice qha td.vFree.length eha] td fha) := ArenaOwn_stays _ _ _ _ _ (fun x hx => (hbw11).block x (ArenaOwn_lt _ _ _ _ ha_22.out x hx)) ha_22.out
  have bha_23 : Hid (Box w11 w10.heap.size [.slice pha td.vSlots.length dha, .slice qha td.vFree.length eha] 30) := bha_22.out.below hbw11 bha_22.out.lt
  have hha_23 : Hid (Box w11 (w10.heap.size + 1) [.int .i64 hA_, .int .i64 hG_] 39) := hha_22.out.below hbw11 hha_22.out.lt
  clear bA_22 wa_22 bwa_22 hwa_22 ga_22 bga_22 hga_22 ha_22 bha_22 hha_22
  have hB23 : Hid (Below w.heap.size w w11) := hB22.out.trans ((hbw11).mono hB22.out.size)
  have sz23 := (hbw11).size
  simp only [World.size_alloc] at sz23
  clear z22_bA_0 z22_bA_1 z22_bwa_0 z22_bwa_1 z22_hwa_0 z22_hwa_1 z22_bga_0 z22_bga_1 z22_hga_0 z22_hga_1 z22_bha_0 z22_bha_1 z22_hha_0 z22_hha_1
  have z23_bA_0 := bA_23.out.cell 0 rfl
  have z23_bA_1 := bA_23.out.cell 1 rfl
  have z23_bwa_0 := bwa_23.out.cell 0 rfl
  have z23_bwa_1 := bwa_23.out.cell 1 rfl
  have z23_hwa_0 := hwa_23.out.cell 0 rfl
  have z23_hwa_1 := hwa_23.out.cell 1 rfl
  have z23_bga_0 := bga_23.out.cell 0 rfl
  have z23_bga_1 := bga_23.out.cell 1 rfl
  have z23_hga_0 := hga_23.out.cell 0 rfl
  have z23_hga_1 := hga_23.out.cell 1 rfl
  have z23_bha_0 := bha_23.out.cell 0 rfl
  have z23_bha_1 := bha_23.out.cell 1 rfl
  have z23_hha_0 := hha_23.out.cell 0 rfl
  have z23_hha_1 := hha_23.out.cell 1 rfl
  clear hbw11
  go_wp2_with fail
  refine (eqHandle_any (lo := 0) (lo2 := 0) (x := ⟨hA_, hG_⟩) (by exact ⟨rfl, hHR.out.1, hHR.out.2, trivial⟩) (by exact ⟨rfl, hHR.out.1, hHR.out.2, trivial⟩)).mono ?_
  rintro e w11h ⟨rfl, hbw11h⟩
  have bA_24 : Hid (Box w11h w.heap.size [.slice a0 x.vSlots.length c0, .slice a1 x.vFree.length c1] 25) := bA_23.out.below hbw11h bA_23.out.lt
  have wa_24 : Hid (ArenaOwn w11h [.slice pwa td.vSlots.length dwa, .slice qwa td.vFree.length ewa] td fwa) := ArenaOwn_stays _ _ _ _ _ (fun x hx => (hbw11h).block x (ArenaOwn_lt _ _ _ _ wa_23.out x hx)) wa_23.out
  have bwa_24 : Hid (Box w11h w4.heap.size [.slice pwa td.vSlots.length dwa, .slice qwa td.vFree.length ewa] 30) := bwa_23.out.below hbw11h bwa_23.out.lt
  have hwa_24 : Hid (Box w11h (w4.heap.size + 1) [.int .i64 hA_, .int .i64 hG_] 39) := hwa_23.out.below hbw11h hwa_23.out.lt
  have ga_24 : Hid (ArenaOwn w11h [.slice pga td.vSlots.length dga, .slice qga td.vFree.length ega] (mkTArena td 1) fga) := ArenaOwn_stays _ _ _ _ _ (fun x hx => (hbw11h).block x (ArenaOwn_lt _ _ _ _ ga_23.out x hx)) ga_23.out
  have bga_24 : Hid (Box w11h w6.heap.size [.slice pga td.vSlots.length dga, .slice qga td.vFree.length ega] 30) := bga_23.out.below hbw11h bga_23.out.lt
  have hga_24 : Hid (Box w11h (w6.heap.size + 1) [.int .i64 hA_, .int .i64 hG_] 39) := hga_23.out.below hbw11h hga_23.out.lt
  have ha_24 : Hid (ArenaOwn w11h [.slice pha td.vSlots.length dha, .slice qha td.vFree.length eha] td fha) := ArenaOwn_stays _ _ _ _ _ (fun x hx => (hbw11h).block x (ArenaOwn_lt _ _ _ _ ha_23.out x hx)) ha_23.out
  have bha_24 : Hid (Box w11h w10.heap.size [.slice pha td.vSlots.length dha, .slice qha td.vFree.length eha] 30) := bha_23.out.below hbw11h bha_23.out.lt
  have hha_24 : Hid (Box w11h (w10.heap.size + 1) [.int .i64 hA_, .int .i64 hG_] 39) := hha_23.out.below hbw11h hha_23.out.lt
  clear bA_23 wa_23 bwa_23 hwa_23 ga_23 bga_23 hga_23 ha_23 bha_23 hha_23
  have hB24 : Hid (Below w.heap.size w w11h) := hB23.out.trans ((hbw11h).mono hB23.out.size)
  have sz24 := (hbw11h).size
  clear z23_bA_0 z23_bA_1 z23_bwa_0 z23_bwa_1 z23_hwa_0 z23_hwa_1 z23_bga_0 z23_bga_1 z23_hga_0 z23_hga_1 z23_bha_0 z23_bha_1 z23_hha_0 z23_hha_1
  have z24_bA_0 := bA_24.out.cell 0 rfl
  have z24_bA_1 := bA_24.out.cell 1 rfl
  have z24_bwa_0 := bwa_24.out.cell 0 rfl
  have z24_bwa_1 := bwa_24.out.cell 1 rfl
  have z24_hwa_0 := hwa_24.out.cell 0 rfl
  have z24_hwa_1 := hwa_24.out.cell 1 rfl
  have z24_bga_0 := bga_24.out.cell 0 rfl
  have z24_bga_1 := bga_24.out.cell 1 rfl
  have z24_hga_0 := hga_24.out.cell 0 rfl
  have z24_hga_1 := hga_24.out.cell 1 rfl
  have z24_bha_0 := bha_24.out.cell 0 rfl
  have z24_bha_1 := bha_24.out.cell 1 rfl
  have z24_hha_0 := hha_24.out.cell 0 rfl
  have z24_hha_1 := hha_24.out.cell 1 rfl
  clear hbw11h
  go_wp2_with fail
  refine (heldArena_any (lo := 0) (m := 1) (x := td) (ArenaOwn_at (lo := 0) _ _ _ _ ga_24.out (fun _ _ => Nat.zero_le _)) (by omega) (by rw [hCI'.out]; exact hYC.out)).mono ?_
  rintro e w12 ⟨rfl, hbw12⟩
  rw [hCI'.out]
  have bA_25 : Hid (Box w12 w.heap.size [.slice a0 x.vSlots.length c0, .slice a1 x.vFree.length c1] 25) := bA_24.out.below hbw12 bA_24.out.lt
  have wa_25 : Hid (ArenaOwn w12 [.slice pwa td.vSlots.length dwa, .slice qwa td.vFree.length ewa] td fwa) := ArenaOwn_stays _ _ _ _ _ (fun x hx => (hbw12).block x (ArenaOwn_lt _ _ _ _ wa_24.out x hx)) wa_24.out
  have bwa_25 : Hid (Box w12 w4.heap.size [.slice pwa td.vSlots.length dwa, .slice qwa td.vFree.length ewa] 30) := bwa_24.out.below hbw12 bwa_24.out.lt
  have hwa_25 : Hid (Box w12 (w4.heap.size + 1) [.int .i64 hA_, .int .i64 hG_] 39) := hwa_24.out.below hbw12 hwa_24.out.lt
  have ga_25 : Hid (ArenaOwn w12 [.slice pga td.vSlots.length dga, .slice qga td.vFree.length ega] (mkTArena td 1) fga) := ArenaOwn_stays _ _ _ _ _ (fun x hx => (hbw12).block x (ArenaOwn_lt _ _ _ _ ga_24.out x hx)) ga_24.out
  have bga_25 : Hid (Box w12 w6.heap.size [.slice pga td.vSlots.length dga, .slice qga td.vFree.length ega] 30) := bga_24.out.below hbw12 bga_24.out.lt
  have hga_25 : Hid (Box w12 (w6.heap.size + 1) [.int .i64 hA_, .int .i64 hG_] 39) := hga_24.out.below hbw12 hga_24.out.lt
  have ha_25 : Hid (ArenaOwn w12 [.slice pha td.vSlots.length dha, .slice qha td.vFree.length eha] td fha) := ArenaOwn_stays _ _ _ _ _ (fun x hx => (hbw12).block x (ArenaOwn_lt _ _ _ _ ha_24.out x hx)) ha_24.out
  have bha_25 : Hid (Box w12 w10.heap.size [.slice pha td.vSlots.length dha, .slice qha td.vFree.length eha] 30) := bha_24.out.below hbw12 bha_24.out.lt
  have hha_25 : Hid (Box w12 (w10.heap.size + 1) [.int .i64 hA_, .int .i64 hG_] 39) := hha_24.out.below hbw12 hha_24.out.lt
  clear bA_24 wa_24 bwa_24 hwa_24 ga_24 bga_24 hga_24 ha_24 bha_24 hha_24
  have hB25 : Hid (Below w.heap.size w w12) := hB24.out.trans ((hbw12).mono hB24.out.size)
  have sz25 := (hbw12).size
  clear z24_bA_0 z24_bA_1 z24_bwa_0 z24_bwa_1 z24_hwa_0 z24_hwa_1 z24_bga_0 z24_bga_1 z24_hga_0 z24_hga_1 z24_bha_0 z24_bha_1 z24_hha_0 z24_hha_1
  have z25_bA_0 := bA_25.out.cell 0 rfl
  have z25_bA_1 := bA_25.out.cell 1 rfl
  have z25_bwa_0 := bwa_25.out.cell 0 rfl
  have z25_bwa_1 := bwa_25.out.cell 1 rfl
  have z25_hwa_0 := hwa_25.out.cell 0 rfl
  have z25_hwa_1 := hwa_25.out.cell 1 rfl
  have z25_bga_0 := bga_25.out.cell 0 rfl
  have z25_bga_1 := bga_25.out.cell 1 rfl
  have z25_hga_0 := hga_25.out.cell 0 rfl
  have z25_hga_1 := hga_25.out.cell 1 rfl
  have z25_bha_0 := bha_25.out.cell 0 rfl
  have z25_bha_1 := bha_25.out.cell 1 rfl
  have z25_hha_0 := hha_25.out.cell 0 rfl
  have z25_hha_1 := hha_25.out.cell 1 rfl
  clear hbw12
  go_wp2_with fail
  go_ret
  exact ⟨rfl, hB25.out⟩
/-! The row -/
set_option maxRecDepth 100000 in
theorem lifted (os : Os) (started : os.Started) (H : Type) (enc : TypeId × Value → H) :
    ReturnsInHanded {} Try.checked os 5 .any (Rows.fnExactAllocatedSpec.pre6 enc Try.prog Try.f5 Rows.fnExactAllocatedRow.domain false) (Rows.fnExactAllocatedSpec.post enc Try.prog Try.f5 false true false false) := by
  refine returnsInHanded_of_change (C := Try.checked) own started (by kernel_rfl) Try.func5
    (ChangeSpec.witness6 (enc := enc) (C := Try.checked) false ⟨#[], #[.agg #[.slice none 0 0, .slice none 0 0], .string ByteArray.empty], []⟩ 8 (by kernel_rfl) (by kernel_rfl) (by kernel_rfl) (by kernel_rfl)) ?_
  intro W base args ds gs before hval0 hW hcnd _
  have hval : ∀ (j : Nat) t v, Try.f5.params[j]? = some t → args[j]? = some v → Value.okWide Try.prog W .any base t v := hval0
  have hW' := hW
  obtain ⟨p, q, hA0, hV, rfl, hfz, hnd⟩ := hW
  have hA : DataW.TrodAll enc Try.prog W 0 (fun _ => true) true Try.f5.params.toList args.toList ds p := hA0
  rw [Try.params5] at hA hval
  obtain ⟨v0, vs0, d0, ds0, p0, q0, hargs, rfl, rfl, h0, r0⟩ := trodAll_cons hA
  obtain ⟨v1, vs1, d1, ds1, p1, q1, rfl, rfl, rfl, h1, r1⟩ := trodAll_cons r0
  obtain ⟨rfl, rfl, rfl⟩ := trodAll_nil r1
  obtain rfl : args = #[v0, v1] := by cases args; simp_all
  obtain ⟨rfl, rfl⟩ := trodVars_none hV
  have k0 := h0
  have lt0 : ∀ x ∈ p0, x.block < W.heap.size := by obtain ⟨m, hm⟩ := k0; exact DataW.trod_lt m _ _ _ hm
  obtain ⟨cs0, rfl, _⟩ := okWide_struct Try.underlying25 (hval 0 25 v0 rfl rfl)
  obtain ⟨fuel0, hf0⟩ := h0
  obtain ⟨x0, hx0⟩ := ArenaAt_of_trod fuel0 _ _ hf0
  have hcs0 : (Value.agg cs0).cells = cs0 := rfl
  rw [hcs0] at hx0
  obtain ⟨t1, rfl, rfl, rfl, hm1⟩ := open_string Try.underlying9 (hval 1 9 v1 rfl rfl) h1
  clear hA0 hval0
  have hwk := walk (w := W) hx0 hm1
  rw [Array.toArray_toList] at hwk
  refine hwk.mono fun e W' ⟨he, bel⟩ => ?_
  subst he
  exact ⟨_, rfl, _, _, _, [], _, [], hW', trodAll_mk1 (shut_bool Try.underlying4 _), (trodAll_cons_mk (Below.trod laidOut (by kernel_rfl) (of_decide_eq_true (by kernel_rfl)) k0 bel lt0) (trodAll_cons_mk (shut_string Try.underlying9 hm1) trodAll_mk0)), rfl, bel.frame _, fun h => by cases h⟩
theorem over : Rows.fnExactAllocatedRow.holds Try.pinned (OpenSpec.ofChange Rows.fnExactAllocatedSpec) :=
  OpenClaim.holds_of_wide 5 Try.f5 rfl rfl rfl rfl rfl rfl rfl ⟨rfl, rfl, rfl, rfl, rfl⟩ rfl rfl rfl rfl rfl (by kernel_rfl) Try.func5 (by kernel_rfl)
    (of_decide_eq_true (by kernel_rfl)) (by unfold Func.isWrapper; first | (rw [if_pos (by decide +kernel)]; kernel_rfl) | (rw [if_neg (by decide +kernel)]; exact ⟨rfl, rfl⟩))
    (fun os started H enc _ => lifted os started H enc)
end Go.Proofs.Ytcpbcpckmclciaa.fnExactAllocated
namespace Go.Proofs.Ytcpbcpckmclciaa
theorem fnExactAllocated_holds : Rows.FnExactAllocatedSaid := fnExactAllocated.over
end Go.Proofs.Ytcpbcpckmclciaa
