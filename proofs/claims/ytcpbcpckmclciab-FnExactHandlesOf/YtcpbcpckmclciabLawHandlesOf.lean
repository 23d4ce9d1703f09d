/- At every arena HandlesOf answers as its specification, writes into no argument, and its answer owns its memory, behind another call too. No condition. -/
import Derived.Test.YtcpbcpckmclciabArSz
import Derived.Test.YtcpbcpckmclciabArHandles
import Derived.Test.YtcpbcpckmclciabArEq
import Derived.Test.YtcpbcpckmclciabToOwn
import Derived.Test.YtcpbcpckmclciabMarkTops
import Derived.Test.YtcpbcpckmclciabArCnt
import Derived.ProofKit
import Derived.OpenShut
import Derived.ShutString
import Derived.ChangeOld
import Derived.Below
import Derived.Laws.Cover1
import Derived.WalkKit
namespace Go.Proofs.Ytcpbcpckmclciab.fnExactHandlesOf
open Go.ChangeShapes Go.WideShapes Go.ChangeAt Go.RowKit

theorem own : ownKnob Try.prog.godebug = none := by kernel_rfl
theorem laidOut : laidOutB Try.prog = true := by kernel_rfl
set_option maxRecDepth 100000 in
set_option maxHeartbeats 6400000 in
theorem walk {w : World} {cs : List Value} {x : ArenaD} (hx : ArenaAt w 0 cs x) :
    Calls Try.prog 3 #[.agg cs.toArray] w fun e w' => e = .returned (.bool true) ∧ Below w.heap.size w w' := by
  have hx0 : Hid (ArenaAt w 0 cs x) := hx
  obtain ⟨k0, k1, rfl, s0, s1, _⟩ := hx
  obtain ⟨a0, c0, rfl⟩ := s0.form
  obtain ⟨a1, c1, rfl⟩ := s1.form
  clear s0 s1
  have hB0 : Hid (Below w.heap.size w (w.alloc (.cells (List.toArray [.slice a0 x.vSlots.length c0, .slice a1 x.vFree.length c1]) 25))) := (Below.refl _ _).alloc (Nat.le_refl _) _
  have bA_0 : Hid (Box (w.alloc (.cells (List.toArray [.slice a0 x.vSlots.length c0, .slice a1 x.vFree.length c1]) 25)) w.heap.size [.slice a0 x.vSlots.length c0, .slice a1 x.vFree.length c1] 25) := Box.new w _ _
  have z0_bA_0 := bA_0.out.cell 0 rfl
  have z0_bA_1 := bA_0.out.cell 1 rfl
  have szA : w.heap.size + 1 ≤ (w.alloc (.cells (List.toArray [.slice a0 x.vSlots.length c0, .slice a1 x.vFree.length c1]) 25)).heap.size := by simp
  simp only [World.size_alloc] at szA
  have hXC0 : x.small → (1 : Int) + (cntL cntSlot x.vSlots : Nat) + (cntL cntI x.vFree : Nat) ≤ 4611686018427387904 := fun h => by have h1 := h.1.1; have h2 := h.2.1; rw [cntL_slot, cntL_int]; omega
  have hXC1 : Hid _ := hXC0
  clear hXC0
  go_enter Try.func3, Try.ntmps3
  go_wp2_with fail
  refine (szArena_any (ArenaAt_stays _ _ _ 0 _ _ (.of_below hB0.out) hx0.out) (by omega) (by omega)).mono ?_
  rintro e w1 ⟨⟨r, rfl, hr1, hr2, hsm⟩, hb1⟩
  have hsm' : Hid (r < 0 ∨ x.small) := hsm
  clear hsm
  have bA_1 : Hid (Box w1 w.heap.size [.slice a0 x.vSlots.length c0, .slice a1 x.vFree.length c1] 25) := bA_0.out.below hb1 bA_0.out.lt
  clear bA_0
  have hB1 : Hid (Below w.heap.size w w1) := hB0.out.trans ((hb1).mono hB0.out.size)
  have sz1 := (hb1).size
  simp only [World.size_alloc] at sz1
  clear z0_bA_0 z0_bA_1
  have z1_bA_0 := bA_1.out.cell 0 rfl
  have z1_bA_1 := bA_1.out.cell 1 rfl
  clear hb1
  by_cases hneg : r < 0
  · go_wp2_with fail
    go_ret
    exact ⟨rfl, hB1.out⟩
  have hsm : Hid (x.small) := hsm'.out.resolve_left hneg
  have hXC : Hid ((1 : Int) + (cntL cntSlot x.vSlots : Nat) + (cntL cntI x.vFree : Nat) ≤ 4611686018427387904) := hXC1.out hsm.out
  clear hsm'
  go_wp2_with fail
  refine (toArena_own (ArenaAt_stays _ _ _ 0 _ _ (.of_below hB1.out) hx0.out) hsm.out).mono ?_
  rintro e u3a ⟨⟨cs3, f3t, rfl, ht3, nd3, lo3t⟩, hba3⟩
  have nd3h : Hid (f3t.Nodup) := nd3
  have rg_x3t0 : Hid (∀ b ∈ f3t, b < u3a.heap.size) := ArenaOwn_lt _ _ _ _ ht3
  have lo3t' : Hid (∀ b ∈ f3t, w1.heap.size ≤ b) := lo3t
  have hto30 : Hid (ArenaOwn u3a cs3 x f3t) := ht3
  obtain ⟨_, _, _, _, rfl, ss3, st3, _⟩ := ht3
  obtain ⟨p3, d3, rfl⟩ := ss3.form
  obtain ⟨q3, e3, rfl⟩ := st3.form
  have hto3 : Hid (ArenaOwn u3a [.slice p3 x.vSlots.length d3, .slice q3 x.vFree.length e3] x f3t) := hto30.out
  clear ss3 st3 lo3t hto30 nd3
  have bA_2 : Hid (Box u3a w.heap.size [.slice a0 x.vSlots.length c0, .slice a1 x.vFree.length c1] 25) := bA_1.out.below hba3 bA_1.out.lt
  clear bA_1
  have hB2 : Hid (Below w.heap.size w u3a) := hB1.out.trans ((hba3).mono hB1.out.size)
  have sz2 := (hba3).size
  clear z1_bA_0 z1_bA_1
  have z2_bA_0 := bA_2.out.cell 0 rfl
  have z2_bA_1 := bA_2.out.cell 1 rfl
  have x3t_2 : Hid (ArenaOwn u3a [.slice p3 x.vSlots.length d3, .slice q3 x.vFree.length e3] x f3t) := hto3
  clear hto3 hba3
  have rg_x3t : Hid (∀ b ∈ f3t, w1.heap.size ≤ b ∧ b < u3a.heap.size) := fun b q => ⟨by have := lo3t'.out b q; omega, rg_x3t0.out b q⟩
  go_wp2_with fail
  refine (specHandlesOf_any (ArenaOwn_at (lo := 0) _ _ _ _ x3t_2.out (fun _ _ => Nat.zero_le _))).mono ?_
  rintro e w4 ⟨⟨kwa, fwa, rfl, ownwa, ndwa, lowwa⟩, hbwa⟩
  have lowwa' : Hid (∀ b ∈ fwa, u3a.heap.size ≤ b) := lowwa
  have ndwah : Hid (fwa.Nodup) := ndwa
  clear ndwa
  have bA_3 : Hid (Box w4 w.heap.size [.slice a0 x.vSlots.length c0, .slice a1 x.vFree.length c1] 25) := bA_2.out.below hbwa bA_2.out.lt
  have x3t_3 : Hid (ArenaOwn w4 [.slice p3 x.vSlots.length d3, .slice q3 x.vFree.length e3] x f3t) := ArenaOwn_stays _ _ _ _ _ (fun x hx => (hbwa).block x (ArenaOwn_lt _ _ _ _ x3t_2.out x hx)) x3t_2.out
  clear bA_2 x3t_2
  have hB3 : Hid (Below w.heap.size w w4) := hB2.out.trans ((hbwa).mono hB2.out.size)
  have sz3 := (hbwa).size
  clear z2_bA_0 z2_bA_1
  have z3_bA_0 := bA_3.out.cell 0 rfl
  have z3_bA_1 := bA_3.out.cell 1 rfl
  clear hbwa lowwa
  generalize hYS : handlesD x = rr at ownwa ⊢
  have hYS' : Hid (handlesD x = rr) := hYS
  clear hYS
  have rg_wa0 : Hid (∀ b ∈ fwa, b < w4.heap.size) := ownwa.lt HandleOwn_lt
  have ownswa : Hid (SeqOwn 2 HandleOwn w4 kwa rr fwa) := ownwa
  obtain ⟨awa, cwa, rfl⟩ := ownwa.form
  clear ownwa
  have wa_3 : Hid (SeqOwn 2 HandleOwn w4 (.slice awa rr.length cwa) rr fwa) := ownswa
  have rg_wa : Hid (∀ b ∈ fwa, u3a.heap.size ≤ b ∧ b < w4.heap.size) := fun b q => ⟨by have := lowwa'.out b q; omega, rg_wa0.out b q⟩
  clear ownswa
  clear x3t_3
  have hYC : Hid ((1 : Int) + (cntL cntHandle rr : Nat) ≤ 4611686018427387904) := by show _ ≤ _; have := handlesD_few x; rw [hYS'.out] at this; rw [cntL_handle]; omega
  go_wp2_with fail
  refine (toArena_own (ArenaAt_stays _ _ _ 0 _ _ (.of_below hB3.out) hx0.out) hsm.out).mono ?_
  rintro e u5a ⟨⟨cs5, f5t, rfl, ht5, nd5, lo5t⟩, hba5⟩
  have nd5h : Hid (f5t.Nodup) := nd5
  have rg_x5t0 : Hid (∀ b ∈ f5t, b < u5a.heap.size) := ArenaOwn_lt _ _ _ _ ht5
  have lo5t' : Hid (∀ b ∈ f5t, w4.heap.size ≤ b) := lo5t
  have hto50 : Hid (ArenaOwn u5a cs5 x f5t) := ht5
  obtain ⟨_, _, _, _, rfl, ss5, st5, _⟩ := ht5
  obtain ⟨p5, d5, rfl⟩ := ss5.form
  obtain ⟨q5, e5, rfl⟩ := st5.form
  have hto5 : Hid (ArenaOwn u5a [.slice p5 x.vSlots.length d5, .slice q5 x.vFree.length e5] x f5t) := hto50.out
  clear ss5 st5 lo5t hto50 nd5
  have bA_4 : Hid (Box u5a w.heap.size [.slice a0 x.vSlots.length c0, .slice a1 x.vFree.length c1] 25) := bA_3.out.below hba5 bA_3.out.lt
  have wa_4 : Hid (SeqOwn 2 HandleOwn u5a (.slice awa rr.length cwa) rr fwa) := SeqOwn.stays HandleOwn_stays wa_3.out (fun x hx => (hba5).block x (SeqOwn.lt HandleOwn_lt wa_3.out x hx))
  clear bA_3 wa_3
  have hB4 : Hid (Below w.heap.size w u5a) := hB3.out.trans ((hba5).mono hB3.out.size)
  have sz4 := (hba5).size
  clear z3_bA_0 z3_bA_1
  have z4_bA_0 := bA_4.out.cell 0 rfl
  have z4_bA_1 := bA_4.out.cell 1 rfl
  have x5t_4 : Hid (ArenaOwn u5a [.slice p5 x.vSlots.length d5, .slice q5 x.vFree.length e5] x f5t) := hto5
  clear hto5 hba5
  have rg_x5t : Hid (∀ b ∈ f5t, w4.heap.size ≤ b ∧ b < u5a.heap.size) := fun b q => ⟨by have := lo5t'.out b q; omega, rg_x5t0.out b q⟩
  have hbx5 : Below u5a.heap.size u5a (u5a.alloc (.cells (List.toArray [.slice p5 x.vSlots.length d5, .slice q5 x.vFree.length e5]) 31)) := (Below.refl _ _).alloc (Nat.le_refl _) _
  have szx5 : (u5a.alloc (.cells (List.toArray [.slice p5 x.vSlots.length d5, .slice q5 x.vFree.length e5]) 31)).heap.size = u5a.heap.size + 1 := by simp
  have bA_5 : Hid (Box (u5a.alloc (.cells (List.toArray [.slice p5 x.vSlots.length d5, .slice q5 x.vFree.length e5]) 31)) w.heap.size [.slice a0 x.vSlots.length c0, .slice a1 x.vFree.length c1] 25) := bA_4.out.below hbx5 bA_4.out.lt
  have wa_5 : Hid (SeqOwn 2 HandleOwn (u5a.alloc (.cells (List.toArray [.slice p5 x.vSlots.length d5, .slice q5 x.vFree.length e5]) 31)) (.slice awa rr.length cwa) rr fwa) := SeqOwn.stays HandleOwn_stays wa_4.out (fun x hx => (hbx5).block x (SeqOwn.lt HandleOwn_lt wa_4.out x hx))
  have x5t_5 : Hid (ArenaOwn (u5a.alloc (.cells (List.toArray [.slice p5 x.vSlots.length d5, .slice q5 x.vFree.length e5]) 31)) [.slice p5 x.vSlots.length d5, .slice q5 x.vFree.length e5] x f5t) := ArenaOwn_stays _ _ _ _ _ (fun x hx => (hbx5).block x (ArenaOwn_lt _ _ _ _ x5t_4.out x hx)) x5t_4.out
  clear bA_4 wa_4 x5t_4
  have hB5 : Hid (Below w.heap.size w (u5a.alloc (.cells (List.toArray [.slice p5 x.vSlots.length d5, .slice q5 x.vFree.length e5]) 31))) := hB4.out.trans ((hbx5).mono hB4.out.size)
  have sz5 := (hbx5).size
  simp only [World.size_alloc] at sz5
  clear z4_bA_0 z4_bA_1
  have z5_bA_0 := bA_5.out.cell 0 rfl
  have z5_bA_1 := bA_5.out.cell 1 rfl
  have bX5_5 : Hid (Box (u5a.alloc (.cells (List.toArray [.slice p5 x.vSlots.length d5, .slice q5 x.vFree.length e5]) 31)) u5a.heap.size [.slice p5 x.vSlots.length d5, .slice q5 x.vFree.length e5] 31) := Box.new u5a _ _
  have z5_bX5_0 := bX5_5.out.cell 0 rfl
  have z5_bX5_1 := bX5_5.out.cell 1 rfl
  clear hbx5
  go_wp2_with fail
  refine (implHandlesOf_any (ArenaOwn_at (lo := 0) _ _ _ _ x5t_5.out (fun _ _ => Nat.zero_le _))).mono ?_
  rintro e w6 ⟨⟨kga, fga, rfl, ownga, ndga, lowga⟩, hbga⟩
  rw [hYS'.out] at ownga
  have lowga' : Hid (∀ b ∈ fga, ((u5a.alloc (.cells (List.toArray [.slice p5 x.vSlots.length d5, .slice q5 x.vFree.length e5]) 31))).heap.size ≤ b) := lowga
  have ndgah : Hid (fga.Nodup) := ndga
  clear ndga
  have bA_6 : Hid (Box w6 w.heap.size [.slice a0 x.vSlots.length c0, .slice a1 x.vFree.length c1] 25) := bA_5.out.below hbga bA_5.out.lt
  have wa_6 : Hid (SeqOwn 2 HandleOwn w6 (.slice awa rr.length cwa) rr fwa) := SeqOwn.stays HandleOwn_stays wa_5.out (fun x hx => (hbga).block x (SeqOwn.lt HandleOwn_lt wa_5.out x hx))
  have x5t_6 : Hid (ArenaOwn w6 [.slice p5 x.vSlots.length d5, .slice q5 x.vFree.length e5] x f5t) := ArenaOwn_stays _ _ _ _ _ (fun x hx => (hbga).block x (ArenaOwn_lt _ _ _ _ x5t_5.out x hx)) x5t_5.out
  have bX5_6 : Hid (Box w6 u5a.heap.size [.slice p5 x.vSlots.length d5, .slice q5 x.vFree.length e5] 31) := bX5_5.out.below hbga bX5_5.out.lt
  clear bA_5 wa_5 x5t_5 bX5_5
  have hB6 : Hid (Below w.heap.size w w6) := hB5.out.trans ((hbga).mono hB5.out.size)
  have sz6 := (hbga).size
  simp only [World.size_alloc] at sz6
  clear z5_bA_0 z5_bA_1 z5_bX5_0 z5_bX5_1
  have z6_bA_0 := bA_6.out.cell 0 rfl
  have z6_bA_1 := bA_6.out.cell 1 rfl
  have z6_bX5_0 := bX5_6.out.cell 0 rfl
  have z6_bX5_1 := bX5_6.out.cell 1 rfl
  clear hbga lowga
  have rg_ga0 : Hid (∀ b ∈ fga, b < w6.heap.size) := ownga.lt HandleOwn_lt
  have ownsga : Hid (SeqOwn 2 HandleOwn w6 kga rr fga) := ownga
  obtain ⟨aga, cga, rfl⟩ := ownga.form
  clear ownga
  have ga_6 : Hid (SeqOwn 2 HandleOwn w6 (.slice aga rr.length cga) rr fga) := ownsga
  have rg_ga : Hid (∀ b ∈ fga, u5a.heap.size + 1 ≤ b ∧ b < w6.heap.size) := fun b q => ⟨by have := lowga'.out b q; simp only [World.size_alloc] at this; omega, rg_ga0.out b q⟩
  clear ownsga
  go_wp2_with fail
  refine (eqHandleS_any (lo := 0) (lo2 := 0) (ga_6.out.at (lo := 0) HandleOwn_at (fun _ _ => Nat.zero_le _)) (wa_6.out.at (lo := 0) HandleOwn_at (fun _ _ => Nat.zero_le _))).mono ?_
  rintro e w7 ⟨rfl, hbw7⟩
  have bA_7 : Hid (Box w7 w.heap.size [.slice a0 x.vSlots.length c0, .slice a1 x.vFree.length c1] 25) := bA_6.out.below hbw7 bA_6.out.lt
  have wa_7 : Hid (SeqOwn 2 HandleOwn w7 (.slice awa rr.length cwa) rr fwa) := SeqOwn.stays HandleOwn_stays wa_6.out (fun x hx => (hbw7).block x (SeqOwn.lt HandleOwn_lt wa_6.out x hx))
  have x5t_7 : Hid (ArenaOwn w7 [.slice p5 x.vSlots.length d5, .slice q5 x.vFree.length e5] x f5t) := ArenaOwn_stays _ _ _ _ _ (fun x hx => (hbw7).block x (ArenaOwn_lt _ _ _ _ x5t_6.out x hx)) x5t_6.out
  have bX5_7 : Hid (Box w7 u5a.heap.size [.slice p5 x.vSlots.length d5, .slice q5 x.vFree.length e5] 31) := bX5_6.out.below hbw7 bX5_6.out.lt
  have ga_7 : Hid (SeqOwn 2 HandleOwn w7 (.slice aga rr.length cga) rr fga) := SeqOwn.stays HandleOwn_stays ga_6.out (fun x hx => (hbw7).block x (SeqOwn.lt HandleOwn_lt ga_6.out x hx))
  clear bA_6 wa_6 x5t_6 bX5_6 ga_6
  have hB7 : Hid (Below w.heap.size w w7) := hB6.out.trans ((hbw7).mono hB6.out.size)
  have sz7 := (hbw7).size
  clear z6_bA_0 z6_bA_1 z6_bX5_0 z6_bX5_1
  have z7_bA_0 := bA_7.out.cell 0 rfl
  have z7_bA_1 := bA_7.out.cell 1 rfl
  have z7_bX5_0 := bX5_7.out.cell 0 rfl
  have z7_bX5_1 := bX5_7.out.cell 1 rfl
  clear hbw7
  go_wp2_with fail
  have ltA : w.heap.size < w7.heap.size := bA_7.out.lt
  have ltX : u5a.heap.size < w7.heap.size := bX5_7.out.lt
  have htx7 : Hid (ArenaAt w7 0 [.slice p5 x.vSlots.length d5, .slice q5 x.vFree.length e5] x) := ArenaOwn_at (lo := 0) _ _ _ _ x5t_7.out (fun _ _ => Nat.zero_le _)
  go_region_held3 (fun w' => w'.cell? ⟨u5a.heap.size, 0, none⟩ = some (.slice p5 x.vSlots.length d5) ∧ w'.cell? ⟨u5a.heap.size, 1, none⟩ = some (.slice q5 x.vFree.length e5) ∧ w'.cell? ⟨w.heap.size, 0, none⟩ = some (.slice a0 x.vSlots.length c0) ∧ w'.cell? ⟨w.heap.size, 1, none⟩ = some (.slice a1 x.vFree.length c1)) (go_keep)
    (first | (go_at_call 6; refine (toArena_own (by exact ArenaAt_stays _ _ _ 0 _ _ (.of_below hB7.out.drew) hx0.out) hsm.out).mono ?_; rintro e w8 ⟨⟨cs8, fs8, rfl, ht8, _, _⟩, hb8⟩; have hb8' := undrew hb8; have x8 : Hid (Box w8 u5a.heap.size _ _) := Box.below bX5_7.out hb8' ltX; have g8 : Hid (Box w8 w.heap.size _ _) := Box.below bA_7.out hb8' ltA; have y0 := x8.out.cell 0 rfl; have y1 := x8.out.cell 1 rfl; have v0 := g8.out.cell 0 rfl; have v1 := g8.out.cell 1 rfl; have lt8 : Hid (ArenaAt w8 0 [.slice p5 x.vSlots.length d5, .slice q5 x.vFree.length e5] x) := ArenaAt_stays _ _ _ 0 _ _ (.of_below hb8') htx7.out; have lt8b : Hid (ArenaAt w8 0 cs8 x) := ArenaOwn_at (lo := 0) _ _ _ _ ht8 (fun _ _ => Nat.zero_le _); have hb8h : Hid (Below w7.heap.size w7 w8) := hb8'; clear hb8 hb8' ht8) | (go_at_call 9; refine (eqArena_any (by exact lt8.out) (by exact lt8b.out)).mono ?_; rintro e w9 ⟨rfl, hb9⟩; have x9 : Hid (Box w9 u5a.heap.size _ _) := Box.below x8.out hb9 x8.out.lt; have g9 : Hid (Box w9 w.heap.size _ _) := Box.below g8.out hb9 g8.out.lt; have k0 := x9.out.cell 0 rfl; have k1 := x9.out.cell 1 rfl; have j0 := g9.out.cell 0 rfl; have j1 := g9.out.cell 1 rfl; have hb9h : Hid (Below w7.heap.size w7 w9) := hb8h.out.trans (hb9.mono hb8h.out.size); clear hb9))
  have hb79 : Below w7.heap.size w7 w9 := hb9h.out
  clear x8 g8 x9 g9 htx7 lt8 lt8b hb8h hb9h k0 k1 j0 j1 y0 y1 v0 v1 ltA ltX
  have bA_8 : Hid (Box w9 w.heap.size [.slice a0 x.vSlots.length c0, .slice a1 x.vFree.length c1] 25) := bA_7.out.below hb79 bA_7.out.lt
  have wa_8 : Hid (SeqOwn 2 HandleOwn w9 (.slice awa rr.length cwa) rr fwa) := SeqOwn.stays HandleOwn_stays wa_7.out (fun x hx => (hb79).block x (SeqOwn.lt HandleOwn_lt wa_7.out x hx))
  have x5t_8 : Hid (ArenaOwn w9 [.slice p5 x.vSlots.length d5, .slice q5 x.vFree.length e5] x f5t) := ArenaOwn_stays _ _ _ _ _ (fun x hx => (hb79).block x (ArenaOwn_lt _ _ _ _ x5t_7.out x hx)) x5t_7.out
  have bX5_8 : Hid (Box w9 u5a.heap.size [.slice p5 x.vSlots.length d5, .slice q5 x.vFree.length e5] 31) := bX5_7.out.below hb79 bX5_7.out.lt
  have ga_8 : Hid (SeqOwn 2 HandleOwn w9 (.slice aga rr.length cga) rr fga) := SeqOwn.stays HandleOwn_stays ga_7.out (fun x hx => (hb79).block x (SeqOwn.lt HandleOwn_lt ga_7.out x hx))
  clear bA_7 wa_7 x5t_7 bX5_7 ga_7
  have hB8 : Hid (Below w.heap.size w w9) := hB7.out.trans ((hb79).mono hB7.out.size)
  have sz8 := (hb79).size
  clear z7_bA_0 z7_bA_1 z7_bX5_0 z7_bX5_1
  have z8_bA_0 := bA_8.out.cell 0 rfl
  have z8_bA_1 := bA_8.out.cell 1 rfl
  have z8_bX5_0 := bX5_8.out.cell 0 rfl
  have z8_bX5_1 := bX5_8.out.cell 1 rfl
  clear hb79
  go_wp2_with fail
  refine (markArena_any x5t_8.out nd5h.out (by omega) hXC.out).mono ?_
  rintro e m1 ⟨rfl, _, hom1⟩
  have bA_9 : Hid (Box m1 w.heap.size [.slice a0 x.vSlots.length c0, .slice a1 x.vFree.length c1] 25) := ((hom1).keep bA_8.out.lt (fun q => by have := rg_x5t.out _ q; omega)).trans bA_8.out
  have wa_9 : Hid (SeqOwn 2 HandleOwn m1 (.slice awa rr.length cwa) rr fwa) := SeqOwn.stays HandleOwn_stays wa_8.out (fun x hx => (hom1).keep (SeqOwn.lt HandleOwn_lt wa_8.out x hx) (fun q => by have := rg_x5t.out _ q; have := rg_wa.out _ hx; omega))
  have bX5_9 : Hid (Box m1 u5a.heap.size [.slice p5 x.vSlots.length d5, .slice q5 x.vFree.length e5] 31) := ((hom1).keep bX5_8.out.lt (fun q => by have := rg_x5t.out _ q; omega)).trans bX5_8.out
  have ga_9 : Hid (SeqOwn 2 HandleOwn m1 (.slice aga rr.length cga) rr fga) := SeqOwn.stays HandleOwn_stays ga_8.out (fun x hx => (hom1).keep (SeqOwn.lt HandleOwn_lt ga_8.out x hx) (fun q => by have := rg_x5t.out _ q; have := rg_ga.out _ hx; omega))
  clear bA_8 wa_8 x5t_8 bX5_8 ga_8
  have hB9 : Hid (Below w.heap.size w m1) := hB8.out.trans ((hom1).below hB8.out.size (fun x hx => by have := rg_x5t.out x hx; omega))
  have sz9 := (hom1).2.2.2.1
  clear z8_bA_0 z8_bA_1 z8_bX5_0 z8_bX5_1
  have z9_bA_0 := bA_9.out.cell 0 rfl
  have z9_bA_1 := bA_9.out.cell 1 rfl
  have z9_bX5_0 := bX5_9.out.cell 0 rfl
  have z9_bX5_1 := bX5_9.out.cell 1 rfl
  clear hom1
  generalize hK1 : (1 : Int) + (cntL cntSlot x.vSlots : Nat) + (cntL cntI x.vFree : Nat) = K1
  have hK1b : 0 ≤ K1 := by omega
  clear hK1
  clear bX5_9 z9_bX5_0 z9_bX5_1
  have hKn : decide (K1 < 0) = false := by simp; omega
  go_wp2_with fail
  refine (eqHandleS_any (lo := 0) (lo2 := 0) (ga_9.out.at (lo := 0) HandleOwn_at (fun _ _ => Nat.zero_le _)) (wa_9.out.at (lo := 0) HandleOwn_at (fun _ _ => Nat.zero_le _))).mono ?_
  rintro e m4 ⟨rfl, hbm4⟩
  have bA_10 : Hid (Box m4 w.heap.size [.slice a0 x.vSlots.length c0, .slice a1 x.vFree.length c1] 25) := bA_9.out.below hbm4 bA_9.out.lt
  have wa_10 : Hid (SeqOwn 2 HandleOwn m4 (.slice awa rr.length cwa) rr fwa) := SeqOwn.stays HandleOwn_stays wa_9.out (fun x hx => (hbm4).block x (SeqOwn.lt HandleOwn_lt wa_9.out x hx))
  have ga_10 : Hid (SeqOwn 2 HandleOwn m4 (.slice aga rr.length cga) rr fga) := SeqOwn.stays HandleOwn_stays ga_9.out (fun x hx => (hbm4).block x (SeqOwn.lt HandleOwn_lt ga_9.out x hx))
  clear bA_9 wa_9 ga_9
  have hB10 : Hid (Below w.heap.size w m4) := hB9.out.trans ((hbm4).mono hB9.out.size)
  have sz10 := (hbm4).size
  clear z9_bA_0 z9_bA_1
  have z10_bA_0 := bA_10.out.cell 0 rfl
  have z10_bA_1 := bA_10.out.cell 1 rfl
  clear hbm4
  go_wp2_with fail
  refine (markHandleS_any ga_10.out (by omega) hYC.out).mono ?_
  rintro e m5 ⟨rfl, ownM, hom5⟩
  have bA_11 : Hid (Box m5 w.heap.size [.slice a0 x.vSlots.length c0, .slice a1 x.vFree.length c1] 25) := ((hom5).keep bA_10.out.lt (fun q => by have := rg_ga.out _ q; omega)).trans bA_10.out
  have wa_11 : Hid (SeqOwn 2 HandleOwn m5 (.slice awa rr.length cwa) rr fwa) := SeqOwn.stays HandleOwn_stays wa_10.out (fun x hx => (hom5).keep (SeqOwn.lt HandleOwn_lt wa_10.out x hx) (fun q => by have := rg_ga.out _ q; have := rg_wa.out _ hx; omega))
  clear bA_10 wa_10 ga_10
  have hB11 : Hid (Below w.heap.size w m5) := hB10.out.trans ((hom5).below hB10.out.size (fun x hx => by have := rg_ga.out x hx; omega))
  have sz11 := (hom5).2.2.2.1
  clear z10_bA_0 z10_bA_1
  have z11_bA_0 := bA_11.out.cell 0 rfl
  have z11_bA_1 := bA_11.out.cell 1 rfl
  have ga_11 : Hid (SeqOwn 2 HandleOwn m5 (.slice aga rr.length cga) (mkL cntHandle mkHandle rr 1) fga) := ownM
  clear ownM hom5
  generalize hCI : (1 : Int) + (cntL cntHandle rr : Nat) = M at *
  have hCI' : Hid ((1 : Int) + (cntL cntHandle rr : Nat) = M) := hCI
  clear hCI
  have hM0 : 0 ≤ M := by have := hCI'.out; omega
  have hM1 : decide (M < 0) = false := by simp; omega
  go_wp2_with fail
  refine (heldHandleS_any (lo := 0) (m := 1) (xs := rr) (ga_11.out.at (lo := 0) HandleOwn_at (fun _ _ => Nat.zero_le _)) (by omega) (by rw [hCI'.out]; exact hYC.out)).mono ?_
  rintro e m6 ⟨rfl, hbm6⟩
  rw [hCI'.out]
  have bA_12 : Hid (Box m6 w.heap.size [.slice a0 x.vSlots.length c0, .slice a1 x.vFree.length c1] 25) := bA_11.out.below hbm6 bA_11.out.lt
  have wa_12 : Hid (SeqOwn 2 HandleOwn m6 (.slice awa rr.length cwa) rr fwa) := SeqOwn.stays HandleOwn_stays wa_11.out (fun x hx => (hbm6).block x (SeqOwn.lt HandleOwn_lt wa_11.out x hx))
  have ga_12 : Hid (SeqOwn 2 HandleOwn m6 (.slice aga rr.length cga) (mkL cntHandle mkHandle rr 1) fga) := SeqOwn.stays HandleOwn_stays ga_11.out (fun x hx => (hbm6).block x (SeqOwn.lt HandleOwn_lt ga_11.out x hx))
  clear bA_11 wa_11 ga_11
  have hB12 : Hid (Below w.heap.size w m6) := hB11.out.trans ((hbm6).mono hB11.out.size)
  have sz12 := (hbm6).size
  clear z11_bA_0 z11_bA_1
  have z12_bA_0 := bA_12.out.cell 0 rfl
  have z12_bA_1 := bA_12.out.cell 1 rfl
  clear hbm6
  go_wp2_with fail
  refine (toArena_own (ArenaAt_stays _ _ _ 0 _ _ (.of_below hB12.out) hx0.out) hsm.out).mono ?_
  rintro e u7a ⟨⟨cs7, f7t, rfl, ht7, nd7, lo7t⟩, hba7⟩
  have nd7h : Hid (f7t.Nodup) := nd7
  have rg_x7t0 : Hid (∀ b ∈ f7t, b < u7a.heap.size) := ArenaOwn_lt _ _ _ _ ht7
  have lo7t' : Hid (∀ b ∈ f7t, m6.heap.size ≤ b) := lo7t
  have hto70 : Hid (ArenaOwn u7a cs7 x f7t) := ht7
  obtain ⟨_, _, _, _, rfl, ss7, st7, _⟩ := ht7
  obtain ⟨p7, d7, rfl⟩ := ss7.form
  obtain ⟨q7, e7, rfl⟩ := st7.form
  have hto7 : Hid (ArenaOwn u7a [.slice p7 x.vSlots.length d7, .slice q7 x.vFree.length e7] x f7t) := hto70.out
  clear ss7 st7 lo7t hto70 nd7
  have bA_13 : Hid (Box u7a w.heap.size [.slice a0 x.vSlots.length c0, .slice a1 x.vFree.length c1] 25) := bA_12.out.below hba7 bA_12.out.lt
  have wa_13 : Hid (SeqOwn 2 HandleOwn u7a (.slice awa rr.length cwa) rr fwa) := SeqOwn.stays HandleOwn_stays wa_12.out (fun x hx => (hba7).block x (SeqOwn.lt HandleOwn_lt wa_12.out x hx))
  have ga_13 : Hid (SeqOwn 2 HandleOwn u7a (.slice aga rr.length cga) (mkL cntHandle mkHandle rr 1) fga) := SeqOwn.stays HandleOwn_stays ga_12.out (fun x hx => (hba7).block x (SeqOwn.lt HandleOwn_lt ga_12.out x hx))
  clear bA_12 wa_12 ga_12
  have hB13 : Hid (Below w.heap.size w u7a) := hB12.out.trans ((hba7).mono hB12.out.size)
  have sz13 := (hba7).size
  clear z12_bA_0 z12_bA_1
  have z13_bA_0 := bA_13.out.cell 0 rfl
  have z13_bA_1 := bA_13.out.cell 1 rfl
  have x7t_13 : Hid (ArenaOwn u7a [.slice p7 x.vSlots.length d7, .slice q7 x.vFree.length e7] x f7t) := hto7
  clear hto7 hba7
  have rg_x7t : Hid (∀ b ∈ f7t, m6.heap.size ≤ b ∧ b < u7a.heap.size) := fun b q => ⟨by have := lo7t'.out b q; omega, rg_x7t0.out b q⟩
  go_wp2_with fail
  refine (implHandlesOf_any (ArenaOwn_at (lo := 0) _ _ _ _ x7t_13.out (fun _ _ => Nat.zero_le _))).mono ?_
  rintro e w10 ⟨⟨kha, fha, rfl, ownha, ndha, lowha⟩, hbha⟩
  rw [hYS'.out] at ownha
  have lowha' : Hid (∀ b ∈ fha, u7a.heap.size ≤ b) := lowha
  have ndhah : Hid (fha.Nodup) := ndha
  clear ndha
  have bA_14 : Hid (Box w10 w.heap.size [.slice a0 x.vSlots.length c0, .slice a1 x.vFree.length c1] 25) := bA_13.out.below hbha bA_13.out.lt
  have wa_14 : Hid (SeqOwn 2 HandleOwn w10 (.slice awa rr.length cwa) rr fwa) := SeqOwn.stays HandleOwn_stays wa_13.out (fun x hx => (hbha).block x (SeqOwn.lt HandleOwn_lt wa_13.out x hx))
  have ga_14 : Hid (SeqOwn 2 HandleOwn w10 (.slice aga rr.length cga) (mkL cntHandle mkHandle rr 1) fga) := SeqOwn.stays HandleOwn_stays ga_13.out (fun x hx => (hbha).block x (SeqOwn.lt HandleOwn_lt ga_13.out x hx))
  have x7t_14 : Hid (ArenaOwn w10 [.slice p7 x.vSlots.length d7, .slice q7 x.vFree.length e7] x f7t) := ArenaOwn_stays _ _ _ _ _ (fun x hx => (hbha).block x (ArenaOwn_lt _ _ _ _ x7t_13.out x hx)) x7t_13.out
  clear bA_13 wa_13 ga_13 x7t_13
  have hB14 : Hid (Below w.heap.size w w10) := hB13.out.trans ((hbha).mono hB13.out.size)
  have sz14 := (hbha).size
  clear z13_bA_0 z13_bA_1
  have z14_bA_0 := bA_14.out.cell 0 rfl
  have z14_bA_1 := bA_14.out.cell 1 rfl
  clear hbha lowha
  have rg_ha0 : Hid (∀ b ∈ fha, b < w10.heap.size) := ownha.lt HandleOwn_lt
  have ownsha : Hid (SeqOwn 2 HandleOwn w10 kha rr fha) := ownha
  obtain ⟨aha, cha, rfl⟩ := ownha.form
  clear ownha
  have ha_14 : Hid (SeqOwn 2 HandleOwn w10 (.slice aha rr.length cha) rr fha) := ownsha
  have rg_ha : Hid (∀ b ∈ fha, u7a.heap.size ≤ b ∧ b < w10.heap.size) := fun b q => ⟨by have := lowha'.out b q; omega, rg_ha0.out b q⟩
  clear ownsha
  clear x7t_14
  go_wp2_with fail
  refine (eqHandleS_any (lo := 0) (lo2 := 0) (ha_14.out.at (lo := 0) HandleOwn_at (fun _ _ => Nat.zero_le _)) (wa_14.out.at (lo := 0) HandleOwn_at (fun _ _ => Nat.zero_le _))).mono ?_
  rintro e w11 ⟨rfl, hbw11⟩
  have bA_15 : Hid (Box w11 w.heap.size [.slice a0 x.vSlots.length c0, .slice a1 x.vFree.length c1] 25) := bA_14.out.below hbw11 bA_14.out.lt
  have wa_15 : Hid (SeqOwn 2 HandleOwn w11 (.slice awa rr.length cwa) rr fwa) := SeqOwn.stays HandleOwn_stays wa_14.out (fun x hx => (hbw11).block x (SeqOwn.lt HandleOwn_lt wa_14.out x hx))
  have ga_15 : Hid (SeqOwn 2 HandleOwn w11 (.slice aga rr.length cga) (mkL cntHandle mkHandle rr 1) fga) := SeqOwn.stays HandleOwn_stays ga_14.out (fun x hx => (hbw11).block x (SeqOwn.lt HandleOwn_lt ga_14.out x hx))
  have ha_15 : Hid (SeqOwn 2 HandleOwn w11 (.slice aha rr.length cha) rr fha) := SeqOwn.stays HandleOwn_stays ha_14.out (fun x hx => (hbw11).block x (SeqOwn.lt HandleOwn_lt ha_14.out x hx))
  clear bA_14 wa_14 ga_14 ha_14
  have hB15 : Hid (Below w.heap.size w w11) := hB14.out.trans ((hbw11).mono hB14.out.size)
  have sz15 := (hbw11).size
  clear z14_bA_0 z14_bA_1
  have z15_bA_0 := bA_15.out.cell 0 rfl
  have z15_bA_1 := bA_15.out.cell 1 rfl
  clear hbw11
  go_wp2_with fail
  refine (heldHandleS_any (lo := 0) (m := 1) (xs := rr) (ga_15.out.at (lo := 0) HandleOwn_at (fun _ _ => Nat.zero_le _)) (by omega) (by rw [hCI'.out]; exact hYC.out)).mono ?_
  rintro e w12 ⟨rfl, hbw12⟩
  rw [hCI'.out]
  have bA_16 : Hid (Box w12 w.heap.size [.slice a0 x.vSlots.length c0, .slice a1 x.vFree.length c1] 25) := bA_15.out.below hbw12 bA_15.out.lt
  have wa_16 : Hid (SeqOwn 2 HandleOwn w12 (.slice awa rr.length cwa) rr fwa) := SeqOwn.stays HandleOwn_stays wa_15.out (fun x hx => (hbw12).block x (SeqOwn.lt HandleOwn_lt wa_15.out x hx))
  have ga_16 : Hid (SeqOwn 2 HandleOwn w12 (.slice aga rr.length cga) (mkL cntHandle mkHandle rr 1) fga) := SeqOwn.stays HandleOwn_stays ga_15.out (fun x hx => (hbw12).block x (SeqOwn.lt HandleOwn_lt ga_15.out x hx))
  have ha_16 : Hid (SeqOwn 2 HandleOwn w12 (.slice aha rr.length cha) rr fha) := SeqOwn.stays HandleOwn_stays ha_15.out (fun x hx => (hbw12).block x (SeqOwn.lt HandleOwn_lt ha_15.out x hx))
  clear bA_15 wa_15 ga_15 ha_15
  have hB16 : Hid (Below w.heap.size w w12) := hB15.out.trans ((hbw12).mono hB15.out.size)
  have sz16 := (hbw12).size
  clear z15_bA_0 z15_bA_1
  have z16_bA_0 := bA_16.out.cell 0 rfl
  have z16_bA_1 := bA_16.out.cell 1 rfl
  clear hbw12
  go_wp2_with fail
  go_ret
  exact ⟨rfl, hB16.out⟩
/-! The row -/
set_option maxRecDepth 100000 in
theorem lifted (os : Os) (started : os.Started) (H : Type) (enc : TypeId × Value → H) :
    ReturnsInHanded {} Try.checked os 3 .any (Rows.fnExactHandlesOfSpec.pre6 enc Try.prog Try.f3 Rows.fnExactHandlesOfRow.domain false) (Rows.fnExactHandlesOfSpec.post enc Try.prog Try.f3 false true false false) := by
  refine returnsInHanded_of_change (C := Try.checked) own started (by kernel_rfl) Try.func3
    (ChangeSpec.witness6 (enc := enc) (C := Try.checked) false ⟨#[], #[.agg #[.slice none 0 0, .slice none 0 0]], []⟩ 8 (by kernel_rfl) (by kernel_rfl) (by kernel_rfl) (by kernel_rfl)) ?_
  intro W base args ds gs before hval0 hW hcnd _
  have hval : ∀ (j : Nat) t v, Try.f3.params[j]? = some t → args[j]? = some v → Value.okWide Try.prog W .any base t v := hval0
  have hW' := hW
  obtain ⟨p, q, hA0, hV, rfl, hfz, hnd⟩ := hW
  have hA : DataW.TrodAll enc Try.prog W 0 (fun _ => true) true Try.f3.params.toList args.toList ds p := hA0
  rw [Try.params3] at hA hval
  obtain ⟨v0, vs0, d0, ds0, p0, q0, hargs, rfl, rfl, h0, r0⟩ := trodAll_cons hA
  obtain ⟨rfl, rfl, rfl⟩ := trodAll_nil r0
  obtain rfl : args = #[v0] := by cases args; simp_all
  obtain ⟨rfl, rfl⟩ := trodVars_none hV
  have k0 := h0
  have lt0 : ∀ x ∈ p0, x.block < W.heap.size := by obtain ⟨m, hm⟩ := k0; exact DataW.trod_lt m _ _ _ hm
  obtain ⟨cs0, rfl, _⟩ := okWide_struct Try.underlying25 (hval 0 25 v0 rfl rfl)
  obtain ⟨fuel0, hf0⟩ := h0
  obtain ⟨x0, hx0⟩ := ArenaAt_of_trod fuel0 _ _ hf0
  have hcs0 : (Value.agg cs0).cells = cs0 := rfl
  rw [hcs0] at hx0
  clear hA0 hval0
  have hwk := walk (w := W) hx0
  rw [Array.toArray_toList] at hwk
  refine hwk.mono fun e W' ⟨he, bel⟩ => ?_
  subst he
  exact ⟨_, rfl, _, _, _, [], _, [], hW', trodAll_mk1 (shut_bool Try.underlying4 _), (trodAll_cons_mk (Below.trod laidOut (by kernel_rfl) (of_decide_eq_true (by kernel_rfl)) k0 bel lt0) trodAll_mk0), rfl, bel.frame _, fun h => by cases h⟩
theorem over : Rows.fnExactHandlesOfRow.holds Try.pinned (OpenSpec.ofChange Rows.fnExactHandlesOfSpec) :=
  OpenClaim.holds_of_wide 3 Try.f3 rfl rfl rfl rfl rfl rfl rfl ⟨rfl, rfl, rfl, rfl, rfl⟩ rfl rfl rfl rfl rfl (by kernel_rfl) Try.func3 (by kernel_rfl)
    (of_decide_eq_true (by kernel_rfl)) (by unfold Func.isWrapper; first | (rw [if_pos (by decide +kernel)]; kernel_rfl) | (rw [if_neg (by decide +kernel)]; exact ⟨rfl, rfl⟩))
    (fun os started H enc _ => lifted os started H enc)
end Go.Proofs.Ytcpbcpckmclciab.fnExactHandlesOf
namespace Go.Proofs.Ytcpbcpckmclciab
theorem fnExactHandlesOf_holds : Rows.FnExactHandlesOfSaid := fnExactHandlesOf.over
end Go.Proofs.Ytcpbcpckmclciab
