/- At every two trees Diffed answers as its specification, writes into no argument, and its answer owns its memory, behind another call too. No condition. -/
import Derived.Test.YtfncmndgdomjiaaDfCutL
import Derived.Test.YtfncmndgdomjiaaEdHeld
import Derived.Test.YtfncmndgdomjiaaTreeTrod
import Derived.ProofKit
import Derived.OpenShut
import Derived.ShutString
import Derived.ChangeOld
import Derived.Below
import Derived.Laws.Cover1
import Derived.WalkKit
namespace Go.Proofs.Ytfncmndgdomjiaa.fnExactDiffed
open Go.ChangeShapes Go.WideShapes Go.ChangeAt Go.RowKit

theorem own : ownKnob Try.prog.godebug = none := by kernel_rfl
theorem laidOut : laidOutB Try.prog = true := by kernel_rfl
set_option maxRecDepth 100000 in
set_option maxHeartbeats 6400000 in
theorem walk {n0 n1 : Nat} {w : World} {cs ce : List Value} {x y : TD} (hx : TreeL n0 w 0 cs x) (hy : TreeL n1 w 0 ce y) :
    Calls Try.prog 7 #[.agg cs.toArray, .agg ce.toArray] w fun e w' => e = .returned (.bool true) ∧ Below w.heap.size w w' := by
  obtain ⟨n, hn1, hn2⟩ : ∃ n, n0 ≤ n + 1 ∧ n1 ≤ n + 1 := ⟨n0 + n1, by omega, by omega⟩
  have hx0 : Hid (TreeL (n + 1) w 0 cs x) := hx.mono hn1
  have hy0 : Hid (TreeL (n + 1) w 0 ce y) := hy.mono hn2
  clear hn1 hn2
  obtain ⟨k1, rfl, s1, _⟩ := hx.opened
  obtain ⟨a0, cap0, rfl⟩ := s1.form
  obtain ⟨k2, rfl, s2, _⟩ := hy.opened
  obtain ⟨a1, cap1, rfl⟩ := s2.form
  clear hx hy s1 s2
  have hB0 : Hid (Below w.heap.size w ((w.alloc (.cells (List.toArray [.string (strT x), .slice a0 (kidsOf x).length cap0]) 24)).alloc (.cells (List.toArray [.string (strT y), .slice a1 (kidsOf y).length cap1]) 24))) := ((Below.refl _ _).alloc (Nat.le_refl _) _).alloc (by simp) _
  have bA_0 : Hid (Box ((w.alloc (.cells (List.toArray [.string (strT x), .slice a0 (kidsOf x).length cap0]) 24)).alloc (.cells (List.toArray [.string (strT y), .slice a1 (kidsOf y).length cap1]) 24)) w.heap.size [.string (strT x), .slice a0 (kidsOf x).length cap0] 24) := (Box.new w _ _).alloc _
  have z0_bA_0 := bA_0.out.cell 0 rfl
  have z0_bA_1 := bA_0.out.cell 1 rfl
  have bB_0 : Hid (Box ((w.alloc (.cells (List.toArray [.string (strT x), .slice a0 (kidsOf x).length cap0]) 24)).alloc (.cells (List.toArray [.string (strT y), .slice a1 (kidsOf y).length cap1]) 24)) (w.heap.size + 1) [.string (strT y), .slice a1 (kidsOf y).length cap1] 24) := (by have q := Box.new (w.alloc (.cells (List.toArray [.string (strT x), .slice a0 (kidsOf x).length cap0]) 24)) [.string (strT y), .slice a1 (kidsOf y).length cap1] 24; rw [World.size_alloc] at q; exact q)
  have z0_bB_0 := bB_0.out.cell 0 rfl
  have z0_bB_1 := bB_0.out.cell 1 rfl
  have szA : w.heap.size + 2 ≤ ((w.alloc (.cells (List.toArray [.string (strT x), .slice a0 (kidsOf x).length cap0]) 24)).alloc (.cells (List.toArray [.string (strT y), .slice a1 (kidsOf y).length cap1]) 24)).heap.size := by simp
  simp only [World.size_alloc] at szA
  go_enter Try.func7, Try.ntmps7
  go_wp2_with fail
  refine ((szT_all (n + 1)).1 _ 0 _ x _ (hx0.out.below hB0.out) (by omega) (by omega)).mono ?_
  rintro e w1 ⟨⟨r, rfl, hr1, hr2, hsm⟩, hb1⟩
  have hsm' : Hid (r < 0 ∨ (SmallO (n + 1) x ∧ r + (belowN (n + 1) x : Int) ≤ 1048576)) := hsm
  clear hsm
  have bA_1 : Hid (Box w1 w.heap.size [.string (strT x), .slice a0 (kidsOf x).length cap0] 24) := bA_0.out.below hb1 bA_0.out.lt
  have bB_1 : Hid (Box w1 (w.heap.size + 1) [.string (strT y), .slice a1 (kidsOf y).length cap1] 24) := bB_0.out.below hb1 bB_0.out.lt
  clear bA_0 bB_0
  have hB1 : Hid (Below w.heap.size w w1) := hB0.out.trans ((hb1).mono hB0.out.size)
  have sz1 := (hb1).size
  simp only [World.size_alloc] at sz1
  clear z0_bA_0 z0_bA_1 z0_bB_0 z0_bB_1
  have z1_bA_0 := bA_1.out.cell 0 rfl
  have z1_bA_1 := bA_1.out.cell 1 rfl
  have z1_bB_0 := bB_1.out.cell 0 rfl
  have z1_bB_1 := bB_1.out.cell 1 rfl
  clear hb1
  by_cases hneg : r < 0
  · go_wp2_with fail
    go_ret
    exact ⟨rfl, hB1.out⟩
  have hsm : Hid (SmallO (n + 1) x) := (hsm'.out.resolve_left hneg).1
  have hcx : Hid ((cntL (cntTree n) (kidsOf x) : Int) ≤ 1048576) := by show _ ≤ _; have := (hsm'.out.resolve_left hneg).2; simp only [belowN] at this; omega
  clear hsm'
  go_wp2_with fail
  refine ((szT_all (n + 1)).1 _ 0 _ y _ (hy0.out.below hB1.out) (by omega) (by omega)).mono ?_
  rintro e w2 ⟨⟨r2, rfl, hr3, hr4, hsl⟩, hb2⟩
  have hsl' : Hid (r2 < 0 ∨ (SmallO (n + 1) y ∧ r2 + (belowN (n + 1) y : Int) ≤ r)) := hsl
  clear hsl
  have bA_2 : Hid (Box w2 w.heap.size [.string (strT x), .slice a0 (kidsOf x).length cap0] 24) := bA_1.out.below hb2 bA_1.out.lt
  have bB_2 : Hid (Box w2 (w.heap.size + 1) [.string (strT y), .slice a1 (kidsOf y).length cap1] 24) := bB_1.out.below hb2 bB_1.out.lt
  clear bA_1 bB_1
  have hB2 : Hid (Below w.heap.size w w2) := hB1.out.trans ((hb2).mono hB1.out.size)
  have sz2 := (hb2).size
  clear z1_bA_0 z1_bA_1 z1_bB_0 z1_bB_1
  have z2_bA_0 := bA_2.out.cell 0 rfl
  have z2_bA_1 := bA_2.out.cell 1 rfl
  have z2_bB_0 := bB_2.out.cell 0 rfl
  have z2_bB_1 := bB_2.out.cell 1 rfl
  clear hb2
  by_cases hneg2 : r2 < 0
  · go_wp2_with fail
    go_ret
    exact ⟨rfl, hB2.out⟩
  have hsy : Hid (SmallO (n + 1) y) := (hsl'.out.resolve_left hneg2).1
  have hcy : Hid ((cntL (cntTree n) (kidsOf y) : Int) ≤ 1048576) := by show _ ≤ _; have := (hsl'.out.resolve_left hneg2).2; simp only [belowN] at this; omega
  clear hsl'
  generalize hYS : diffD (n + 1) x y = oo
  have hYS' : Hid (diffD (n + 1) x y = oo) := hYS
  clear hYS
  have hYC : Hid ((1 : Int) + (cntL (cntEd n) (resL oo) : Nat) ≤ 4611686018427387904) := by have h := diffCnt (n + 1) x y n; rw [hYS'.out] at h; show _ ≤ _; omega
  go_upto_region 8 with fail
  have lt_A := bA_2.out.lt
  have lt_B := bB_2.out.lt
  go_region_held3 (fun w' => w'.cell? ⟨w.heap.size, 0, none⟩ = some (.string (strT x)) ∧ w'.cell? ⟨w.heap.size, 1, none⟩ = some (.slice a0 (kidsOf x).length cap0) ∧ w'.cell? ⟨w.heap.size + 1, 0, none⟩ = some (.string (strT y)) ∧ w'.cell? ⟨w.heap.size + 1, 1, none⟩ = some (.slice a1 (kidsOf y).length cap1)) (go_keep)
    (first | (go_at_call 11; refine ((toT_all (n + 1)).1 _ 0 _ x (by exact TreeL.below hx0.out hB2.out.drew) hsm.out).mono ?_; rintro e u1 ⟨⟨csA, fA, rfl, htA, _, _⟩, hbu1⟩; have hb1u : Hid (Below w2.heap.size w2 u1) := undrew hbu1; obtain ⟨kA, rfl, sA, _⟩ := htA.opened; obtain ⟨aA, cA, rfl⟩ := sA.form; have atA : Hid (TreeAt u1 0 (n + 1) (.string (strT x)) (.slice aA (kidsOf x).length cA) x) := treeO_ta htA; have pA : Hid (Box u1 w.heap.size _ _) := Box.below bA_2.out hb1u.out (bA_2.out).lt; have pB : Hid (Box u1 (w.heap.size + 1) _ _) := Box.below bB_2.out hb1u.out (bB_2.out).lt; have pA0 := pA.out.cell 0 rfl; have pA1 := pA.out.cell 1 rfl; have pB0 := pB.out.cell 0 rfl; have pB1 := pB.out.cell 1 rfl; clear hbu1 htA sA) | (go_at_call 11; refine ((toT_all (n + 1)).1 _ 0 _ y (by exact TreeL.below hy0.out (hB2.out.trans (hb1u.out.mono hB2.out.size))) hsy.out).mono ?_; rintro e u2 ⟨⟨csH, fH, rfl, htH, _, _⟩, hbu2⟩; obtain ⟨kH, rfl, sH, _⟩ := htH.opened; obtain ⟨aH, cH, rfl⟩ := sH.form; have atH : Hid (TreeAt u2 0 (n + 1) (.string (strT y)) (.slice aH (kidsOf y).length cH) y) := treeO_ta htH; have atA2 : Hid (TreeAt u2 0 (n + 1) (.string (strT x)) (.slice aA (kidsOf x).length cA) x) := atA.out.below hbu2; have hb2u : Hid (Below w2.heap.size w2 u2) := hb1u.out.trans (hbu2.mono hb1u.out.size); have qA : Hid (Box u2 w.heap.size _ _) := Box.below bA_2.out hb2u.out (bA_2.out).lt; have qB : Hid (Box u2 (w.heap.size + 1) _ _) := Box.below bB_2.out hb2u.out (bB_2.out).lt; have qA0 := qA.out.cell 0 rfl; have qA1 := qA.out.cell 1 rfl; have qB0 := qB.out.cell 0 rfl; have qB1 := qB.out.cell 1 rfl; clear hbu2 htH sH) | (go_at_call 30; refine (specDiffed_any atA2.out atH.out).mono ?_; rw [hYS'.out]; rintro e u3wa hdf; obtain ⟨awa, cwa, fwa, rfl, ownwa, ndwa, lowa, hbu3⟩ := hdf.all; have hb3u : Hid (Below w2.heap.size w2 u3wa) := hb2u.out.trans (hbu3.mono hb2u.out.size); have lowah : Hid (∀ b ∈ fwa, w2.heap.size ≤ b ∧ b < u3wa.heap.size) := (fun b q => ⟨Nat.le_trans hb2u.out.size (lowa b q), ownwa.lt (EditO_lt _) b q⟩); have ownwah : Hid (SeqOwn 5 (EditO (n + 1)) u3wa (.slice awa (resL oo).length cwa) (resL oo) fwa) := ownwa; have rA : Hid (Box u3wa w.heap.size _ _) := Box.below bA_2.out hb3u.out (bA_2.out).lt; have rB : Hid (Box u3wa (w.heap.size + 1) _ _) := Box.below bB_2.out hb3u.out (bB_2.out).lt; have rA0 := rA.out.cell 0 rfl; have rA1 := rA.out.cell 1 rfl; have rB0 := rB.out.cell 0 rfl; have rB1 := rB.out.cell 1 rfl; clear ownwa ndwa lowa hbu3))
  have hb3o := hb3u.out
  clear pA pA0 pA1 pB pB0 pB1 qA qA0 qA1 qB qB0 qB1 rA rA0 rA1 rB rB0 rB1 lt_A lt_B atA atH atA2 hb1u hb2u hb3u
  have bA_3 : Hid (Box u3wa w.heap.size [.string (strT x), .slice a0 (kidsOf x).length cap0] 24) := bA_2.out.below hb3o bA_2.out.lt
  have bB_3 : Hid (Box u3wa (w.heap.size + 1) [.string (strT y), .slice a1 (kidsOf y).length cap1] 24) := bB_2.out.below hb3o bB_2.out.lt
  clear bA_2 bB_2
  have hB3 : Hid (Below w.heap.size w u3wa) := hB2.out.trans ((hb3o).mono hB2.out.size)
  have sz3 := (hb3o).size
  clear z2_bA_0 z2_bA_1 z2_bB_0 z2_bB_1
  have z3_bA_0 := bA_3.out.cell 0 rfl
  have z3_bA_1 := bA_3.out.cell 1 rfl
  have z3_bB_0 := bB_3.out.cell 0 rfl
  have z3_bB_1 := bB_3.out.cell 1 rfl
  clear hb3o
  have wa_3 : Hid (SeqOwn 5 (EditO (n + 1)) u3wa (.slice awa (resL oo).length cwa) (resL oo) fwa) := ownwah
  have rg_wa : Hid (∀ b ∈ fwa, w2.heap.size ≤ b ∧ b < u3wa.heap.size) := lowah
  clear ownwah lowah
  go_wp2_with fail
  refine ((toT_all (n + 1)).1 _ 0 _ x (hx0.out.below hB3.out) hsm.out).mono ?_
  rintro e u5a ⟨⟨csx5, fx5, rfl, htx5, _, lox5⟩, hbx5⟩
  have rg_x5x : Hid (∀ b ∈ fx5, u3wa.heap.size ≤ b ∧ b < u5a.heap.size) := fun b q => ⟨by have := lox5 b q; omega, TreeO_lt _ _ _ _ _ htx5 b q⟩
  obtain ⟨kkx5, rfl, ssx5, _⟩ := htx5.opened
  obtain ⟨atx5, ctx5, rfl⟩ := ssx5.form
  have htox5 : Hid (TreeO (n + 1) u5a [.string (strT x), .slice atx5 (kidsOf x).length ctx5] x fx5) := htx5
  clear htx5 ssx5 lox5
  have bA_4 : Hid (Box u5a w.heap.size [.string (strT x), .slice a0 (kidsOf x).length cap0] 24) := bA_3.out.below hbx5 bA_3.out.lt
  have bB_4 : Hid (Box u5a (w.heap.size + 1) [.string (strT y), .slice a1 (kidsOf y).length cap1] 24) := bB_3.out.below hbx5 bB_3.out.lt
  have wa_4 : Hid (SeqOwn 5 (EditO (n + 1)) u5a (.slice awa (resL oo).length cwa) (resL oo) fwa) := SeqOwn.stays (EditO_stays _) wa_3.out (fun x hx => (hbx5).block x (SeqOwn.lt (EditO_lt _) wa_3.out x hx))
  clear bA_3 bB_3 wa_3
  have hB4 : Hid (Below w.heap.size w u5a) := hB3.out.trans ((hbx5).mono hB3.out.size)
  have sz4 := (hbx5).size
  clear z3_bA_0 z3_bA_1 z3_bB_0 z3_bB_1
  have z4_bA_0 := bA_4.out.cell 0 rfl
  have z4_bA_1 := bA_4.out.cell 1 rfl
  have z4_bB_0 := bB_4.out.cell 0 rfl
  have z4_bB_1 := bB_4.out.cell 1 rfl
  have x5x_4 : Hid (TreeO (n + 1) u5a [.string (strT x), .slice atx5 (kidsOf x).length ctx5] x fx5) := htox5
  clear htox5 hbx5
  have hbxx5 : Below u5a.heap.size u5a (u5a.alloc (.cells (List.toArray [.string (strT x), .slice atx5 (kidsOf x).length ctx5]) 33)) := (Below.refl _ _).alloc (Nat.le_refl _) _
  have bA_5 : Hid (Box (u5a.alloc (.cells (List.toArray [.string (strT x), .slice atx5 (kidsOf x).length ctx5]) 33)) w.heap.size [.string (strT x), .slice a0 (kidsOf x).length cap0] 24) := bA_4.out.below hbxx5 bA_4.out.lt
  have bB_5 : Hid (Box (u5a.alloc (.cells (List.toArray [.string (strT x), .slice atx5 (kidsOf x).length ctx5]) 33)) (w.heap.size + 1) [.string (strT y), .slice a1 (kidsOf y).length cap1] 24) := bB_4.out.below hbxx5 bB_4.out.lt
  have wa_5 : Hid (SeqOwn 5 (EditO (n + 1)) (u5a.alloc (.cells (List.toArray [.string (strT x), .slice atx5 (kidsOf x).length ctx5]) 33)) (.slice awa (resL oo).length cwa) (resL oo) fwa) := SeqOwn.stays (EditO_stays _) wa_4.out (fun x hx => (hbxx5).block x (SeqOwn.lt (EditO_lt _) wa_4.out x hx))
  have x5x_5 : Hid (TreeO (n + 1) (u5a.alloc (.cells (List.toArray [.string (strT x), .slice atx5 (kidsOf x).length ctx5]) 33)) [.string (strT x), .slice atx5 (kidsOf x).length ctx5] x fx5) := TreeO_stays _ _ _ _ _ _ (fun x hx => (hbxx5).block x (TreeO_lt _ _ _ _ _ x5x_4.out x hx)) x5x_4.out
  clear bA_4 bB_4 wa_4 x5x_4
  have hB5 : Hid (Below w.heap.size w (u5a.alloc (.cells (List.toArray [.string (strT x), .slice atx5 (kidsOf x).length ctx5]) 33))) := hB4.out.trans ((hbxx5).mono hB4.out.size)
  have sz5 := (hbxx5).size
  simp only [World.size_alloc] at sz5
  clear z4_bA_0 z4_bA_1 z4_bB_0 z4_bB_1
  have z5_bA_0 := bA_5.out.cell 0 rfl
  have z5_bA_1 := bA_5.out.cell 1 rfl
  have z5_bB_0 := bB_5.out.cell 0 rfl
  have z5_bB_1 := bB_5.out.cell 1 rfl
  have bX5_5 : Hid (Box (u5a.alloc (.cells (List.toArray [.string (strT x), .slice atx5 (kidsOf x).length ctx5]) 33)) u5a.heap.size [.string (strT x), .slice atx5 (kidsOf x).length ctx5] 33) := Box.new u5a _ _
  have z5_bX5_0 := bX5_5.out.cell 0 rfl
  have z5_bX5_1 := bX5_5.out.cell 1 rfl
  clear hbxx5
  go_wp2_with fail
  refine ((toT_all (n + 1)).1 _ 0 _ y (hy0.out.below hB5.out) hsy.out).mono ?_
  rintro e u5b ⟨⟨csy5, fy5, rfl, hty5, _, loy5⟩, hby5⟩
  have rg_x5y : Hid (∀ b ∈ fy5, u5a.heap.size + 1 ≤ b ∧ b < u5b.heap.size) := fun b q => ⟨by have := loy5 b q; simp only [World.size_alloc] at this; omega, TreeO_lt _ _ _ _ _ hty5 b q⟩
  obtain ⟨kky5, rfl, ssy5, _⟩ := hty5.opened
  obtain ⟨aty5, cty5, rfl⟩ := ssy5.form
  have htoy5 : Hid (TreeO (n + 1) u5b [.string (strT y), .slice aty5 (kidsOf y).length cty5] y fy5) := hty5
  clear hty5 ssy5 loy5
  have bA_6 : Hid (Box u5b w.heap.size [.string (strT x), .slice a0 (kidsOf x).length cap0] 24) := bA_5.out.below hby5 bA_5.out.lt
  have bB_6 : Hid (Box u5b (w.heap.size + 1) [.string (strT y), .slice a1 (kidsOf y).length cap1] 24) := bB_5.out.below hby5 bB_5.out.lt
  have wa_6 : Hid (SeqOwn 5 (EditO (n + 1)) u5b (.slice awa (resL oo).length cwa) (resL oo) fwa) := SeqOwn.stays (EditO_stays _) wa_5.out (fun x hx => (hby5).block x (SeqOwn.lt (EditO_lt _) wa_5.out x hx))
  have x5x_6 : Hid (TreeO (n + 1) u5b [.string (strT x), .slice atx5 (kidsOf x).length ctx5] x fx5) := TreeO_stays _ _ _ _ _ _ (fun x hx => (hby5).block x (TreeO_lt _ _ _ _ _ x5x_5.out x hx)) x5x_5.out
  have bX5_6 : Hid (Box u5b u5a.heap.size [.string (strT x), .slice atx5 (kidsOf x).length ctx5] 33) := bX5_5.out.below hby5 bX5_5.out.lt
  clear bA_5 bB_5 wa_5 x5x_5 bX5_5
  have hB6 : Hid (Below w.heap.size w u5b) := hB5.out.trans ((hby5).mono hB5.out.size)
  have sz6 := (hby5).size
  simp only [World.size_alloc] at sz6
  clear z5_bA_0 z5_bA_1 z5_bB_0 z5_bB_1 z5_bX5_0 z5_bX5_1
  have z6_bA_0 := bA_6.out.cell 0 rfl
  have z6_bA_1 := bA_6.out.cell 1 rfl
  have z6_bB_0 := bB_6.out.cell 0 rfl
  have z6_bB_1 := bB_6.out.cell 1 rfl
  have z6_bX5_0 := bX5_6.out.cell 0 rfl
  have z6_bX5_1 := bX5_6.out.cell 1 rfl
  have x5y_6 : Hid (TreeO (n + 1) u5b [.string (strT y), .slice aty5 (kidsOf y).length cty5] y fy5) := htoy5
  clear htoy5 hby5
  have hbxy5 : Below u5b.heap.size u5b (u5b.alloc (.cells (List.toArray [.string (strT y), .slice aty5 (kidsOf y).length cty5]) 33)) := (Below.refl _ _).alloc (Nat.le_refl _) _
  have bA_7 : Hid (Box (u5b.alloc (.cells (List.toArray [.string (strT y), .slice aty5 (kidsOf y).length cty5]) 33)) w.heap.size [.string (strT x), .slice a0 (kidsOf x).length cap0] 24) := bA_6.out.below hbxy5 bA_6.out.lt
  have bB_7 : Hid (Box (u5b.alloc (.cells (List.toArray [.string (strT y), .slice aty5 (kidsOf y).length cty5]) 33)) (w.heap.size + 1) [.string (strT y), .slice a1 (kidsOf y).length cap1] 24) := bB_6.out.below hbxy5 bB_6.out.lt
  have wa_7 : Hid (SeqOwn 5 (EditO (n + 1)) (u5b.alloc (.cells (List.toArray [.string (strT y), .slice aty5 (kidsOf y).length cty5]) 33)) (.slice awa (resL oo).length cwa) (resL oo) fwa) := SeqOwn.stays (EditO_stays _) wa_6.out (fun x hx => (hbxy5).block x (SeqOwn.lt (EditO_lt _) wa_6.out x hx))
  have x5x_7 : Hid (TreeO (n + 1) (u5b.alloc (.cells (List.toArray [.string (strT y), .slice aty5 (kidsOf y).length cty5]) 33)) [.string (strT x), .slice atx5 (kidsOf x).length ctx5] x fx5) := TreeO_stays _ _ _ _ _ _ (fun x hx => (hbxy5).block x (TreeO_lt _ _ _ _ _ x5x_6.out x hx)) x5x_6.out
  have bX5_7 : Hid (Box (u5b.alloc (.cells (List.toArray [.string (strT y), .slice aty5 (kidsOf y).length cty5]) 33)) u5a.heap.size [.string (strT x), .slice atx5 (kidsOf x).length ctx5] 33) := bX5_6.out.below hbxy5 bX5_6.out.lt
  have x5y_7 : Hid (TreeO (n + 1) (u5b.alloc (.cells (List.toArray [.string (strT y), .slice aty5 (kidsOf y).length cty5]) 33)) [.string (strT y), .slice aty5 (kidsOf y).length cty5] y fy5) := TreeO_stays _ _ _ _ _ _ (fun x hx => (hbxy5).block x (TreeO_lt _ _ _ _ _ x5y_6.out x hx)) x5y_6.out
  clear bA_6 bB_6 wa_6 x5x_6 bX5_6 x5y_6
  have hB7 : Hid (Below w.heap.size w (u5b.alloc (.cells (List.toArray [.string (strT y), .slice aty5 (kidsOf y).length cty5]) 33))) := hB6.out.trans ((hbxy5).mono hB6.out.size)
  have sz7 := (hbxy5).size
  simp only [World.size_alloc] at sz7
  clear z6_bA_0 z6_bA_1 z6_bB_0 z6_bB_1 z6_bX5_0 z6_bX5_1
  have z7_bA_0 := bA_7.out.cell 0 rfl
  have z7_bA_1 := bA_7.out.cell 1 rfl
  have z7_bB_0 := bB_7.out.cell 0 rfl
  have z7_bB_1 := bB_7.out.cell 1 rfl
  have z7_bX5_0 := bX5_7.out.cell 0 rfl
  have z7_bX5_1 := bX5_7.out.cell 1 rfl
  have bY5_7 : Hid (Box (u5b.alloc (.cells (List.toArray [.string (strT y), .slice aty5 (kidsOf y).length cty5]) 33)) u5b.heap.size [.string (strT y), .slice aty5 (kidsOf y).length cty5] 33) := Box.new u5b _ _
  have z7_bY5_0 := bY5_7.out.cell 0 rfl
  have z7_bY5_1 := bY5_7.out.cell 1 rfl
  clear hbxy5
  go_wp2_with fail
  refine (implDiffed_any (treeO_ta x5x_7.out) (treeO_ta x5y_7.out)).mono ?_
  rw [hYS'.out]
  rintro e w6 hdf
  obtain ⟨aga, cga, fga, rfl, hoga, _, loga, hb6⟩ := hdf.all
  have rg_ga : Hid (∀ b ∈ fga, u5b.heap.size + 1 ≤ b ∧ b < w6.heap.size) := fun b q => ⟨by have := loga b q; simp only [World.size_alloc] at this; omega, hoga.lt (EditO_lt _) b q⟩
  have hogah : Hid (SeqOwn 5 (EditO (n + 1)) w6 (.slice aga (resL oo).length cga) (resL oo) fga) := hoga
  clear hoga loga
  have bA_8 : Hid (Box w6 w.heap.size [.string (strT x), .slice a0 (kidsOf x).length cap0] 24) := bA_7.out.below hb6 bA_7.out.lt
  have bB_8 : Hid (Box w6 (w.heap.size + 1) [.string (strT y), .slice a1 (kidsOf y).length cap1] 24) := bB_7.out.below hb6 bB_7.out.lt
  have wa_8 : Hid (SeqOwn 5 (EditO (n + 1)) w6 (.slice awa (resL oo).length cwa) (resL oo) fwa) := SeqOwn.stays (EditO_stays _) wa_7.out (fun x hx => (hb6).block x (SeqOwn.lt (EditO_lt _) wa_7.out x hx))
  have x5x_8 : Hid (TreeO (n + 1) w6 [.string (strT x), .slice atx5 (kidsOf x).length ctx5] x fx5) := TreeO_stays _ _ _ _ _ _ (fun x hx => (hb6).block x (TreeO_lt _ _ _ _ _ x5x_7.out x hx)) x5x_7.out
  have bX5_8 : Hid (Box w6 u5a.heap.size [.string (strT x), .slice atx5 (kidsOf x).length ctx5] 33) := bX5_7.out.below hb6 bX5_7.out.lt
  have x5y_8 : Hid (TreeO (n + 1) w6 [.string (strT y), .slice aty5 (kidsOf y).length cty5] y fy5) := TreeO_stays _ _ _ _ _ _ (fun x hx => (hb6).block x (TreeO_lt _ _ _ _ _ x5y_7.out x hx)) x5y_7.out
  have bY5_8 : Hid (Box w6 u5b.heap.size [.string (strT y), .slice aty5 (kidsOf y).length cty5] 33) := bY5_7.out.below hb6 bY5_7.out.lt
  clear bA_7 bB_7 wa_7 x5x_7 bX5_7 x5y_7 bY5_7
  have hB8 : Hid (Below w.heap.size w w6) := hB7.out.trans ((hb6).mono hB7.out.size)
  have sz8 := (hb6).size
  simp only [World.size_alloc] at sz8
  clear z7_bA_0 z7_bA_1 z7_bB_0 z7_bB_1 z7_bX5_0 z7_bX5_1 z7_bY5_0 z7_bY5_1
  have z8_bA_0 := bA_8.out.cell 0 rfl
  have z8_bA_1 := bA_8.out.cell 1 rfl
  have z8_bB_0 := bB_8.out.cell 0 rfl
  have z8_bB_1 := bB_8.out.cell 1 rfl
  have z8_bX5_0 := bX5_8.out.cell 0 rfl
  have z8_bX5_1 := bX5_8.out.cell 1 rfl
  have z8_bY5_0 := bY5_8.out.cell 0 rfl
  have z8_bY5_1 := bY5_8.out.cell 1 rfl
  clear hb6
  have ga_8 : Hid (SeqOwn 5 (EditO (n + 1)) w6 (.slice aga (resL oo).length cga) (resL oo) fga) := hogah
  clear hogah
  go_wp2_with fail
  refine (eqEditS_any (editsL ga_8.out) (editsL wa_8.out)).mono ?_
  rintro e w7 ⟨rfl, hbw7⟩
  have bA_9 : Hid (Box w7 w.heap.size [.string (strT x), .slice a0 (kidsOf x).length cap0] 24) := bA_8.out.below hbw7 bA_8.out.lt
  have bB_9 : Hid (Box w7 (w.heap.size + 1) [.string (strT y), .slice a1 (kidsOf y).length cap1] 24) := bB_8.out.below hbw7 bB_8.out.lt
  have wa_9 : Hid (SeqOwn 5 (EditO (n + 1)) w7 (.slice awa (resL oo).length cwa) (resL oo) fwa) := SeqOwn.stays (EditO_stays _) wa_8.out (fun x hx => (hbw7).block x (SeqOwn.lt (EditO_lt _) wa_8.out x hx))
  have x5x_9 : Hid (TreeO (n + 1) w7 [.string (strT x), .slice atx5 (kidsOf x).length ctx5] x fx5) := TreeO_stays _ _ _ _ _ _ (fun x hx => (hbw7).block x (TreeO_lt _ _ _ _ _ x5x_8.out x hx)) x5x_8.out
  have bX5_9 : Hid (Box w7 u5a.heap.size [.string (strT x), .slice atx5 (kidsOf x).length ctx5] 33) := bX5_8.out.below hbw7 bX5_8.out.lt
  have x5y_9 : Hid (TreeO (n + 1) w7 [.string (strT y), .slice aty5 (kidsOf y).length cty5] y fy5) := TreeO_stays _ _ _ _ _ _ (fun x hx => (hbw7).block x (TreeO_lt _ _ _ _ _ x5y_8.out x hx)) x5y_8.out
  have bY5_9 : Hid (Box w7 u5b.heap.size [.string (strT y), .slice aty5 (kidsOf y).length cty5] 33) := bY5_8.out.below hbw7 bY5_8.out.lt
  have ga_9 : Hid (SeqOwn 5 (EditO (n + 1)) w7 (.slice aga (resL oo).length cga) (resL oo) fga) := SeqOwn.stays (EditO_stays _) ga_8.out (fun x hx => (hbw7).block x (SeqOwn.lt (EditO_lt _) ga_8.out x hx))
  clear bA_8 bB_8 wa_8 x5x_8 bX5_8 x5y_8 bY5_8 ga_8
  have hB9 : Hid (Below w.heap.size w w7) := hB8.out.trans ((hbw7).mono hB8.out.size)
  have sz9 := (hbw7).size
  clear z8_bA_0 z8_bA_1 z8_bB_0 z8_bB_1 z8_bX5_0 z8_bX5_1 z8_bY5_0 z8_bY5_1
  have z9_bA_0 := bA_9.out.cell 0 rfl
  have z9_bA_1 := bA_9.out.cell 1 rfl
  have z9_bB_0 := bB_9.out.cell 0 rfl
  have z9_bB_1 := bB_9.out.cell 1 rfl
  have z9_bX5_0 := bX5_9.out.cell 0 rfl
  have z9_bX5_1 := bX5_9.out.cell 1 rfl
  have z9_bY5_0 := bY5_9.out.cell 0 rfl
  have z9_bY5_1 := bY5_9.out.cell 1 rfl
  clear hbw7
  have hw7 : Hid (TreeL (n + 1) w7 0 [.string (strT x), .slice atx5 (kidsOf x).length ctx5] x) := TreeO_at (lo := 0) (n + 1) _ _ _ _ x5x_9.out (fun _ _ => Nat.zero_le _)
  go_upto_region 14 with fail
  have lt_bX5 := bX5_9.out.lt
  have lt_bA := bA_9.out.lt
  go_region_held3 (fun w' => w'.cell? ⟨u5a.heap.size, 0, none⟩ = some (.string (strT x)) ∧ w'.cell? ⟨u5a.heap.size, 1, none⟩ = some (.slice atx5 (kidsOf x).length ctx5) ∧ w'.cell? ⟨w.heap.size, 0, none⟩ = some (.string (strT x)) ∧ w'.cell? ⟨w.heap.size, 1, none⟩ = some (.slice a0 (kidsOf x).length cap0)) (go_keep)
    (first | (go_at_call 11; refine ((toT_all (n + 1)).1 _ 0 _ x (by exact TreeL.below hx0.out hB9.out.drew) hsm.out).mono ?_; rintro e w8 ⟨⟨cs8, fs8, rfl, ht8, _, _⟩, hb8⟩; have hb8' := undrew hb8; have bX58 : Hid (Box w8 u5a.heap.size _ _) := Box.below bX5_9.out hb8' lt_bX5; have bA8 : Hid (Box w8 w.heap.size _ _) := Box.below bA_9.out hb8' lt_bA; have bX580 := bX58.out.cell 0 rfl; have bX581 := bX58.out.cell 1 rfl; have bA80 := bA8.out.cell 0 rfl; have bA81 := bA8.out.cell 1 rfl; have l8ah : Hid (TreeL (n + 1) w8 0 [.string (strT x), .slice atx5 (kidsOf x).length ctx5] x) := hw7.out.below hb8'; have l8bh : Hid (TreeL (n + 1) w8 0 cs8 x) := TreeO_at (lo := 0) (n + 1) _ _ _ _ ht8 (fun _ _ => Nat.zero_le _); have hb8h : Hid (Below w7.heap.size w7 w8) := hb8'; clear hb8 hb8' ht8) | (go_at_call 14; refine (eqTree_any (by exact l8ah.out) (by exact l8bh.out)).mono ?_; rintro e w9 ⟨rfl, hb9⟩; have bX59 : Hid (Box w9 u5a.heap.size _ _) := Box.below bX58.out hb9 bX58.out.lt; have bA9 : Hid (Box w9 w.heap.size _ _) := Box.below bA8.out hb9 bA8.out.lt; have bX590 := bX59.out.cell 0 rfl; have bX591 := bX59.out.cell 1 rfl; have bA90 := bA9.out.cell 0 rfl; have bA91 := bA9.out.cell 1 rfl; have hb9h : Hid (Below w7.heap.size w7 w9) := hb8h.out.trans (hb9.mono hb8h.out.size); clear hb9))
  have hb79 : Below w7.heap.size w7 w9 := hb9h.out
  clear hb8h hb9h l8ah l8bh hw7 bX58 bX59 lt_bX5 bA8 bA9 lt_bA bX580 bX590 bX581 bX591 bA80 bA90 bA81 bA91
  have bA_10 : Hid (Box w9 w.heap.size [.string (strT x), .slice a0 (kidsOf x).length cap0] 24) := bA_9.out.below hb79 bA_9.out.lt
  have bB_10 : Hid (Box w9 (w.heap.size + 1) [.string (strT y), .slice a1 (kidsOf y).length cap1] 24) := bB_9.out.below hb79 bB_9.out.lt
  have wa_10 : Hid (SeqOwn 5 (EditO (n + 1)) w9 (.slice awa (resL oo).length cwa) (resL oo) fwa) := SeqOwn.stays (EditO_stays _) wa_9.out (fun x hx => (hb79).block x (SeqOwn.lt (EditO_lt _) wa_9.out x hx))
  have x5x_10 : Hid (TreeO (n + 1) w9 [.string (strT x), .slice atx5 (kidsOf x).length ctx5] x fx5) := TreeO_stays _ _ _ _ _ _ (fun x hx => (hb79).block x (TreeO_lt _ _ _ _ _ x5x_9.out x hx)) x5x_9.out
  have bX5_10 : Hid (Box w9 u5a.heap.size [.string (strT x), .slice atx5 (kidsOf x).length ctx5] 33) := bX5_9.out.below hb79 bX5_9.out.lt
  have x5y_10 : Hid (TreeO (n + 1) w9 [.string (strT y), .slice aty5 (kidsOf y).length cty5] y fy5) := TreeO_stays _ _ _ _ _ _ (fun x hx => (hb79).block x (TreeO_lt _ _ _ _ _ x5y_9.out x hx)) x5y_9.out
  have bY5_10 : Hid (Box w9 u5b.heap.size [.string (strT y), .slice aty5 (kidsOf y).length cty5] 33) := bY5_9.out.below hb79 bY5_9.out.lt
  have ga_10 : Hid (SeqOwn 5 (EditO (n + 1)) w9 (.slice aga (resL oo).length cga) (resL oo) fga) := SeqOwn.stays (EditO_stays _) ga_9.out (fun x hx => (hb79).block x (SeqOwn.lt (EditO_lt _) ga_9.out x hx))
  clear bA_9 bB_9 wa_9 x5x_9 bX5_9 x5y_9 bY5_9 ga_9
  have hB10 : Hid (Below w.heap.size w w9) := hB9.out.trans ((hb79).mono hB9.out.size)
  have sz10 := (hb79).size
  clear z9_bA_0 z9_bA_1 z9_bB_0 z9_bB_1 z9_bX5_0 z9_bX5_1 z9_bY5_0 z9_bY5_1
  have z10_bA_0 := bA_10.out.cell 0 rfl
  have z10_bA_1 := bA_10.out.cell 1 rfl
  have z10_bB_0 := bB_10.out.cell 0 rfl
  have z10_bB_1 := bB_10.out.cell 1 rfl
  have z10_bX5_0 := bX5_10.out.cell 0 rfl
  have z10_bX5_1 := bX5_10.out.cell 1 rfl
  have z10_bY5_0 := bY5_10.out.cell 0 rfl
  have z10_bY5_1 := bY5_10.out.cell 1 rfl
  clear hb79
  have hw7 : Hid (TreeL (n + 1) w9 0 [.string (strT y), .slice aty5 (kidsOf y).length cty5] y) := TreeO_at (lo := 0) (n + 1) _ _ _ _ x5y_10.out (fun _ _ => Nat.zero_le _)
  go_upto_region 16 with fail
  have lt_bY5 := bY5_10.out.lt
  have lt_bB := bB_10.out.lt
  go_region_held3 (fun w' => w'.cell? ⟨u5b.heap.size, 0, none⟩ = some (.string (strT y)) ∧ w'.cell? ⟨u5b.heap.size, 1, none⟩ = some (.slice aty5 (kidsOf y).length cty5) ∧ w'.cell? ⟨w.heap.size + 1, 0, none⟩ = some (.string (strT y)) ∧ w'.cell? ⟨w.heap.size + 1, 1, none⟩ = some (.slice a1 (kidsOf y).length cap1)) (go_keep)
    (first | (go_at_call 11; refine ((toT_all (n + 1)).1 _ 0 _ y (by exact TreeL.below hy0.out hB10.out.drew) hsy.out).mono ?_; rintro e w10 ⟨⟨cs8, fs8, rfl, ht8, _, _⟩, hb8⟩; have hb8' := undrew hb8; have bY58 : Hid (Box w10 u5b.heap.size _ _) := Box.below bY5_10.out hb8' lt_bY5; have bB8 : Hid (Box w10 (w.heap.size + 1) _ _) := Box.below bB_10.out hb8' lt_bB; have bY580 := bY58.out.cell 0 rfl; have bY581 := bY58.out.cell 1 rfl; have bB80 := bB8.out.cell 0 rfl; have bB81 := bB8.out.cell 1 rfl; have l8ah : Hid (TreeL (n + 1) w10 0 [.string (strT y), .slice aty5 (kidsOf y).length cty5] y) := hw7.out.below hb8'; have l8bh : Hid (TreeL (n + 1) w10 0 cs8 y) := TreeO_at (lo := 0) (n + 1) _ _ _ _ ht8 (fun _ _ => Nat.zero_le _); have hb8h : Hid (Below w9.heap.size w9 w10) := hb8'; clear hb8 hb8' ht8) | (go_at_call 14; refine (eqTree_any (by exact l8ah.out) (by exact l8bh.out)).mono ?_; rintro e w11 ⟨rfl, hb9⟩; have bY59 : Hid (Box w11 u5b.heap.size _ _) := Box.below bY58.out hb9 bY58.out.lt; have bB9 : Hid (Box w11 (w.heap.size + 1) _ _) := Box.below bB8.out hb9 bB8.out.lt; have bY590 := bY59.out.cell 0 rfl; have bY591 := bY59.out.cell 1 rfl; have bB90 := bB9.out.cell 0 rfl; have bB91 := bB9.out.cell 1 rfl; have hb9h : Hid (Below w9.heap.size w9 w11) := hb8h.out.trans (hb9.mono hb8h.out.size); clear hb9))
  have hb79 : Below w9.heap.size w9 w11 := hb9h.out
  clear hb8h hb9h l8ah l8bh hw7 bY58 bY59 lt_bY5 bB8 bB9 lt_bB bY580 bY590 bY581 bY591 bB80 bB90 bB81 bB91
  have bA_11 : Hid (Box w11 w.heap.size [.string (strT x), .slice a0 (kidsOf x).length cap0] 24) := bA_10.out.below hb79 bA_10.out.lt
  have bB_11 : Hid (Box w11 (w.heap.size + 1) [.string (strT y), .slice a1 (kidsOf y).length cap1] 24) := bB_10.out.below hb79 bB_10.out.lt
  have wa_11 : Hid (SeqOwn 5 (EditO (n + 1)) w11 (.slice awa (resL oo).length cwa) (resL oo) fwa) := SeqOwn.stays (EditO_stays _) wa_10.out (fun x hx => (hb79).block x (SeqOwn.lt (EditO_lt _) wa_10.out x hx))
  have x5x_11 : Hid (TreeO (n + 1) w11 [.string (strT x), .slice atx5 (kidsOf x).length ctx5] x fx5) := TreeO_stays _ _ _ _ _ _ (fun x hx => (hb79).block x (TreeO_lt _ _ _ _ _ x5x_10.out x hx)) x5x_10.out
  have bX5_11 : Hid (Box w11 u5a.heap.size [.string (strT x), .slice atx5 (kidsOf x).length ctx5] 33) := bX5_10.out.below hb79 bX5_10.out.lt
  have x5y_11 : Hid (TreeO (n + 1) w11 [.string (strT y), .slice aty5 (kidsOf y).length cty5] y fy5) := TreeO_stays _ _ _ _ _ _ (fun x hx => (hb79).block x (TreeO_lt _ _ _ _ _ x5y_10.out x hx)) x5y_10.out
  have bY5_11 : Hid (Box w11 u5b.heap.size [.string (strT y), .slice aty5 (kidsOf y).length cty5] 33) := bY5_10.out.below hb79 bY5_10.out.lt
  have ga_11 : Hid (SeqOwn 5 (EditO (n + 1)) w11 (.slice aga (resL oo).length cga) (resL oo) fga) := SeqOwn.stays (EditO_stays _) ga_10.out (fun x hx => (hb79).block x (SeqOwn.lt (EditO_lt _) ga_10.out x hx))
  clear bA_10 bB_10 wa_10 x5x_10 bX5_10 x5y_10 bY5_10 ga_10
  have hB11 : Hid (Below w.heap.size w w11) := hB10.out.trans ((hb79).mono hB10.out.size)
  have sz11 := (hb79).size
  clear z10_bA_0 z10_bA_1 z10_bB_0 z10_bB_1 z10_bX5_0 z10_bX5_1 z10_bY5_0 z10_bY5_1
  have z11_bA_0 := bA_11.out.cell 0 rfl
  have z11_bA_1 := bA_11.out.cell 1 rfl
  have z11_bB_0 := bB_11.out.cell 0 rfl
  have z11_bB_1 := bB_11.out.cell 1 rfl
  have z11_bX5_0 := bX5_11.out.cell 0 rfl
  have z11_bX5_1 := bX5_11.out.cell 1 rfl
  have z11_bY5_0 := bY5_11.out.cell 0 rfl
  have z11_bY5_1 := bY5_11.out.cell 1 rfl
  clear hb79
  go_wp2_with fail
  refine (markTree_any (n := n) x5x_11.out (by omega) (by have := hcx.out; omega)).mono ?_
  rintro e m1 ⟨rfl, _, hom1⟩
  have bA_12 : Hid (Box m1 w.heap.size [.string (strT x), .slice a0 (kidsOf x).length cap0] 24) := ((hom1).keep bA_11.out.lt (fun q => by have := rg_x5x.out _ q; omega)).trans bA_11.out
  have bB_12 : Hid (Box m1 (w.heap.size + 1) [.string (strT y), .slice a1 (kidsOf y).length cap1] 24) := ((hom1).keep bB_11.out.lt (fun q => by have := rg_x5x.out _ q; omega)).trans bB_11.out
  have wa_12 : Hid (SeqOwn 5 (EditO (n + 1)) m1 (.slice awa (resL oo).length cwa) (resL oo) fwa) := SeqOwn.stays (EditO_stays _) wa_11.out (fun x hx => (hom1).keep (SeqOwn.lt (EditO_lt _) wa_11.out x hx) (fun q => by have := rg_x5x.out _ q; have := rg_wa.out _ hx; omega))
  have bX5_12 : Hid (Box m1 u5a.heap.size [.string (strT x), .slice atx5 (kidsOf x).length ctx5] 33) := ((hom1).keep bX5_11.out.lt (fun q => by have := rg_x5x.out _ q; omega)).trans bX5_11.out
  have x5y_12 : Hid (TreeO (n + 1) m1 [.string (strT y), .slice aty5 (kidsOf y).length cty5] y fy5) := TreeO_stays _ _ _ _ _ _ (fun x hx => (hom1).keep (TreeO_lt _ _ _ _ _ x5y_11.out x hx) (fun q => by have := rg_x5x.out _ q; have := rg_x5y.out _ hx; omega)) x5y_11.out
  have bY5_12 : Hid (Box m1 u5b.heap.size [.string (strT y), .slice aty5 (kidsOf y).length cty5] 33) := ((hom1).keep bY5_11.out.lt (fun q => by have := rg_x5x.out _ q; omega)).trans bY5_11.out
  have ga_12 : Hid (SeqOwn 5 (EditO (n + 1)) m1 (.slice aga (resL oo).length cga) (resL oo) fga) := SeqOwn.stays (EditO_stays _) ga_11.out (fun x hx => (hom1).keep (SeqOwn.lt (EditO_lt _) ga_11.out x hx) (fun q => by have := rg_x5x.out _ q; have := rg_ga.out _ hx; omega))
  clear bA_11 bB_11 wa_11 x5x_11 bX5_11 x5y_11 bY5_11 ga_11
  have hB12 : Hid (Below w.heap.size w m1) := hB11.out.trans ((hom1).below hB11.out.size (fun x hx => by have := rg_x5x.out x hx; omega))
  have sz12 := (hom1).2.2.2.1
  clear z11_bA_0 z11_bA_1 z11_bB_0 z11_bB_1 z11_bX5_0 z11_bX5_1 z11_bY5_0 z11_bY5_1
  have z12_bA_0 := bA_12.out.cell 0 rfl
  have z12_bA_1 := bA_12.out.cell 1 rfl
  have z12_bB_0 := bB_12.out.cell 0 rfl
  have z12_bB_1 := bB_12.out.cell 1 rfl
  have z12_bX5_0 := bX5_12.out.cell 0 rfl
  have z12_bX5_1 := bX5_12.out.cell 1 rfl
  have z12_bY5_0 := bY5_12.out.cell 0 rfl
  have z12_bY5_1 := bY5_12.out.cell 1 rfl
  clear hom1
  generalize hK1 : (1 : Int) + (cntL (cntTree n) (kidsOf x) : Nat) = K1
  have hK1b : 0 ≤ K1 ∧ K1 ≤ 2000000 := by have := hcx.out; omega
  clear hK1
  go_wp2_with fail
  refine (markTree_any (n := n) x5y_12.out (by omega) (by have := hcy.out; omega)).mono ?_
  rintro e m2 ⟨rfl, _, hom2⟩
  have bA_13 : Hid (Box m2 w.heap.size [.string (strT x), .slice a0 (kidsOf x).length cap0] 24) := ((hom2).keep bA_12.out.lt (fun q => by have := rg_x5y.out _ q; omega)).trans bA_12.out
  have bB_13 : Hid (Box m2 (w.heap.size + 1) [.string (strT y), .slice a1 (kidsOf y).length cap1] 24) := ((hom2).keep bB_12.out.lt (fun q => by have := rg_x5y.out _ q; omega)).trans bB_12.out
  have wa_13 : Hid (SeqOwn 5 (EditO (n + 1)) m2 (.slice awa (resL oo).length cwa) (resL oo) fwa) := SeqOwn.stays (EditO_stays _) wa_12.out (fun x hx => (hom2).keep (SeqOwn.lt (EditO_lt _) wa_12.out x hx) (fun q => by have := rg_x5y.out _ q; have := rg_wa.out _ hx; omega))
  have bX5_13 : Hid (Box m2 u5a.heap.size [.string (strT x), .slice atx5 (kidsOf x).length ctx5] 33) := ((hom2).keep bX5_12.out.lt (fun q => by have := rg_x5y.out _ q; omega)).trans bX5_12.out
  have bY5_13 : Hid (Box m2 u5b.heap.size [.string (strT y), .slice aty5 (kidsOf y).length cty5] 33) := ((hom2).keep bY5_12.out.lt (fun q => by have := rg_x5y.out _ q; omega)).trans bY5_12.out
  have ga_13 : Hid (SeqOwn 5 (EditO (n + 1)) m2 (.slice aga (resL oo).length cga) (resL oo) fga) := SeqOwn.stays (EditO_stays _) ga_12.out (fun x hx => (hom2).keep (SeqOwn.lt (EditO_lt _) ga_12.out x hx) (fun q => by have := rg_x5y.out _ q; have := rg_ga.out _ hx; omega))
  clear bA_12 bB_12 wa_12 bX5_12 x5y_12 bY5_12 ga_12
  have hB13 : Hid (Below w.heap.size w m2) := hB12.out.trans ((hom2).below hB12.out.size (fun x hx => by have := rg_x5y.out x hx; omega))
  have sz13 := (hom2).2.2.2.1
  clear z12_bA_0 z12_bA_1 z12_bB_0 z12_bB_1 z12_bX5_0 z12_bX5_1 z12_bY5_0 z12_bY5_1
  have z13_bA_0 := bA_13.out.cell 0 rfl
  have z13_bA_1 := bA_13.out.cell 1 rfl
  have z13_bB_0 := bB_13.out.cell 0 rfl
  have z13_bB_1 := bB_13.out.cell 1 rfl
  have z13_bX5_0 := bX5_13.out.cell 0 rfl
  have z13_bX5_1 := bX5_13.out.cell 1 rfl
  have z13_bY5_0 := bY5_13.out.cell 0 rfl
  have z13_bY5_1 := bY5_13.out.cell 1 rfl
  clear hom2
  generalize hK2 : K1 + (cntL (cntTree n) (kidsOf y) : Nat) = K2
  have hK2b : 0 ≤ K2 := by omega
  clear hK2
  clear bX5_13 z13_bX5_0 z13_bX5_1
  clear bY5_13 z13_bY5_0 z13_bY5_1
  have hKn : decide (K2 < 0) = false := by simp; omega
  go_wp2_with fail
  refine (eqEditS_any (editsL ga_13.out) (editsL wa_13.out)).mono ?_
  rintro e m4 ⟨rfl, hbm4⟩
  have bA_14 : Hid (Box m4 w.heap.size [.string (strT x), .slice a0 (kidsOf x).length cap0] 24) := bA_13.out.below hbm4 bA_13.out.lt
  have bB_14 : Hid (Box m4 (w.heap.size + 1) [.string (strT y), .slice a1 (kidsOf y).length cap1] 24) := bB_13.out.below hbm4 bB_13.out.lt
  have wa_14 : Hid (SeqOwn 5 (EditO (n + 1)) m4 (.slice awa (resL oo).length cwa) (resL oo) fwa) := SeqOwn.stays (EditO_stays _) wa_13.out (fun x hx => (hbm4).block x (SeqOwn.lt (EditO_lt _) wa_13.out x hx))
  have ga_14 : Hid (SeqOwn 5 (EditO (n + 1)) m4 (.slice aga (resL oo).length cga) (resL oo) fga) := SeqOwn.stays (EditO_stays _) ga_13.out (fun x hx => (hbm4).block x (SeqOwn.lt (EditO_lt _) ga_13.out x hx))
  clear bA_13 bB_13 wa_13 ga_13
  have hB14 : Hid (Below w.heap.size w m4) := hB13.out.trans ((hbm4).mono hB13.out.size)
  have sz14 := (hbm4).size
  clear z13_bA_0 z13_bA_1 z13_bB_0 z13_bB_1
  have z14_bA_0 := bA_14.out.cell 0 rfl
  have z14_bA_1 := bA_14.out.cell 1 rfl
  have z14_bB_0 := bB_14.out.cell 0 rfl
  have z14_bB_1 := bB_14.out.cell 1 rfl
  clear hbm4
  go_wp2_with fail
  refine (markEditS_any (n := n) ga_14.out (by omega) hYC.out).mono ?_
  rintro e m5 ⟨rfl, ownM, hom5⟩
  have bA_15 : Hid (Box m5 w.heap.size [.string (strT x), .slice a0 (kidsOf x).length cap0] 24) := ((hom5).keep bA_14.out.lt (fun q => by have := rg_ga.out _ q; omega)).trans bA_14.out
  have bB_15 : Hid (Box m5 (w.heap.size + 1) [.string (strT y), .slice a1 (kidsOf y).length cap1] 24) := ((hom5).keep bB_14.out.lt (fun q => by have := rg_ga.out _ q; omega)).trans bB_14.out
  have wa_15 : Hid (SeqOwn 5 (EditO (n + 1)) m5 (.slice awa (resL oo).length cwa) (resL oo) fwa) := SeqOwn.stays (EditO_stays _) wa_14.out (fun x hx => (hom5).keep (SeqOwn.lt (EditO_lt _) wa_14.out x hx) (fun q => by have := rg_ga.out _ q; have := rg_wa.out _ hx; omega))
  clear bA_14 bB_14 wa_14 ga_14
  have hB15 : Hid (Below w.heap.size w m5) := hB14.out.trans ((hom5).below hB14.out.size (fun x hx => by have := rg_ga.out x hx; omega))
  have sz15 := (hom5).2.2.2.1
  clear z14_bA_0 z14_bA_1 z14_bB_0 z14_bB_1
  have z15_bA_0 := bA_15.out.cell 0 rfl
  have z15_bA_1 := bA_15.out.cell 1 rfl
  have z15_bB_0 := bB_15.out.cell 0 rfl
  have z15_bB_1 := bB_15.out.cell 1 rfl
  have ga_15 : Hid (SeqOwn 5 (EditO (n + 1)) m5 (.slice aga (resL oo).length cga) (mkL (cntEd n) (mkEd n) (resL oo) 1) fga) := ownM
  clear ownM hom5
  have hYN : Hid ((1 : Int) + (cntL (cntEd n) (resL oo) : Nat) ≤ 4611686018427387904) := hYC.out
  generalize hCI : (1 : Int) + (cntL (cntEd n) (resL oo) : Nat) = M at *
  have hCI' : Hid ((1 : Int) + (cntL (cntEd n) (resL oo) : Nat) = M) := hCI
  clear hCI
  have hM0 : 0 ≤ M := by have := hCI'.out; omega
  have hM1 : decide (M < 0) = false := by simp; omega
  go_wp2_with fail
  refine (heldEditS_any (n := n) (lo := 0) (m := 1) (xs := resL oo) (editsL ga_15.out) (by omega) (by rw [hCI'.out]; exact hYN.out)).mono ?_
  rintro e m6 ⟨rfl, hbm6⟩
  rw [hCI'.out]
  have bA_16 : Hid (Box m6 w.heap.size [.string (strT x), .slice a0 (kidsOf x).length cap0] 24) := bA_15.out.below hbm6 bA_15.out.lt
  have bB_16 : Hid (Box m6 (w.heap.size + 1) [.string (strT y), .slice a1 (kidsOf y).length cap1] 24) := bB_15.out.below hbm6 bB_15.out.lt
  have wa_16 : Hid (SeqOwn 5 (EditO (n + 1)) m6 (.slice awa (resL oo).length cwa) (resL oo) fwa) := SeqOwn.stays (EditO_stays _) wa_15.out (fun x hx => (hbm6).block x (SeqOwn.lt (EditO_lt _) wa_15.out x hx))
  have ga_16 : Hid (SeqOwn 5 (EditO (n + 1)) m6 (.slice aga (resL oo).length cga) (mkL (cntEd n) (mkEd n) (resL oo) 1) fga) := SeqOwn.stays (EditO_stays _) ga_15.out (fun x hx => (hbm6).block x (SeqOwn.lt (EditO_lt _) ga_15.out x hx))
  clear bA_15 bB_15 wa_15 ga_15
  have hB16 : Hid (Below w.heap.size w m6) := hB15.out.trans ((hbm6).mono hB15.out.size)
  have sz16 := (hbm6).size
  clear z15_bA_0 z15_bA_1 z15_bB_0 z15_bB_1
  have z16_bA_0 := bA_16.out.cell 0 rfl
  have z16_bA_1 := bA_16.out.cell 1 rfl
  have z16_bB_0 := bB_16.out.cell 0 rfl
  have z16_bB_1 := bB_16.out.cell 1 rfl
  clear hbm6
  go_upto_region 31 with fail
  have lt_A := bA_16.out.lt
  have lt_B := bB_16.out.lt
  go_region_held3 (fun w' => w'.cell? ⟨w.heap.size, 0, none⟩ = some (.string (strT x)) ∧ w'.cell? ⟨w.heap.size, 1, none⟩ = some (.slice a0 (kidsOf x).length cap0) ∧ w'.cell? ⟨w.heap.size + 1, 0, none⟩ = some (.string (strT y)) ∧ w'.cell? ⟨w.heap.size + 1, 1, none⟩ = some (.slice a1 (kidsOf y).length cap1)) (go_keep)
    (first | (go_at_call 11; refine ((toT_all (n + 1)).1 _ 0 _ x (by exact TreeL.below hx0.out hB16.out.drew) hsm.out).mono ?_; rintro e u1 ⟨⟨csA, fA, rfl, htA, _, _⟩, hbu1⟩; have hb1u : Hid (Below m6.heap.size m6 u1) := undrew hbu1; obtain ⟨kA, rfl, sA, _⟩ := htA.opened; obtain ⟨aA, cA, rfl⟩ := sA.form; have atA : Hid (TreeAt u1 0 (n + 1) (.string (strT x)) (.slice aA (kidsOf x).length cA) x) := treeO_ta htA; have pA : Hid (Box u1 w.heap.size _ _) := Box.below bA_16.out hb1u.out (bA_16.out).lt; have pB : Hid (Box u1 (w.heap.size + 1) _ _) := Box.below bB_16.out hb1u.out (bB_16.out).lt; have pA0 := pA.out.cell 0 rfl; have pA1 := pA.out.cell 1 rfl; have pB0 := pB.out.cell 0 rfl; have pB1 := pB.out.cell 1 rfl; clear hbu1 htA sA) | (go_at_call 11; refine ((toT_all (n + 1)).1 _ 0 _ y (by exact TreeL.below hy0.out (hB16.out.trans (hb1u.out.mono hB16.out.size))) hsy.out).mono ?_; rintro e u2 ⟨⟨csH, fH, rfl, htH, _, _⟩, hbu2⟩; obtain ⟨kH, rfl, sH, _⟩ := htH.opened; obtain ⟨aH, cH, rfl⟩ := sH.form; have atH : Hid (TreeAt u2 0 (n + 1) (.string (strT y)) (.slice aH (kidsOf y).length cH) y) := treeO_ta htH; have atA2 : Hid (TreeAt u2 0 (n + 1) (.string (strT x)) (.slice aA (kidsOf x).length cA) x) := atA.out.below hbu2; have hb2u : Hid (Below m6.heap.size m6 u2) := hb1u.out.trans (hbu2.mono hb1u.out.size); have qA : Hid (Box u2 w.heap.size _ _) := Box.below bA_16.out hb2u.out (bA_16.out).lt; have qB : Hid (Box u2 (w.heap.size + 1) _ _) := Box.below bB_16.out hb2u.out (bB_16.out).lt; have qA0 := qA.out.cell 0 rfl; have qA1 := qA.out.cell 1 rfl; have qB0 := qB.out.cell 0 rfl; have qB1 := qB.out.cell 1 rfl; clear hbu2 htH sH) | (go_at_call 31; refine (implDiffed_any atA2.out atH.out).mono ?_; rw [hYS'.out]; rintro e u3ha hdf; obtain ⟨aha, cha, fha, rfl, ownha, ndha, loha, hbu3⟩ := hdf.all; have hb3u : Hid (Below m6.heap.size m6 u3ha) := hb2u.out.trans (hbu3.mono hb2u.out.size); have lohah : Hid (∀ b ∈ fha, m6.heap.size ≤ b ∧ b < u3ha.heap.size) := (fun b q => ⟨Nat.le_trans hb2u.out.size (loha b q), ownha.lt (EditO_lt _) b q⟩); have ownhah : Hid (SeqOwn 5 (EditO (n + 1)) u3ha (.slice aha (resL oo).length cha) (resL oo) fha) := ownha; have rA : Hid (Box u3ha w.heap.size _ _) := Box.below bA_16.out hb3u.out (bA_16.out).lt; have rB : Hid (Box u3ha (w.heap.size + 1) _ _) := Box.below bB_16.out hb3u.out (bB_16.out).lt; have rA0 := rA.out.cell 0 rfl; have rA1 := rA.out.cell 1 rfl; have rB0 := rB.out.cell 0 rfl; have rB1 := rB.out.cell 1 rfl; clear ownha ndha loha hbu3))
  have hb3o := hb3u.out
  clear pA pA0 pA1 pB pB0 pB1 qA qA0 qA1 qB qB0 qB1 rA rA0 rA1 rB rB0 rB1 lt_A lt_B atA atH atA2 hb1u hb2u hb3u
  have bA_17 : Hid (Box u3ha w.heap.size [.string (strT x), .slice a0 (kidsOf x).length cap0] 24) := bA_16.out.below hb3o bA_16.out.lt
  have bB_17 : Hid (Box u3ha (w.heap.size + 1) [.string (strT y), .slice a1 (kidsOf y).length cap1] 24) := bB_16.out.below hb3o bB_16.out.lt
  have wa_17 : Hid (SeqOwn 5 (EditO (n + 1)) u3ha (.slice awa (resL oo).length cwa) (resL oo) fwa) := SeqOwn.stays (EditO_stays _) wa_16.out (fun x hx => (hb3o).block x (SeqOwn.lt (EditO_lt _) wa_16.out x hx))
  have ga_17 : Hid (SeqOwn 5 (EditO (n + 1)) u3ha (.slice aga (resL oo).length cga) (mkL (cntEd n) (mkEd n) (resL oo) 1) fga) := SeqOwn.stays (EditO_stays _) ga_16.out (fun x hx => (hb3o).block x (SeqOwn.lt (EditO_lt _) ga_16.out x hx))
  clear bA_16 bB_16 wa_16 ga_16
  have hB17 : Hid (Below w.heap.size w u3ha) := hB16.out.trans ((hb3o).mono hB16.out.size)
  have sz17 := (hb3o).size
  clear z16_bA_0 z16_bA_1 z16_bB_0 z16_bB_1
  have z17_bA_0 := bA_17.out.cell 0 rfl
  have z17_bA_1 := bA_17.out.cell 1 rfl
  have z17_bB_0 := bB_17.out.cell 0 rfl
  have z17_bB_1 := bB_17.out.cell 1 rfl
  clear hb3o
  have ha_17 : Hid (SeqOwn 5 (EditO (n + 1)) u3ha (.slice aha (resL oo).length cha) (resL oo) fha) := ownhah
  have rg_ha : Hid (∀ b ∈ fha, m6.heap.size ≤ b ∧ b < u3ha.heap.size) := lohah
  clear ownhah lohah
  go_wp2_with fail
  refine (eqEditS_any (editsL ha_17.out) (editsL wa_17.out)).mono ?_
  rintro e w12 ⟨rfl, hbw12⟩
  have bA_18 : Hid (Box w12 w.heap.size [.string (strT x), .slice a0 (kidsOf x).length cap0] 24) := bA_17.out.below hbw12 bA_17.out.lt
  have bB_18 : Hid (Box w12 (w.heap.size + 1) [.string (strT y), .slice a1 (kidsOf y).length cap1] 24) := bB_17.out.below hbw12 bB_17.out.lt
  have wa_18 : Hid (SeqOwn 5 (EditO (n + 1)) w12 (.slice awa (resL oo).length cwa) (resL oo) fwa) := SeqOwn.stays (EditO_stays _) wa_17.out (fun x hx => (hbw12).block x (SeqOwn.lt (EditO_lt _) wa_17.out x hx))
  have ga_18 : Hid (SeqOwn 5 (EditO (n + 1)) w12 (.slice aga (resL oo).length cga) (mkL (cntEd n) (mkEd n) (resL oo) 1) fga) := SeqOwn.stays (EditO_stays _) ga_17.out (fun x hx => (hbw12).block x (SeqOwn.lt (EditO_lt _) ga_17.out x hx))
  have ha_18 : Hid (SeqOwn 5 (EditO (n + 1)) w12 (.slice aha (resL oo).length cha) (resL oo) fha) := SeqOwn.stays (EditO_stays _) ha_17.out (fun x hx => (hbw12).block x (SeqOwn.lt (EditO_lt _) ha_17.out x hx))
  clear bA_17 bB_17 wa_17 ga_17 ha_17
  have hB18 : Hid (Below w.heap.size w w12) := hB17.out.trans ((hbw12).mono hB17.out.size)
  have sz18 := (hbw12).size
  clear z17_bA_0 z17_bA_1 z17_bB_0 z17_bB_1
  have z18_bA_0 := bA_18.out.cell 0 rfl
  have z18_bA_1 := bA_18.out.cell 1 rfl
  have z18_bB_0 := bB_18.out.cell 0 rfl
  have z18_bB_1 := bB_18.out.cell 1 rfl
  clear hbw12
  go_wp2_with fail
  refine (heldEditS_any (n := n) (lo := 0) (m := 1) (xs := resL oo) (editsL ga_18.out) (by omega) (by rw [hCI'.out]; exact hYN.out)).mono ?_
  rintro e w13 ⟨rfl, hbw13⟩
  rw [hCI'.out]
  have bA_19 : Hid (Box w13 w.heap.size [.string (strT x), .slice a0 (kidsOf x).length cap0] 24) := bA_18.out.below hbw13 bA_18.out.lt
  have bB_19 : Hid (Box w13 (w.heap.size + 1) [.string (strT y), .slice a1 (kidsOf y).length cap1] 24) := bB_18.out.below hbw13 bB_18.out.lt
  have wa_19 : Hid (SeqOwn 5 (EditO (n + 1)) w13 (.slice awa (resL oo).length cwa) (resL oo) fwa) := SeqOwn.stays (EditO_stays _) wa_18.out (fun x hx => (hbw13).block x (SeqOwn.lt (EditO_lt _) wa_18.out x hx))
  have ga_19 : Hid (SeqOwn 5 (EditO (n + 1)) w13 (.slice aga (resL oo).length cga) (mkL (cntEd n) (mkEd n) (resL oo) 1) fga) := SeqOwn.stays (EditO_stays _) ga_18.out (fun x hx => (hbw13).block x (SeqOwn.lt (EditO_lt _) ga_18.out x hx))
  have ha_19 : Hid (SeqOwn 5 (EditO (n + 1)) w13 (.slice aha (resL oo).length cha) (resL oo) fha) := SeqOwn.stays (EditO_stays _) ha_18.out (fun x hx => (hbw13).block x (SeqOwn.lt (EditO_lt _) ha_18.out x hx))
  clear bA_18 bB_18 wa_18 ga_18 ha_18
  have hB19 : Hid (Below w.heap.size w w13) := hB18.out.trans ((hbw13).mono hB18.out.size)
  have sz19 := (hbw13).size
  clear z18_bA_0 z18_bA_1 z18_bB_0 z18_bB_1
  have z19_bA_0 := bA_19.out.cell 0 rfl
  have z19_bA_1 := bA_19.out.cell 1 rfl
  have z19_bB_0 := bB_19.out.cell 0 rfl
  have z19_bB_1 := bB_19.out.cell 1 rfl
  clear hbw13
  go_wp2_with fail
  go_ret
  exact ⟨rfl, hB19.out⟩
/-! The row -/
set_option maxRecDepth 100000 in
theorem lifted (os : Os) (started : os.Started) (H : Type) (enc : TypeId × Value → H) :
    ReturnsInHanded {} Try.checked os 7 .any (Rows.fnExactDiffedSpec.pre6 enc Try.prog Try.f7 Rows.fnExactDiffedRow.domain false) (Rows.fnExactDiffedSpec.post enc Try.prog Try.f7 false true false false) := by
  refine returnsInHanded_of_change (C := Try.checked) own started (by kernel_rfl) Try.func7
    (ChangeSpec.witness6 (enc := enc) (C := Try.checked) false ⟨#[], #[.agg #[.string ByteArray.empty, .slice none 0 0], .agg #[.string ByteArray.empty, .slice none 0 0]], []⟩ 8 (by kernel_rfl) (by kernel_rfl) (by kernel_rfl) (by kernel_rfl)) ?_
  intro W base args ds gs before hval0 hW hcnd _
  have hval : ∀ (j : Nat) t v, Try.f7.params[j]? = some t → args[j]? = some v → Value.okWide Try.prog W .any base t v := hval0
  have hW' := hW
  obtain ⟨p, q, hA0, hV, rfl, hfz, hnd⟩ := hW
  have hA : DataW.TrodAll enc Try.prog W 0 (fun _ => true) true Try.f7.params.toList args.toList ds p := hA0
  rw [Try.params7] at hA hval
  obtain ⟨v0, vs0, d0, ds0, p0, q0, hargs, rfl, rfl, h0, r0⟩ := trodAll_cons hA
  obtain ⟨v1, vs1, d1, ds1, p1, q1, rfl, rfl, rfl, h1, r1⟩ := trodAll_cons r0
  obtain ⟨rfl, rfl, rfl⟩ := trodAll_nil r1
  obtain rfl : args = #[v0, v1] := by cases args; simp_all
  obtain ⟨rfl, rfl⟩ := trodVars_none hV
  have k0 := h0
  have lt0 : ∀ x ∈ p0, x.block < W.heap.size := by obtain ⟨m, hm⟩ := k0; exact DataW.trod_lt m _ _ _ hm
  obtain ⟨cs0, rfl, _⟩ := okWide_struct Try.underlying24 (hval 0 24 v0 rfl rfl)
  obtain ⟨fuel0, hf0⟩ := h0
  obtain ⟨x0, hx0⟩ := TreeL_of_trod fuel0 _ _ hf0
  have hcs0 : (Value.agg cs0).cells = cs0 := rfl
  rw [hcs0] at hx0
  have k1 := h1
  have lt1 : ∀ x ∈ p1, x.block < W.heap.size := by obtain ⟨m, hm⟩ := k1; exact DataW.trod_lt m _ _ _ hm
  obtain ⟨cs1, rfl, _⟩ := okWide_struct Try.underlying24 (hval 1 24 v1 rfl rfl)
  obtain ⟨fuel1, hf1⟩ := h1
  obtain ⟨x1, hx1⟩ := TreeL_of_trod fuel1 _ _ hf1
  have hcs1 : (Value.agg cs1).cells = cs1 := rfl
  rw [hcs1] at hx1
  clear hA0 hval0
  have hwk := walk hx0 hx1
  rw [Array.toArray_toList] at hwk
  refine hwk.mono fun e W' ⟨he, bel⟩ => ?_
  subst he
  exact ⟨_, rfl, _, _, _, [], _, [], hW', trodAll_mk1 (shut_bool Try.underlying4 _), (trodAll_cons_mk (Below.trod laidOut (by kernel_rfl) (of_decide_eq_true (by kernel_rfl)) k0 bel lt0) (trodAll_cons_mk (Below.trod laidOut (by kernel_rfl) (of_decide_eq_true (by kernel_rfl)) k1 bel lt1) trodAll_mk0)), rfl, bel.frame _, fun h => by cases h⟩
theorem over : Rows.fnExactDiffedRow.holds Try.pinned (OpenSpec.ofChange Rows.fnExactDiffedSpec) :=
  OpenClaim.holds_of_wide 7 Try.f7 rfl rfl rfl rfl rfl rfl rfl ⟨rfl, rfl, rfl, rfl, rfl⟩ rfl rfl rfl rfl rfl (by kernel_rfl) Try.func7 (by kernel_rfl)
    (of_decide_eq_true (by kernel_rfl)) (by unfold Func.isWrapper; first | (rw [if_pos (by decide +kernel)]; kernel_rfl) | (rw [if_neg (by decide +kernel)]; exact ⟨rfl, rfl⟩))
    (fun os started H enc _ => lifted os started H enc)
end Go.Proofs.Ytfncmndgdomjiaa.fnExactDiffed
namespace Go.Proofs.Ytfncmndgdomjiaa
theorem fnExactDiffed_holds : Rows.FnExactDiffedSaid := fnExactDiffed.over
end Go.Proofs.Ytfncmndgdomjiaa
