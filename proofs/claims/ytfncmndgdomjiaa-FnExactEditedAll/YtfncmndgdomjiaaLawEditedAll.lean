/- At every tree and list of edits EditedAll answers as its specification, writes into no argument, and its answer owns its memory, behind another call too. No condition. -/
import Derived.Test.YtfncmndgdomjiaaEdCutL
import Derived.ProofKit
import Derived.OpenShut
import Derived.ShutString
import Derived.ChangeOld
import Derived.Below
import Derived.Laws.Cover1
import Derived.WalkKit
namespace Go.Proofs.Ytfncmndgdomjiaa.fnExactEditedAll
open Go.ChangeShapes Go.WideShapes Go.ChangeAt Go.RowKit

theorem own : ownKnob Try.prog.godebug = none := by kernel_rfl
theorem laidOut : laidOutB Try.prog = true := by kernel_rfl
set_option maxRecDepth 100000 in
set_option maxHeartbeats 6400000 in
theorem walk {n0 m : Nat} {w : World} {cs : List Value} {kl : Value} {x : TD} {l : List EditD} (hx : TreeL n0 w 0 cs x) (hl : SeqAt 5 (EditL m) w 0 kl l) :
    Calls Try.prog 5 #[.agg cs.toArray, kl] w fun e w' => e = .returned (.bool true) ∧ Below w.heap.size w w' := by
  obtain ⟨n, rfl⟩ : ∃ n, n0 = n + 1 := by cases n0 with | zero => exact hx.elim | succ n => exact ⟨n, rfl⟩
  have hx0 : Hid (TreeL (n + 1) w 0 cs x) := hx
  have hl0 : Hid (SeqAt 5 (EditL (m + 1)) w 0 kl l) := editsMore hl
  obtain ⟨k1, rfl, s1, _⟩ := hx.opened
  obtain ⟨a0, cap0, rfl⟩ := s1.form
  obtain ⟨al, capl, rfl⟩ := hl.form
  clear hx hl s1
  have hB0 : Hid (Below w.heap.size w (w.alloc (.cells (List.toArray [.string (strT x), .slice a0 (kidsOf x).length cap0]) 24))) := (Below.refl _ _).alloc (Nat.le_refl _) _
  have bA_0 : Hid (Box (w.alloc (.cells (List.toArray [.string (strT x), .slice a0 (kidsOf x).length cap0]) 24)) w.heap.size [.string (strT x), .slice a0 (kidsOf x).length cap0] 24) := Box.new w _ _
  have z0_bA_0 := bA_0.out.cell 0 rfl
  have z0_bA_1 := bA_0.out.cell 1 rfl
  have szA : w.heap.size + 1 ≤ (w.alloc (.cells (List.toArray [.string (strT x), .slice a0 (kidsOf x).length cap0]) 24)).heap.size := by simp
  simp only [World.size_alloc] at szA
  go_enter Try.func5, Try.ntmps5
  go_wp2_with fail
  refine ((szT_all (n + 1)).1 _ 0 _ x _ (hx0.out.below hB0.out) (by omega) (by omega)).mono ?_
  rintro e w1 ⟨⟨r, rfl, hr1, hr2, hsm⟩, hb1⟩
  have hsm' : Hid (r < 0 ∨ (SmallO (n + 1) x ∧ r + (belowN (n + 1) x : Int) ≤ 1048576)) := hsm
  clear hsm
  have bA_1 : Hid (Box w1 w.heap.size [.string (strT x), .slice a0 (kidsOf x).length cap0] 24) := bA_0.out.below hb1 bA_0.out.lt
  clear bA_0
  have hB1 : Hid (Below w.heap.size w w1) := hB0.out.trans ((hb1).mono hB0.out.size)
  have sz1 := (hb1).size
  simp only [World.size_alloc] at sz1
  clear z0_bA_0 z0_bA_1
  have z1_bA_0 := bA_1.out.cell 0 rfl
  have z1_bA_1 := bA_1.out.cell 1 rfl
  clear hb1
  by_cases hneg : r < 0
  · go_wp2_with fail
    go_ret
    exact ⟨rfl, hB1.out⟩
  have hsm : Hid (SmallO (n + 1) x) := (hsm'.out.resolve_left hneg).1
  have hcx : Hid ((cntL (cntTree n) (kidsOf x) : Int) ≤ 1048576) := by show _ ≤ _; have := (hsm'.out.resolve_left hneg).2; simp only [belowN] at this; omega
  clear hsm'
  go_wp2_with fail
  refine (szEditS_any (hl0.out.below (EditL_stays _) hB1.out) (by omega) (by omega)).mono ?_
  rintro e w2 ⟨⟨r2, rfl, hr3, hr4, hsl⟩, hb2⟩
  have hsl' : Hid (r2 < 0 ∨ AllS (smallE (m + 1)) l) := hsl
  clear hsl
  have bA_2 : Hid (Box w2 w.heap.size [.string (strT x), .slice a0 (kidsOf x).length cap0] 24) := bA_1.out.below hb2 bA_1.out.lt
  clear bA_1
  have hB2 : Hid (Below w.heap.size w w2) := hB1.out.trans ((hb2).mono hB1.out.size)
  have sz2 := (hb2).size
  clear z1_bA_0 z1_bA_1
  have z2_bA_0 := bA_2.out.cell 0 rfl
  have z2_bA_1 := bA_2.out.cell 1 rfl
  clear hb2
  by_cases hneg2 : r2 < 0
  · go_wp2_with fail
    go_ret
    exact ⟨rfl, hB2.out⟩
  have hsl : Hid (AllS (smallE (m + 1)) l) := hsl'.out.resolve_left hneg2
  have hcl : Hid ((cntL (cntEd m) l : Int) ≤ 1048576 * 2097155) := cntEd_bound hsl.out
  clear hsl'
  generalize hYS : allD x l = oo
  have hYS' : Hid (allD x l = oo) := hYS
  clear hYS
  have hYC : Hid (∀ L, (1 : Int) + (cntL (cntTree L) (kidsOf (resT oo)) : Nat) ≤ 4611686018427387904) := fun L => by have h := allCnt x l L; rw [hYS'.out] at h; omega
  go_wp2_with fail
  refine ((toT_all (n + 1)).1 _ 0 _ x (hx0.out.below hB2.out) hsm.out).mono ?_
  rintro e u3a ⟨⟨cs3, f3t, rfl, ht3, _, lo3t⟩, hba3⟩
  have rg_x3t : Hid (∀ b ∈ f3t, w2.heap.size ≤ b ∧ b < u3a.heap.size) := fun b q => ⟨by have := lo3t b q; omega, TreeO_lt _ _ _ _ _ ht3 b q⟩
  obtain ⟨kk3, rfl, ss3, _⟩ := ht3.opened
  obtain ⟨at3, ct3, rfl⟩ := ss3.form
  have hto3 : Hid (TreeO (n + 1) u3a [.string (strT x), .slice at3 (kidsOf x).length ct3] x f3t) := ht3
  clear ht3 ss3 lo3t
  have bA_3 : Hid (Box u3a w.heap.size [.string (strT x), .slice a0 (kidsOf x).length cap0] 24) := bA_2.out.below hba3 bA_2.out.lt
  clear bA_2
  have hB3 : Hid (Below w.heap.size w u3a) := hB2.out.trans ((hba3).mono hB2.out.size)
  have sz3 := (hba3).size
  clear z2_bA_0 z2_bA_1
  have z3_bA_0 := bA_3.out.cell 0 rfl
  have z3_bA_1 := bA_3.out.cell 1 rfl
  have x3t_3 : Hid (TreeO (n + 1) u3a [.string (strT x), .slice at3 (kidsOf x).length ct3] x f3t) := hto3
  clear hto3 hba3
  go_wp2_with fail
  refine (toEditS_own (hl0.out.below (EditL_stays _) hB3.out) hsl.out).mono ?_
  rintro e u3c ⟨⟨kl3, f3s, rfl, hl3, _, lo3s⟩, hbc3⟩
  have rg_x3s : Hid (∀ b ∈ f3s, u3a.heap.size ≤ b ∧ b < u3c.heap.size) := fun b q => ⟨by have := lo3s b q; omega, hl3.lt (EditO_lt _) b q⟩
  have hlo3 : Hid (SeqOwn 5 (EditO (m + 1)) u3c kl3 l f3s) := hl3
  obtain ⟨al3, cl3, rfl⟩ := hl3.form
  clear hl3 lo3s
  have bA_4 : Hid (Box u3c w.heap.size [.string (strT x), .slice a0 (kidsOf x).length cap0] 24) := bA_3.out.below hbc3 bA_3.out.lt
  have x3t_4 : Hid (TreeO (n + 1) u3c [.string (strT x), .slice at3 (kidsOf x).length ct3] x f3t) := TreeO_stays _ _ _ _ _ _ (fun x hx => (hbc3).block x (TreeO_lt _ _ _ _ _ x3t_3.out x hx)) x3t_3.out
  clear bA_3 x3t_3
  have hB4 : Hid (Below w.heap.size w u3c) := hB3.out.trans ((hbc3).mono hB3.out.size)
  have sz4 := (hbc3).size
  clear z3_bA_0 z3_bA_1
  have z4_bA_0 := bA_4.out.cell 0 rfl
  have z4_bA_1 := bA_4.out.cell 1 rfl
  have x3s_4 : Hid (SeqOwn 5 (EditO (m + 1)) u3c (.slice al3 l.length cl3) l f3s) := hlo3
  clear hlo3 hbc3
  go_wp2_with fail
  refine (specEditedAll_any (treeO_ta x3t_4.out) (editsAt x3s_4.out)).mono ?_
  rw [hYS'.out]
  rintro e w4 ⟨cswa, fwa, nwa, rfl, howa0, ndwa, lowa, hbwa⟩
  have rg_wa : Hid (∀ b ∈ fwa, u3c.heap.size ≤ b ∧ b < w4.heap.size) := fun b q => ⟨by have := lowa b q; omega, TreeO_lt _ _ _ _ _ howa0 b q⟩
  obtain ⟨kwa, rfl, ss, _⟩ := howa0.opened
  obtain ⟨awa, cwa, rfl⟩ := ss.form
  clear ss
  have howa : Hid (TreeO (nwa + 1) w4 [.string (strT (resT oo)), .slice awa (kidsOf (resT oo)).length cwa] (resT oo) fwa) := TreeO_mono (by omega) howa0
  clear howa0 ndwa lowa
  have bA_5 : Hid (Box w4 w.heap.size [.string (strT x), .slice a0 (kidsOf x).length cap0] 24) := bA_4.out.below hbwa bA_4.out.lt
  have x3t_5 : Hid (TreeO (n + 1) w4 [.string (strT x), .slice at3 (kidsOf x).length ct3] x f3t) := TreeO_stays _ _ _ _ _ _ (fun x hx => (hbwa).block x (TreeO_lt _ _ _ _ _ x3t_4.out x hx)) x3t_4.out
  have x3s_5 : Hid (SeqOwn 5 (EditO (m + 1)) w4 (.slice al3 l.length cl3) l f3s) := SeqOwn.stays (EditO_stays _) x3s_4.out (fun x hx => (hbwa).block x (SeqOwn.lt (EditO_lt _) x3s_4.out x hx))
  clear bA_4 x3t_4 x3s_4
  have hB5 : Hid (Below w.heap.size w w4) := hB4.out.trans ((hbwa).mono hB4.out.size)
  have sz5 := (hbwa).size
  clear z4_bA_0 z4_bA_1
  have z5_bA_0 := bA_5.out.cell 0 rfl
  have z5_bA_1 := bA_5.out.cell 1 rfl
  clear hbwa
  have wa_5 : Hid (TreeO (nwa + 1) w4 [.string (strT (resT oo)), .slice awa (kidsOf (resT oo)).length cwa] (resT oo) fwa) := howa
  clear howa
  have hbgwa : Below w4.heap.size w4 (w4.alloc (.cells (List.toArray [.string (strT (resT oo)), .slice awa (kidsOf (resT oo)).length cwa]) 33)) := (Below.refl _ _).alloc (Nat.le_refl _) _
  have bA_6 : Hid (Box (w4.alloc (.cells (List.toArray [.string (strT (resT oo)), .slice awa (kidsOf (resT oo)).length cwa]) 33)) w.heap.size [.string (strT x), .slice a0 (kidsOf x).length cap0] 24) := bA_5.out.below hbgwa bA_5.out.lt
  have x3t_6 : Hid (TreeO (n + 1) (w4.alloc (.cells (List.toArray [.string (strT (resT oo)), .slice awa (kidsOf (resT oo)).length cwa]) 33)) [.string (strT x), .slice at3 (kidsOf x).length ct3] x f3t) := TreeO_stays _ _ _ _ _ _ (fun x hx => (hbgwa).block x (TreeO_lt _ _ _ _ _ x3t_5.out x hx)) x3t_5.out
  have x3s_6 : Hid (SeqOwn 5 (EditO (m + 1)) (w4.alloc (.cells (List.toArray [.string (strT (resT oo)), .slice awa (kidsOf (resT oo)).length cwa]) 33)) (.slice al3 l.length cl3) l f3s) := SeqOwn.stays (EditO_stays _) x3s_5.out (fun x hx => (hbgwa).block x (SeqOwn.lt (EditO_lt _) x3s_5.out x hx))
  have wa_6 : Hid (TreeO (nwa + 1) (w4.alloc (.cells (List.toArray [.string (strT (resT oo)), .slice awa (kidsOf (resT oo)).length cwa]) 33)) [.string (strT (resT oo)), .slice awa (kidsOf (resT oo)).length cwa] (resT oo) fwa) := TreeO_stays _ _ _ _ _ _ (fun x hx => (hbgwa).block x (TreeO_lt _ _ _ _ _ wa_5.out x hx)) wa_5.out
  clear bA_5 x3t_5 x3s_5 wa_5
  have hB6 : Hid (Below w.heap.size w (w4.alloc (.cells (List.toArray [.string (strT (resT oo)), .slice awa (kidsOf (resT oo)).length cwa]) 33))) := hB5.out.trans ((hbgwa).mono hB5.out.size)
  have sz6 := (hbgwa).size
  simp only [World.size_alloc] at sz6
  clear z5_bA_0 z5_bA_1
  have z6_bA_0 := bA_6.out.cell 0 rfl
  have z6_bA_1 := bA_6.out.cell 1 rfl
  have bwa_6 : Hid (Box (w4.alloc (.cells (List.toArray [.string (strT (resT oo)), .slice awa (kidsOf (resT oo)).length cwa]) 33)) w4.heap.size [.string (strT (resT oo)), .slice awa (kidsOf (resT oo)).length cwa] 33) := Box.new w4 _ _
  have z6_bwa_0 := bwa_6.out.cell 0 rfl
  have z6_bwa_1 := bwa_6.out.cell 1 rfl
  clear hbgwa
  clear x3t_6
  clear x3s_6
  go_wp2_with fail
  refine ((toT_all (n + 1)).1 _ 0 _ x (hx0.out.below hB6.out) hsm.out).mono ?_
  rintro e u5a ⟨⟨cs5, f5t, rfl, ht5, _, lo5t⟩, hba5⟩
  have rg_x5t : Hid (∀ b ∈ f5t, w4.heap.size + 1 ≤ b ∧ b < u5a.heap.size) := fun b q => ⟨by have := lo5t b q; simp only [World.size_alloc] at this; omega, TreeO_lt _ _ _ _ _ ht5 b q⟩
  obtain ⟨kk5, rfl, ss5, _⟩ := ht5.opened
  obtain ⟨at5, ct5, rfl⟩ := ss5.form
  have hto5 : Hid (TreeO (n + 1) u5a [.string (strT x), .slice at5 (kidsOf x).length ct5] x f5t) := ht5
  clear ht5 ss5 lo5t
  have bA_7 : Hid (Box u5a w.heap.size [.string (strT x), .slice a0 (kidsOf x).length cap0] 24) := bA_6.out.below hba5 bA_6.out.lt
  have wa_7 : Hid (TreeO (nwa + 1) u5a [.string (strT (resT oo)), .slice awa (kidsOf (resT oo)).length cwa] (resT oo) fwa) := TreeO_stays _ _ _ _ _ _ (fun x hx => (hba5).block x (TreeO_lt _ _ _ _ _ wa_6.out x hx)) wa_6.out
  have bwa_7 : Hid (Box u5a w4.heap.size [.string (strT (resT oo)), .slice awa (kidsOf (resT oo)).length cwa] 33) := bwa_6.out.below hba5 bwa_6.out.lt
  clear bA_6 wa_6 bwa_6
  have hB7 : Hid (Below w.heap.size w u5a) := hB6.out.trans ((hba5).mono hB6.out.size)
  have sz7 := (hba5).size
  simp only [World.size_alloc] at sz7
  clear z6_bA_0 z6_bA_1 z6_bwa_0 z6_bwa_1
  have z7_bA_0 := bA_7.out.cell 0 rfl
  have z7_bA_1 := bA_7.out.cell 1 rfl
  have z7_bwa_0 := bwa_7.out.cell 0 rfl
  have z7_bwa_1 := bwa_7.out.cell 1 rfl
  have x5t_7 : Hid (TreeO (n + 1) u5a [.string (strT x), .slice at5 (kidsOf x).length ct5] x f5t) := hto5
  clear hto5 hba5
  have hbx5 : Below u5a.heap.size u5a (u5a.alloc (.cells (List.toArray [.string (strT x), .slice at5 (kidsOf x).length ct5]) 33)) := (Below.refl _ _).alloc (Nat.le_refl _) _
  have bA_8 : Hid (Box (u5a.alloc (.cells (List.toArray [.string (strT x), .slice at5 (kidsOf x).length ct5]) 33)) w.heap.size [.string (strT x), .slice a0 (kidsOf x).length cap0] 24) := bA_7.out.below hbx5 bA_7.out.lt
  have wa_8 : Hid (TreeO (nwa + 1) (u5a.alloc (.cells (List.toArray [.string (strT x), .slice at5 (kidsOf x).length ct5]) 33)) [.string (strT (resT oo)), .slice awa (kidsOf (resT oo)).length cwa] (resT oo) fwa) := TreeO_stays _ _ _ _ _ _ (fun x hx => (hbx5).block x (TreeO_lt _ _ _ _ _ wa_7.out x hx)) wa_7.out
  have bwa_8 : Hid (Box (u5a.alloc (.cells (List.toArray [.string (strT x), .slice at5 (kidsOf x).length ct5]) 33)) w4.heap.size [.string (strT (resT oo)), .slice awa (kidsOf (resT oo)).length cwa] 33) := bwa_7.out.below hbx5 bwa_7.out.lt
  have x5t_8 : Hid (TreeO (n + 1) (u5a.alloc (.cells (List.toArray [.string (strT x), .slice at5 (kidsOf x).length ct5]) 33)) [.string (strT x), .slice at5 (kidsOf x).length ct5] x f5t) := TreeO_stays _ _ _ _ _ _ (fun x hx => (hbx5).block x (TreeO_lt _ _ _ _ _ x5t_7.out x hx)) x5t_7.out
  clear bA_7 wa_7 bwa_7 x5t_7
  have hB8 : Hid (Below w.heap.size w (u5a.alloc (.cells (List.toArray [.string (strT x), .slice at5 (kidsOf x).length ct5]) 33))) := hB7.out.trans ((hbx5).mono hB7.out.size)
  have sz8 := (hbx5).size
  simp only [World.size_alloc] at sz8
  clear z7_bA_0 z7_bA_1 z7_bwa_0 z7_bwa_1
  have z8_bA_0 := bA_8.out.cell 0 rfl
  have z8_bA_1 := bA_8.out.cell 1 rfl
  have z8_bwa_0 := bwa_8.out.cell 0 rfl
  have z8_bwa_1 := bwa_8.out.cell 1 rfl
  have bX5_8 : Hid (Box (u5a.alloc (.cells (List.toArray [.string (strT x), .slice at5 (kidsOf x).length ct5]) 33)) u5a.heap.size [.string (strT x), .slice at5 (kidsOf x).length ct5] 33) := Box.new u5a _ _
  have z8_bX5_0 := bX5_8.out.cell 0 rfl
  have z8_bX5_1 := bX5_8.out.cell 1 rfl
  clear hbx5
  go_wp2_with fail
  refine (toEditS_own (hl0.out.below (EditL_stays _) hB8.out) hsl.out).mono ?_
  rintro e u5c ⟨⟨kl5, f5s, rfl, hl5, _, lo5s⟩, hbc5⟩
  have rg_x5s : Hid (∀ b ∈ f5s, u5a.heap.size + 1 ≤ b ∧ b < u5c.heap.size) := fun b q => ⟨by have := lo5s b q; simp only [World.size_alloc] at this; omega, hl5.lt (EditO_lt _) b q⟩
  have hlo5 : Hid (SeqOwn 5 (EditO (m + 1)) u5c kl5 l f5s) := hl5
  obtain ⟨al5, cl5, rfl⟩ := hl5.form
  clear hl5 lo5s
  have bA_9 : Hid (Box u5c w.heap.size [.string (strT x), .slice a0 (kidsOf x).length cap0] 24) := bA_8.out.below hbc5 bA_8.out.lt
  have wa_9 : Hid (TreeO (nwa + 1) u5c [.string (strT (resT oo)), .slice awa (kidsOf (resT oo)).length cwa] (resT oo) fwa) := TreeO_stays _ _ _ _ _ _ (fun x hx => (hbc5).block x (TreeO_lt _ _ _ _ _ wa_8.out x hx)) wa_8.out
  have bwa_9 : Hid (Box u5c w4.heap.size [.string (strT (resT oo)), .slice awa (kidsOf (resT oo)).length cwa] 33) := bwa_8.out.below hbc5 bwa_8.out.lt
  have x5t_9 : Hid (TreeO (n + 1) u5c [.string (strT x), .slice at5 (kidsOf x).length ct5] x f5t) := TreeO_stays _ _ _ _ _ _ (fun x hx => (hbc5).block x (TreeO_lt _ _ _ _ _ x5t_8.out x hx)) x5t_8.out
  have bX5_9 : Hid (Box u5c u5a.heap.size [.string (strT x), .slice at5 (kidsOf x).length ct5] 33) := bX5_8.out.below hbc5 bX5_8.out.lt
  clear bA_8 wa_8 bwa_8 x5t_8 bX5_8
  have hB9 : Hid (Below w.heap.size w u5c) := hB8.out.trans ((hbc5).mono hB8.out.size)
  have sz9 := (hbc5).size
  simp only [World.size_alloc] at sz9
  clear z8_bA_0 z8_bA_1 z8_bwa_0 z8_bwa_1 z8_bX5_0 z8_bX5_1
  have z9_bA_0 := bA_9.out.cell 0 rfl
  have z9_bA_1 := bA_9.out.cell 1 rfl
  have z9_bwa_0 := bwa_9.out.cell 0 rfl
  have z9_bwa_1 := bwa_9.out.cell 1 rfl
  have z9_bX5_0 := bX5_9.out.cell 0 rfl
  have z9_bX5_1 := bX5_9.out.cell 1 rfl
  have x5s_9 : Hid (SeqOwn 5 (EditO (m + 1)) u5c (.slice al5 l.length cl5) l f5s) := hlo5
  clear hlo5 hbc5
  go_wp2_with fail
  refine (implEditedAll_any (treeO_ta x5t_9.out) (editsAt x5s_9.out)).mono ?_
  rw [hYS'.out]
  rintro e w6 ⟨csga, fga, nga, rfl, hoga0, ndga, loga, hbga⟩
  have rg_ga : Hid (∀ b ∈ fga, u5c.heap.size ≤ b ∧ b < w6.heap.size) := fun b q => ⟨by have := loga b q; omega, TreeO_lt _ _ _ _ _ hoga0 b q⟩
  obtain ⟨kga, rfl, ss, _⟩ := hoga0.opened
  obtain ⟨aga, cga, rfl⟩ := ss.form
  clear ss
  have hoga : Hid (TreeO (nga + 1) w6 [.string (strT (resT oo)), .slice aga (kidsOf (resT oo)).length cga] (resT oo) fga) := TreeO_mono (by omega) hoga0
  clear hoga0 ndga loga
  have bA_10 : Hid (Box w6 w.heap.size [.string (strT x), .slice a0 (kidsOf x).length cap0] 24) := bA_9.out.below hbga bA_9.out.lt
  have wa_10 : Hid (TreeO (nwa + 1) w6 [.string (strT (resT oo)), .slice awa (kidsOf (resT oo)).length cwa] (resT oo) fwa) := TreeO_stays _ _ _ _ _ _ (fun x hx => (hbga).block x (TreeO_lt _ _ _ _ _ wa_9.out x hx)) wa_9.out
  have bwa_10 : Hid (Box w6 w4.heap.size [.string (strT (resT oo)), .slice awa (kidsOf (resT oo)).length cwa] 33) := bwa_9.out.below hbga bwa_9.out.lt
  have x5t_10 : Hid (TreeO (n + 1) w6 [.string (strT x), .slice at5 (kidsOf x).length ct5] x f5t) := TreeO_stays _ _ _ _ _ _ (fun x hx => (hbga).block x (TreeO_lt _ _ _ _ _ x5t_9.out x hx)) x5t_9.out
  have bX5_10 : Hid (Box w6 u5a.heap.size [.string (strT x), .slice at5 (kidsOf x).length ct5] 33) := bX5_9.out.below hbga bX5_9.out.lt
  have x5s_10 : Hid (SeqOwn 5 (EditO (m + 1)) w6 (.slice al5 l.length cl5) l f5s) := SeqOwn.stays (EditO_stays _) x5s_9.out (fun x hx => (hbga).block x (SeqOwn.lt (EditO_lt _) x5s_9.out x hx))
  clear bA_9 wa_9 bwa_9 x5t_9 bX5_9 x5s_9
  have hB10 : Hid (Below w.heap.size w w6) := hB9.out.trans ((hbga).mono hB9.out.size)
  have sz10 := (hbga).size
  clear z9_bA_0 z9_bA_1 z9_bwa_0 z9_bwa_1 z9_bX5_0 z9_bX5_1
  have z10_bA_0 := bA_10.out.cell 0 rfl
  have z10_bA_1 := bA_10.out.cell 1 rfl
  have z10_bwa_0 := bwa_10.out.cell 0 rfl
  have z10_bwa_1 := bwa_10.out.cell 1 rfl
  have z10_bX5_0 := bX5_10.out.cell 0 rfl
  have z10_bX5_1 := bX5_10.out.cell 1 rfl
  clear hbga
  have ga_10 : Hid (TreeO (nga + 1) w6 [.string (strT (resT oo)), .slice aga (kidsOf (resT oo)).length cga] (resT oo) fga) := hoga
  clear hoga
  have hbgga : Below w6.heap.size w6 (w6.alloc (.cells (List.toArray [.string (strT (resT oo)), .slice aga (kidsOf (resT oo)).length cga]) 33)) := (Below.refl _ _).alloc (Nat.le_refl _) _
  have bA_11 : Hid (Box (w6.alloc (.cells (List.toArray [.string (strT (resT oo)), .slice aga (kidsOf (resT oo)).length cga]) 33)) w.heap.size [.string (strT x), .slice a0 (kidsOf x).length cap0] 24) := bA_10.out.below hbgga bA_10.out.lt
  have wa_11 : Hid (TreeO (nwa + 1) (w6.alloc (.cells (List.toArray [.string (strT (resT oo)), .slice aga (kidsOf (resT oo)).length cga]) 33)) [.string (strT (resT oo)), .slice awa (kidsOf (resT oo)).length cwa] (resT oo) fwa) := TreeO_stays _ _ _ _ _ _ (fun x hx => (hbgga).block x (TreeO_lt _ _ _ _ _ wa_10.out x hx)) wa_10.out
  have bwa_11 : Hid (Box (w6.alloc (.cells (List.toArray [.string (strT (resT oo)), .slice aga (kidsOf (resT oo)).length cga]) 33)) w4.heap.size [.string (strT (resT oo)), .slice awa (kidsOf (resT oo)).length cwa] 33) := bwa_10.out.below hbgga bwa_10.out.lt
  have x5t_11 : Hid (TreeO (n + 1) (w6.alloc (.cells (List.toArray [.string (strT (resT oo)), .slice aga (kidsOf (resT oo)).length cga]) 33)) [.string (strT x), .slice at5 (kidsOf x).length ct5] x f5t) := TreeO_stays _ _ _ _ _ _ (fun x hx => (hbgga).block x (TreeO_lt _ _ _ _ _ x5t_10.out x hx)) x5t_10.out
  have bX5_11 : Hid (Box (w6.alloc (.cells (List.toArray [.string (strT (resT oo)), .slice aga (kidsOf (resT oo)).length cga]) 33)) u5a.heap.size [.string (strT x), .slice at5 (kidsOf x).length ct5] 33) := bX5_10.out.below hbgga bX5_10.out.lt
  have x5s_11 : Hid (SeqOwn 5 (EditO (m + 1)) (w6.alloc (.cells (List.toArray [.string (strT (resT oo)), .slice aga (kidsOf (resT oo)).length cga]) 33)) (.slice al5 l.length cl5) l f5s) := SeqOwn.stays (EditO_stays _) x5s_10.out (fun x hx => (hbgga).block x (SeqOwn.lt (EditO_lt _) x5s_10.out x hx))
  have ga_11 : Hid (TreeO (nga + 1) (w6.alloc (.cells (List.toArray [.string (strT (resT oo)), .slice aga (kidsOf (resT oo)).length cga]) 33)) [.string (strT (resT oo)), .slice aga (kidsOf (resT oo)).length cga] (resT oo) fga) := TreeO_stays _ _ _ _ _ _ (fun x hx => (hbgga).block x (TreeO_lt _ _ _ _ _ ga_10.out x hx)) ga_10.out
  clear bA_10 wa_10 bwa_10 x5t_10 bX5_10 x5s_10 ga_10
  have hB11 : Hid (Below w.heap.size w (w6.alloc (.cells (List.toArray [.string (strT (resT oo)), .slice aga (kidsOf (resT oo)).length cga]) 33))) := hB10.out.trans ((hbgga).mono hB10.out.size)
  have sz11 := (hbgga).size
  simp only [World.size_alloc] at sz11
  clear z10_bA_0 z10_bA_1 z10_bwa_0 z10_bwa_1 z10_bX5_0 z10_bX5_1
  have z11_bA_0 := bA_11.out.cell 0 rfl
  have z11_bA_1 := bA_11.out.cell 1 rfl
  have z11_bwa_0 := bwa_11.out.cell 0 rfl
  have z11_bwa_1 := bwa_11.out.cell 1 rfl
  have z11_bX5_0 := bX5_11.out.cell 0 rfl
  have z11_bX5_1 := bX5_11.out.cell 1 rfl
  have bga_11 : Hid (Box (w6.alloc (.cells (List.toArray [.string (strT (resT oo)), .slice aga (kidsOf (resT oo)).length cga]) 33)) w6.heap.size [.string (strT (resT oo)), .slice aga (kidsOf (resT oo)).length cga] 33) := Box.new w6 _ _
  have z11_bga_0 := bga_11.out.cell 0 rfl
  have z11_bga_1 := bga_11.out.cell 1 rfl
  clear hbgga
  go_wp2_with fail
  refine (eqTree_two (TreeO_at (lo := 0) _ _ _ _ _ ga_11.out (fun _ _ => Nat.zero_le _)) (TreeO_at (lo := 0) _ _ _ _ _ wa_11.out (fun _ _ => Nat.zero_le _))).mono ?_
  rintro e w7 ⟨rfl, hbw7⟩
  have bA_12 : Hid (Box w7 w.heap.size [.string (strT x), .slice a0 (kidsOf x).length cap0] 24) := bA_11.out.below hbw7 bA_11.out.lt
  have wa_12 : Hid (TreeO (nwa + 1) w7 [.string (strT (resT oo)), .slice awa (kidsOf (resT oo)).length cwa] (resT oo) fwa) := TreeO_stays _ _ _ _ _ _ (fun x hx => (hbw7).block x (TreeO_lt _ _ _ _ _ wa_11.out x hx)) wa_11.out
  have bwa_12 : Hid (Box w7 w4.heap.size [.string (strT (resT oo)), .slice awa (kidsOf (resT oo)).length cwa] 33) := bwa_11.out.below hbw7 bwa_11.out.lt
  have x5t_12 : Hid (TreeO (n + 1) w7 [.string (strT x), .slice at5 (kidsOf x).length ct5] x f5t) := TreeO_stays _ _ _ _ _ _ (fun x hx => (hbw7).block x (TreeO_lt _ _ _ _ _ x5t_11.out x hx)) x5t_11.out
  have bX5_12 : Hid (Box w7 u5a.heap.size [.string (strT x), .slice at5 (kidsOf x).length ct5] 33) := bX5_11.out.below hbw7 bX5_11.out.lt
  have x5s_12 : Hid (SeqOwn 5 (EditO (m + 1)) w7 (.slice al5 l.length cl5) l f5s) := SeqOwn.stays (EditO_stays _) x5s_11.out (fun x hx => (hbw7).block x (SeqOwn.lt (EditO_lt _) x5s_11.out x hx))
  have ga_12 : Hid (TreeO (nga + 1) w7 [.string (strT (resT oo)), .slice aga (kidsOf (resT oo)).length cga] (resT oo) fga) := TreeO_stays _ _ _ _ _ _ (fun x hx => (hbw7).block x (TreeO_lt _ _ _ _ _ ga_11.out x hx)) ga_11.out
  have bga_12 : Hid (Box w7 w6.heap.size [.string (strT (resT oo)), .slice aga (kidsOf (resT oo)).length cga] 33) := bga_11.out.below hbw7 bga_11.out.lt
  clear bA_11 wa_11 bwa_11 x5t_11 bX5_11 x5s_11 ga_11 bga_11
  have hB12 : Hid (Below w.heap.size w w7) := hB11.out.trans ((hbw7).mono hB11.out.size)
  have sz12 := (hbw7).size
  simp only [World.size_alloc] at sz12
  clear z11_bA_0 z11_bA_1 z11_bwa_0 z11_bwa_1 z11_bX5_0 z11_bX5_1 z11_bga_0 z11_bga_1
  have z12_bA_0 := bA_12.out.cell 0 rfl
  have z12_bA_1 := bA_12.out.cell 1 rfl
  have z12_bwa_0 := bwa_12.out.cell 0 rfl
  have z12_bwa_1 := bwa_12.out.cell 1 rfl
  have z12_bX5_0 := bX5_12.out.cell 0 rfl
  have z12_bX5_1 := bX5_12.out.cell 1 rfl
  have z12_bga_0 := bga_12.out.cell 0 rfl
  have z12_bga_1 := bga_12.out.cell 1 rfl
  clear hbw7
  have hw7 : Hid (TreeL (n + 1) w7 0 [.string (strT x), .slice at5 (kidsOf x).length ct5] x) := TreeO_at (lo := 0) (n + 1) _ _ _ _ x5t_12.out (fun _ _ => Nat.zero_le _)
  go_upto_region 14 with fail
  have lt_bX5 := bX5_12.out.lt
  have lt_bA := bA_12.out.lt
  go_region_held3 (fun w' => w'.cell? ⟨u5a.heap.size, 0, none⟩ = some (.string (strT x)) ∧ w'.cell? ⟨u5a.heap.size, 1, none⟩ = some (.slice at5 (kidsOf x).length ct5) ∧ w'.cell? ⟨w.heap.size, 0, none⟩ = some (.string (strT x)) ∧ w'.cell? ⟨w.heap.size, 1, none⟩ = some (.slice a0 (kidsOf x).length cap0)) (go_keep)
    (first | (go_at_call 11; refine ((toT_all (n + 1)).1 _ 0 _ x (by exact TreeL.below hx0.out hB12.out.drew) hsm.out).mono ?_; rintro e w8 ⟨⟨cs8, fs8, rfl, ht8, _, _⟩, hb8⟩; have hb8' := undrew hb8; have bX58 : Hid (Box w8 u5a.heap.size _ _) := Box.below bX5_12.out hb8' lt_bX5; have bA8 : Hid (Box w8 w.heap.size _ _) := Box.below bA_12.out hb8' lt_bA; have bX580 := bX58.out.cell 0 rfl; have bX581 := bX58.out.cell 1 rfl; have bA80 := bA8.out.cell 0 rfl; have bA81 := bA8.out.cell 1 rfl; have l8ah : Hid (TreeL (n + 1) w8 0 [.string (strT x), .slice at5 (kidsOf x).length ct5] x) := hw7.out.below hb8'; have l8bh : Hid (TreeL (n + 1) w8 0 cs8 x) := TreeO_at (lo := 0) (n + 1) _ _ _ _ ht8 (fun _ _ => Nat.zero_le _); have hb8h : Hid (Below w7.heap.size w7 w8) := hb8'; clear hb8 hb8' ht8) | (go_at_call 14; refine (eqTree_any (by exact l8ah.out) (by exact l8bh.out)).mono ?_; rintro e w9 ⟨rfl, hb9⟩; have bX59 : Hid (Box w9 u5a.heap.size _ _) := Box.below bX58.out hb9 bX58.out.lt; have bA9 : Hid (Box w9 w.heap.size _ _) := Box.below bA8.out hb9 bA8.out.lt; have bX590 := bX59.out.cell 0 rfl; have bX591 := bX59.out.cell 1 rfl; have bA90 := bA9.out.cell 0 rfl; have bA91 := bA9.out.cell 1 rfl; have hb9h : Hid (Below w7.heap.size w7 w9) := hb8h.out.trans (hb9.mono hb8h.out.size); clear hb9))
  have hb79 : Below w7.heap.size w7 w9 := hb9h.out
  clear hb8h hb9h l8ah l8bh hw7 bX58 bX59 lt_bX5 bA8 bA9 lt_bA bX580 bX590 bX581 bX591 bA80 bA90 bA81 bA91
  have bA_13 : Hid (Box w9 w.heap.size [.string (strT x), .slice a0 (kidsOf x).length cap0] 24) := bA_12.out.below hb79 bA_12.out.lt
  have wa_13 : Hid (TreeO (nwa + 1) w9 [.string (strT (resT oo)), .slice awa (kidsOf (resT oo)).length cwa] (resT oo) fwa) := TreeO_stays _ _ _ _ _ _ (fun x hx => (hb79).block x (TreeO_lt _ _ _ _ _ wa_12.out x hx)) wa_12.out
  have bwa_13 : Hid (Box w9 w4.heap.size [.string (strT (resT oo)), .slice awa (kidsOf (resT oo)).length cwa] 33) := bwa_12.out.below hb79 bwa_12.out.lt
  have x5t_13 : Hid (TreeO (n + 1) w9 [.string (strT x), .slice at5 (kidsOf x).length ct5] x f5t) := TreeO_stays _ _ _ _ _ _ (fun x hx => (hb79).block x (TreeO_lt _ _ _ _ _ x5t_12.out x hx)) x5t_12.out
  have bX5_13 : Hid (Box w9 u5a.heap.size [.string (strT x), .slice at5 (kidsOf x).length ct5] 33) := bX5_12.out.below hb79 bX5_12.out.lt
  have x5s_13 : Hid (SeqOwn 5 (EditO (m + 1)) w9 (.slice al5 l.length cl5) l f5s) := SeqOwn.stays (EditO_stays _) x5s_12.out (fun x hx => (hb79).block x (SeqOwn.lt (EditO_lt _) x5s_12.out x hx))
  have ga_13 : Hid (TreeO (nga + 1) w9 [.string (strT (resT oo)), .slice aga (kidsOf (resT oo)).length cga] (resT oo) fga) := TreeO_stays _ _ _ _ _ _ (fun x hx => (hb79).block x (TreeO_lt _ _ _ _ _ ga_12.out x hx)) ga_12.out
  have bga_13 : Hid (Box w9 w6.heap.size [.string (strT (resT oo)), .slice aga (kidsOf (resT oo)).length cga] 33) := bga_12.out.below hb79 bga_12.out.lt
  clear bA_12 wa_12 bwa_12 x5t_12 bX5_12 x5s_12 ga_12 bga_12
  have hB13 : Hid (Below w.heap.size w w9) := hB12.out.trans ((hb79).mono hB12.out.size)
  have sz13 := (hb79).size
  clear z12_bA_0 z12_bA_1 z12_bwa_0 z12_bwa_1 z12_bX5_0 z12_bX5_1 z12_bga_0 z12_bga_1
  have z13_bA_0 := bA_13.out.cell 0 rfl
  have z13_bA_1 := bA_13.out.cell 1 rfl
  have z13_bwa_0 := bwa_13.out.cell 0 rfl
  have z13_bwa_1 := bwa_13.out.cell 1 rfl
  have z13_bX5_0 := bX5_13.out.cell 0 rfl
  have z13_bX5_1 := bX5_13.out.cell 1 rfl
  have z13_bga_0 := bga_13.out.cell 0 rfl
  have z13_bga_1 := bga_13.out.cell 1 rfl
  clear hb79
  go_wp2_with fail
  refine (toEditS_own (hl0.out.below (EditL_stays _) hB13.out) hsl.out).mono ?_
  rintro e ws ⟨⟨kss, fss, rfl, hss, _, _⟩, hbs⟩
  have hss' : Hid (SeqAt 5 (EditL (m + 1)) ws 0 kss l) := editsL hss
  clear hss
  have bA_14 : Hid (Box ws w.heap.size [.string (strT x), .slice a0 (kidsOf x).length cap0] 24) := bA_13.out.below hbs bA_13.out.lt
  have wa_14 : Hid (TreeO (nwa + 1) ws [.string (strT (resT oo)), .slice awa (kidsOf (resT oo)).length cwa] (resT oo) fwa) := TreeO_stays _ _ _ _ _ _ (fun x hx => (hbs).block x (TreeO_lt _ _ _ _ _ wa_13.out x hx)) wa_13.out
  have bwa_14 : Hid (Box ws w4.heap.size [.string (strT (resT oo)), .slice awa (kidsOf (resT oo)).length cwa] 33) := bwa_13.out.below hbs bwa_13.out.lt
  have x5t_14 : Hid (TreeO (n + 1) ws [.string (strT x), .slice at5 (kidsOf x).length ct5] x f5t) := TreeO_stays _ _ _ _ _ _ (fun x hx => (hbs).block x (TreeO_lt _ _ _ _ _ x5t_13.out x hx)) x5t_13.out
  have bX5_14 : Hid (Box ws u5a.heap.size [.string (strT x), .slice at5 (kidsOf x).length ct5] 33) := bX5_13.out.below hbs bX5_13.out.lt
  have x5s_14 : Hid (SeqOwn 5 (EditO (m + 1)) ws (.slice al5 l.length cl5) l f5s) := SeqOwn.stays (EditO_stays _) x5s_13.out (fun x hx => (hbs).block x (SeqOwn.lt (EditO_lt _) x5s_13.out x hx))
  have ga_14 : Hid (TreeO (nga + 1) ws [.string (strT (resT oo)), .slice aga (kidsOf (resT oo)).length cga] (resT oo) fga) := TreeO_stays _ _ _ _ _ _ (fun x hx => (hbs).block x (TreeO_lt _ _ _ _ _ ga_13.out x hx)) ga_13.out
  have bga_14 : Hid (Box ws w6.heap.size [.string (strT (resT oo)), .slice aga (kidsOf (resT oo)).length cga] 33) := bga_13.out.below hbs bga_13.out.lt
  clear bA_13 wa_13 bwa_13 x5t_13 bX5_13 x5s_13 ga_13 bga_13
  have hB14 : Hid (Below w.heap.size w ws) := hB13.out.trans ((hbs).mono hB13.out.size)
  have sz14 := (hbs).size
  clear z13_bA_0 z13_bA_1 z13_bwa_0 z13_bwa_1 z13_bX5_0 z13_bX5_1 z13_bga_0 z13_bga_1
  have z14_bA_0 := bA_14.out.cell 0 rfl
  have z14_bA_1 := bA_14.out.cell 1 rfl
  have z14_bwa_0 := bwa_14.out.cell 0 rfl
  have z14_bwa_1 := bwa_14.out.cell 1 rfl
  have z14_bX5_0 := bX5_14.out.cell 0 rfl
  have z14_bX5_1 := bX5_14.out.cell 1 rfl
  have z14_bga_0 := bga_14.out.cell 0 rfl
  have z14_bga_1 := bga_14.out.cell 1 rfl
  clear hbs
  go_wp2_with fail
  refine (eqEditS_any (editsL x5s_14.out) hss'.out).mono ?_
  rintro e wt ⟨rfl, hbt⟩
  clear hss'
  have bA_15 : Hid (Box wt w.heap.size [.string (strT x), .slice a0 (kidsOf x).length cap0] 24) := bA_14.out.below hbt bA_14.out.lt
  have wa_15 : Hid (TreeO (nwa + 1) wt [.string (strT (resT oo)), .slice awa (kidsOf (resT oo)).length cwa] (resT oo) fwa) := TreeO_stays _ _ _ _ _ _ (fun x hx => (hbt).block x (TreeO_lt _ _ _ _ _ wa_14.out x hx)) wa_14.out
  have bwa_15 : Hid (Box wt w4.heap.size [.string (strT (resT oo)), .slice awa (kidsOf (resT oo)).length cwa] 33) := bwa_14.out.below hbt bwa_14.out.lt
  have x5t_15 : Hid (TreeO (n + 1) wt [.string (strT x), .slice at5 (kidsOf x).length ct5] x f5t) := TreeO_stays _ _ _ _ _ _ (fun x hx => (hbt).block x (TreeO_lt _ _ _ _ _ x5t_14.out x hx)) x5t_14.out
  have bX5_15 : Hid (Box wt u5a.heap.size [.string (strT x), .slice at5 (kidsOf x).length ct5] 33) := bX5_14.out.below hbt bX5_14.out.lt
  have x5s_15 : Hid (SeqOwn 5 (EditO (m + 1)) wt (.slice al5 l.length cl5) l f5s) := SeqOwn.stays (EditO_stays _) x5s_14.out (fun x hx => (hbt).block x (SeqOwn.lt (EditO_lt _) x5s_14.out x hx))
  have ga_15 : Hid (TreeO (nga + 1) wt [.string (strT (resT oo)), .slice aga (kidsOf (resT oo)).length cga] (resT oo) fga) := TreeO_stays _ _ _ _ _ _ (fun x hx => (hbt).block x (TreeO_lt _ _ _ _ _ ga_14.out x hx)) ga_14.out
  have bga_15 : Hid (Box wt w6.heap.size [.string (strT (resT oo)), .slice aga (kidsOf (resT oo)).length cga] 33) := bga_14.out.below hbt bga_14.out.lt
  clear bA_14 wa_14 bwa_14 x5t_14 bX5_14 x5s_14 ga_14 bga_14
  have hB15 : Hid (Below w.heap.size w wt) := hB14.out.trans ((hbt).mono hB14.out.size)
  have sz15 := (hbt).size
  clear z14_bA_0 z14_bA_1 z14_bwa_0 z14_bwa_1 z14_bX5_0 z14_bX5_1 z14_bga_0 z14_bga_1
  have z15_bA_0 := bA_15.out.cell 0 rfl
  have z15_bA_1 := bA_15.out.cell 1 rfl
  have z15_bwa_0 := bwa_15.out.cell 0 rfl
  have z15_bwa_1 := bwa_15.out.cell 1 rfl
  have z15_bX5_0 := bX5_15.out.cell 0 rfl
  have z15_bX5_1 := bX5_15.out.cell 1 rfl
  have z15_bga_0 := bga_15.out.cell 0 rfl
  have z15_bga_1 := bga_15.out.cell 1 rfl
  clear hbt
  go_wp2_with fail
  refine (markTree_any (n := n) x5t_15.out (by omega) (by have := hcx.out; omega)).mono ?_
  rintro e m1 ⟨rfl, _, hom1⟩
  have bA_16 : Hid (Box m1 w.heap.size [.string (strT x), .slice a0 (kidsOf x).length cap0] 24) := ((hom1).keep bA_15.out.lt (fun q => by have := rg_x5t.out _ q; omega)).trans bA_15.out
  have wa_16 : Hid (TreeO (nwa + 1) m1 [.string (strT (resT oo)), .slice awa (kidsOf (resT oo)).length cwa] (resT oo) fwa) := TreeO_stays _ _ _ _ _ _ (fun x hx => (hom1).keep (TreeO_lt _ _ _ _ _ wa_15.out x hx) (fun q => by have := rg_x5t.out _ q; have := rg_wa.out _ hx; omega)) wa_15.out
  have bwa_16 : Hid (Box m1 w4.heap.size [.string (strT (resT oo)), .slice awa (kidsOf (resT oo)).length cwa] 33) := ((hom1).keep bwa_15.out.lt (fun q => by have := rg_x5t.out _ q; omega)).trans bwa_15.out
  have bX5_16 : Hid (Box m1 u5a.heap.size [.string (strT x), .slice at5 (kidsOf x).length ct5] 33) := ((hom1).keep bX5_15.out.lt (fun q => by have := rg_x5t.out _ q; omega)).trans bX5_15.out
  have x5s_16 : Hid (SeqOwn 5 (EditO (m + 1)) m1 (.slice al5 l.length cl5) l f5s) := SeqOwn.stays (EditO_stays _) x5s_15.out (fun x hx => (hom1).keep (SeqOwn.lt (EditO_lt _) x5s_15.out x hx) (fun q => by have := rg_x5t.out _ q; have := rg_x5s.out _ hx; omega))
  have ga_16 : Hid (TreeO (nga + 1) m1 [.string (strT (resT oo)), .slice aga (kidsOf (resT oo)).length cga] (resT oo) fga) := TreeO_stays _ _ _ _ _ _ (fun x hx => (hom1).keep (TreeO_lt _ _ _ _ _ ga_15.out x hx) (fun q => by have := rg_x5t.out _ q; have := rg_ga.out _ hx; omega)) ga_15.out
  have bga_16 : Hid (Box m1 w6.heap.size [.string (strT (resT oo)), .slice aga (kidsOf (resT oo)).length cga] 33) := ((hom1).keep bga_15.out.lt (fun q => by have := rg_x5t.out _ q; omega)).trans bga_15.out
  clear bA_15 wa_15 bwa_15 x5t_15 bX5_15 x5s_15 ga_15 bga_15
  have hB16 : Hid (Below w.heap.size w m1) := hB15.out.trans ((hom1).below hB15.out.size (fun x hx => by have := rg_x5t.out x hx; omega))
  have sz16 := (hom1).2.2.2.1
  clear z15_bA_0 z15_bA_1 z15_bwa_0 z15_bwa_1 z15_bX5_0 z15_bX5_1 z15_bga_0 z15_bga_1
  have z16_bA_0 := bA_16.out.cell 0 rfl
  have z16_bA_1 := bA_16.out.cell 1 rfl
  have z16_bwa_0 := bwa_16.out.cell 0 rfl
  have z16_bwa_1 := bwa_16.out.cell 1 rfl
  have z16_bX5_0 := bX5_16.out.cell 0 rfl
  have z16_bX5_1 := bX5_16.out.cell 1 rfl
  have z16_bga_0 := bga_16.out.cell 0 rfl
  have z16_bga_1 := bga_16.out.cell 1 rfl
  clear hom1
  generalize hK1 : (1 : Int) + (cntL (cntTree n) (kidsOf x) : Nat) = K1
  have hK1b : 0 ≤ K1 ∧ K1 ≤ 2000000 := by have := hcx.out; omega
  clear hK1
  go_wp2_with fail
  refine (markEditS_any (n := m) x5s_16.out (by omega) (by have := hcl.out; omega)).mono ?_
  rintro e m2 ⟨rfl, _, hom2⟩
  have bA_17 : Hid (Box m2 w.heap.size [.string (strT x), .slice a0 (kidsOf x).length cap0] 24) := ((hom2).keep bA_16.out.lt (fun q => by have := rg_x5s.out _ q; omega)).trans bA_16.out
  have wa_17 : Hid (TreeO (nwa + 1) m2 [.string (strT (resT oo)), .slice awa (kidsOf (resT oo)).length cwa] (resT oo) fwa) := TreeO_stays _ _ _ _ _ _ (fun x hx => (hom2).keep (TreeO_lt _ _ _ _ _ wa_16.out x hx) (fun q => by have := rg_x5s.out _ q; have := rg_wa.out _ hx; omega)) wa_16.out
  have bwa_17 : Hid (Box m2 w4.heap.size [.string (strT (resT oo)), .slice awa (kidsOf (resT oo)).length cwa] 33) := ((hom2).keep bwa_16.out.lt (fun q => by have := rg_x5s.out _ q; omega)).trans bwa_16.out
  have bX5_17 : Hid (Box m2 u5a.heap.size [.string (strT x), .slice at5 (kidsOf x).length ct5] 33) := ((hom2).keep bX5_16.out.lt (fun q => by have := rg_x5s.out _ q; omega)).trans bX5_16.out
  have ga_17 : Hid (TreeO (nga + 1) m2 [.string (strT (resT oo)), .slice aga (kidsOf (resT oo)).length cga] (resT oo) fga) := TreeO_stays _ _ _ _ _ _ (fun x hx => (hom2).keep (TreeO_lt _ _ _ _ _ ga_16.out x hx) (fun q => by have := rg_x5s.out _ q; have := rg_ga.out _ hx; omega)) ga_16.out
  have bga_17 : Hid (Box m2 w6.heap.size [.string (strT (resT oo)), .slice aga (kidsOf (resT oo)).length cga] 33) := ((hom2).keep bga_16.out.lt (fun q => by have := rg_x5s.out _ q; omega)).trans bga_16.out
  clear bA_16 wa_16 bwa_16 bX5_16 x5s_16 ga_16 bga_16
  have hB17 : Hid (Below w.heap.size w m2) := hB16.out.trans ((hom2).below hB16.out.size (fun x hx => by have := rg_x5s.out x hx; omega))
  have sz17 := (hom2).2.2.2.1
  clear z16_bA_0 z16_bA_1 z16_bwa_0 z16_bwa_1 z16_bX5_0 z16_bX5_1 z16_bga_0 z16_bga_1
  have z17_bA_0 := bA_17.out.cell 0 rfl
  have z17_bA_1 := bA_17.out.cell 1 rfl
  have z17_bwa_0 := bwa_17.out.cell 0 rfl
  have z17_bwa_1 := bwa_17.out.cell 1 rfl
  have z17_bX5_0 := bX5_17.out.cell 0 rfl
  have z17_bX5_1 := bX5_17.out.cell 1 rfl
  have z17_bga_0 := bga_17.out.cell 0 rfl
  have z17_bga_1 := bga_17.out.cell 1 rfl
  clear hom2
  generalize hK2 : K1 + (cntL (cntEd m) l : Nat) = K2
  have hK2b : 0 ≤ K2 := by omega
  clear hK2
  clear bX5_17 z17_bX5_0 z17_bX5_1
  have hKn : decide (K2 < 0) = false := by simp; omega
  go_wp2_with fail
  refine (eqTree_two (TreeO_at (lo := 0) _ _ _ _ _ ga_17.out (fun _ _ => Nat.zero_le _)) (TreeO_at (lo := 0) _ _ _ _ _ wa_17.out (fun _ _ => Nat.zero_le _))).mono ?_
  rintro e m4 ⟨rfl, hbm4⟩
  have bA_18 : Hid (Box m4 w.heap.size [.string (strT x), .slice a0 (kidsOf x).length cap0] 24) := bA_17.out.below hbm4 bA_17.out.lt
  have wa_18 : Hid (TreeO (nwa + 1) m4 [.string (strT (resT oo)), .slice awa (kidsOf (resT oo)).length cwa] (resT oo) fwa) := TreeO_stays _ _ _ _ _ _ (fun x hx => (hbm4).block x (TreeO_lt _ _ _ _ _ wa_17.out x hx)) wa_17.out
  have bwa_18 : Hid (Box m4 w4.heap.size [.string (strT (resT oo)), .slice awa (kidsOf (resT oo)).length cwa] 33) := bwa_17.out.below hbm4 bwa_17.out.lt
  have ga_18 : Hid (TreeO (nga + 1) m4 [.string (strT (resT oo)), .slice aga (kidsOf (resT oo)).length cga] (resT oo) fga) := TreeO_stays _ _ _ _ _ _ (fun x hx => (hbm4).block x (TreeO_lt _ _ _ _ _ ga_17.out x hx)) ga_17.out
  have bga_18 : Hid (Box m4 w6.heap.size [.string (strT (resT oo)), .slice aga (kidsOf (resT oo)).length cga] 33) := bga_17.out.below hbm4 bga_17.out.lt
  clear bA_17 wa_17 bwa_17 ga_17 bga_17
  have hB18 : Hid (Below w.heap.size w m4) := hB17.out.trans ((hbm4).mono hB17.out.size)
  have sz18 := (hbm4).size
  clear z17_bA_0 z17_bA_1 z17_bwa_0 z17_bwa_1 z17_bga_0 z17_bga_1
  have z18_bA_0 := bA_18.out.cell 0 rfl
  have z18_bA_1 := bA_18.out.cell 1 rfl
  have z18_bwa_0 := bwa_18.out.cell 0 rfl
  have z18_bwa_1 := bwa_18.out.cell 1 rfl
  have z18_bga_0 := bga_18.out.cell 0 rfl
  have z18_bga_1 := bga_18.out.cell 1 rfl
  clear hbm4
  go_wp2_with fail
  refine (markTree_any (n := nga) ga_18.out (by omega) (hYC.out nga)).mono ?_
  rintro e m5 ⟨rfl, ownM, hom5⟩
  have bA_19 : Hid (Box m5 w.heap.size [.string (strT x), .slice a0 (kidsOf x).length cap0] 24) := ((hom5).keep bA_18.out.lt (fun q => by have := rg_ga.out _ q; omega)).trans bA_18.out
  have wa_19 : Hid (TreeO (nwa + 1) m5 [.string (strT (resT oo)), .slice awa (kidsOf (resT oo)).length cwa] (resT oo) fwa) := TreeO_stays _ _ _ _ _ _ (fun x hx => (hom5).keep (TreeO_lt _ _ _ _ _ wa_18.out x hx) (fun q => by have := rg_ga.out _ q; have := rg_wa.out _ hx; omega)) wa_18.out
  have bwa_19 : Hid (Box m5 w4.heap.size [.string (strT (resT oo)), .slice awa (kidsOf (resT oo)).length cwa] 33) := ((hom5).keep bwa_18.out.lt (fun q => by have := rg_ga.out _ q; omega)).trans bwa_18.out
  have bga_19 : Hid (Box m5 w6.heap.size [.string (strT (resT oo)), .slice aga (kidsOf (resT oo)).length cga] 33) := ((hom5).keep bga_18.out.lt (fun q => by have := rg_ga.out _ q; omega)).trans bga_18.out
  clear bA_18 wa_18 bwa_18 ga_18 bga_18
  have hB19 : Hid (Below w.heap.size w m5) := hB18.out.trans ((hom5).below hB18.out.size (fun x hx => by have := rg_ga.out x hx; omega))
  have sz19 := (hom5).2.2.2.1
  clear z18_bA_0 z18_bA_1 z18_bwa_0 z18_bwa_1 z18_bga_0 z18_bga_1
  have z19_bA_0 := bA_19.out.cell 0 rfl
  have z19_bA_1 := bA_19.out.cell 1 rfl
  have z19_bwa_0 := bwa_19.out.cell 0 rfl
  have z19_bwa_1 := bwa_19.out.cell 1 rfl
  have z19_bga_0 := bga_19.out.cell 0 rfl
  have z19_bga_1 := bga_19.out.cell 1 rfl
  have ga_19 : Hid (TreeO (nga + 1) m5 [.string (strT (resT oo)), .slice aga (kidsOf (resT oo)).length cga] (mkTTree nga (resT oo) 1) fga) := ownM
  clear ownM hom5
  have hYN : Hid ((1 : Int) + (cntL (cntTree nga) (kidsOf (resT oo)) : Nat) ≤ 4611686018427387904) := hYC.out nga
  generalize hCI : (1 : Int) + (cntL (cntTree nga) (kidsOf (resT oo)) : Nat) = M at *
  have hCI' : Hid ((1 : Int) + (cntL (cntTree nga) (kidsOf (resT oo)) : Nat) = M) := hCI
  clear hCI
  have hM0 : 0 ≤ M := by have := hCI'.out; omega
  have hM1 : decide (M < 0) = false := by simp; omega
  go_wp2_with fail
  refine (heldTree_any (n := nga) (lo := 0) (m := 1) (x := (resT oo)) (TreeO_at (lo := 0) _ _ _ _ _ ga_19.out (fun _ _ => Nat.zero_le _)) (by omega) (by rw [hCI'.out]; exact hYN.out)).mono ?_
  rintro e m6 ⟨rfl, hbm6⟩
  rw [hCI'.out]
  have bA_20 : Hid (Box m6 w.heap.size [.string (strT x), .slice a0 (kidsOf x).length cap0] 24) := bA_19.out.below hbm6 bA_19.out.lt
  have wa_20 : Hid (TreeO (nwa + 1) m6 [.string (strT (resT oo)), .slice awa (kidsOf (resT oo)).length cwa] (resT oo) fwa) := TreeO_stays _ _ _ _ _ _ (fun x hx => (hbm6).block x (TreeO_lt _ _ _ _ _ wa_19.out x hx)) wa_19.out
  have bwa_20 : Hid (Box m6 w4.heap.size [.string (strT (resT oo)), .slice awa (kidsOf (resT oo)).length cwa] 33) := bwa_19.out.below hbm6 bwa_19.out.lt
  have ga_20 : Hid (TreeO (nga + 1) m6 [.string (strT (resT oo)), .slice aga (kidsOf (resT oo)).length cga] (mkTTree nga (resT oo) 1) fga) := TreeO_stays _ _ _ _ _ _ (fun x hx => (hbm6).block x (TreeO_lt _ _ _ _ _ ga_19.out x hx)) ga_19.out
  have bga_20 : Hid (Box m6 w6.heap.size [.string (strT (resT oo)), .slice aga (kidsOf (resT oo)).length cga] 33) := bga_19.out.below hbm6 bga_19.out.lt
  clear bA_19 wa_19 bwa_19 ga_19 bga_19
  have hB20 : Hid (Below w.heap.size w m6) := hB19.out.trans ((hbm6).mono hB19.out.size)
  have sz20 := (hbm6).size
  clear z19_bA_0 z19_bA_1 z19_bwa_0 z19_bwa_1 z19_bga_0 z19_bga_1
  have z20_bA_0 := bA_20.out.cell 0 rfl
  have z20_bA_1 := bA_20.out.cell 1 rfl
  have z20_bwa_0 := bwa_20.out.cell 0 rfl
  have z20_bwa_1 := bwa_20.out.cell 1 rfl
  have z20_bga_0 := bga_20.out.cell 0 rfl
  have z20_bga_1 := bga_20.out.cell 1 rfl
  clear hbm6
  go_wp2_with fail
  refine ((toT_all (n + 1)).1 _ 0 _ x (hx0.out.below hB20.out) hsm.out).mono ?_
  rintro e u7a ⟨⟨cs7, f7t, rfl, ht7, _, lo7t⟩, hba7⟩
  have rg_x7t : Hid (∀ b ∈ f7t, m6.heap.size ≤ b ∧ b < u7a.heap.size) := fun b q => ⟨by have := lo7t b q; omega, TreeO_lt _ _ _ _ _ ht7 b q⟩
  obtain ⟨kk7, rfl, ss7, _⟩ := ht7.opened
  obtain ⟨at7, ct7, rfl⟩ := ss7.form
  have hto7 : Hid (TreeO (n + 1) u7a [.string (strT x), .slice at7 (kidsOf x).length ct7] x f7t) := ht7
  clear ht7 ss7 lo7t
  have bA_21 : Hid (Box u7a w.heap.size [.string (strT x), .slice a0 (kidsOf x).length cap0] 24) := bA_20.out.below hba7 bA_20.out.lt
  have wa_21 : Hid (TreeO (nwa + 1) u7a [.string (strT (resT oo)), .slice awa (kidsOf (resT oo)).length cwa] (resT oo) fwa) := TreeO_stays _ _ _ _ _ _ (fun x hx => (hba7).block x (TreeO_lt _ _ _ _ _ wa_20.out x hx)) wa_20.out
  have bwa_21 : Hid (Box u7a w4.heap.size [.string (strT (resT oo)), .slice awa (kidsOf (resT oo)).length cwa] 33) := bwa_20.out.below hba7 bwa_20.out.lt
  have ga_21 : Hid (TreeO (nga + 1) u7a [.string (strT (resT oo)), .slice aga (kidsOf (resT oo)).length cga] (mkTTree nga (resT oo) 1) fga) := TreeO_stays _ _ _ _ _ _ (fun x hx => (hba7).block x (TreeO_lt _ _ _ _ _ ga_20.out x hx)) ga_20.out
  have bga_21 : Hid (Box u7a w6.heap.size [.string (strT (resT oo)), .slice aga (kidsOf (resT oo)).length cga] 33) := bga_20.out.below hba7 bga_20.out.lt
  clear bA_20 wa_20 bwa_20 ga_20 bga_20
  have hB21 : Hid (Below w.heap.size w u7a) := hB20.out.trans ((hba7).mono hB20.out.size)
  have sz21 := (hba7).size
  clear z20_bA_0 z20_bA_1 z20_bwa_0 z20_bwa_1 z20_bga_0 z20_bga_1
  have z21_bA_0 := bA_21.out.cell 0 rfl
  have z21_bA_1 := bA_21.out.cell 1 rfl
  have z21_bwa_0 := bwa_21.out.cell 0 rfl
  have z21_bwa_1 := bwa_21.out.cell 1 rfl
  have z21_bga_0 := bga_21.out.cell 0 rfl
  have z21_bga_1 := bga_21.out.cell 1 rfl
  have x7t_21 : Hid (TreeO (n + 1) u7a [.string (strT x), .slice at7 (kidsOf x).length ct7] x f7t) := hto7
  clear hto7 hba7
  go_wp2_with fail
  refine (toEditS_own (hl0.out.below (EditL_stays _) hB21.out) hsl.out).mono ?_
  rintro e u7c ⟨⟨kl7, f7s, rfl, hl7, _, lo7s⟩, hbc7⟩
  have rg_x7s : Hid (∀ b ∈ f7s, u7a.heap.size ≤ b ∧ b < u7c.heap.size) := fun b q => ⟨by have := lo7s b q; omega, hl7.lt (EditO_lt _) b q⟩
  have hlo7 : Hid (SeqOwn 5 (EditO (m + 1)) u7c kl7 l f7s) := hl7
  obtain ⟨al7, cl7, rfl⟩ := hl7.form
  clear hl7 lo7s
  have bA_22 : Hid (Box u7c w.heap.size [.string (strT x), .slice a0 (kidsOf x).length cap0] 24) := bA_21.out.below hbc7 bA_21.out.lt
  have wa_22 : Hid (TreeO (nwa + 1) u7c [.string (strT (resT oo)), .slice awa (kidsOf (resT oo)).length cwa] (resT oo) fwa) := TreeO_stays _ _ _ _ _ _ (fun x hx => (hbc7).block x (TreeO_lt _ _ _ _ _ wa_21.out x hx)) wa_21.out
  have bwa_22 : Hid (Box u7c w4.heap.size [.string (strT (resT oo)), .slice awa (kidsOf (resT oo)).length cwa] 33) := bwa_21.out.below hbc7 bwa_21.out.lt
  have ga_22 : Hid (TreeO (nga + 1) u7c [.string (strT (resT oo)), .slice aga (kidsOf (resT oo)).length cga] (mkTTree nga (resT oo) 1) fga) := TreeO_stays _ _ _ _ _ _ (fun x hx => (hbc7).block x (TreeO_lt _ _ _ _ _ ga_21.out x hx)) ga_21.out
  have bga_22 : Hid (Box u7c w6.heap.size [.string (strT (resT oo)), .slice aga (kidsOf (resT oo)).length cga] 33) := bga_21.out.below hbc7 bga_21.out.lt
  have x7t_22 : Hid (TreeO (n + 1) u7c [.string (strT x), .slice at7 (kidsOf x).length ct7] x f7t) := TreeO_stays _ _ _ _ _ _ (fun x hx => (hbc7).block x (TreeO_lt _ _ _ _ _ x7t_21.out x hx)) x7t_21.out
  clear bA_21 wa_21 bwa_21 ga_21 bga_21 x7t_21
  have hB22 : Hid (Below w.heap.size w u7c) := hB21.out.trans ((hbc7).mono hB21.out.size)
  have sz22 := (hbc7).size
  clear z21_bA_0 z21_bA_1 z21_bwa_0 z21_bwa_1 z21_bga_0 z21_bga_1
  have z22_bA_0 := bA_22.out.cell 0 rfl
  have z22_bA_1 := bA_22.out.cell 1 rfl
  have z22_bwa_0 := bwa_22.out.cell 0 rfl
  have z22_bwa_1 := bwa_22.out.cell 1 rfl
  have z22_bga_0 := bga_22.out.cell 0 rfl
  have z22_bga_1 := bga_22.out.cell 1 rfl
  have x7s_22 : Hid (SeqOwn 5 (EditO (m + 1)) u7c (.slice al7 l.length cl7) l f7s) := hlo7
  clear hlo7 hbc7
  go_wp2_with fail
  refine (implEditedAll_any (treeO_ta x7t_22.out) (editsAt x7s_22.out)).mono ?_
  rw [hYS'.out]
  rintro e w10 ⟨csha, fha, nha, rfl, hoha0, ndha, loha, hbha⟩
  have rg_ha : Hid (∀ b ∈ fha, u7c.heap.size ≤ b ∧ b < w10.heap.size) := fun b q => ⟨by have := loha b q; omega, TreeO_lt _ _ _ _ _ hoha0 b q⟩
  obtain ⟨kha, rfl, ss, _⟩ := hoha0.opened
  obtain ⟨aha, cha, rfl⟩ := ss.form
  clear ss
  have hoha : Hid (TreeO (nha + 1) w10 [.string (strT (resT oo)), .slice aha (kidsOf (resT oo)).length cha] (resT oo) fha) := TreeO_mono (by omega) hoha0
  clear hoha0 ndha loha
  have bA_23 : Hid (Box w10 w.heap.size [.string (strT x), .slice a0 (kidsOf x).length cap0] 24) := bA_22.out.below hbha bA_22.out.lt
  have wa_23 : Hid (TreeO (nwa + 1) w10 [.string (strT (resT oo)), .slice awa (kidsOf (resT oo)).length cwa] (resT oo) fwa) := TreeO_stays _ _ _ _ _ _ (fun x hx => (hbha).block x (TreeO_lt _ _ _ _ _ wa_22.out x hx)) wa_22.out
  have bwa_23 : Hid (Box w10 w4.heap.size [.string (strT (resT oo)), .slice awa (kidsOf (resT oo)).length cwa] 33) := bwa_22.out.below hbha bwa_22.out.lt
  have ga_23 : Hid (TreeO (nga + 1) w10 [.string (strT (resT oo)), .slice aga (kidsOf (resT oo)).length cga] (mkTTree nga (resT oo) 1) fga) := TreeO_stays _ _ _ _ _ _ (fun x hx => (hbha).block x (TreeO_lt _ _ _ _ _ ga_22.out x hx)) ga_22.out
  have bga_23 : Hid (Box w10 w6.heap.size [.string (strT (resT oo)), .slice aga (kidsOf (resT oo)).length cga] 33) := bga_22.out.below hbha bga_22.out.lt
  have x7t_23 : Hid (TreeO (n + 1) w10 [.string (strT x), .slice at7 (kidsOf x).length ct7] x f7t) := TreeO_stays _ _ _ _ _ _ (fun x hx => (hbha).block x (TreeO_lt _ _ _ _ _ x7t_22.out x hx)) x7t_22.out
  have x7s_23 : Hid (SeqOwn 5 (EditO (m + 1)) w10 (.slice al7 l.length cl7) l f7s) := SeqOwn.stays (EditO_stays _) x7s_22.out (fun x hx => (hbha).block x (SeqOwn.lt (EditO_lt _) x7s_22.out x hx))
  clear bA_22 wa_22 bwa_22 ga_22 bga_22 x7t_22 x7s_22
  have hB23 : Hid (Below w.heap.size w w10) := hB22.out.trans ((hbha).mono hB22.out.size)
  have sz23 := (hbha).size
  clear z22_bA_0 z22_bA_1 z22_bwa_0 z22_bwa_1 z22_bga_0 z22_bga_1
  have z23_bA_0 := bA_23.out.cell 0 rfl
  have z23_bA_1 := bA_23.out.cell 1 rfl
  have z23_bwa_0 := bwa_23.out.cell 0 rfl
  have z23_bwa_1 := bwa_23.out.cell 1 rfl
  have z23_bga_0 := bga_23.out.cell 0 rfl
  have z23_bga_1 := bga_23.out.cell 1 rfl
  clear hbha
  have ha_23 : Hid (TreeO (nha + 1) w10 [.string (strT (resT oo)), .slice aha (kidsOf (resT oo)).length cha] (resT oo) fha) := hoha
  clear hoha
  have hbgha : Below w10.heap.size w10 (w10.alloc (.cells (List.toArray [.string (strT (resT oo)), .slice aha (kidsOf (resT oo)).length cha]) 33)) := (Below.refl _ _).alloc (Nat.le_refl _) _
  have bA_24 : Hid (Box (w10.alloc (.cells (List.toArray [.string (strT (resT oo)), .slice aha (kidsOf (resT oo)).length cha]) 33)) w.heap.size [.string (strT x), .slice a0 (kidsOf x).length cap0] 24) := bA_23.out.below hbgha bA_23.out.lt
  have wa_24 : Hid (TreeO (nwa + 1) (w10.alloc (.cells (List.toArray [.string (strT (resT oo)), .slice aha (kidsOf (resT oo)).length cha]) 33)) [.string (strT (resT oo)), .slice awa (kidsOf (resT oo)).length cwa] (resT oo) fwa) := TreeO_stays _ _ _ _ _ _ (fun x hx => (hbgha).block x (TreeO_lt _ _ _ _ _ wa_23.out x hx)) wa_23.out
  have bwa_24 : Hid (Box (w10.alloc (.cells (List.toArray [.string (strT (resT oo)), .slice aha (kidsOf (resT oo)).length cha]) 33)) w4.heap.size [.string (strT (resT oo)), .slice awa (kidsOf (resT oo)).length cwa] 33) := bwa_23.out.below hbgha bwa_23.out.lt
  have ga_24 : Hid (TreeO (nga + 1) (w10.alloc (.cells (List.toArray [.string (strT (resT oo)), .slice aha (kidsOf (resT oo)).length cha]) 33)) [.string (strT (resT oo)), .slice aga (kidsOf (resT oo)).length cga] (mkTTree nga (resT oo) 1) fga) := TreeO_stays _ _ _ _ _ _ (fun x hx => (hbgha).block x (TreeO_lt _ _ _ _ _ ga_23.out x hx)) ga_23.out
  have bga_24 : Hid (Box (w10.alloc (.cells (List.toArray [.string (strT (resT oo)), .slice aha (kidsOf (resT oo)).length cha]) 33)) w6.heap.size [.string (strT (resT oo)), .slice aga (kidsOf (resT oo)).length cga] 33) := bga_23.out.below hbgha bga_23.out.lt
  have x7t_24 : Hid (TreeO (n + 1) (w10.alloc (.cells (List.toArray [.string (strT (resT oo)), .slice aha (kidsOf (resT oo)).length cha]) 33)) [.string (strT x), .slice at7 (kidsOf x).length ct7] x f7t) := TreeO_stays _ _ _ _ _ _ (fun x hx => (hbgha).block x (TreeO_lt _ _ _ _ _ x7t_23.out x hx)) x7t_23.out
  have x7s_24 : Hid (SeqOwn 5 (EditO (m + 1)) (w10.alloc (.cells (List.toArray [.string (strT (resT oo)), .slice aha (kidsOf (resT oo)).length cha]) 33)) (.slice al7 l.length cl7) l f7s) := SeqOwn.stays (EditO_stays _) x7s_23.out (fun x hx => (hbgha).block x (SeqOwn.lt (EditO_lt _) x7s_23.out x hx))
  have ha_24 : Hid (TreeO (nha + 1) (w10.alloc (.cells (List.toArray [.string (strT (resT oo)), .slice aha (kidsOf (resT oo)).length cha]) 33)) [.string (strT (resT oo)), .slice aha (kidsOf (resT oo)).length cha] (resT oo) fha) := TreeO_stays _ _ _ _ _ _ (fun x hx => (hbgha).block x (TreeO_lt _ _ _ _ _ ha_23.out x hx)) ha_23.out
  clear bA_23 wa_23 bwa_23 ga_23 bga_23 x7t_23 x7s_23 ha_23
  have hB24 : Hid (Below w.heap.size w (w10.alloc (.cells (List.toArray [.string (strT (resT oo)), .slice aha (kidsOf (resT oo)).length cha]) 33))) := hB23.out.trans ((hbgha).mono hB23.out.size)
  have sz24 := (hbgha).size
  simp only [World.size_alloc] at sz24
  clear z23_bA_0 z23_bA_1 z23_bwa_0 z23_bwa_1 z23_bga_0 z23_bga_1
  have z24_bA_0 := bA_24.out.cell 0 rfl
  have z24_bA_1 := bA_24.out.cell 1 rfl
  have z24_bwa_0 := bwa_24.out.cell 0 rfl
  have z24_bwa_1 := bwa_24.out.cell 1 rfl
  have z24_bga_0 := bga_24.out.cell 0 rfl
  have z24_bga_1 := bga_24.out.cell 1 rfl
  have bha_24 : Hid (Box (w10.alloc (.cells (List.toArray [.string (strT (resT oo)), .slice aha (kidsOf (resT oo)).length cha]) 33)) w10.heap.size [.string (strT (resT oo)), .slice aha (kidsOf (resT oo)).length cha] 33) := Box.new w10 _ _
  have z24_bha_0 := bha_24.out.cell 0 rfl
  have z24_bha_1 := bha_24.out.cell 1 rfl
  clear hbgha
  clear x7t_24
  clear x7s_24
  go_wp2_with fail
  refine (eqTree_two (TreeO_at (lo := 0) _ _ _ _ _ ha_24.out (fun _ _ => Nat.zero_le _)) (TreeO_at (lo := 0) _ _ _ _ _ wa_24.out (fun _ _ => Nat.zero_le _))).mono ?_
  rintro e w12 ⟨rfl, hbw12⟩
  have bA_25 : Hid (Box w12 w.heap.size [.string (strT x), .slice a0 (kidsOf x).length cap0] 24) := bA_24.out.below hbw12 bA_24.out.lt
  have wa_25 : Hid (TreeO (nwa + 1) w12 [.string (strT (resT oo)), .slice awa (kidsOf (resT oo)).length cwa] (resT oo) fwa) := TreeO_stays _ _ _ _ _ _ (fun x hx => (hbw12).block x (TreeO_lt _ _ _ _ _ wa_24.out x hx)) wa_24.out
  have bwa_25 : Hid (Box w12 w4.heap.size [.string (strT (resT oo)), .slice awa (kidsOf (resT oo)).length cwa] 33) := bwa_24.out.below hbw12 bwa_24.out.lt
  have ga_25 : Hid (TreeO (nga + 1) w12 [.string (strT (resT oo)), .slice aga (kidsOf (resT oo)).length cga] (mkTTree nga (resT oo) 1) fga) := TreeO_stays _ _ _ _ _ _ (fun x hx => (hbw12).block x (TreeO_lt _ _ _ _ _ ga_24.out x hx)) ga_24.out
  have bga_25 : Hid (Box w12 w6.heap.size [.string (strT (resT oo)), .slice aga (kidsOf (resT oo)).length cga] 33) := bga_24.out.below hbw12 bga_24.out.lt
  have ha_25 : Hid (TreeO (nha + 1) w12 [.string (strT (resT oo)), .slice aha (kidsOf (resT oo)).length cha] (resT oo) fha) := TreeO_stays _ _ _ _ _ _ (fun x hx => (hbw12).block x (TreeO_lt _ _ _ _ _ ha_24.out x hx)) ha_24.out
  have bha_25 : Hid (Box w12 w10.heap.size [.string (strT (resT oo)), .slice aha (kidsOf (resT oo)).length cha] 33) := bha_24.out.below hbw12 bha_24.out.lt
  clear bA_24 wa_24 bwa_24 ga_24 bga_24 ha_24 bha_24
  have hB25 : Hid (Below w.heap.size w w12) := hB24.out.trans ((hbw12).mono hB24.out.size)
  have sz25 := (hbw12).size
  simp only [World.size_alloc] at sz25
  clear z24_bA_0 z24_bA_1 z24_bwa_0 z24_bwa_1 z24_bga_0 z24_bga_1 z24_bha_0 z24_bha_1
  have z25_bA_0 := bA_25.out.cell 0 rfl
  have z25_bA_1 := bA_25.out.cell 1 rfl
  have z25_bwa_0 := bwa_25.out.cell 0 rfl
  have z25_bwa_1 := bwa_25.out.cell 1 rfl
  have z25_bga_0 := bga_25.out.cell 0 rfl
  have z25_bga_1 := bga_25.out.cell 1 rfl
  have z25_bha_0 := bha_25.out.cell 0 rfl
  have z25_bha_1 := bha_25.out.cell 1 rfl
  clear hbw12
  go_wp2_with fail
  refine (heldTree_any (n := nga) (lo := 0) (m := 1) (x := (resT oo)) (TreeO_at (lo := 0) _ _ _ _ _ ga_25.out (fun _ _ => Nat.zero_le _)) (by omega) (by rw [hCI'.out]; exact hYN.out)).mono ?_
  rintro e w13 ⟨rfl, hbw13⟩
  rw [hCI'.out]
  have bA_26 : Hid (Box w13 w.heap.size [.string (strT x), .slice a0 (kidsOf x).length cap0] 24) := bA_25.out.below hbw13 bA_25.out.lt
  have wa_26 : Hid (TreeO (nwa + 1) w13 [.string (strT (resT oo)), .slice awa (kidsOf (resT oo)).length cwa] (resT oo) fwa) := TreeO_stays _ _ _ _ _ _ (fun x hx => (hbw13).block x (TreeO_lt _ _ _ _ _ wa_25.out x hx)) wa_25.out
  have bwa_26 : Hid (Box w13 w4.heap.size [.string (strT (resT oo)), .slice awa (kidsOf (resT oo)).length cwa] 33) := bwa_25.out.below hbw13 bwa_25.out.lt
  have ga_26 : Hid (TreeO (nga + 1) w13 [.string (strT (resT oo)), .slice aga (kidsOf (resT oo)).length cga] (mkTTree nga (resT oo) 1) fga) := TreeO_stays _ _ _ _ _ _ (fun x hx => (hbw13).block x (TreeO_lt _ _ _ _ _ ga_25.out x hx)) ga_25.out
  have bga_26 : Hid (Box w13 w6.heap.size [.string (strT (resT oo)), .slice aga (kidsOf (resT oo)).length cga] 33) := bga_25.out.below hbw13 bga_25.out.lt
  have ha_26 : Hid (TreeO (nha + 1) w13 [.string (strT (resT oo)), .slice aha (kidsOf (resT oo)).length cha] (resT oo) fha) := TreeO_stays _ _ _ _ _ _ (fun x hx => (hbw13).block x (TreeO_lt _ _ _ _ _ ha_25.out x hx)) ha_25.out
  have bha_26 : Hid (Box w13 w10.heap.size [.string (strT (resT oo)), .slice aha (kidsOf (resT oo)).length cha] 33) := bha_25.out.below hbw13 bha_25.out.lt
  clear bA_25 wa_25 bwa_25 ga_25 bga_25 ha_25 bha_25
  have hB26 : Hid (Below w.heap.size w w13) := hB25.out.trans ((hbw13).mono hB25.out.size)
  have sz26 := (hbw13).size
  clear z25_bA_0 z25_bA_1 z25_bwa_0 z25_bwa_1 z25_bga_0 z25_bga_1 z25_bha_0 z25_bha_1
  have z26_bA_0 := bA_26.out.cell 0 rfl
  have z26_bA_1 := bA_26.out.cell 1 rfl
  have z26_bwa_0 := bwa_26.out.cell 0 rfl
  have z26_bwa_1 := bwa_26.out.cell 1 rfl
  have z26_bga_0 := bga_26.out.cell 0 rfl
  have z26_bga_1 := bga_26.out.cell 1 rfl
  have z26_bha_0 := bha_26.out.cell 0 rfl
  have z26_bha_1 := bha_26.out.cell 1 rfl
  clear hbw13
  go_wp2_with fail
  go_ret
  exact ⟨rfl, hB26.out⟩
/-! The row -/
set_option maxRecDepth 100000 in
theorem lifted (os : Os) (started : os.Started) (H : Type) (enc : TypeId × Value → H) :
    ReturnsInHanded {} Try.checked os 5 .any (Rows.fnExactEditedAllSpec.pre6 enc Try.prog Try.f5 Rows.fnExactEditedAllRow.domain false) (Rows.fnExactEditedAllSpec.post enc Try.prog Try.f5 false true false false) := by
  refine returnsInHanded_of_change (C := Try.checked) own started (by kernel_rfl) Try.func5
    (ChangeSpec.witness6 (enc := enc) (C := Try.checked) false ⟨#[], #[.agg #[.string ByteArray.empty, .slice none 0 0], .slice none 0 0], []⟩ 8 (by kernel_rfl) (by kernel_rfl) (by kernel_rfl) (by kernel_rfl)) ?_
  intro W base args ds gs before hval0 hW hcnd _
  have hval : ∀ (j : Nat) t v, Try.f5.params[j]? = some t → args[j]? = some v → Value.okWide Try.prog W .any base t v := hval0
  have hW' := hW
  obtain ⟨p, q, hA0, hV, rfl, hfz, hnd⟩ := hW
  have hA : DataW.TrodAll enc Try.prog W 0 (fun _ => true) true Try.f5.params.toList args.toList ds p := hA0
  rw [Try.params5] at hA hval
  obtain ⟨v0, vs0, d0, ds0, p0, q0, hargs, rfl, rfl, h0, r0⟩ := trodAll_cons hA
  obtain ⟨v1, vs1, d1, ds1, p1, q1, rfl, rfl, rfl, h1, r1⟩ := trodAll_cons r0
  obtain ⟨rfl, rfl, rfl⟩ := trodAll_nil r1
  obtain rfl : args = #[v0, v1] := by cases args; simp_all
  obtain ⟨rfl, rfl⟩ := trodVars_none hV
  have k0 := h0
  have lt0 : ∀ x ∈ p0, x.block < W.heap.size := by obtain ⟨m, hm⟩ := k0; exact DataW.trod_lt m _ _ _ hm
  obtain ⟨cs0, rfl, _⟩ := okWide_struct Try.underlying24 (hval 0 24 v0 rfl rfl)
  obtain ⟨fuel0, hf0⟩ := h0
  obtain ⟨x0, hx0⟩ := TreeL_of_trod fuel0 _ _ hf0
  have hcs0 : (Value.agg cs0).cells = cs0 := rfl
  rw [hcs0] at hx0
  have k1 := h1
  have lt1 : ∀ x ∈ p1, x.block < W.heap.size := by obtain ⟨m, hm⟩ := k1; exact DataW.trod_lt m _ _ _ hm
  obtain ⟨fuel1, hf1⟩ := h1
  obtain ⟨kk1, x1, hk1, hx1⟩ := edits_of_trod hf1
  obtain ⟨_, _, _, rfl⟩ := okWide_slice Try.underlying45 (hval 1 45 v1 rfl rfl)
  injection hk1 with hk1 _
  subst hk1
  clear hA0 hval0
  have hwk := walk hx0 hx1
  rw [Array.toArray_toList] at hwk
  refine hwk.mono fun e W' ⟨he, bel⟩ => ?_
  subst he
  exact ⟨_, rfl, _, _, _, [], _, [], hW', trodAll_mk1 (shut_bool Try.underlying4 _), (trodAll_cons_mk (Below.trod laidOut (by kernel_rfl) (of_decide_eq_true (by kernel_rfl)) k0 bel lt0) (trodAll_cons_mk (Below.trod laidOut (by kernel_rfl) (of_decide_eq_true (by kernel_rfl)) k1 bel lt1) trodAll_mk0)), rfl, bel.frame _, fun h => by cases h⟩
theorem over : Rows.fnExactEditedAllRow.holds Try.pinned (OpenSpec.ofChange Rows.fnExactEditedAllSpec) :=
  OpenClaim.holds_of_wide 5 Try.f5 rfl rfl rfl rfl rfl rfl rfl ⟨rfl, rfl, rfl, rfl, rfl⟩ rfl rfl rfl rfl rfl (by kernel_rfl) Try.func5 (by kernel_rfl)
    (of_decide_eq_true (by kernel_rfl)) (by unfold Func.isWrapper; first | (rw [if_pos (by decide +kernel)]; kernel_rfl) | (rw [if_neg (by decide +kernel)]; exact ⟨rfl, rfl⟩))
    (fun os started H enc _ => lifted os started H enc)
end Go.Proofs.Ytfncmndgdomjiaa.fnExactEditedAll
namespace Go.Proofs.Ytfncmndgdomjiaa
theorem fnExactEditedAll_holds : Rows.FnExactEditedAllSaid := fnExactEditedAll.over
end Go.Proofs.Ytfncmndgdomjiaa
