/- At every tree, path and list of steps Matches answers as its specification and writes into no argument. No condition. -/
import Derived.Test.YtldecaccionigaaMatchTop
import Derived.Test.YtldecaccionigaaMatchSpecC
import Derived.Test.YtldecaccionigaaTreeTrod
import Derived.Test.YtldecaccionigaaTreeSz
import Derived.Test.YtldecaccionigaaTreeTo
import Derived.Test.YtldecaccionigaaTreeEq
import Derived.Test.YtldecaccionigaaStSz
import Derived.Test.YtldecaccionigaaStTo
import Derived.Test.YtldecaccionigaaStEq
import Derived.ProofKit
import Derived.OpenShut
import Derived.ShutString
import Derived.ChangeOld
import Derived.Below
import Derived.Laws.Cover1
namespace Go.Proofs.Ytldecaccionigaa.fnExactMatches
open Go.ChangeShapes Go.WideShapes Go.ChangeAt Go.RowKit
theorem own : ownKnob Try.prog.godebug = none := by kernel_rfl
theorem laidOut : laidOutB Try.prog = true := by kernel_rfl
set_option maxRecDepth 100000 in
set_option maxHeartbeats 6400000 in
theorem walk {n : Nat} {w : World} {cs : List Value} {x : TD} {kp kl : Value} {path : List Int} {l : List StepD} (hx : TreeL n w 0 cs x) (hp : SeqAt 1 IntAt w 0 kp path) (hl : SeqAt 2 StepAt w 0 kl l) :
    Calls Try.prog 7 #[.agg cs.toArray, kp, kl] w fun e w' => e = .returned (.bool true) ∧ Below w.heap.size w w' := by
  have hx0 : Hid (TreeL n w 0 cs x) := hx
  have hp0 : Hid (SeqAt 1 IntAt w 0 kp path) := hp
  have hl0 : Hid (SeqAt 2 StepAt w 0 kl l) := hl
  obtain ⟨k1, rfl, s1, _⟩ := hx.opened
  obtain ⟨a0, cap0, rfl⟩ := s1.form
  obtain ⟨ap, capp, rfl, hpm, _⟩ := hp
  obtain ⟨al, capl, rfl⟩ := hl.form
  clear hx hl s1
  unfold maxLen at hpm
  have hB0 : Hid (Below w.heap.size w (w.alloc (.cells (List.toArray [.string (strT x), .slice a0 (kidsOf x).length cap0]) 32))) := (Below.refl _ _).alloc (Nat.le_refl _) _
  have bA_0 : Hid (Box (w.alloc (.cells (List.toArray [.string (strT x), .slice a0 (kidsOf x).length cap0]) 32)) w.heap.size [.string (strT x), .slice a0 (kidsOf x).length cap0] 32) := Box.new w _ _
  have z0_bA_0 := bA_0.out.cell 0 rfl
  have z0_bA_1 := bA_0.out.cell 1 rfl
  go_enter Try.func7, Try.ntmps7
  by_cases hbig : 1048576 < path.length
  · have hbig' : (1048576 : Int) < (path.length : Int) := by omega
    go_wp2_with fail
    go_ret
    exact ⟨rfl, hB0.out⟩
  have hpl : path.length ≤ 1048576 := by omega
  have hbig' : ¬ (1048576 : Int) < (path.length : Int) := by omega
  clear hbig
  go_wp2_with fail
  refine ((szT_all n).1 _ 0 _ x _ (hx0.out.below hB0.out) (by omega) (by omega)).mono ?_
  rintro e w1 ⟨⟨r, rfl, hr1, hr2, hsm⟩, hb1⟩
  have hsm' : Hid (r < 0 ∨ (SmallO n x ∧ r + (belowN n x : Int) ≤ 1048576)) := hsm
  clear hsm
  have bA_1 : Hid (Box w1 w.heap.size [.string (strT x), .slice a0 (kidsOf x).length cap0] 32) := bA_0.out.below hb1 bA_0.out.lt
  clear bA_0
  have hB1 : Hid (Below w.heap.size w w1) := hB0.out.trans ((hb1).mono hB0.out.size)
  have sz1 := (hb1).size
  clear z0_bA_0 z0_bA_1
  have z1_bA_0 := bA_1.out.cell 0 rfl
  have z1_bA_1 := bA_1.out.cell 1 rfl
  clear hb1
  by_cases hneg : r < 0
  · go_wp2_with fail
    go_ret
    exact ⟨rfl, hB1.out⟩
  have hsm : Hid (SmallO n x) := (hsm'.out.resolve_left hneg).1
  clear hsm'
  go_wp2_with fail
  refine (szStepS_any (hl0.out.below StepAt_stays hB1.out) (by omega) (by omega)).mono ?_
  rintro e w2 ⟨⟨r2, rfl, hr3, hr4, hsl⟩, hb2⟩
  have hsl' : Hid (r2 < 0 ∨ AllS StepD.small l) := hsl
  clear hsl
  have bA_2 : Hid (Box w2 w.heap.size [.string (strT x), .slice a0 (kidsOf x).length cap0] 32) := bA_1.out.below hb2 bA_1.out.lt
  clear bA_1
  have hB2 : Hid (Below w.heap.size w w2) := hB1.out.trans ((hb2).mono hB1.out.size)
  have sz2 := (hb2).size
  clear z1_bA_0 z1_bA_1
  have z2_bA_0 := bA_2.out.cell 0 rfl
  have z2_bA_1 := bA_2.out.cell 1 rfl
  clear hb2
  by_cases hneg2 : r2 < 0
  · go_wp2_with fail
    go_ret
    exact ⟨rfl, hB2.out⟩
  have hsl : Hid (AllS StepD.small l) := hsl'.out.resolve_left hneg2
  clear hsl'
  go_wp2_with fail
  refine ((toT_all n).1 _ 0 _ x (hx0.out.below hB2.out) hsm.out).mono ?_
  rintro e w3a ⟨⟨cs3, fs3, rfl, ht3, _, _⟩, hba3⟩
  have lt3a : Hid (TreeL n w3a 0 cs3 x) := TreeO_at n _ _ _ _ ht3 (fun _ _ => Nat.zero_le _)
  obtain ⟨kk3, rfl, ss3, _⟩ := lt3a.out.opened
  obtain ⟨at3, ct3, rfl⟩ := ss3.form
  clear ht3 ss3
  have bA_3 : Hid (Box w3a w.heap.size [.string (strT x), .slice a0 (kidsOf x).length cap0] 32) := bA_2.out.below hba3 bA_2.out.lt
  clear bA_2
  have hB3 : Hid (Below w.heap.size w w3a) := hB2.out.trans ((hba3).mono hB2.out.size)
  have sz3 := (hba3).size
  clear z2_bA_0 z2_bA_1
  have z3_bA_0 := bA_3.out.cell 0 rfl
  have z3_bA_1 := bA_3.out.cell 1 rfl
  go_wp2_with fail
  refine (toInt64S_any (hp0.out.below intAt_stays hB3.out) hpl).mono ?_
  rintro e w3b ⟨⟨kp3, rfl, hp3⟩, hbb3⟩
  have lt3b : Hid (TreeL n w3b 0 [.string (strT x), .slice at3 (kidsOf x).length ct3] x) := lt3a.out.below hbb3
  have hp3' : Hid (SeqAt 1 IntAt w3b w3a.heap.size kp3 path) := hp3
  clear lt3a hp3
  have bA_4 : Hid (Box w3b w.heap.size [.string (strT x), .slice a0 (kidsOf x).length cap0] 32) := bA_3.out.below hbb3 bA_3.out.lt
  clear bA_3
  have hB4 : Hid (Below w.heap.size w w3b) := hB3.out.trans ((hbb3).mono hB3.out.size)
  have sz4 := (hbb3).size
  clear z3_bA_0 z3_bA_1
  have z4_bA_0 := bA_4.out.cell 0 rfl
  have z4_bA_1 := bA_4.out.cell 1 rfl
  clear hbb3 hba3
  go_wp2_with fail
  refine (toStepS_any (hl0.out.below StepAt_stays hB4.out) hsl.out).mono ?_
  rintro e w3c ⟨⟨kl3, rfl, hl3⟩, hbc3⟩
  have lt3c : Hid (TreeL n w3c 0 [.string (strT x), .slice at3 (kidsOf x).length ct3] x) := lt3b.out.below hbc3
  have hp3c : Hid (SeqAt 1 IntAt w3c w3a.heap.size kp3 path) := hp3'.out.below intAt_stays hbc3
  have hl3' : Hid (SeqAt 2 StepAt w3c w3b.heap.size kl3 l) := hl3
  clear lt3b hp3' hl3
  have bA_5 : Hid (Box w3c w.heap.size [.string (strT x), .slice a0 (kidsOf x).length cap0] 32) := bA_4.out.below hbc3 bA_4.out.lt
  clear bA_4
  have hB5 : Hid (Below w.heap.size w w3c) := hB4.out.trans ((hbc3).mono hB4.out.size)
  have sz5 := (hbc3).size
  clear z4_bA_0 z4_bA_1
  have z5_bA_0 := bA_5.out.cell 0 rfl
  have z5_bA_1 := bA_5.out.cell 1 rfl
  clear hbc3
  go_wp2_with fail
  refine (specMatches_any (TreeL.at n _ _ _ lt3c.out) hp3c.out hl3'.out).mono ?_
  rintro e w4 ⟨rfl, hb4⟩
  clear lt3c hp3c hl3'
  have bA_6 : Hid (Box w4 w.heap.size [.string (strT x), .slice a0 (kidsOf x).length cap0] 32) := bA_5.out.below hb4 bA_5.out.lt
  clear bA_5
  have hB6 : Hid (Below w.heap.size w w4) := hB5.out.trans ((hb4).mono hB5.out.size)
  have sz6 := (hb4).size
  clear z5_bA_0 z5_bA_1
  have z6_bA_0 := bA_6.out.cell 0 rfl
  have z6_bA_1 := bA_6.out.cell 1 rfl
  clear hb4
  generalize hRES : matchD (okB (szD n x 30)) x path l = res
  have HRES : Hid (matchD (okB (szD n x 30)) x path l = res) := hRES
  clear hRES
  go_wp2_with fail
  refine ((toT_all n).1 _ 0 _ x (hx0.out.below hB6.out) hsm.out).mono ?_
  rintro e w5a ⟨⟨cs5, fs5, rfl, ht5, _, _⟩, hba5⟩
  have lt5a : Hid (TreeL n w5a 0 cs5 x) := TreeO_at n _ _ _ _ ht5 (fun _ _ => Nat.zero_le _)
  obtain ⟨kk5, rfl, ss5, _⟩ := lt5a.out.opened
  obtain ⟨at5, ct5, rfl⟩ := ss5.form
  clear ht5 ss5
  have bA_7 : Hid (Box w5a w.heap.size [.string (strT x), .slice a0 (kidsOf x).length cap0] 32) := bA_6.out.below hba5 bA_6.out.lt
  clear bA_6
  have hB7 : Hid (Below w.heap.size w w5a) := hB6.out.trans ((hba5).mono hB6.out.size)
  have sz7 := (hba5).size
  clear z6_bA_0 z6_bA_1
  have z7_bA_0 := bA_7.out.cell 0 rfl
  have z7_bA_1 := bA_7.out.cell 1 rfl
  clear hba5
  have hbX : Below w5a.heap.size w5a (w5a.alloc (.cells (List.toArray [.string (strT x), .slice at5 (kidsOf x).length ct5]) 38)) := (Below.refl _ _).alloc (Nat.le_refl _) _
  have lt5x : Hid (TreeL n (w5a.alloc (.cells (List.toArray [.string (strT x), .slice at5 (kidsOf x).length ct5]) 38)) 0 [.string (strT x), .slice at5 (kidsOf x).length ct5] x) := lt5a.out.below hbX
  clear lt5a
  have bA_8 : Hid (Box (w5a.alloc (.cells (List.toArray [.string (strT x), .slice at5 (kidsOf x).length ct5]) 38)) w.heap.size [.string (strT x), .slice a0 (kidsOf x).length cap0] 32) := bA_7.out.below hbX bA_7.out.lt
  clear bA_7
  have hB8 : Hid (Below w.heap.size w (w5a.alloc (.cells (List.toArray [.string (strT x), .slice at5 (kidsOf x).length ct5]) 38))) := hB7.out.trans ((hbX).mono hB7.out.size)
  have sz8 := (hbX).size
  simp only [World.size_alloc] at sz8
  clear z7_bA_0 z7_bA_1
  have z8_bA_0 := bA_8.out.cell 0 rfl
  have z8_bA_1 := bA_8.out.cell 1 rfl
  have bX_8 : Hid (Box (w5a.alloc (.cells (List.toArray [.string (strT x), .slice at5 (kidsOf x).length ct5]) 38)) w5a.heap.size [.string (strT x), .slice at5 (kidsOf x).length ct5] 38) := Box.new w5a _ _
  have z8_bX_0 := bX_8.out.cell 0 rfl
  have z8_bX_1 := bX_8.out.cell 1 rfl
  clear hbX
  go_wp2_with fail
  refine (toInt64S_any (hp0.out.below intAt_stays hB8.out) hpl).mono ?_
  rintro e w5b ⟨⟨kp5, rfl, hp5⟩, hbb5⟩
  have lt5b : Hid (TreeL n w5b 0 [.string (strT x), .slice at5 (kidsOf x).length ct5] x) := lt5x.out.below hbb5
  have hp5' : Hid (SeqAt 1 IntAt w5b 0 kp5 path) := hp5.keep intAt_stays (Kept.lower (Nat.zero_le _))
  clear lt5x hp5
  have bA_9 : Hid (Box w5b w.heap.size [.string (strT x), .slice a0 (kidsOf x).length cap0] 32) := bA_8.out.below hbb5 bA_8.out.lt
  have bX_9 : Hid (Box w5b w5a.heap.size [.string (strT x), .slice at5 (kidsOf x).length ct5] 38) := bX_8.out.below hbb5 bX_8.out.lt
  clear bA_8 bX_8
  have hB9 : Hid (Below w.heap.size w w5b) := hB8.out.trans ((hbb5).mono hB8.out.size)
  have sz9 := (hbb5).size
  clear z8_bA_0 z8_bA_1 z8_bX_0 z8_bX_1
  have z9_bA_0 := bA_9.out.cell 0 rfl
  have z9_bA_1 := bA_9.out.cell 1 rfl
  have z9_bX_0 := bX_9.out.cell 0 rfl
  have z9_bX_1 := bX_9.out.cell 1 rfl
  clear hbb5
  go_wp2_with fail
  refine (toStepS_any (hl0.out.below StepAt_stays hB9.out) hsl.out).mono ?_
  rintro e w5c ⟨⟨kl5, rfl, hl5⟩, hbc5⟩
  have lt5c : Hid (TreeL n w5c 0 [.string (strT x), .slice at5 (kidsOf x).length ct5] x) := lt5b.out.below hbc5
  have hp5c : Hid (SeqAt 1 IntAt w5c 0 kp5 path) := hp5'.out.below intAt_stays hbc5
  have hl5' : Hid (SeqAt 2 StepAt w5c 0 kl5 l) := hl5.keep StepAt_stays (Kept.lower (Nat.zero_le _))
  clear lt5b hp5' hl5
  have bA_10 : Hid (Box w5c w.heap.size [.string (strT x), .slice a0 (kidsOf x).length cap0] 32) := bA_9.out.below hbc5 bA_9.out.lt
  have bX_10 : Hid (Box w5c w5a.heap.size [.string (strT x), .slice at5 (kidsOf x).length ct5] 38) := bX_9.out.below hbc5 bX_9.out.lt
  clear bA_9 bX_9
  have hB10 : Hid (Below w.heap.size w w5c) := hB9.out.trans ((hbc5).mono hB9.out.size)
  have sz10 := (hbc5).size
  clear z9_bA_0 z9_bA_1 z9_bX_0 z9_bX_1
  have z10_bA_0 := bA_10.out.cell 0 rfl
  have z10_bA_1 := bA_10.out.cell 1 rfl
  have z10_bX_0 := bX_10.out.cell 0 rfl
  have z10_bX_1 := bX_10.out.cell 1 rfl
  clear hbc5
  go_wp2_with fail
  refine (implMatches_any (TreeL.at n _ _ _ lt5c.out) hp5c.out hpl hl5'.out).mono ?_
  rintro e w6 ⟨rfl, hb6⟩
  rw [HRES.out]
  have lt6 : Hid (TreeL n w6 0 [.string (strT x), .slice at5 (kidsOf x).length ct5] x) := lt5c.out.below hb6
  have hp6 : Hid (SeqAt 1 IntAt w6 0 kp5 path) := hp5c.out.below intAt_stays hb6
  have hl6 : Hid (SeqAt 2 StepAt w6 0 kl5 l) := hl5'.out.below StepAt_stays hb6
  clear lt5c hp5c hl5'
  have bA_11 : Hid (Box w6 w.heap.size [.string (strT x), .slice a0 (kidsOf x).length cap0] 32) := bA_10.out.below hb6 bA_10.out.lt
  have bX_11 : Hid (Box w6 w5a.heap.size [.string (strT x), .slice at5 (kidsOf x).length ct5] 38) := bX_10.out.below hb6 bX_10.out.lt
  clear bA_10 bX_10
  have hB11 : Hid (Below w.heap.size w w6) := hB10.out.trans ((hb6).mono hB10.out.size)
  have sz11 := (hb6).size
  clear z10_bA_0 z10_bA_1 z10_bX_0 z10_bX_1
  have z11_bA_0 := bA_11.out.cell 0 rfl
  have z11_bA_1 := bA_11.out.cell 1 rfl
  have z11_bX_0 := bX_11.out.cell 0 rfl
  have z11_bX_1 := bX_11.out.cell 1 rfl
  clear hb6
  go_wp2_with fail
  have ltA : w.heap.size < w6.heap.size := bA_11.out.lt
  have ltX : w5a.heap.size < w6.heap.size := bX_11.out.lt
  go_region_held3 (fun w' => w'.cell? ⟨w5a.heap.size, 0, none⟩ = some (.string (strT x)) ∧ w'.cell? ⟨w5a.heap.size, 1, none⟩ = some (.slice at5 (kidsOf x).length ct5) ∧ w'.cell? ⟨w.heap.size, 0, none⟩ = some (.string (strT x)) ∧ w'.cell? ⟨w.heap.size, 1, none⟩ = some (.slice a0 (kidsOf x).length cap0)) (go_keep)
    (first | (go_at_call 18; refine ((toT_all n).1 _ 0 _ x (by exact TreeL.below hx0.out hB11.out.drew) hsm.out).mono ?_; rintro e w7 ⟨⟨cs7, fs7, rfl, ht7, _, _⟩, hb7⟩; have hb7' := undrew hb7; have x7 : Hid (Box w7 w5a.heap.size _ _) := Box.below bX_11.out hb7' ltX; have g7 : Hid (Box w7 w.heap.size _ _) := Box.below bA_11.out hb7' ltA; have y0 := x7.out.cell 0 rfl; have y1 := x7.out.cell 1 rfl; have v0 := g7.out.cell 0 rfl; have v1 := g7.out.cell 1 rfl; have hB7 : Hid (Below w.heap.size w w7) := hB11.out.trans (hb7'.mono hB11.out.size); have lt7 : Hid (TreeL n w7 0 [.string (strT x), .slice at5 (kidsOf x).length ct5] x) := lt6.out.below hb7'; have hp7 : Hid (SeqAt 1 IntAt w7 0 kp5 path) := hp6.out.below intAt_stays hb7'; have hl7 : Hid (SeqAt 2 StepAt w7 0 kl5 l) := hl6.out.below StepAt_stays hb7'; have lt7b : Hid (TreeL n w7 0 cs7 x) := TreeO_at n _ _ _ _ ht7 (fun _ _ => Nat.zero_le _); clear hb7 hb7' ht7) | (go_at_call 21; refine (eqTree_any (by exact lt7.out) (by exact lt7b.out)).mono ?_; rintro e w8 ⟨rfl, hb8⟩; have x8 : Hid (Box w8 w5a.heap.size _ _) := Box.below x7.out hb8 x7.out.lt; have g8 : Hid (Box w8 w.heap.size _ _) := Box.below g7.out hb8 g7.out.lt; have k0 := x8.out.cell 0 rfl; have k1 := x8.out.cell 1 rfl; have j0 := g8.out.cell 0 rfl; have j1 := g8.out.cell 1 rfl; have hB8 : Hid (Below w.heap.size w w8) := hB7.out.trans (hb8.mono hB7.out.size); have hp8 : Hid (SeqAt 1 IntAt w8 0 kp5 path) := hp7.out.below intAt_stays hb8; have hl8 : Hid (SeqAt 2 StepAt w8 0 kl5 l) := hl7.out.below StepAt_stays hb8; clear hb8))
  go_wp2_with fail
  refine (toInt64S_any (hp0.out.below intAt_stays hB8.out) hpl).mono ?_
  rintro e w9 ⟨⟨kp9, rfl, hp9⟩, hb9⟩
  have hB9 : Hid (Below w.heap.size w w9) := hB8.out.trans (hb9.mono hB8.out.size)
  have hp9b : Hid (SeqAt 1 IntAt w9 0 kp5 path) := hp8.out.below intAt_stays hb9
  have hl9 : Hid (SeqAt 2 StepAt w9 0 kl5 l) := hl8.out.below StepAt_stays hb9
  go_wp2_with fail
  refine (eqInt64S_any hp9b.out hp9).mono ?_
  rintro e w10 ⟨rfl, hb10⟩
  have hB10 : Hid (Below w.heap.size w w10) := hB9.out.trans (hb10.mono hB9.out.size)
  have hl10 : Hid (SeqAt 2 StepAt w10 0 kl5 l) := hl9.out.below StepAt_stays hb10
  go_wp2_with fail
  refine (toStepS_any (hl0.out.below StepAt_stays hB10.out) hsl.out).mono ?_
  rintro e w11 ⟨⟨kl11, rfl, hl11⟩, hb11⟩
  have hB11 : Hid (Below w.heap.size w w11) := hB10.out.trans (hb11.mono hB10.out.size)
  have hl11b : Hid (SeqAt 2 StepAt w11 0 kl5 l) := hl10.out.below StepAt_stays hb11
  go_wp2_with fail
  refine (eqStepS_any hl11b.out hl11).mono ?_
  rintro e w12 ⟨rfl, hb12⟩
  have hB12 : Hid (Below w.heap.size w w12) := hB11.out.trans (hb12.mono hB11.out.size)
  go_wp2_with fail
  go_ret
  exact ⟨rfl, hB12.out⟩
/-! The row -/
set_option maxRecDepth 100000 in
theorem lifted (os : Os) (started : os.Started) (H : Type) (enc : TypeId × Value → H) :
    ReturnsInHanded {} Try.checked os 7 .any (Rows.fnExactMatchesSpec.pre6 enc Try.prog Try.f7 Rows.fnExactMatchesRow.domain false) (Rows.fnExactMatchesSpec.post enc Try.prog Try.f7 false true false false) := by
  refine returnsInHanded_of_change (C := Try.checked) own started (by kernel_rfl) Try.func7
    (ChangeSpec.witness6 (enc := enc) (C := Try.checked) false ⟨#[], #[.agg #[.string ByteArray.empty, .slice none 0 0], .slice none 0 0, .slice none 0 0], []⟩ 8 (by kernel_rfl) (by kernel_rfl) (by kernel_rfl) (by kernel_rfl)) ?_
  intro W base args ds gs before hval0 hW hcnd _
  have hval : ∀ (j : Nat) t v, Try.f7.params[j]? = some t → args[j]? = some v → Value.okWide Try.prog W .any base t v := hval0
  have hW' := hW
  obtain ⟨p, q, hA0, hV, rfl, hfz, hnd⟩ := hW
  have hA : DataW.TrodAll enc Try.prog W 0 (fun _ => true) true Try.f7.params.toList args.toList ds p := hA0
  rw [Try.params7] at hA hval
  obtain ⟨v0, vs0, d0, ds0, p0, q0, hargs, rfl, rfl, h0, r0⟩ := trodAll_cons hA
  obtain ⟨v1, vs1, d1, ds1, p1, q1, rfl, rfl, rfl, h1, r1⟩ := trodAll_cons r0
  obtain ⟨v2, vs2, d2, ds2, p2, q2, rfl, rfl, rfl, h2, r2⟩ := trodAll_cons r1
  obtain ⟨rfl, rfl, rfl⟩ := trodAll_nil r2
  obtain rfl : args = #[v0, v1, v2] := by cases args; simp_all
  obtain ⟨rfl, rfl⟩ := trodVars_none hV
  have k0 := h0
  have lt0 : ∀ x ∈ p0, x.block < W.heap.size := by obtain ⟨m, hm⟩ := k0; exact DataW.trod_lt m _ _ _ hm
  obtain ⟨cs0, rfl, _⟩ := okWide_struct Try.underlying32 (hval 0 32 v0 rfl rfl)
  obtain ⟨fuel0, hf0⟩ := h0
  obtain ⟨x0, hx0⟩ := TreeL_of_trod fuel0 _ _ hf0
  have hcs0 : (Value.agg cs0).cells = cs0 := rfl
  rw [hcs0] at hx0
  have k1 := h1
  have lt1 : ∀ x ∈ p1, x.block < W.heap.size := by obtain ⟨m, hm⟩ := k1; exact DataW.trod_lt m _ _ _ hm
  obtain ⟨fuel1, hf1⟩ := h1
  obtain ⟨kk1, x1, hk1, hx1⟩ := seqAt_of_trod (R := IntAt) Try.underlying45 (show Try.prog.cellsOf 2 = 1 from by kernel_rfl) (by decide) intAt_of_trod hf1
  obtain ⟨_, _, _, rfl⟩ := okWide_slice Try.underlying45 (hval 1 45 v1 rfl rfl)
  injection hk1 with hk1 _
  subst hk1
  have k2 := h2
  have lt2 : ∀ x ∈ p2, x.block < W.heap.size := by obtain ⟨m, hm⟩ := k2; exact DataW.trod_lt m _ _ _ hm
  obtain ⟨fuel2, hf2⟩ := h2
  obtain ⟨kk2, x2, hk2, hx2⟩ := seqAt_of_trod (R := StepAt) Try.underlying22 (show Try.prog.cellsOf 59 = 2 from by kernel_rfl) (by decide) StepAt_of_trod hf2
  obtain ⟨_, _, _, rfl⟩ := okWide_slice Try.underlying22 (hval 2 22 v2 rfl rfl)
  injection hk2 with hk2 _
  subst hk2
  clear hA0 hval0
  have hwk := walk hx0 hx1 hx2
  rw [Array.toArray_toList] at hwk
  refine hwk.mono fun e W' ⟨he, bel⟩ => ?_
  subst he
  exact ⟨_, rfl, _, _, _, [], _, [], hW', trodAll_mk1 (shut_bool Try.underlying4 _), (trodAll_cons_mk (Below.trod laidOut (by kernel_rfl) (of_decide_eq_true (by kernel_rfl)) k0 bel lt0) (trodAll_cons_mk (Below.trod laidOut (by kernel_rfl) (of_decide_eq_true (by kernel_rfl)) k1 bel lt1) (trodAll_cons_mk (Below.trod laidOut (by kernel_rfl) (of_decide_eq_true (by kernel_rfl)) k2 bel lt2) trodAll_mk0))), rfl, bel.frame _, fun h => by cases h⟩
theorem over : Rows.fnExactMatchesRow.holds Try.pinned (OpenSpec.ofChange Rows.fnExactMatchesSpec) :=
  OpenClaim.holds_of_wide 7 Try.f7 rfl rfl rfl rfl rfl rfl rfl ⟨rfl, rfl, rfl, rfl, rfl⟩ rfl rfl rfl rfl rfl (by kernel_rfl) Try.func7 (by kernel_rfl)
    (of_decide_eq_true (by kernel_rfl)) (by unfold Func.isWrapper; first | (rw [if_pos (by decide +kernel)]; kernel_rfl) | (rw [if_neg (by decide +kernel)]; exact ⟨rfl, rfl⟩))
    (fun os started H enc _ => lifted os started H enc)
end Go.Proofs.Ytldecaccionigaa.fnExactMatches
namespace Go.Proofs.Ytldecaccionigaa
theorem fnExactMatches_holds : Rows.FnExactMatchesSaid := fnExactMatches.over
end Go.Proofs.Ytldecaccionigaa
