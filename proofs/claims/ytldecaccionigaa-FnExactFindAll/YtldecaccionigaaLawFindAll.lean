/- At every tree and list of steps FindAll answers as its specification, writes into no argument, and its answer owns its memory. No condition. -/
import Derived.Test.YtldecaccionigaaTreeTrod
import Derived.Test.YtldecaccionigaaTreeSz
import Derived.Test.YtldecaccionigaaTreeTo
import Derived.Test.YtldecaccionigaaTreeMarks
import Derived.Test.YtldecaccionigaaTreeEq
import Derived.Test.YtldecaccionigaaToOwn
import Derived.Test.YtldecaccionigaaMarkRecs
import Derived.Test.YtldecaccionigaaHeldRecs
import Derived.Test.YtldecaccionigaaStTo
import Derived.Test.YtldecaccionigaaStEq
import Derived.Test.YtldecaccionigaaCntNine
import Derived.Test.YtldecaccionigaaStSz
import Derived.Test.YtldecaccionigaaIntsOwn
import Derived.Test.YtldecaccionigaaFindSpec
import Derived.Test.YtldecaccionigaaFindImpl
import Derived.Test.YtldecaccionigaaFindCnt
import Derived.ProofKit
import Derived.OpenShut
import Derived.ShutString
import Derived.ChangeOld
import Derived.Below
import Derived.Laws.Cover1
import Derived.WalkKit
namespace Go.Proofs.Ytldecaccionigaa.fnExactFindAll
open Go.ChangeShapes Go.WideShapes Go.ChangeAt Go.RowKit

theorem own : ownKnob Try.prog.godebug = none := by kernel_rfl
theorem laidOut : laidOutB Try.prog = true := by kernel_rfl
set_option maxRecDepth 100000 in
set_option maxHeartbeats 6400000 in
theorem walk {n0 : Nat} {w : World} {cs : List Value} {x : TD} {kl : Value} {l : List StepD} (hx : TreeL n0 w 0 cs x) (hl : SeqAt 2 StepAt w 0 kl l) :
    Calls Try.prog 8 #[.agg cs.toArray, kl] w fun e w' => e = .returned (.bool true) ∧ Below w.heap.size w w' := by
  obtain ⟨n, rfl⟩ : ∃ n, n0 = n + 1 := by cases n0 with | zero => exact hx.elim | succ n => exact ⟨n, rfl⟩
  have hx0 : Hid (TreeL (n + 1) w 0 cs x) := hx
  obtain ⟨k1, rfl, s1, _⟩ := hx.opened
  obtain ⟨a0, cap0, rfl⟩ := s1.form
  clear hx s1
  have hl0 : Hid (SeqAt 2 StepAt w 0 kl l) := hl
  obtain ⟨al, capl, rfl⟩ := hl.form
  clear hl
  have hB0 : Hid (Below w.heap.size w (w.alloc (.cells (List.toArray [.string (strT x), .slice a0 (kidsOf x).length cap0]) 32))) := (Below.refl _ _).alloc (Nat.le_refl _) _
  have bA_0 : Hid (Box (w.alloc (.cells (List.toArray [.string (strT x), .slice a0 (kidsOf x).length cap0]) 32)) w.heap.size [.string (strT x), .slice a0 (kidsOf x).length cap0] 32) := Box.new w _ _
  have z0_bA_0 := bA_0.out.cell 0 rfl
  have z0_bA_1 := bA_0.out.cell 1 rfl
  have szA : w.heap.size + 1 ≤ (w.alloc (.cells (List.toArray [.string (strT x), .slice a0 (kidsOf x).length cap0]) 32)).heap.size := by simp
  simp only [World.size_alloc] at szA
  go_enter Try.func8, Try.ntmps8
  go_wp2_with fail
  refine ((szT_all (n + 1)).1 _ 0 _ x _ (hx0.out.below hB0.out) (by omega) (by omega)).mono ?_
  rintro e w1 ⟨⟨r, rfl, hr1, hr2, hsm⟩, hb1⟩
  have hsm' : Hid (r < 0 ∨ (SmallO (n + 1) x ∧ r + (belowN (n + 1) x : Int) ≤ 1048576)) := hsm
  clear hsm
  have bA_1 : Hid (Box w1 w.heap.size [.string (strT x), .slice a0 (kidsOf x).length cap0] 32) := bA_0.out.below hb1 bA_0.out.lt
  clear bA_0
  have hB1 : Hid (Below w.heap.size w w1) := hB0.out.trans ((hb1).mono hB0.out.size)
  have sz1 := (hb1).size
  simp only [World.size_alloc] at sz1
  clear z0_bA_0 z0_bA_1
  have z1_bA_0 := bA_1.out.cell 0 rfl
  have z1_bA_1 := bA_1.out.cell 1 rfl
  clear hb1
  by_cases hneg : r < 0
  · go_wp2_with fail
    go_ret
    exact ⟨rfl, hB1.out⟩
  have hsm : Hid (SmallO (n + 1) x) := (hsm'.out.resolve_left hneg).1
  have hcx : Hid ((cntL (cntTree n) (kidsOf x) : Int) ≤ 1048576) := by show _ ≤ _; have := (hsm'.out.resolve_left hneg).2; simp only [belowN] at this; omega
  clear hsm'
  go_wp2_with fail
  refine (szStepS_any (hl0.out.below StepAt_stays hB1.out) (by omega) (by omega)).mono ?_
  rintro e w2 ⟨⟨r2, rfl, hr3, hr4, hsl⟩, hb2⟩
  have hsl' : Hid (r2 < 0 ∨ AllS StepD.small l) := hsl
  clear hsl
  have bA_2 : Hid (Box w2 w.heap.size [.string (strT x), .slice a0 (kidsOf x).length cap0] 32) := bA_1.out.below hb2 bA_1.out.lt
  clear bA_1
  have hB2 : Hid (Below w.heap.size w w2) := hB1.out.trans ((hb2).mono hB1.out.size)
  have sz2 := (hb2).size
  clear z1_bA_0 z1_bA_1
  have z2_bA_0 := bA_2.out.cell 0 rfl
  have z2_bA_1 := bA_2.out.cell 1 rfl
  clear hb2
  by_cases hneg2 : r2 < 0
  · go_wp2_with fail
    go_ret
    exact ⟨rfl, hB2.out⟩
  have hsl : Hid (AllS StepD.small l) := hsl'.out.resolve_left hneg2
  have hll : l.length ≤ 1048576 := hsl.out.1
  clear hsl'
  go_wp2_with fail
  refine ((toT_all (n + 1)).1 _ 0 _ x (hx0.out.below hB2.out) hsm.out).mono ?_
  rintro e u3a ⟨⟨cs3, f3t, rfl, ht3, _, lo3t⟩, hba3⟩
  have rg_x3t0 : Hid (∀ b ∈ f3t, b < u3a.heap.size) := TreeO_lt _ _ _ _ _ ht3
  have lo3t' : Hid (∀ b ∈ f3t, w2.heap.size ≤ b) := lo3t
  obtain ⟨kk3, rfl, ss3, _⟩ := ht3.opened
  obtain ⟨at3, ct3, rfl⟩ := ss3.form
  have hto3 : Hid (TreeO (n + 1) u3a [.string (strT x), .slice at3 (kidsOf x).length ct3] x f3t) := ht3
  clear ht3 ss3 lo3t
  have bA_3 : Hid (Box u3a w.heap.size [.string (strT x), .slice a0 (kidsOf x).length cap0] 32) := bA_2.out.below hba3 bA_2.out.lt
  clear bA_2
  have hB3 : Hid (Below w.heap.size w u3a) := hB2.out.trans ((hba3).mono hB2.out.size)
  have sz3 := (hba3).size
  clear z2_bA_0 z2_bA_1
  have z3_bA_0 := bA_3.out.cell 0 rfl
  have z3_bA_1 := bA_3.out.cell 1 rfl
  have x3t_3 : Hid (TreeO (n + 1) u3a [.string (strT x), .slice at3 (kidsOf x).length ct3] x f3t) := hto3
  clear hto3 hba3
  have rg_x3t : Hid (∀ b ∈ f3t, w2.heap.size ≤ b ∧ b < u3a.heap.size) := fun b q => ⟨lo3t'.out b q, rg_x3t0.out b q⟩
  go_wp2_with fail
  refine (toStepS_own (hl0.out.below StepAt_stays hB3.out) hsl.out).mono ?_
  rintro e u3c ⟨⟨kl3, f3s, rfl, hl3, _, lo3s⟩, hbc3⟩
  have rg_x3s0 : Hid (∀ b ∈ f3s, b < u3c.heap.size) := hl3.lt StepOwn_lt
  have hlo3 : Hid (SeqOwn 2 StepOwn u3c kl3 l f3s) := hl3
  have rg_x3s : Hid (∀ b ∈ f3s, u3a.heap.size ≤ b ∧ b < u3c.heap.size) := fun b q => ⟨by have := lo3s b q; omega, rg_x3s0.out b q⟩
  obtain ⟨al3, cl3, rfl⟩ := hl3.form
  clear hl3 lo3s
  have bA_4 : Hid (Box u3c w.heap.size [.string (strT x), .slice a0 (kidsOf x).length cap0] 32) := bA_3.out.below hbc3 bA_3.out.lt
  have x3t_4 : Hid (TreeO (n + 1) u3c [.string (strT x), .slice at3 (kidsOf x).length ct3] x f3t) := TreeO_stays _ _ _ _ _ _ (fun x hx => (hbc3).block x (TreeO_lt _ _ _ _ _ x3t_3.out x hx)) x3t_3.out
  clear bA_3 x3t_3
  have hB4 : Hid (Below w.heap.size w u3c) := hB3.out.trans ((hbc3).mono hB3.out.size)
  have sz4 := (hbc3).size
  clear z3_bA_0 z3_bA_1
  have z4_bA_0 := bA_4.out.cell 0 rfl
  have z4_bA_1 := bA_4.out.cell 1 rfl
  have x3s_4 : Hid (SeqOwn 2 StepOwn u3c (.slice al3 l.length cl3) l f3s) := hlo3
  clear hlo3 hbc3
  go_wp2_with fail
  refine (specFindAll_any (TreeL.at (n + 1) _ _ _ (TreeO_at (lo := 0) (n + 1) _ _ _ _ x3t_4.out (fun _ _ => Nat.zero_le _))) (x3s_4.out.at (lo := 0) StepOwn_at (fun _ _ => Nat.zero_le _))).mono ?_
  rintro e w4 ⟨⟨kwa, fwa, rfl, ownwa, _, lowwa⟩, hbwa⟩
  have lowwa' : Hid (∀ b ∈ fwa, u3c.heap.size ≤ b) := lowwa
  have bA_5 : Hid (Box w4 w.heap.size [.string (strT x), .slice a0 (kidsOf x).length cap0] 32) := bA_4.out.below hbwa bA_4.out.lt
  have x3t_5 : Hid (TreeO (n + 1) w4 [.string (strT x), .slice at3 (kidsOf x).length ct3] x f3t) := TreeO_stays _ _ _ _ _ _ (fun x hx => (hbwa).block x (TreeO_lt _ _ _ _ _ x3t_4.out x hx)) x3t_4.out
  have x3s_5 : Hid (SeqOwn 2 StepOwn w4 (.slice al3 l.length cl3) l f3s) := SeqOwn.stays StepOwn_stays x3s_4.out (fun x hx => (hbwa).block x (SeqOwn.lt StepOwn_lt x3s_4.out x hx))
  clear bA_4 x3t_4 x3s_4
  have hB5 : Hid (Below w.heap.size w w4) := hB4.out.trans ((hbwa).mono hB4.out.size)
  have sz5 := (hbwa).size
  clear z4_bA_0 z4_bA_1
  have z5_bA_0 := bA_5.out.cell 0 rfl
  have z5_bA_1 := bA_5.out.cell 1 rfl
  clear hbwa lowwa
  generalize hYS : findD (okB (szD (n + 1) x 30)) (n + 1) x l = rr at ownwa ⊢
  have hYS' : Hid (findD (okB (szD (n + 1) x 30)) (n + 1) x l = rr) := hYS
  clear hYS
  have hRR : Hid (rr = rr) := rfl
  clear hRR
  have rg_wa0 : Hid (∀ b ∈ fwa, b < w4.heap.size) := ownwa.lt IntsOwn_lt
  have ownswa : Hid (SeqOwn 1 IntsOwn w4 kwa rr fwa) := ownwa
  obtain ⟨awa, cwa, rfl⟩ := ownwa.form
  clear ownwa
  have wa_5 : Hid (SeqOwn 1 IntsOwn w4 (.slice awa rr.length cwa) rr fwa) := ownswa
  have rg_wa : Hid (∀ b ∈ fwa, u3c.heap.size ≤ b ∧ b < w4.heap.size) := fun b q => ⟨lowwa'.out b q, rg_wa0.out b q⟩
  clear ownswa
  clear x3t_5
  clear x3s_5
  have hYC : Hid ((1 : Int) + (cntL cntInts rr : Nat) ≤ 4611686018427387904) := by show _ ≤ _; have := findD_few (n + 1) x l; rw [hYS'.out] at this; omega
  go_wp2_with fail
  refine ((toT_all (n + 1)).1 _ 0 _ x (hx0.out.below hB5.out) hsm.out).mono ?_
  rintro e u5a ⟨⟨cs5, f5t, rfl, ht5, _, lo5t⟩, hba5⟩
  have rg_x5t0 : Hid (∀ b ∈ f5t, b < u5a.heap.size) := TreeO_lt _ _ _ _ _ ht5
  have lo5t' : Hid (∀ b ∈ f5t, w4.heap.size ≤ b) := lo5t
  obtain ⟨kk5, rfl, ss5, _⟩ := ht5.opened
  obtain ⟨at5, ct5, rfl⟩ := ss5.form
  have hto5 : Hid (TreeO (n + 1) u5a [.string (strT x), .slice at5 (kidsOf x).length ct5] x f5t) := ht5
  clear ht5 ss5 lo5t
  have bA_6 : Hid (Box u5a w.heap.size [.string (strT x), .slice a0 (kidsOf x).length cap0] 32) := bA_5.out.below hba5 bA_5.out.lt
  have wa_6 : Hid (SeqOwn 1 IntsOwn u5a (.slice awa rr.length cwa) rr fwa) := SeqOwn.stays IntsOwn_stays wa_5.out (fun x hx => (hba5).block x (SeqOwn.lt IntsOwn_lt wa_5.out x hx))
  clear bA_5 wa_5
  have hB6 : Hid (Below w.heap.size w u5a) := hB5.out.trans ((hba5).mono hB5.out.size)
  have sz6 := (hba5).size
  clear z5_bA_0 z5_bA_1
  have z6_bA_0 := bA_6.out.cell 0 rfl
  have z6_bA_1 := bA_6.out.cell 1 rfl
  have x5t_6 : Hid (TreeO (n + 1) u5a [.string (strT x), .slice at5 (kidsOf x).length ct5] x f5t) := hto5
  clear hto5 hba5
  have rg_x5t : Hid (∀ b ∈ f5t, w4.heap.size ≤ b ∧ b < u5a.heap.size) := fun b q => ⟨lo5t'.out b q, rg_x5t0.out b q⟩
  have hbx5 : Below u5a.heap.size u5a (u5a.alloc (.cells (List.toArray [.string (strT x), .slice at5 (kidsOf x).length ct5]) 38)) := (Below.refl _ _).alloc (Nat.le_refl _) _
  have szx5 : (u5a.alloc (.cells (List.toArray [.string (strT x), .slice at5 (kidsOf x).length ct5]) 38)).heap.size = u5a.heap.size + 1 := by simp
  have bA_7 : Hid (Box (u5a.alloc (.cells (List.toArray [.string (strT x), .slice at5 (kidsOf x).length ct5]) 38)) w.heap.size [.string (strT x), .slice a0 (kidsOf x).length cap0] 32) := bA_6.out.below hbx5 bA_6.out.lt
  have wa_7 : Hid (SeqOwn 1 IntsOwn (u5a.alloc (.cells (List.toArray [.string (strT x), .slice at5 (kidsOf x).length ct5]) 38)) (.slice awa rr.length cwa) rr fwa) := SeqOwn.stays IntsOwn_stays wa_6.out (fun x hx => (hbx5).block x (SeqOwn.lt IntsOwn_lt wa_6.out x hx))
  have x5t_7 : Hid (TreeO (n + 1) (u5a.alloc (.cells (List.toArray [.string (strT x), .slice at5 (kidsOf x).length ct5]) 38)) [.string (strT x), .slice at5 (kidsOf x).length ct5] x f5t) := TreeO_stays _ _ _ _ _ _ (fun x hx => (hbx5).block x (TreeO_lt _ _ _ _ _ x5t_6.out x hx)) x5t_6.out
  clear bA_6 wa_6 x5t_6
  have hB7 : Hid (Below w.heap.size w (u5a.alloc (.cells (List.toArray [.string (strT x), .slice at5 (kidsOf x).length ct5]) 38))) := hB6.out.trans ((hbx5).mono hB6.out.size)
  have sz7 := (hbx5).size
  simp only [World.size_alloc] at sz7
  clear z6_bA_0 z6_bA_1
  have z7_bA_0 := bA_7.out.cell 0 rfl
  have z7_bA_1 := bA_7.out.cell 1 rfl
  have bX5_7 : Hid (Box (u5a.alloc (.cells (List.toArray [.string (strT x), .slice at5 (kidsOf x).length ct5]) 38)) u5a.heap.size [.string (strT x), .slice at5 (kidsOf x).length ct5] 38) := Box.new u5a _ _
  have z7_bX5_0 := bX5_7.out.cell 0 rfl
  have z7_bX5_1 := bX5_7.out.cell 1 rfl
  clear hbx5
  go_wp2_with fail
  refine (toStepS_own (hl0.out.below StepAt_stays hB7.out) hsl.out).mono ?_
  rintro e u5c ⟨⟨kl5, f5s, rfl, hl5, _, lo5s⟩, hbc5⟩
  have rg_x5s0 : Hid (∀ b ∈ f5s, b < u5c.heap.size) := hl5.lt StepOwn_lt
  have hlo5 : Hid (SeqOwn 2 StepOwn u5c kl5 l f5s) := hl5
  have rg_x5s : Hid (∀ b ∈ f5s, u5a.heap.size + 1 ≤ b ∧ b < u5c.heap.size) := fun b q => ⟨by have := lo5s b q; simp only [World.size_alloc] at this; omega, rg_x5s0.out b q⟩
  obtain ⟨al5, cl5, rfl⟩ := hl5.form
  clear hl5 lo5s
  have bA_8 : Hid (Box u5c w.heap.size [.string (strT x), .slice a0 (kidsOf x).length cap0] 32) := bA_7.out.below hbc5 bA_7.out.lt
  have wa_8 : Hid (SeqOwn 1 IntsOwn u5c (.slice awa rr.length cwa) rr fwa) := SeqOwn.stays IntsOwn_stays wa_7.out (fun x hx => (hbc5).block x (SeqOwn.lt IntsOwn_lt wa_7.out x hx))
  have x5t_8 : Hid (TreeO (n + 1) u5c [.string (strT x), .slice at5 (kidsOf x).length ct5] x f5t) := TreeO_stays _ _ _ _ _ _ (fun x hx => (hbc5).block x (TreeO_lt _ _ _ _ _ x5t_7.out x hx)) x5t_7.out
  have bX5_8 : Hid (Box u5c u5a.heap.size [.string (strT x), .slice at5 (kidsOf x).length ct5] 38) := bX5_7.out.below hbc5 bX5_7.out.lt
  clear bA_7 wa_7 x5t_7 bX5_7
  have hB8 : Hid (Below w.heap.size w u5c) := hB7.out.trans ((hbc5).mono hB7.out.size)
  have sz8 := (hbc5).size
  simp only [World.size_alloc] at sz8
  clear z7_bA_0 z7_bA_1 z7_bX5_0 z7_bX5_1
  have z8_bA_0 := bA_8.out.cell 0 rfl
  have z8_bA_1 := bA_8.out.cell 1 rfl
  have z8_bX5_0 := bX5_8.out.cell 0 rfl
  have z8_bX5_1 := bX5_8.out.cell 1 rfl
  have x5s_8 : Hid (SeqOwn 2 StepOwn u5c (.slice al5 l.length cl5) l f5s) := hlo5
  clear hlo5 hbc5
  go_wp2_with fail
  refine (implFindAll_any (TreeL.at (n + 1) _ _ _ (TreeO_at (lo := 0) (n + 1) _ _ _ _ x5t_8.out (fun _ _ => Nat.zero_le _))) (x5s_8.out.at (lo := 0) StepOwn_at (fun _ _ => Nat.zero_le _))).mono ?_
  rintro e w6 ⟨⟨kga, fga, rfl, ownga, _, lowga⟩, hbga⟩
  rw [hYS'.out] at ownga
  have lowga' : Hid (∀ b ∈ fga, u5c.heap.size ≤ b) := lowga
  have bA_9 : Hid (Box w6 w.heap.size [.string (strT x), .slice a0 (kidsOf x).length cap0] 32) := bA_8.out.below hbga bA_8.out.lt
  have wa_9 : Hid (SeqOwn 1 IntsOwn w6 (.slice awa rr.length cwa) rr fwa) := SeqOwn.stays IntsOwn_stays wa_8.out (fun x hx => (hbga).block x (SeqOwn.lt IntsOwn_lt wa_8.out x hx))
  have x5t_9 : Hid (TreeO (n + 1) w6 [.string (strT x), .slice at5 (kidsOf x).length ct5] x f5t) := TreeO_stays _ _ _ _ _ _ (fun x hx => (hbga).block x (TreeO_lt _ _ _ _ _ x5t_8.out x hx)) x5t_8.out
  have bX5_9 : Hid (Box w6 u5a.heap.size [.string (strT x), .slice at5 (kidsOf x).length ct5] 38) := bX5_8.out.below hbga bX5_8.out.lt
  have x5s_9 : Hid (SeqOwn 2 StepOwn w6 (.slice al5 l.length cl5) l f5s) := SeqOwn.stays StepOwn_stays x5s_8.out (fun x hx => (hbga).block x (SeqOwn.lt StepOwn_lt x5s_8.out x hx))
  clear bA_8 wa_8 x5t_8 bX5_8 x5s_8
  have hB9 : Hid (Below w.heap.size w w6) := hB8.out.trans ((hbga).mono hB8.out.size)
  have sz9 := (hbga).size
  clear z8_bA_0 z8_bA_1 z8_bX5_0 z8_bX5_1
  have z9_bA_0 := bA_9.out.cell 0 rfl
  have z9_bA_1 := bA_9.out.cell 1 rfl
  have z9_bX5_0 := bX5_9.out.cell 0 rfl
  have z9_bX5_1 := bX5_9.out.cell 1 rfl
  clear hbga lowga
  have rg_ga0 : Hid (∀ b ∈ fga, b < w6.heap.size) := ownga.lt IntsOwn_lt
  have ownsga : Hid (SeqOwn 1 IntsOwn w6 kga rr fga) := ownga
  obtain ⟨aga, cga, rfl⟩ := ownga.form
  clear ownga
  have ga_9 : Hid (SeqOwn 1 IntsOwn w6 (.slice aga rr.length cga) rr fga) := ownsga
  have rg_ga : Hid (∀ b ∈ fga, u5c.heap.size ≤ b ∧ b < w6.heap.size) := fun b q => ⟨lowga'.out b q, rg_ga0.out b q⟩
  clear ownsga
  go_wp2_with fail
  refine (eqInt64SS_any (lo := 0) (lo2 := 0) (ga_9.out.at (lo := 0) IntsOwn_at (fun _ _ => Nat.zero_le _)) (wa_9.out.at (lo := 0) IntsOwn_at (fun _ _ => Nat.zero_le _))).mono ?_
  rintro e w7 ⟨rfl, hbw7⟩
  have bA_10 : Hid (Box w7 w.heap.size [.string (strT x), .slice a0 (kidsOf x).length cap0] 32) := bA_9.out.below hbw7 bA_9.out.lt
  have wa_10 : Hid (SeqOwn 1 IntsOwn w7 (.slice awa rr.length cwa) rr fwa) := SeqOwn.stays IntsOwn_stays wa_9.out (fun x hx => (hbw7).block x (SeqOwn.lt IntsOwn_lt wa_9.out x hx))
  have x5t_10 : Hid (TreeO (n + 1) w7 [.string (strT x), .slice at5 (kidsOf x).length ct5] x f5t) := TreeO_stays _ _ _ _ _ _ (fun x hx => (hbw7).block x (TreeO_lt _ _ _ _ _ x5t_9.out x hx)) x5t_9.out
  have bX5_10 : Hid (Box w7 u5a.heap.size [.string (strT x), .slice at5 (kidsOf x).length ct5] 38) := bX5_9.out.below hbw7 bX5_9.out.lt
  have x5s_10 : Hid (SeqOwn 2 StepOwn w7 (.slice al5 l.length cl5) l f5s) := SeqOwn.stays StepOwn_stays x5s_9.out (fun x hx => (hbw7).block x (SeqOwn.lt StepOwn_lt x5s_9.out x hx))
  have ga_10 : Hid (SeqOwn 1 IntsOwn w7 (.slice aga rr.length cga) rr fga) := SeqOwn.stays IntsOwn_stays ga_9.out (fun x hx => (hbw7).block x (SeqOwn.lt IntsOwn_lt ga_9.out x hx))
  clear bA_9 wa_9 x5t_9 bX5_9 x5s_9 ga_9
  have hB10 : Hid (Below w.heap.size w w7) := hB9.out.trans ((hbw7).mono hB9.out.size)
  have sz10 := (hbw7).size
  clear z9_bA_0 z9_bA_1 z9_bX5_0 z9_bX5_1
  have z10_bA_0 := bA_10.out.cell 0 rfl
  have z10_bA_1 := bA_10.out.cell 1 rfl
  have z10_bX5_0 := bX5_10.out.cell 0 rfl
  have z10_bX5_1 := bX5_10.out.cell 1 rfl
  clear hbw7
  go_wp2_with fail
  have ltA : w.heap.size < w7.heap.size := bA_10.out.lt
  have ltX : u5a.heap.size < w7.heap.size := bX5_10.out.lt
  have htx7 : Hid (TreeL (n + 1) w7 0 [.string (strT x), .slice at5 (kidsOf x).length ct5] x) := TreeO_at (lo := 0) (n + 1) _ _ _ _ x5t_10.out (fun _ _ => Nat.zero_le _)
  go_region_held3 (fun w' => w'.cell? ⟨u5a.heap.size, 0, none⟩ = some (.string (strT x)) ∧ w'.cell? ⟨u5a.heap.size, 1, none⟩ = some (.slice at5 (kidsOf x).length ct5) ∧ w'.cell? ⟨w.heap.size, 0, none⟩ = some (.string (strT x)) ∧ w'.cell? ⟨w.heap.size, 1, none⟩ = some (.slice a0 (kidsOf x).length cap0)) (go_keep)
    (first | (go_at_call 18; refine ((toT_all (n + 1)).1 _ 0 _ x (by exact TreeL.below hx0.out hB10.out.drew) hsm.out).mono ?_; rintro e w8 ⟨⟨cs8, fs8, rfl, ht8, _, _⟩, hb8⟩; have hb8' := undrew hb8; have x8 : Hid (Box w8 u5a.heap.size _ _) := Box.below bX5_10.out hb8' ltX; have g8 : Hid (Box w8 w.heap.size _ _) := Box.below bA_10.out hb8' ltA; have y0 := x8.out.cell 0 rfl; have y1 := x8.out.cell 1 rfl; have v0 := g8.out.cell 0 rfl; have v1 := g8.out.cell 1 rfl; have lt8 : Hid (TreeL (n + 1) w8 0 [.string (strT x), .slice at5 (kidsOf x).length ct5] x) := htx7.out.below hb8'; have lt8b : Hid (TreeL (n + 1) w8 0 cs8 x) := TreeO_at (n + 1) _ _ _ _ ht8 (fun _ _ => Nat.zero_le _); have hb8h : Hid (Below w7.heap.size w7 w8) := hb8'; clear hb8 hb8' ht8) | (go_at_call 21; refine (eqTree_any (by exact lt8.out) (by exact lt8b.out)).mono ?_; rintro e w9 ⟨rfl, hb9⟩; have x9 : Hid (Box w9 u5a.heap.size _ _) := Box.below x8.out hb9 x8.out.lt; have g9 : Hid (Box w9 w.heap.size _ _) := Box.below g8.out hb9 g8.out.lt; have k0 := x9.out.cell 0 rfl; have k1 := x9.out.cell 1 rfl; have j0 := g9.out.cell 0 rfl; have j1 := g9.out.cell 1 rfl; have hb9h : Hid (Below w7.heap.size w7 w9) := hb8h.out.trans (hb9.mono hb8h.out.size); clear hb9))
  have hb79 : Below w7.heap.size w7 w9 := hb9h.out
  clear x8 g8 x9 g9 htx7 lt8 lt8b hb8h hb9h k0 k1 j0 j1 y0 y1 v0 v1 ltA ltX
  have bA_11 : Hid (Box w9 w.heap.size [.string (strT x), .slice a0 (kidsOf x).length cap0] 32) := bA_10.out.below hb79 bA_10.out.lt
  have wa_11 : Hid (SeqOwn 1 IntsOwn w9 (.slice awa rr.length cwa) rr fwa) := SeqOwn.stays IntsOwn_stays wa_10.out (fun x hx => (hb79).block x (SeqOwn.lt IntsOwn_lt wa_10.out x hx))
  have x5t_11 : Hid (TreeO (n + 1) w9 [.string (strT x), .slice at5 (kidsOf x).length ct5] x f5t) := TreeO_stays _ _ _ _ _ _ (fun x hx => (hb79).block x (TreeO_lt _ _ _ _ _ x5t_10.out x hx)) x5t_10.out
  have bX5_11 : Hid (Box w9 u5a.heap.size [.string (strT x), .slice at5 (kidsOf x).length ct5] 38) := bX5_10.out.below hb79 bX5_10.out.lt
  have x5s_11 : Hid (SeqOwn 2 StepOwn w9 (.slice al5 l.length cl5) l f5s) := SeqOwn.stays StepOwn_stays x5s_10.out (fun x hx => (hb79).block x (SeqOwn.lt StepOwn_lt x5s_10.out x hx))
  have ga_11 : Hid (SeqOwn 1 IntsOwn w9 (.slice aga rr.length cga) rr fga) := SeqOwn.stays IntsOwn_stays ga_10.out (fun x hx => (hb79).block x (SeqOwn.lt IntsOwn_lt ga_10.out x hx))
  clear bA_10 wa_10 x5t_10 bX5_10 x5s_10 ga_10
  have hB11 : Hid (Below w.heap.size w w9) := hB10.out.trans ((hb79).mono hB10.out.size)
  have sz11 := (hb79).size
  clear z10_bA_0 z10_bA_1 z10_bX5_0 z10_bX5_1
  have z11_bA_0 := bA_11.out.cell 0 rfl
  have z11_bA_1 := bA_11.out.cell 1 rfl
  have z11_bX5_0 := bX5_11.out.cell 0 rfl
  have z11_bX5_1 := bX5_11.out.cell 1 rfl
  clear hb79
  go_wp2_with fail
  refine (toStepS_any (hl0.out.below StepAt_stays hB11.out) hsl.out).mono ?_
  rintro e ws ⟨⟨kss, rfl, hss⟩, hbs⟩
  have hss' : Hid (SeqAt 2 StepAt ws w9.heap.size kss l) := hss
  clear hss
  have bA_12 : Hid (Box ws w.heap.size [.string (strT x), .slice a0 (kidsOf x).length cap0] 32) := bA_11.out.below hbs bA_11.out.lt
  have wa_12 : Hid (SeqOwn 1 IntsOwn ws (.slice awa rr.length cwa) rr fwa) := SeqOwn.stays IntsOwn_stays wa_11.out (fun x hx => (hbs).block x (SeqOwn.lt IntsOwn_lt wa_11.out x hx))
  have x5t_12 : Hid (TreeO (n + 1) ws [.string (strT x), .slice at5 (kidsOf x).length ct5] x f5t) := TreeO_stays _ _ _ _ _ _ (fun x hx => (hbs).block x (TreeO_lt _ _ _ _ _ x5t_11.out x hx)) x5t_11.out
  have bX5_12 : Hid (Box ws u5a.heap.size [.string (strT x), .slice at5 (kidsOf x).length ct5] 38) := bX5_11.out.below hbs bX5_11.out.lt
  have x5s_12 : Hid (SeqOwn 2 StepOwn ws (.slice al5 l.length cl5) l f5s) := SeqOwn.stays StepOwn_stays x5s_11.out (fun x hx => (hbs).block x (SeqOwn.lt StepOwn_lt x5s_11.out x hx))
  have ga_12 : Hid (SeqOwn 1 IntsOwn ws (.slice aga rr.length cga) rr fga) := SeqOwn.stays IntsOwn_stays ga_11.out (fun x hx => (hbs).block x (SeqOwn.lt IntsOwn_lt ga_11.out x hx))
  clear bA_11 wa_11 x5t_11 bX5_11 x5s_11 ga_11
  have hB12 : Hid (Below w.heap.size w ws) := hB11.out.trans ((hbs).mono hB11.out.size)
  have sz12 := (hbs).size
  clear z11_bA_0 z11_bA_1 z11_bX5_0 z11_bX5_1
  have z12_bA_0 := bA_12.out.cell 0 rfl
  have z12_bA_1 := bA_12.out.cell 1 rfl
  have z12_bX5_0 := bX5_12.out.cell 0 rfl
  have z12_bX5_1 := bX5_12.out.cell 1 rfl
  clear hbs
  go_wp2_with fail
  refine (eqStepS_any (lo := 0) (x5s_12.out.at (lo := 0) StepOwn_at (fun _ _ => Nat.zero_le _)) hss'.out).mono ?_
  rintro e wt ⟨rfl, hbt⟩
  clear hss'
  have bA_13 : Hid (Box wt w.heap.size [.string (strT x), .slice a0 (kidsOf x).length cap0] 32) := bA_12.out.below hbt bA_12.out.lt
  have wa_13 : Hid (SeqOwn 1 IntsOwn wt (.slice awa rr.length cwa) rr fwa) := SeqOwn.stays IntsOwn_stays wa_12.out (fun x hx => (hbt).block x (SeqOwn.lt IntsOwn_lt wa_12.out x hx))
  have x5t_13 : Hid (TreeO (n + 1) wt [.string (strT x), .slice at5 (kidsOf x).length ct5] x f5t) := TreeO_stays _ _ _ _ _ _ (fun x hx => (hbt).block x (TreeO_lt _ _ _ _ _ x5t_12.out x hx)) x5t_12.out
  have bX5_13 : Hid (Box wt u5a.heap.size [.string (strT x), .slice at5 (kidsOf x).length ct5] 38) := bX5_12.out.below hbt bX5_12.out.lt
  have x5s_13 : Hid (SeqOwn 2 StepOwn wt (.slice al5 l.length cl5) l f5s) := SeqOwn.stays StepOwn_stays x5s_12.out (fun x hx => (hbt).block x (SeqOwn.lt StepOwn_lt x5s_12.out x hx))
  have ga_13 : Hid (SeqOwn 1 IntsOwn wt (.slice aga rr.length cga) rr fga) := SeqOwn.stays IntsOwn_stays ga_12.out (fun x hx => (hbt).block x (SeqOwn.lt IntsOwn_lt ga_12.out x hx))
  clear bA_12 wa_12 x5t_12 bX5_12 x5s_12 ga_12
  have hB13 : Hid (Below w.heap.size w wt) := hB12.out.trans ((hbt).mono hB12.out.size)
  have sz13 := (hbt).size
  clear z12_bA_0 z12_bA_1 z12_bX5_0 z12_bX5_1
  have z13_bA_0 := bA_13.out.cell 0 rfl
  have z13_bA_1 := bA_13.out.cell 1 rfl
  have z13_bX5_0 := bX5_13.out.cell 0 rfl
  have z13_bX5_1 := bX5_13.out.cell 1 rfl
  clear hbt
  go_wp2_with fail
  refine (markTree_any (n := n) x5t_13.out (by omega) (by have := hcx.out; omega)).mono ?_
  rintro e m1 ⟨rfl, _, hom1⟩
  have bA_14 : Hid (Box m1 w.heap.size [.string (strT x), .slice a0 (kidsOf x).length cap0] 32) := ((hom1).keep bA_13.out.lt (fun q => by have := rg_x5t.out _ q; omega)).trans bA_13.out
  have wa_14 : Hid (SeqOwn 1 IntsOwn m1 (.slice awa rr.length cwa) rr fwa) := SeqOwn.stays IntsOwn_stays wa_13.out (fun x hx => (hom1).keep (SeqOwn.lt IntsOwn_lt wa_13.out x hx) (fun q => by have := rg_x5t.out _ q; have := rg_wa.out _ hx; omega))
  have bX5_14 : Hid (Box m1 u5a.heap.size [.string (strT x), .slice at5 (kidsOf x).length ct5] 38) := ((hom1).keep bX5_13.out.lt (fun q => by have := rg_x5t.out _ q; omega)).trans bX5_13.out
  have x5s_14 : Hid (SeqOwn 2 StepOwn m1 (.slice al5 l.length cl5) l f5s) := SeqOwn.stays StepOwn_stays x5s_13.out (fun x hx => (hom1).keep (SeqOwn.lt StepOwn_lt x5s_13.out x hx) (fun q => by have := rg_x5t.out _ q; have := rg_x5s.out _ hx; omega))
  have ga_14 : Hid (SeqOwn 1 IntsOwn m1 (.slice aga rr.length cga) rr fga) := SeqOwn.stays IntsOwn_stays ga_13.out (fun x hx => (hom1).keep (SeqOwn.lt IntsOwn_lt ga_13.out x hx) (fun q => by have := rg_x5t.out _ q; have := rg_ga.out _ hx; omega))
  clear bA_13 wa_13 x5t_13 bX5_13 x5s_13 ga_13
  have hB14 : Hid (Below w.heap.size w m1) := hB13.out.trans ((hom1).below hB13.out.size (fun x hx => by have := rg_x5t.out x hx; omega))
  have sz14 := (hom1).2.2.2.1
  clear z13_bA_0 z13_bA_1 z13_bX5_0 z13_bX5_1
  have z14_bA_0 := bA_14.out.cell 0 rfl
  have z14_bA_1 := bA_14.out.cell 1 rfl
  have z14_bX5_0 := bX5_14.out.cell 0 rfl
  have z14_bX5_1 := bX5_14.out.cell 1 rfl
  clear hom1
  generalize hK1 : (1 : Int) + (cntL (cntTree n) (kidsOf x) : Nat) = K1
  have hK1b : 0 ≤ K1 ∧ K1 ≤ 2000000 := by have := hcx.out; omega
  clear hK1
  go_wp2_with fail
  refine (markStepS_any x5s_14.out (by omega) (by rw [cntL_step]; omega)).mono ?_
  rintro e m3 ⟨rfl, _, hom3⟩
  have bA_15 : Hid (Box m3 w.heap.size [.string (strT x), .slice a0 (kidsOf x).length cap0] 32) := ((hom3).keep bA_14.out.lt (fun q => by have := rg_x5s.out _ q; omega)).trans bA_14.out
  have wa_15 : Hid (SeqOwn 1 IntsOwn m3 (.slice awa rr.length cwa) rr fwa) := SeqOwn.stays IntsOwn_stays wa_14.out (fun x hx => (hom3).keep (SeqOwn.lt IntsOwn_lt wa_14.out x hx) (fun q => by have := rg_x5s.out _ q; have := rg_wa.out _ hx; omega))
  have bX5_15 : Hid (Box m3 u5a.heap.size [.string (strT x), .slice at5 (kidsOf x).length ct5] 38) := ((hom3).keep bX5_14.out.lt (fun q => by have := rg_x5s.out _ q; omega)).trans bX5_14.out
  have ga_15 : Hid (SeqOwn 1 IntsOwn m3 (.slice aga rr.length cga) rr fga) := SeqOwn.stays IntsOwn_stays ga_14.out (fun x hx => (hom3).keep (SeqOwn.lt IntsOwn_lt ga_14.out x hx) (fun q => by have := rg_x5s.out _ q; have := rg_ga.out _ hx; omega))
  clear bA_14 wa_14 bX5_14 x5s_14 ga_14
  have hB15 : Hid (Below w.heap.size w m3) := hB14.out.trans ((hom3).below hB14.out.size (fun x hx => by have := rg_x5s.out x hx; omega))
  have sz15 := (hom3).2.2.2.1
  clear z14_bA_0 z14_bA_1 z14_bX5_0 z14_bX5_1
  have z15_bA_0 := bA_15.out.cell 0 rfl
  have z15_bA_1 := bA_15.out.cell 1 rfl
  have z15_bX5_0 := bX5_15.out.cell 0 rfl
  have z15_bX5_1 := bX5_15.out.cell 1 rfl
  clear hom3
  generalize hK3 : K1 + (cntL cntStep l : Nat) = K3
  have hK3b : 0 ≤ K3 ∧ K3 ≤ 8000000 := by rw [cntL_step] at hK3; omega
  clear hK3
  clear bX5_15 z15_bX5_0 z15_bX5_1
  have hKn : decide (K3 < 0) = false := by simp; omega
  go_wp2_with fail
  refine (eqInt64SS_any (lo := 0) (lo2 := 0) (ga_15.out.at (lo := 0) IntsOwn_at (fun _ _ => Nat.zero_le _)) (wa_15.out.at (lo := 0) IntsOwn_at (fun _ _ => Nat.zero_le _))).mono ?_
  rintro e m4 ⟨rfl, hbm4⟩
  have bA_16 : Hid (Box m4 w.heap.size [.string (strT x), .slice a0 (kidsOf x).length cap0] 32) := bA_15.out.below hbm4 bA_15.out.lt
  have wa_16 : Hid (SeqOwn 1 IntsOwn m4 (.slice awa rr.length cwa) rr fwa) := SeqOwn.stays IntsOwn_stays wa_15.out (fun x hx => (hbm4).block x (SeqOwn.lt IntsOwn_lt wa_15.out x hx))
  have ga_16 : Hid (SeqOwn 1 IntsOwn m4 (.slice aga rr.length cga) rr fga) := SeqOwn.stays IntsOwn_stays ga_15.out (fun x hx => (hbm4).block x (SeqOwn.lt IntsOwn_lt ga_15.out x hx))
  clear bA_15 wa_15 ga_15
  have hB16 : Hid (Below w.heap.size w m4) := hB15.out.trans ((hbm4).mono hB15.out.size)
  have sz16 := (hbm4).size
  clear z15_bA_0 z15_bA_1
  have z16_bA_0 := bA_16.out.cell 0 rfl
  have z16_bA_1 := bA_16.out.cell 1 rfl
  clear hbm4
  go_wp2_with fail
  refine (markInt64SS_any ga_16.out (by omega) hYC.out).mono ?_
  rintro e m5 ⟨rfl, ownM, hom5⟩
  have bA_17 : Hid (Box m5 w.heap.size [.string (strT x), .slice a0 (kidsOf x).length cap0] 32) := ((hom5).keep bA_16.out.lt (fun q => by have := rg_ga.out _ q; omega)).trans bA_16.out
  have wa_17 : Hid (SeqOwn 1 IntsOwn m5 (.slice awa rr.length cwa) rr fwa) := SeqOwn.stays IntsOwn_stays wa_16.out (fun x hx => (hom5).keep (SeqOwn.lt IntsOwn_lt wa_16.out x hx) (fun q => by have := rg_ga.out _ q; have := rg_wa.out _ hx; omega))
  clear bA_16 wa_16 ga_16
  have hB17 : Hid (Below w.heap.size w m5) := hB16.out.trans ((hom5).below hB16.out.size (fun x hx => by have := rg_ga.out x hx; omega))
  have sz17 := (hom5).2.2.2.1
  clear z16_bA_0 z16_bA_1
  have z17_bA_0 := bA_17.out.cell 0 rfl
  have z17_bA_1 := bA_17.out.cell 1 rfl
  have ga_17 : Hid (SeqOwn 1 IntsOwn m5 (.slice aga rr.length cga) (mkL cntInts mkInts rr 1) fga) := ownM
  clear ownM hom5
  generalize hCI : (1 : Int) + (cntL cntInts rr : Nat) = M at *
  have hCI' : Hid ((1 : Int) + (cntL cntInts rr : Nat) = M) := hCI
  clear hCI
  have hM0 : 0 ≤ M := by have := hCI'.out; omega
  have hM1 : decide (M < 0) = false := by simp; omega
  go_wp2_with fail
  refine (heldInt64SS_any (lo := 0) (m := 1) (xs := rr) (ga_17.out.at (lo := 0) IntsOwn_at (fun _ _ => Nat.zero_le _)) (by omega) (by rw [hCI'.out]; exact hYC.out)).mono ?_
  rintro e m6 ⟨rfl, hbm6⟩
  rw [hCI'.out]
  have bA_18 : Hid (Box m6 w.heap.size [.string (strT x), .slice a0 (kidsOf x).length cap0] 32) := bA_17.out.below hbm6 bA_17.out.lt
  have wa_18 : Hid (SeqOwn 1 IntsOwn m6 (.slice awa rr.length cwa) rr fwa) := SeqOwn.stays IntsOwn_stays wa_17.out (fun x hx => (hbm6).block x (SeqOwn.lt IntsOwn_lt wa_17.out x hx))
  have ga_18 : Hid (SeqOwn 1 IntsOwn m6 (.slice aga rr.length cga) (mkL cntInts mkInts rr 1) fga) := SeqOwn.stays IntsOwn_stays ga_17.out (fun x hx => (hbm6).block x (SeqOwn.lt IntsOwn_lt ga_17.out x hx))
  clear bA_17 wa_17 ga_17
  have hB18 : Hid (Below w.heap.size w m6) := hB17.out.trans ((hbm6).mono hB17.out.size)
  have sz18 := (hbm6).size
  clear z17_bA_0 z17_bA_1
  have z18_bA_0 := bA_18.out.cell 0 rfl
  have z18_bA_1 := bA_18.out.cell 1 rfl
  clear hbm6
  go_wp2_with fail
  refine ((toT_all (n + 1)).1 _ 0 _ x (hx0.out.below hB18.out) hsm.out).mono ?_
  rintro e u7a ⟨⟨cs7, f7t, rfl, ht7, _, lo7t⟩, hba7⟩
  have rg_x7t0 : Hid (∀ b ∈ f7t, b < u7a.heap.size) := TreeO_lt _ _ _ _ _ ht7
  have lo7t' : Hid (∀ b ∈ f7t, m6.heap.size ≤ b) := lo7t
  obtain ⟨kk7, rfl, ss7, _⟩ := ht7.opened
  obtain ⟨at7, ct7, rfl⟩ := ss7.form
  have hto7 : Hid (TreeO (n + 1) u7a [.string (strT x), .slice at7 (kidsOf x).length ct7] x f7t) := ht7
  clear ht7 ss7 lo7t
  have bA_19 : Hid (Box u7a w.heap.size [.string (strT x), .slice a0 (kidsOf x).length cap0] 32) := bA_18.out.below hba7 bA_18.out.lt
  have wa_19 : Hid (SeqOwn 1 IntsOwn u7a (.slice awa rr.length cwa) rr fwa) := SeqOwn.stays IntsOwn_stays wa_18.out (fun x hx => (hba7).block x (SeqOwn.lt IntsOwn_lt wa_18.out x hx))
  have ga_19 : Hid (SeqOwn 1 IntsOwn u7a (.slice aga rr.length cga) (mkL cntInts mkInts rr 1) fga) := SeqOwn.stays IntsOwn_stays ga_18.out (fun x hx => (hba7).block x (SeqOwn.lt IntsOwn_lt ga_18.out x hx))
  clear bA_18 wa_18 ga_18
  have hB19 : Hid (Below w.heap.size w u7a) := hB18.out.trans ((hba7).mono hB18.out.size)
  have sz19 := (hba7).size
  clear z18_bA_0 z18_bA_1
  have z19_bA_0 := bA_19.out.cell 0 rfl
  have z19_bA_1 := bA_19.out.cell 1 rfl
  have x7t_19 : Hid (TreeO (n + 1) u7a [.string (strT x), .slice at7 (kidsOf x).length ct7] x f7t) := hto7
  clear hto7 hba7
  have rg_x7t : Hid (∀ b ∈ f7t, m6.heap.size ≤ b ∧ b < u7a.heap.size) := fun b q => ⟨lo7t'.out b q, rg_x7t0.out b q⟩
  go_wp2_with fail
  refine (toStepS_own (hl0.out.below StepAt_stays hB19.out) hsl.out).mono ?_
  rintro e u7c ⟨⟨kl7, f7s, rfl, hl7, _, lo7s⟩, hbc7⟩
  have rg_x7s0 : Hid (∀ b ∈ f7s, b < u7c.heap.size) := hl7.lt StepOwn_lt
  have hlo7 : Hid (SeqOwn 2 StepOwn u7c kl7 l f7s) := hl7
  have rg_x7s : Hid (∀ b ∈ f7s, u7a.heap.size ≤ b ∧ b < u7c.heap.size) := fun b q => ⟨by have := lo7s b q; omega, rg_x7s0.out b q⟩
  obtain ⟨al7, cl7, rfl⟩ := hl7.form
  clear hl7 lo7s
  have bA_20 : Hid (Box u7c w.heap.size [.string (strT x), .slice a0 (kidsOf x).length cap0] 32) := bA_19.out.below hbc7 bA_19.out.lt
  have wa_20 : Hid (SeqOwn 1 IntsOwn u7c (.slice awa rr.length cwa) rr fwa) := SeqOwn.stays IntsOwn_stays wa_19.out (fun x hx => (hbc7).block x (SeqOwn.lt IntsOwn_lt wa_19.out x hx))
  have ga_20 : Hid (SeqOwn 1 IntsOwn u7c (.slice aga rr.length cga) (mkL cntInts mkInts rr 1) fga) := SeqOwn.stays IntsOwn_stays ga_19.out (fun x hx => (hbc7).block x (SeqOwn.lt IntsOwn_lt ga_19.out x hx))
  have x7t_20 : Hid (TreeO (n + 1) u7c [.string (strT x), .slice at7 (kidsOf x).length ct7] x f7t) := TreeO_stays _ _ _ _ _ _ (fun x hx => (hbc7).block x (TreeO_lt _ _ _ _ _ x7t_19.out x hx)) x7t_19.out
  clear bA_19 wa_19 ga_19 x7t_19
  have hB20 : Hid (Below w.heap.size w u7c) := hB19.out.trans ((hbc7).mono hB19.out.size)
  have sz20 := (hbc7).size
  clear z19_bA_0 z19_bA_1
  have z20_bA_0 := bA_20.out.cell 0 rfl
  have z20_bA_1 := bA_20.out.cell 1 rfl
  have x7s_20 : Hid (SeqOwn 2 StepOwn u7c (.slice al7 l.length cl7) l f7s) := hlo7
  clear hlo7 hbc7
  go_wp2_with fail
  refine (implFindAll_any (TreeL.at (n + 1) _ _ _ (TreeO_at (lo := 0) (n + 1) _ _ _ _ x7t_20.out (fun _ _ => Nat.zero_le _))) (x7s_20.out.at (lo := 0) StepOwn_at (fun _ _ => Nat.zero_le _))).mono ?_
  rintro e w10 ⟨⟨kha, fha, rfl, ownha, _, lowha⟩, hbha⟩
  rw [hYS'.out] at ownha
  have lowha' : Hid (∀ b ∈ fha, u7c.heap.size ≤ b) := lowha
  have bA_21 : Hid (Box w10 w.heap.size [.string (strT x), .slice a0 (kidsOf x).length cap0] 32) := bA_20.out.below hbha bA_20.out.lt
  have wa_21 : Hid (SeqOwn 1 IntsOwn w10 (.slice awa rr.length cwa) rr fwa) := SeqOwn.stays IntsOwn_stays wa_20.out (fun x hx => (hbha).block x (SeqOwn.lt IntsOwn_lt wa_20.out x hx))
  have ga_21 : Hid (SeqOwn 1 IntsOwn w10 (.slice aga rr.length cga) (mkL cntInts mkInts rr 1) fga) := SeqOwn.stays IntsOwn_stays ga_20.out (fun x hx => (hbha).block x (SeqOwn.lt IntsOwn_lt ga_20.out x hx))
  have x7t_21 : Hid (TreeO (n + 1) w10 [.string (strT x), .slice at7 (kidsOf x).length ct7] x f7t) := TreeO_stays _ _ _ _ _ _ (fun x hx => (hbha).block x (TreeO_lt _ _ _ _ _ x7t_20.out x hx)) x7t_20.out
  have x7s_21 : Hid (SeqOwn 2 StepOwn w10 (.slice al7 l.length cl7) l f7s) := SeqOwn.stays StepOwn_stays x7s_20.out (fun x hx => (hbha).block x (SeqOwn.lt StepOwn_lt x7s_20.out x hx))
  clear bA_20 wa_20 ga_20 x7t_20 x7s_20
  have hB21 : Hid (Below w.heap.size w w10) := hB20.out.trans ((hbha).mono hB20.out.size)
  have sz21 := (hbha).size
  clear z20_bA_0 z20_bA_1
  have z21_bA_0 := bA_21.out.cell 0 rfl
  have z21_bA_1 := bA_21.out.cell 1 rfl
  clear hbha lowha
  have rg_ha0 : Hid (∀ b ∈ fha, b < w10.heap.size) := ownha.lt IntsOwn_lt
  have ownsha : Hid (SeqOwn 1 IntsOwn w10 kha rr fha) := ownha
  obtain ⟨aha, cha, rfl⟩ := ownha.form
  clear ownha
  have ha_21 : Hid (SeqOwn 1 IntsOwn w10 (.slice aha rr.length cha) rr fha) := ownsha
  have rg_ha : Hid (∀ b ∈ fha, u7c.heap.size ≤ b ∧ b < w10.heap.size) := fun b q => ⟨lowha'.out b q, rg_ha0.out b q⟩
  clear ownsha
  clear x7t_21
  clear x7s_21
  go_wp2_with fail
  refine (eqInt64SS_any (lo := 0) (lo2 := 0) (ha_21.out.at (lo := 0) IntsOwn_at (fun _ _ => Nat.zero_le _)) (wa_21.out.at (lo := 0) IntsOwn_at (fun _ _ => Nat.zero_le _))).mono ?_
  rintro e w11 ⟨rfl, hbw11⟩
  have bA_22 : Hid (Box w11 w.heap.size [.string (strT x), .slice a0 (kidsOf x).length cap0] 32) := bA_21.out.below hbw11 bA_21.out.lt
  have wa_22 : Hid (SeqOwn 1 IntsOwn w11 (.slice awa rr.length cwa) rr fwa) := SeqOwn.stays IntsOwn_stays wa_21.out (fun x hx => (hbw11).block x (SeqOwn.lt IntsOwn_lt wa_21.out x hx))
  have ga_22 : Hid (SeqOwn 1 IntsOwn w11 (.slice aga rr.length cga) (mkL cntInts mkInts rr 1) fga) := SeqOwn.stays IntsOwn_stays ga_21.out (fun x hx => (hbw11).block x (SeqOwn.lt IntsOwn_lt ga_21.out x hx))
  have ha_22 : Hid (SeqOwn 1 IntsOwn w11 (.slice aha rr.length cha) rr fha) := SeqOwn.stays IntsOwn_stays ha_21.out (fun x hx => (hbw11).block x (SeqOwn.lt IntsOwn_lt ha_21.out x hx))
  clear bA_21 wa_21 ga_21 ha_21
  have hB22 : Hid (Below w.heap.size w w11) := hB21.out.trans ((hbw11).mono hB21.out.size)
  have sz22 := (hbw11).size
  clear z21_bA_0 z21_bA_1
  have z22_bA_0 := bA_22.out.cell 0 rfl
  have z22_bA_1 := bA_22.out.cell 1 rfl
  clear hbw11
  go_wp2_with fail
  refine (heldInt64SS_any (lo := 0) (m := 1) (xs := rr) (ga_22.out.at (lo := 0) IntsOwn_at (fun _ _ => Nat.zero_le _)) (by omega) (by rw [hCI'.out]; exact hYC.out)).mono ?_
  rintro e w12 ⟨rfl, hbw12⟩
  rw [hCI'.out]
  have bA_23 : Hid (Box w12 w.heap.size [.string (strT x), .slice a0 (kidsOf x).length cap0] 32) := bA_22.out.below hbw12 bA_22.out.lt
  have wa_23 : Hid (SeqOwn 1 IntsOwn w12 (.slice awa rr.length cwa) rr fwa) := SeqOwn.stays IntsOwn_stays wa_22.out (fun x hx => (hbw12).block x (SeqOwn.lt IntsOwn_lt wa_22.out x hx))
  have ga_23 : Hid (SeqOwn 1 IntsOwn w12 (.slice aga rr.length cga) (mkL cntInts mkInts rr 1) fga) := SeqOwn.stays IntsOwn_stays ga_22.out (fun x hx => (hbw12).block x (SeqOwn.lt IntsOwn_lt ga_22.out x hx))
  have ha_23 : Hid (SeqOwn 1 IntsOwn w12 (.slice aha rr.length cha) rr fha) := SeqOwn.stays IntsOwn_stays ha_22.out (fun x hx => (hbw12).block x (SeqOwn.lt IntsOwn_lt ha_22.out x hx))
  clear bA_22 wa_22 ga_22 ha_22
  have hB23 : Hid (Below w.heap.size w w12) := hB22.out.trans ((hbw12).mono hB22.out.size)
  have sz23 := (hbw12).size
  clear z22_bA_0 z22_bA_1
  have z23_bA_0 := bA_23.out.cell 0 rfl
  have z23_bA_1 := bA_23.out.cell 1 rfl
  clear hbw12
  go_wp2_with fail
  go_ret
  exact ⟨rfl, hB23.out⟩
/-! The row -/
set_option maxRecDepth 100000 in
theorem lifted (os : Os) (started : os.Started) (H : Type) (enc : TypeId × Value → H) :
    ReturnsInHanded {} Try.checked os 8 .any (Rows.fnExactFindAllSpec.pre6 enc Try.prog Try.f8 Rows.fnExactFindAllRow.domain false) (Rows.fnExactFindAllSpec.post enc Try.prog Try.f8 false true false false) := by
  refine returnsInHanded_of_change (C := Try.checked) own started (by kernel_rfl) Try.func8
    (ChangeSpec.witness6 (enc := enc) (C := Try.checked) false ⟨#[], #[.agg #[.string ByteArray.empty, .slice none 0 0], .slice none 0 0], []⟩ 8 (by kernel_rfl) (by kernel_rfl) (by kernel_rfl) (by kernel_rfl)) ?_
  intro W base args ds gs before hval0 hW hcnd _
  have hval : ∀ (j : Nat) t v, Try.f8.params[j]? = some t → args[j]? = some v → Value.okWide Try.prog W .any base t v := hval0
  have hW' := hW
  obtain ⟨p, q, hA0, hV, rfl, hfz, hnd⟩ := hW
  have hA : DataW.TrodAll enc Try.prog W 0 (fun _ => true) true Try.f8.params.toList args.toList ds p := hA0
  rw [Try.params8] at hA hval
  obtain ⟨v0, vs0, d0, ds0, p0, q0, hargs, rfl, rfl, h0, r0⟩ := trodAll_cons hA
  obtain ⟨v1, vs1, d1, ds1, p1, q1, rfl, rfl, rfl, h1, r1⟩ := trodAll_cons r0
  obtain ⟨rfl, rfl, rfl⟩ := trodAll_nil r1
  obtain rfl : args = #[v0, v1] := by cases args; simp_all
  obtain ⟨rfl, rfl⟩ := trodVars_none hV
  have k0 := h0
  have lt0 : ∀ x ∈ p0, x.block < W.heap.size := by obtain ⟨m, hm⟩ := k0; exact DataW.trod_lt m _ _ _ hm
  obtain ⟨cs0, rfl, _⟩ := okWide_struct Try.underlying32 (hval 0 32 v0 rfl rfl)
  obtain ⟨fuel0, hf0⟩ := h0
  obtain ⟨x0, hx0⟩ := TreeL_of_trod fuel0 _ _ hf0
  have hcs0 : (Value.agg cs0).cells = cs0 := rfl
  rw [hcs0] at hx0
  have k1 := h1
  have lt1 : ∀ x ∈ p1, x.block < W.heap.size := by obtain ⟨m, hm⟩ := k1; exact DataW.trod_lt m _ _ _ hm
  obtain ⟨fuel1, hf1⟩ := h1
  obtain ⟨kk1, x1, hk1, hx1⟩ := seqAt_of_trod (R := StepAt) Try.underlying22 (show Try.prog.cellsOf 59 = 2 from by kernel_rfl) (by decide) StepAt_of_trod hf1
  obtain ⟨_, _, _, rfl⟩ := okWide_slice Try.underlying22 (hval 1 22 v1 rfl rfl)
  injection hk1 with hk1 _
  subst hk1
  clear hA0 hval0
  have hwk := walk hx0 hx1
  rw [Array.toArray_toList] at hwk
  refine hwk.mono fun e W' ⟨he, bel⟩ => ?_
  subst he
  exact ⟨_, rfl, _, _, _, [], _, [], hW', trodAll_mk1 (shut_bool Try.underlying4 _), (trodAll_cons_mk (Below.trod laidOut (by kernel_rfl) (of_decide_eq_true (by kernel_rfl)) k0 bel lt0) (trodAll_cons_mk (Below.trod laidOut (by kernel_rfl) (of_decide_eq_true (by kernel_rfl)) k1 bel lt1) trodAll_mk0)), rfl, bel.frame _, fun h => by cases h⟩
theorem over : Rows.fnExactFindAllRow.holds Try.pinned (OpenSpec.ofChange Rows.fnExactFindAllSpec) :=
  OpenClaim.holds_of_wide 8 Try.f8 rfl rfl rfl rfl rfl rfl rfl ⟨rfl, rfl, rfl, rfl, rfl⟩ rfl rfl rfl rfl rfl (by kernel_rfl) Try.func8 (by kernel_rfl)
    (of_decide_eq_true (by kernel_rfl)) (by unfold Func.isWrapper; first | (rw [if_pos (by decide +kernel)]; kernel_rfl) | (rw [if_neg (by decide +kernel)]; exact ⟨rfl, rfl⟩))
    (fun os started H enc _ => lifted os started H enc)
end Go.Proofs.Ytldecaccionigaa.fnExactFindAll
namespace Go.Proofs.Ytldecaccionigaa
theorem fnExactFindAll_holds : Rows.FnExactFindAllSaid := fnExactFindAll.over
end Go.Proofs.Ytldecaccionigaa
