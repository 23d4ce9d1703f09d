/- At every mark Bare answers as its specification, writes into no argument, and its answer owns its memory. No condition. -/
import Derived.Test.YtlcddndpfhdakaaMarkSzC
import Derived.Test.YtlcddndpfhdakaaMarkToO
import Derived.Test.YtlcddndpfhdakaaMarkEq
import Derived.Test.YtlcddndpfhdakaaTreeMarks
import Derived.Test.YtlcddndpfhdakaaTreeEq
import Derived.Test.YtlcddndpfhdakaaBareTop
import Derived.Test.YtlcddndpfhdakaaBareCnt
import Derived.ProofKit
import Derived.OpenShut
import Derived.ShutString
import Derived.ChangeOld
import Derived.Below
import Derived.Laws.Cover1
import Derived.WalkKit
namespace Go.Proofs.Ytlcddndpfhdakaa.fnExactBare
open Go.ChangeShapes Go.WideShapes Go.ChangeAt Go.RowKit

theorem own : ownKnob Try.prog.godebug = none := by kernel_rfl
theorem laidOut : laidOutB Try.prog = true := by kernel_rfl
set_option maxRecDepth 100000 in
set_option maxHeartbeats 6400000 in
theorem walk {n0 : Nat} {w : World} {cs : List Value} {x : MarkD} (hx : MarkAt n0 w 0 cs x) :
    Calls Try.prog 3 #[.agg cs.toArray] w fun e w' => e = .returned (.bool true) ∧ Below w.heap.size w w' := by
  obtain ⟨n, rfl⟩ : ∃ n, n0 = n + 1 := by cases n0 with | zero => exact hx.elim | succ n => exact ⟨n, rfl⟩
  have hx0 : Hid (MarkAt (n + 1) w 0 cs x) := hx
  obtain ⟨k2, k3, rfl, s2, s3, _⟩ := MarkAt.opened hx
  obtain ⟨a0, cap0, rfl⟩ := s2.form
  obtain ⟨b0, bcap0, rfl⟩ := s3.form
  clear hx s2 s3
  have hB0 : Hid (Below w.heap.size w (w.alloc (.cells (List.toArray [.string x.vTag, .string x.vText, .slice a0 x.vAttrs.length cap0, .slice b0 x.vKids.length bcap0]) 25))) := (Below.refl _ _).alloc (Nat.le_refl _) _
  have bA_0 : Hid (Box (w.alloc (.cells (List.toArray [.string x.vTag, .string x.vText, .slice a0 x.vAttrs.length cap0, .slice b0 x.vKids.length bcap0]) 25)) w.heap.size [.string x.vTag, .string x.vText, .slice a0 x.vAttrs.length cap0, .slice b0 x.vKids.length bcap0] 25) := Box.new w _ _
  have z0_bA_0 := bA_0.out.cell 0 rfl
  have z0_bA_1 := bA_0.out.cell 1 rfl
  have z0_bA_2 := bA_0.out.cell 2 rfl
  have z0_bA_3 := bA_0.out.cell 3 rfl
  have szA : w.heap.size + 1 ≤ (w.alloc (.cells (List.toArray [.string x.vTag, .string x.vText, .slice a0 x.vAttrs.length cap0, .slice b0 x.vKids.length bcap0]) 25)).heap.size := by simp
  simp only [World.size_alloc] at szA
  go_enter Try.func3, Try.ntmps3
  go_wp2_with fail
  refine ((szCMark_all (n + 1)).1 _ 0 _ x _ (MarkAt.below hx0.out hB0.out) (by omega) (by omega)).mono ?_
  rintro e w1 ⟨⟨r, rfl, hr1, hr2, hsm⟩, hb1⟩
  have hsm' : Hid (r < 0 ∨ (MarkD.small (n + 1) x ∧ 2 * r + (belowM (n + 1) x : Int) ≤ 2 * 1048576)) := hsm
  clear hsm
  have bA_1 : Hid (Box w1 w.heap.size [.string x.vTag, .string x.vText, .slice a0 x.vAttrs.length cap0, .slice b0 x.vKids.length bcap0] 25) := bA_0.out.below hb1 bA_0.out.lt
  clear bA_0
  have hB1 : Hid (Below w.heap.size w w1) := hB0.out.trans ((hb1).mono hB0.out.size)
  have sz1 := (hb1).size
  simp only [World.size_alloc] at sz1
  clear z0_bA_0 z0_bA_1 z0_bA_2 z0_bA_3
  have z1_bA_0 := bA_1.out.cell 0 rfl
  have z1_bA_1 := bA_1.out.cell 1 rfl
  have z1_bA_2 := bA_1.out.cell 2 rfl
  have z1_bA_3 := bA_1.out.cell 3 rfl
  clear hb1
  by_cases hneg : r < 0
  · go_wp2_with fail
    go_ret
    exact ⟨rfl, hB1.out⟩
  have hsm : Hid (MarkD.small (n + 1) x) := (hsm'.out.resolve_left hneg).1
  have hcx : Hid ((cntL cntAttr x.vAttrs : Int) + (cntL (cntMark n) x.vKids : Int) ≤ 2097152) := by show _ ≤ _; have := (hsm'.out.resolve_left hneg).2; simp only [belowM] at this; omega
  clear hsm'
  go_wp2_with fail
  refine ((toOM_all (n + 1)).1 _ 0 _ x (MarkAt.below hx0.out hB1.out) hsm.out).mono ?_
  rintro e u3a ⟨⟨cs3, f3t, rfl, ht3, nd3t, lo3t⟩, hba3⟩
  have nd3t' : Hid (f3t.Nodup) := nd3t
  have rg_x3t0 : Hid (∀ b ∈ f3t, b < u3a.heap.size) := MarkOwn_lt _ _ _ _ _ ht3
  have lo3t' : Hid (∀ b ∈ f3t, w1.heap.size ≤ b) := lo3t
  obtain ⟨kk3, kz3, _, _, rfl, ss3, sz3x, _⟩ := ht3.opened
  obtain ⟨at3, ct3, rfl⟩ := ss3.form
  obtain ⟨bt3, dt3, rfl⟩ := sz3x.form
  have hto3 : Hid (MarkOwn (n + 1) u3a [.string x.vTag, .string x.vText, .slice at3 x.vAttrs.length ct3, .slice bt3 x.vKids.length dt3] x f3t) := ht3
  clear ht3 ss3 sz3x lo3t nd3t
  have bA_2 : Hid (Box u3a w.heap.size [.string x.vTag, .string x.vText, .slice a0 x.vAttrs.length cap0, .slice b0 x.vKids.length bcap0] 25) := bA_1.out.below hba3 bA_1.out.lt
  clear bA_1
  have hB2 : Hid (Below w.heap.size w u3a) := hB1.out.trans ((hba3).mono hB1.out.size)
  have sz2 := (hba3).size
  clear z1_bA_0 z1_bA_1 z1_bA_2 z1_bA_3
  have z2_bA_0 := bA_2.out.cell 0 rfl
  have z2_bA_1 := bA_2.out.cell 1 rfl
  have z2_bA_2 := bA_2.out.cell 2 rfl
  have z2_bA_3 := bA_2.out.cell 3 rfl
  have x3t_2 : Hid (MarkOwn (n + 1) u3a [.string x.vTag, .string x.vText, .slice at3 x.vAttrs.length ct3, .slice bt3 x.vKids.length dt3] x f3t) := hto3
  clear hto3 hba3
  have rg_x3t : Hid (∀ b ∈ f3t, w1.heap.size ≤ b ∧ b < u3a.heap.size) := fun b q => ⟨lo3t'.out b q, rg_x3t0.out b q⟩
  go_wp2_with fail
  refine (specBare_any (MarkOwn_at (lo := 0) (n + 1) _ _ _ _ x3t_2.out (fun _ _ => Nat.zero_le _))).mono ?_
  rintro e w4 ⟨⟨cswa, fwa, rfl, ownwa, _, lowwa⟩, hbwa⟩
  have lowwa' : Hid (∀ b ∈ fwa, u3a.heap.size ≤ b) := lowwa
  have bA_3 : Hid (Box w4 w.heap.size [.string x.vTag, .string x.vText, .slice a0 x.vAttrs.length cap0, .slice b0 x.vKids.length bcap0] 25) := bA_2.out.below hbwa bA_2.out.lt
  have x3t_3 : Hid (MarkOwn (n + 1) w4 [.string x.vTag, .string x.vText, .slice at3 x.vAttrs.length ct3, .slice bt3 x.vKids.length dt3] x f3t) := MarkOwn_stays _ _ _ _ _ _ (fun x hx => (hbwa).block x (MarkOwn_lt _ _ _ _ _ x3t_2.out x hx)) x3t_2.out
  clear bA_2 x3t_2
  have hB3 : Hid (Below w.heap.size w w4) := hB2.out.trans ((hbwa).mono hB2.out.size)
  have sz3 := (hbwa).size
  clear z2_bA_0 z2_bA_1 z2_bA_2 z2_bA_3
  have z3_bA_0 := bA_3.out.cell 0 rfl
  have z3_bA_1 := bA_3.out.cell 1 rfl
  have z3_bA_2 := bA_3.out.cell 2 rfl
  have z3_bA_3 := bA_3.out.cell 3 rfl
  clear hbwa lowwa
  generalize hYS : bareR (n + 1) x = rr at ownwa ⊢
  have hYS' : Hid (bareR (n + 1) x = rr) := hYS
  clear hYS
  obtain ⟨td, bb⟩ := rr
  dsimp only at ownwa ⊢
  have rg_wa0 : Hid (∀ b ∈ fwa, b < w4.heap.size) := TreeO_lt _ _ _ _ _ ownwa
  have ownswa : Hid (TreeO (n + 1) w4 cswa td fwa) := ownwa
  obtain ⟨kkwa, rfl, sswa, _⟩ := ownwa.opened
  obtain ⟨awa, cwa, rfl⟩ := sswa.form
  clear ownwa sswa
  have wa_3 : Hid (TreeO (n + 1) w4 [.string (strT td), .slice awa (kidsOf td).length cwa] td fwa) := ownswa
  have rg_wa : Hid (∀ b ∈ fwa, u3a.heap.size ≤ b ∧ b < w4.heap.size) := fun b q => ⟨lowwa'.out b q, rg_wa0.out b q⟩
  clear ownswa
  have hbzwa : Below w4.heap.size w4 (w4.alloc (.cells (List.toArray [.string (strT td), .slice awa (kidsOf td).length cwa]) 29)) := (Below.refl _ _).alloc (Nat.le_refl _) _
  have szzwa : (w4.alloc (.cells (List.toArray [.string (strT td), .slice awa (kidsOf td).length cwa]) 29)).heap.size = w4.heap.size + 1 := by simp
  have bA_4 : Hid (Box (w4.alloc (.cells (List.toArray [.string (strT td), .slice awa (kidsOf td).length cwa]) 29)) w.heap.size [.string x.vTag, .string x.vText, .slice a0 x.vAttrs.length cap0, .slice b0 x.vKids.length bcap0] 25) := bA_3.out.below hbzwa bA_3.out.lt
  have x3t_4 : Hid (MarkOwn (n + 1) (w4.alloc (.cells (List.toArray [.string (strT td), .slice awa (kidsOf td).length cwa]) 29)) [.string x.vTag, .string x.vText, .slice at3 x.vAttrs.length ct3, .slice bt3 x.vKids.length dt3] x f3t) := MarkOwn_stays _ _ _ _ _ _ (fun x hx => (hbzwa).block x (MarkOwn_lt _ _ _ _ _ x3t_3.out x hx)) x3t_3.out
  have wa_4 : Hid (TreeO (n + 1) (w4.alloc (.cells (List.toArray [.string (strT td), .slice awa (kidsOf td).length cwa]) 29)) [.string (strT td), .slice awa (kidsOf td).length cwa] td fwa) := TreeO_stays _ _ _ _ _ _ (fun x hx => (hbzwa).block x (TreeO_lt _ _ _ _ _ wa_3.out x hx)) wa_3.out
  clear bA_3 x3t_3 wa_3
  have hB4 : Hid (Below w.heap.size w (w4.alloc (.cells (List.toArray [.string (strT td), .slice awa (kidsOf td).length cwa]) 29))) := hB3.out.trans ((hbzwa).mono hB3.out.size)
  have sz4 := (hbzwa).size
  simp only [World.size_alloc] at sz4
  clear z3_bA_0 z3_bA_1 z3_bA_2 z3_bA_3
  have z4_bA_0 := bA_4.out.cell 0 rfl
  have z4_bA_1 := bA_4.out.cell 1 rfl
  have z4_bA_2 := bA_4.out.cell 2 rfl
  have z4_bA_3 := bA_4.out.cell 3 rfl
  have bwa_4 : Hid (Box (w4.alloc (.cells (List.toArray [.string (strT td), .slice awa (kidsOf td).length cwa]) 29)) w4.heap.size [.string (strT td), .slice awa (kidsOf td).length cwa] 29) := Box.new w4 _ _
  have z4_bwa_0 := bwa_4.out.cell 0 rfl
  have z4_bwa_1 := bwa_4.out.cell 1 rfl
  clear hbzwa
  clear x3t_4
  have hYC : Hid ((1 : Int) + (cntL (cntTree n) (kidsOf td) : Nat) ≤ 4611686018427387904) := by show _ ≤ _; have := bareR_cnt (n + 1) x n; rw [hYS'.out] at this; dsimp only at this; omega
  go_wp2_with fail
  refine ((toOM_all (n + 1)).1 _ 0 _ x (MarkAt.below hx0.out hB4.out) hsm.out).mono ?_
  rintro e u5a ⟨⟨cs5, f5t, rfl, ht5, nd5t, lo5t⟩, hba5⟩
  have nd5t' : Hid (f5t.Nodup) := nd5t
  have rg_x5t0 : Hid (∀ b ∈ f5t, b < u5a.heap.size) := MarkOwn_lt _ _ _ _ _ ht5
  have lo5t' : Hid (∀ b ∈ f5t, ((w4.alloc (.cells (List.toArray [.string (strT td), .slice awa (kidsOf td).length cwa]) 29))).heap.size ≤ b) := lo5t
  obtain ⟨kk5, kz5, _, _, rfl, ss5, sz5x, _⟩ := ht5.opened
  obtain ⟨at5, ct5, rfl⟩ := ss5.form
  obtain ⟨bt5, dt5, rfl⟩ := sz5x.form
  have hto5 : Hid (MarkOwn (n + 1) u5a [.string x.vTag, .string x.vText, .slice at5 x.vAttrs.length ct5, .slice bt5 x.vKids.length dt5] x f5t) := ht5
  clear ht5 ss5 sz5x lo5t nd5t
  have bA_5 : Hid (Box u5a w.heap.size [.string x.vTag, .string x.vText, .slice a0 x.vAttrs.length cap0, .slice b0 x.vKids.length bcap0] 25) := bA_4.out.below hba5 bA_4.out.lt
  have wa_5 : Hid (TreeO (n + 1) u5a [.string (strT td), .slice awa (kidsOf td).length cwa] td fwa) := TreeO_stays _ _ _ _ _ _ (fun x hx => (hba5).block x (TreeO_lt _ _ _ _ _ wa_4.out x hx)) wa_4.out
  have bwa_5 : Hid (Box u5a w4.heap.size [.string (strT td), .slice awa (kidsOf td).length cwa] 29) := bwa_4.out.below hba5 bwa_4.out.lt
  clear bA_4 wa_4 bwa_4
  have hB5 : Hid (Below w.heap.size w u5a) := hB4.out.trans ((hba5).mono hB4.out.size)
  have sz5 := (hba5).size
  simp only [World.size_alloc] at sz5
  clear z4_bA_0 z4_bA_1 z4_bA_2 z4_bA_3 z4_bwa_0 z4_bwa_1
  have z5_bA_0 := bA_5.out.cell 0 rfl
  have z5_bA_1 := bA_5.out.cell 1 rfl
  have z5_bA_2 := bA_5.out.cell 2 rfl
  have z5_bA_3 := bA_5.out.cell 3 rfl
  have z5_bwa_0 := bwa_5.out.cell 0 rfl
  have z5_bwa_1 := bwa_5.out.cell 1 rfl
  have x5t_5 : Hid (MarkOwn (n + 1) u5a [.string x.vTag, .string x.vText, .slice at5 x.vAttrs.length ct5, .slice bt5 x.vKids.length dt5] x f5t) := hto5
  clear hto5 hba5
  have rg_x5t : Hid (∀ b ∈ f5t, w4.heap.size + 1 ≤ b ∧ b < u5a.heap.size) := fun b q => ⟨by have := lo5t'.out b q; simp only [World.size_alloc] at this; omega, rg_x5t0.out b q⟩
  have hbx5 : Below u5a.heap.size u5a (u5a.alloc (.cells (List.toArray [.string x.vTag, .string x.vText, .slice at5 x.vAttrs.length ct5, .slice bt5 x.vKids.length dt5]) 35)) := (Below.refl _ _).alloc (Nat.le_refl _) _
  have szx5 : (u5a.alloc (.cells (List.toArray [.string x.vTag, .string x.vText, .slice at5 x.vAttrs.length ct5, .slice bt5 x.vKids.length dt5]) 35)).heap.size = u5a.heap.size + 1 := by simp
  have bA_6 : Hid (Box (u5a.alloc (.cells (List.toArray [.string x.vTag, .string x.vText, .slice at5 x.vAttrs.length ct5, .slice bt5 x.vKids.length dt5]) 35)) w.heap.size [.string x.vTag, .string x.vText, .slice a0 x.vAttrs.length cap0, .slice b0 x.vKids.length bcap0] 25) := bA_5.out.below hbx5 bA_5.out.lt
  have wa_6 : Hid (TreeO (n + 1) (u5a.alloc (.cells (List.toArray [.string x.vTag, .string x.vText, .slice at5 x.vAttrs.length ct5, .slice bt5 x.vKids.length dt5]) 35)) [.string (strT td), .slice awa (kidsOf td).length cwa] td fwa) := TreeO_stays _ _ _ _ _ _ (fun x hx => (hbx5).block x (TreeO_lt _ _ _ _ _ wa_5.out x hx)) wa_5.out
  have bwa_6 : Hid (Box (u5a.alloc (.cells (List.toArray [.string x.vTag, .string x.vText, .slice at5 x.vAttrs.length ct5, .slice bt5 x.vKids.length dt5]) 35)) w4.heap.size [.string (strT td), .slice awa (kidsOf td).length cwa] 29) := bwa_5.out.below hbx5 bwa_5.out.lt
  have x5t_6 : Hid (MarkOwn (n + 1) (u5a.alloc (.cells (List.toArray [.string x.vTag, .string x.vText, .slice at5 x.vAttrs.length ct5, .slice bt5 x.vKids.length dt5]) 35)) [.string x.vTag, .string x.vText, .slice at5 x.vAttrs.length ct5, .slice bt5 x.vKids.length dt5] x f5t) := MarkOwn_stays _ _ _ _ _ _ (fun x hx => (hbx5).block x (MarkOwn_lt _ _ _ _ _ x5t_5.out x hx)) x5t_5.out
  clear bA_5 wa_5 bwa_5 x5t_5
  have hB6 : Hid (Below w.heap.size w (u5a.alloc (.cells (List.toArray [.string x.vTag, .string x.vText, .slice at5 x.vAttrs.length ct5, .slice bt5 x.vKids.length dt5]) 35))) := hB5.out.trans ((hbx5).mono hB5.out.size)
  have sz6 := (hbx5).size
  simp only [World.size_alloc] at sz6
  clear z5_bA_0 z5_bA_1 z5_bA_2 z5_bA_3 z5_bwa_0 z5_bwa_1
  have z6_bA_0 := bA_6.out.cell 0 rfl
  have z6_bA_1 := bA_6.out.cell 1 rfl
  have z6_bA_2 := bA_6.out.cell 2 rfl
  have z6_bA_3 := bA_6.out.cell 3 rfl
  have z6_bwa_0 := bwa_6.out.cell 0 rfl
  have z6_bwa_1 := bwa_6.out.cell 1 rfl
  have bX5_6 : Hid (Box (u5a.alloc (.cells (List.toArray [.string x.vTag, .string x.vText, .slice at5 x.vAttrs.length ct5, .slice bt5 x.vKids.length dt5]) 35)) u5a.heap.size [.string x.vTag, .string x.vText, .slice at5 x.vAttrs.length ct5, .slice bt5 x.vKids.length dt5] 35) := Box.new u5a _ _
  have z6_bX5_0 := bX5_6.out.cell 0 rfl
  have z6_bX5_1 := bX5_6.out.cell 1 rfl
  have z6_bX5_2 := bX5_6.out.cell 2 rfl
  have z6_bX5_3 := bX5_6.out.cell 3 rfl
  clear hbx5
  go_wp2_with fail
  refine (implBare_any (MarkOwn_at (lo := 0) (n + 1) _ _ _ _ x5t_6.out (fun _ _ => Nat.zero_le _))).mono ?_
  rintro e w6 ⟨⟨csga, fga, rfl, ownga, _, lowga⟩, hbga⟩
  rw [hYS'.out] at ownga ⊢
  dsimp only at ownga ⊢
  have lowga' : Hid (∀ b ∈ fga, ((u5a.alloc (.cells (List.toArray [.string x.vTag, .string x.vText, .slice at5 x.vAttrs.length ct5, .slice bt5 x.vKids.length dt5]) 35))).heap.size ≤ b) := lowga
  have bA_7 : Hid (Box w6 w.heap.size [.string x.vTag, .string x.vText, .slice a0 x.vAttrs.length cap0, .slice b0 x.vKids.length bcap0] 25) := bA_6.out.below hbga bA_6.out.lt
  have wa_7 : Hid (TreeO (n + 1) w6 [.string (strT td), .slice awa (kidsOf td).length cwa] td fwa) := TreeO_stays _ _ _ _ _ _ (fun x hx => (hbga).block x (TreeO_lt _ _ _ _ _ wa_6.out x hx)) wa_6.out
  have bwa_7 : Hid (Box w6 w4.heap.size [.string (strT td), .slice awa (kidsOf td).length cwa] 29) := bwa_6.out.below hbga bwa_6.out.lt
  have x5t_7 : Hid (MarkOwn (n + 1) w6 [.string x.vTag, .string x.vText, .slice at5 x.vAttrs.length ct5, .slice bt5 x.vKids.length dt5] x f5t) := MarkOwn_stays _ _ _ _ _ _ (fun x hx => (hbga).block x (MarkOwn_lt _ _ _ _ _ x5t_6.out x hx)) x5t_6.out
  have bX5_7 : Hid (Box w6 u5a.heap.size [.string x.vTag, .string x.vText, .slice at5 x.vAttrs.length ct5, .slice bt5 x.vKids.length dt5] 35) := bX5_6.out.below hbga bX5_6.out.lt
  clear bA_6 wa_6 bwa_6 x5t_6 bX5_6
  have hB7 : Hid (Below w.heap.size w w6) := hB6.out.trans ((hbga).mono hB6.out.size)
  have sz7 := (hbga).size
  simp only [World.size_alloc] at sz7
  clear z6_bA_0 z6_bA_1 z6_bA_2 z6_bA_3 z6_bwa_0 z6_bwa_1 z6_bX5_0 z6_bX5_1 z6_bX5_2 z6_bX5_3
  have z7_bA_0 := bA_7.out.cell 0 rfl
  have z7_bA_1 := bA_7.out.cell 1 rfl
  have z7_bA_2 := bA_7.out.cell 2 rfl
  have z7_bA_3 := bA_7.out.cell 3 rfl
  have z7_bwa_0 := bwa_7.out.cell 0 rfl
  have z7_bwa_1 := bwa_7.out.cell 1 rfl
  have z7_bX5_0 := bX5_7.out.cell 0 rfl
  have z7_bX5_1 := bX5_7.out.cell 1 rfl
  have z7_bX5_2 := bX5_7.out.cell 2 rfl
  have z7_bX5_3 := bX5_7.out.cell 3 rfl
  clear hbga lowga
  have rg_ga0 : Hid (∀ b ∈ fga, b < w6.heap.size) := TreeO_lt _ _ _ _ _ ownga
  have ownsga : Hid (TreeO (n + 1) w6 csga td fga) := ownga
  obtain ⟨kkga, rfl, ssga, _⟩ := ownga.opened
  obtain ⟨aga, cga, rfl⟩ := ssga.form
  clear ownga ssga
  have ga_7 : Hid (TreeO (n + 1) w6 [.string (strT td), .slice aga (kidsOf td).length cga] td fga) := ownsga
  have rg_ga : Hid (∀ b ∈ fga, u5a.heap.size + 1 ≤ b ∧ b < w6.heap.size) := fun b q => ⟨by have := lowga'.out b q; simp only [World.size_alloc] at this; omega, rg_ga0.out b q⟩
  clear ownsga
  have hbzga : Below w6.heap.size w6 (w6.alloc (.cells (List.toArray [.string (strT td), .slice aga (kidsOf td).length cga]) 29)) := (Below.refl _ _).alloc (Nat.le_refl _) _
  have szzga : (w6.alloc (.cells (List.toArray [.string (strT td), .slice aga (kidsOf td).length cga]) 29)).heap.size = w6.heap.size + 1 := by simp
  have bA_8 : Hid (Box (w6.alloc (.cells (List.toArray [.string (strT td), .slice aga (kidsOf td).length cga]) 29)) w.heap.size [.string x.vTag, .string x.vText, .slice a0 x.vAttrs.length cap0, .slice b0 x.vKids.length bcap0] 25) := bA_7.out.below hbzga bA_7.out.lt
  have wa_8 : Hid (TreeO (n + 1) (w6.alloc (.cells (List.toArray [.string (strT td), .slice aga (kidsOf td).length cga]) 29)) [.string (strT td), .slice awa (kidsOf td).length cwa] td fwa) := TreeO_stays _ _ _ _ _ _ (fun x hx => (hbzga).block x (TreeO_lt _ _ _ _ _ wa_7.out x hx)) wa_7.out
  have bwa_8 : Hid (Box (w6.alloc (.cells (List.toArray [.string (strT td), .slice aga (kidsOf td).length cga]) 29)) w4.heap.size [.string (strT td), .slice awa (kidsOf td).length cwa] 29) := bwa_7.out.below hbzga bwa_7.out.lt
  have x5t_8 : Hid (MarkOwn (n + 1) (w6.alloc (.cells (List.toArray [.string (strT td), .slice aga (kidsOf td).length cga]) 29)) [.string x.vTag, .string x.vText, .slice at5 x.vAttrs.length ct5, .slice bt5 x.vKids.length dt5] x f5t) := MarkOwn_stays _ _ _ _ _ _ (fun x hx => (hbzga).block x (MarkOwn_lt _ _ _ _ _ x5t_7.out x hx)) x5t_7.out
  have bX5_8 : Hid (Box (w6.alloc (.cells (List.toArray [.string (strT td), .slice aga (kidsOf td).length cga]) 29)) u5a.heap.size [.string x.vTag, .string x.vText, .slice at5 x.vAttrs.length ct5, .slice bt5 x.vKids.length dt5] 35) := bX5_7.out.below hbzga bX5_7.out.lt
  have ga_8 : Hid (TreeO (n + 1) (w6.alloc (.cells (List.toArray [.string (strT td), .slice aga (kidsOf td).length cga]) 29)) [.string (strT td), .slice aga (kidsOf td).length cga] td fga) := TreeO_stays _ _ _ _ _ _ (fun x hx => (hbzga).block x (TreeO_lt _ _ _ _ _ ga_7.out x hx)) ga_7.out
  clear bA_7 wa_7 bwa_7 x5t_7 bX5_7 ga_7
  have hB8 : Hid (Below w.heap.size w (w6.alloc (.cells (List.toArray [.string (strT td), .slice aga (kidsOf td).length cga]) 29))) := hB7.out.trans ((hbzga).mono hB7.out.size)
  have sz8 := (hbzga).size
  simp only [World.size_alloc] at sz8
  clear z7_bA_0 z7_bA_1 z7_bA_2 z7_bA_3 z7_bwa_0 z7_bwa_1 z7_bX5_0 z7_bX5_1 z7_bX5_2 z7_bX5_3
  have z8_bA_0 := bA_8.out.cell 0 rfl
  have z8_bA_1 := bA_8.out.cell 1 rfl
  have z8_bA_2 := bA_8.out.cell 2 rfl
  have z8_bA_3 := bA_8.out.cell 3 rfl
  have z8_bwa_0 := bwa_8.out.cell 0 rfl
  have z8_bwa_1 := bwa_8.out.cell 1 rfl
  have z8_bX5_0 := bX5_8.out.cell 0 rfl
  have z8_bX5_1 := bX5_8.out.cell 1 rfl
  have z8_bX5_2 := bX5_8.out.cell 2 rfl
  have z8_bX5_3 := bX5_8.out.cell 3 rfl
  have bga_8 : Hid (Box (w6.alloc (.cells (List.toArray [.string (strT td), .slice aga (kidsOf td).length cga]) 29)) w6.heap.size [.string (strT td), .slice aga (kidsOf td).length cga] 29) := Box.new w6 _ _
  have z8_bga_0 := bga_8.out.cell 0 rfl
  have z8_bga_1 := bga_8.out.cell 1 rfl
  clear hbzga
  go_wp2_with fail
  refine (eqTree_any (lo := 0) (lo2 := 0) (TreeO_at (lo := 0) (n + 1) _ _ _ _ ga_8.out (fun _ _ => Nat.zero_le _)) (TreeO_at (lo := 0) (n + 1) _ _ _ _ wa_8.out (fun _ _ => Nat.zero_le _))).mono ?_
  rintro e w7 ⟨rfl, hbw7⟩
  have bA_9 : Hid (Box w7 w.heap.size [.string x.vTag, .string x.vText, .slice a0 x.vAttrs.length cap0, .slice b0 x.vKids.length bcap0] 25) := bA_8.out.below hbw7 bA_8.out.lt
  have wa_9 : Hid (TreeO (n + 1) w7 [.string (strT td), .slice awa (kidsOf td).length cwa] td fwa) := TreeO_stays _ _ _ _ _ _ (fun x hx => (hbw7).block x (TreeO_lt _ _ _ _ _ wa_8.out x hx)) wa_8.out
  have bwa_9 : Hid (Box w7 w4.heap.size [.string (strT td), .slice awa (kidsOf td).length cwa] 29) := bwa_8.out.below hbw7 bwa_8.out.lt
  have x5t_9 : Hid (MarkOwn (n + 1) w7 [.string x.vTag, .string x.vText, .slice at5 x.vAttrs.length ct5, .slice bt5 x.vKids.length dt5] x f5t) := MarkOwn_stays _ _ _ _ _ _ (fun x hx => (hbw7).block x (MarkOwn_lt _ _ _ _ _ x5t_8.out x hx)) x5t_8.out
  have bX5_9 : Hid (Box w7 u5a.heap.size [.string x.vTag, .string x.vText, .slice at5 x.vAttrs.length ct5, .slice bt5 x.vKids.length dt5] 35) := bX5_8.out.below hbw7 bX5_8.out.lt
  have ga_9 : Hid (TreeO (n + 1) w7 [.string (strT td), .slice aga (kidsOf td).length cga] td fga) := TreeO_stays _ _ _ _ _ _ (fun x hx => (hbw7).block x (TreeO_lt _ _ _ _ _ ga_8.out x hx)) ga_8.out
  have bga_9 : Hid (Box w7 w6.heap.size [.string (strT td), .slice aga (kidsOf td).length cga] 29) := bga_8.out.below hbw7 bga_8.out.lt
  clear bA_8 wa_8 bwa_8 x5t_8 bX5_8 ga_8 bga_8
  have hB9 : Hid (Below w.heap.size w w7) := hB8.out.trans ((hbw7).mono hB8.out.size)
  have sz9 := (hbw7).size
  simp only [World.size_alloc] at sz9
  clear z8_bA_0 z8_bA_1 z8_bA_2 z8_bA_3 z8_bwa_0 z8_bwa_1 z8_bX5_0 z8_bX5_1 z8_bX5_2 z8_bX5_3 z8_bga_0 z8_bga_1
  have z9_bA_0 := bA_9.out.cell 0 rfl
  have z9_bA_1 := bA_9.out.cell 1 rfl
  have z9_bA_2 := bA_9.out.cell 2 rfl
  have z9_bA_3 := bA_9.out.cell 3 rfl
  have z9_bwa_0 := bwa_9.out.cell 0 rfl
  have z9_bwa_1 := bwa_9.out.cell 1 rfl
  have z9_bX5_0 := bX5_9.out.cell 0 rfl
  have z9_bX5_1 := bX5_9.out.cell 1 rfl
  have z9_bX5_2 := bX5_9.out.cell 2 rfl
  have z9_bX5_3 := bX5_9.out.cell 3 rfl
  have z9_bga_0 := bga_9.out.cell 0 rfl
  have z9_bga_1 := bga_9.out.cell 1 rfl
  clear hbw7
  go_wp2_with fail
  have ltA : w.heap.size < w7.heap.size := bA_9.out.lt
  have ltX : u5a.heap.size < w7.heap.size := bX5_9.out.lt
  have htx7 : Hid (MarkAt (n + 1) w7 0 [.string x.vTag, .string x.vText, .slice at5 x.vAttrs.length ct5, .slice bt5 x.vKids.length dt5] x) := MarkOwn_at (lo := 0) (n + 1) _ _ _ _ x5t_9.out (fun _ _ => Nat.zero_le _)
  go_region_held3 (fun w' => w'.cell? ⟨u5a.heap.size, 0, none⟩ = some (.string x.vTag) ∧ w'.cell? ⟨u5a.heap.size, 1, none⟩ = some (.string x.vText) ∧ w'.cell? ⟨u5a.heap.size, 2, none⟩ = some (.slice at5 x.vAttrs.length ct5) ∧ w'.cell? ⟨u5a.heap.size, 3, none⟩ = some (.slice bt5 x.vKids.length dt5) ∧ w'.cell? ⟨w.heap.size, 0, none⟩ = some (.string x.vTag) ∧ w'.cell? ⟨w.heap.size, 1, none⟩ = some (.string x.vText) ∧ w'.cell? ⟨w.heap.size, 2, none⟩ = some (.slice a0 x.vAttrs.length cap0) ∧ w'.cell? ⟨w.heap.size, 3, none⟩ = some (.slice b0 x.vKids.length bcap0)) (go_keep)
    (first | (go_at_call 6; refine ((toOM_all (n + 1)).1 _ 0 _ x (by exact MarkAt.below hx0.out hB9.out.drew) hsm.out).mono ?_; rintro e w8 ⟨⟨cs8, fs8, rfl, ht8, _, _⟩, hb8⟩; have hb8' := undrew hb8; have x8 : Hid (Box w8 u5a.heap.size _ _) := Box.below bX5_9.out hb8' ltX; have g8 : Hid (Box w8 w.heap.size _ _) := Box.below bA_9.out hb8' ltA; have y0 := x8.out.cell 0 rfl; have y1 := x8.out.cell 1 rfl; have y2 := x8.out.cell 2 rfl; have y3 := x8.out.cell 3 rfl; have v0 := g8.out.cell 0 rfl; have v1 := g8.out.cell 1 rfl; have v2 := g8.out.cell 2 rfl; have v3 := g8.out.cell 3 rfl; have lt8 : Hid (MarkAt (n + 1) w8 0 [.string x.vTag, .string x.vText, .slice at5 x.vAttrs.length ct5, .slice bt5 x.vKids.length dt5] x) := MarkAt.below htx7.out hb8'; have lt8b : Hid (MarkAt (n + 1) w8 0 cs8 x) := MarkOwn_at (n + 1) _ _ _ _ ht8 (fun _ _ => Nat.zero_le _); have hb8h : Hid (Below w7.heap.size w7 w8) := hb8'; clear hb8 hb8' ht8) | (go_at_call 9; refine ((eqMark_all (n + 1)).1 _ 0 0 _ _ x (by exact lt8.out) (by exact lt8b.out)).mono ?_; rintro e w9 ⟨rfl, hb9⟩; have x9 : Hid (Box w9 u5a.heap.size _ _) := Box.below x8.out hb9 x8.out.lt; have g9 : Hid (Box w9 w.heap.size _ _) := Box.below g8.out hb9 g8.out.lt; have k0 := x9.out.cell 0 rfl; have k1 := x9.out.cell 1 rfl; have k2 := x9.out.cell 2 rfl; have k3 := x9.out.cell 3 rfl; have j0 := g9.out.cell 0 rfl; have j1 := g9.out.cell 1 rfl; have j2 := g9.out.cell 2 rfl; have j3 := g9.out.cell 3 rfl; have hb9h : Hid (Below w7.heap.size w7 w9) := hb8h.out.trans (hb9.mono hb8h.out.size); clear hb9))
  have hb79 : Below w7.heap.size w7 w9 := hb9h.out
  clear x8 g8 x9 g9 htx7 lt8 lt8b hb8h hb9h k0 k1 k2 k3 j0 j1 j2 j3 y0 y1 y2 y3 v0 v1 v2 v3 ltA ltX
  have bA_10 : Hid (Box w9 w.heap.size [.string x.vTag, .string x.vText, .slice a0 x.vAttrs.length cap0, .slice b0 x.vKids.length bcap0] 25) := bA_9.out.below hb79 bA_9.out.lt
  have wa_10 : Hid (TreeO (n + 1) w9 [.string (strT td), .slice awa (kidsOf td).length cwa] td fwa) := TreeO_stays _ _ _ _ _ _ (fun x hx => (hb79).block x (TreeO_lt _ _ _ _ _ wa_9.out x hx)) wa_9.out
  have bwa_10 : Hid (Box w9 w4.heap.size [.string (strT td), .slice awa (kidsOf td).length cwa] 29) := bwa_9.out.below hb79 bwa_9.out.lt
  have x5t_10 : Hid (MarkOwn (n + 1) w9 [.string x.vTag, .string x.vText, .slice at5 x.vAttrs.length ct5, .slice bt5 x.vKids.length dt5] x f5t) := MarkOwn_stays _ _ _ _ _ _ (fun x hx => (hb79).block x (MarkOwn_lt _ _ _ _ _ x5t_9.out x hx)) x5t_9.out
  have bX5_10 : Hid (Box w9 u5a.heap.size [.string x.vTag, .string x.vText, .slice at5 x.vAttrs.length ct5, .slice bt5 x.vKids.length dt5] 35) := bX5_9.out.below hb79 bX5_9.out.lt
  have ga_10 : Hid (TreeO (n + 1) w9 [.string (strT td), .slice aga (kidsOf td).length cga] td fga) := TreeO_stays _ _ _ _ _ _ (fun x hx => (hb79).block x (TreeO_lt _ _ _ _ _ ga_9.out x hx)) ga_9.out
  have bga_10 : Hid (Box w9 w6.heap.size [.string (strT td), .slice aga (kidsOf td).length cga] 29) := bga_9.out.below hb79 bga_9.out.lt
  clear bA_9 wa_9 bwa_9 x5t_9 bX5_9 ga_9 bga_9
  have hB10 : Hid (Below w.heap.size w w9) := hB9.out.trans ((hb79).mono hB9.out.size)
  have sz10 := (hb79).size
  clear z9_bA_0 z9_bA_1 z9_bA_2 z9_bA_3 z9_bwa_0 z9_bwa_1 z9_bX5_0 z9_bX5_1 z9_bX5_2 z9_bX5_3 z9_bga_0 z9_bga_1
  have z10_bA_0 := bA_10.out.cell 0 rfl
  have z10_bA_1 := bA_10.out.cell 1 rfl
  have z10_bA_2 := bA_10.out.cell 2 rfl
  have z10_bA_3 := bA_10.out.cell 3 rfl
  have z10_bwa_0 := bwa_10.out.cell 0 rfl
  have z10_bwa_1 := bwa_10.out.cell 1 rfl
  have z10_bX5_0 := bX5_10.out.cell 0 rfl
  have z10_bX5_1 := bX5_10.out.cell 1 rfl
  have z10_bX5_2 := bX5_10.out.cell 2 rfl
  have z10_bX5_3 := bX5_10.out.cell 3 rfl
  have z10_bga_0 := bga_10.out.cell 0 rfl
  have z10_bga_1 := bga_10.out.cell 1 rfl
  clear hb79
  go_wp2_with fail
  refine (markMark_any (n := n) x5t_10.out nd5t'.out (by omega) (by have := hcx.out; omega)).mono ?_
  rintro e m1 ⟨rfl, _, hom1⟩
  have bA_11 : Hid (Box m1 w.heap.size [.string x.vTag, .string x.vText, .slice a0 x.vAttrs.length cap0, .slice b0 x.vKids.length bcap0] 25) := ((hom1).keep bA_10.out.lt (fun q => by have := rg_x5t.out _ q; omega)).trans bA_10.out
  have wa_11 : Hid (TreeO (n + 1) m1 [.string (strT td), .slice awa (kidsOf td).length cwa] td fwa) := TreeO_stays _ _ _ _ _ _ (fun x hx => (hom1).keep (TreeO_lt _ _ _ _ _ wa_10.out x hx) (fun q => by have := rg_x5t.out _ q; have := rg_wa.out _ hx; omega)) wa_10.out
  have bwa_11 : Hid (Box m1 w4.heap.size [.string (strT td), .slice awa (kidsOf td).length cwa] 29) := ((hom1).keep bwa_10.out.lt (fun q => by have := rg_x5t.out _ q; omega)).trans bwa_10.out
  have bX5_11 : Hid (Box m1 u5a.heap.size [.string x.vTag, .string x.vText, .slice at5 x.vAttrs.length ct5, .slice bt5 x.vKids.length dt5] 35) := ((hom1).keep bX5_10.out.lt (fun q => by have := rg_x5t.out _ q; omega)).trans bX5_10.out
  have ga_11 : Hid (TreeO (n + 1) m1 [.string (strT td), .slice aga (kidsOf td).length cga] td fga) := TreeO_stays _ _ _ _ _ _ (fun x hx => (hom1).keep (TreeO_lt _ _ _ _ _ ga_10.out x hx) (fun q => by have := rg_x5t.out _ q; have := rg_ga.out _ hx; omega)) ga_10.out
  have bga_11 : Hid (Box m1 w6.heap.size [.string (strT td), .slice aga (kidsOf td).length cga] 29) := ((hom1).keep bga_10.out.lt (fun q => by have := rg_x5t.out _ q; omega)).trans bga_10.out
  clear bA_10 wa_10 bwa_10 x5t_10 bX5_10 ga_10 bga_10
  have hB11 : Hid (Below w.heap.size w m1) := hB10.out.trans ((hom1).below hB10.out.size (fun x hx => by have := rg_x5t.out x hx; omega))
  have sz11 := (hom1).2.2.2.1
  clear z10_bA_0 z10_bA_1 z10_bA_2 z10_bA_3 z10_bwa_0 z10_bwa_1 z10_bX5_0 z10_bX5_1 z10_bX5_2 z10_bX5_3 z10_bga_0 z10_bga_1
  have z11_bA_0 := bA_11.out.cell 0 rfl
  have z11_bA_1 := bA_11.out.cell 1 rfl
  have z11_bA_2 := bA_11.out.cell 2 rfl
  have z11_bA_3 := bA_11.out.cell 3 rfl
  have z11_bwa_0 := bwa_11.out.cell 0 rfl
  have z11_bwa_1 := bwa_11.out.cell 1 rfl
  have z11_bX5_0 := bX5_11.out.cell 0 rfl
  have z11_bX5_1 := bX5_11.out.cell 1 rfl
  have z11_bX5_2 := bX5_11.out.cell 2 rfl
  have z11_bX5_3 := bX5_11.out.cell 3 rfl
  have z11_bga_0 := bga_11.out.cell 0 rfl
  have z11_bga_1 := bga_11.out.cell 1 rfl
  clear hom1
  generalize hK1 : (1 : Int) + (cntL cntAttr x.vAttrs : Nat) + (cntL (cntMark n) x.vKids : Nat) = K1
  have hK1b : 0 ≤ K1 ∧ K1 ≤ 3000000 := by have := hcx.out; omega
  clear hK1
  clear bX5_11 z11_bX5_0 z11_bX5_1 z11_bX5_2 z11_bX5_3
  have hKn : decide (K1 < 0) = false := by simp; omega
  go_wp2_with fail
  refine (eqTree_any (lo := 0) (lo2 := 0) (TreeO_at (lo := 0) (n + 1) _ _ _ _ ga_11.out (fun _ _ => Nat.zero_le _)) (TreeO_at (lo := 0) (n + 1) _ _ _ _ wa_11.out (fun _ _ => Nat.zero_le _))).mono ?_
  rintro e m4 ⟨rfl, hbm4⟩
  have bA_12 : Hid (Box m4 w.heap.size [.string x.vTag, .string x.vText, .slice a0 x.vAttrs.length cap0, .slice b0 x.vKids.length bcap0] 25) := bA_11.out.below hbm4 bA_11.out.lt
  have wa_12 : Hid (TreeO (n + 1) m4 [.string (strT td), .slice awa (kidsOf td).length cwa] td fwa) := TreeO_stays _ _ _ _ _ _ (fun x hx => (hbm4).block x (TreeO_lt _ _ _ _ _ wa_11.out x hx)) wa_11.out
  have bwa_12 : Hid (Box m4 w4.heap.size [.string (strT td), .slice awa (kidsOf td).length cwa] 29) := bwa_11.out.below hbm4 bwa_11.out.lt
  have ga_12 : Hid (TreeO (n + 1) m4 [.string (strT td), .slice aga (kidsOf td).length cga] td fga) := TreeO_stays _ _ _ _ _ _ (fun x hx => (hbm4).block x (TreeO_lt _ _ _ _ _ ga_11.out x hx)) ga_11.out
  have bga_12 : Hid (Box m4 w6.heap.size [.string (strT td), .slice aga (kidsOf td).length cga] 29) := bga_11.out.below hbm4 bga_11.out.lt
  clear bA_11 wa_11 bwa_11 ga_11 bga_11
  have hB12 : Hid (Below w.heap.size w m4) := hB11.out.trans ((hbm4).mono hB11.out.size)
  have sz12 := (hbm4).size
  clear z11_bA_0 z11_bA_1 z11_bA_2 z11_bA_3 z11_bwa_0 z11_bwa_1 z11_bga_0 z11_bga_1
  have z12_bA_0 := bA_12.out.cell 0 rfl
  have z12_bA_1 := bA_12.out.cell 1 rfl
  have z12_bA_2 := bA_12.out.cell 2 rfl
  have z12_bA_3 := bA_12.out.cell 3 rfl
  have z12_bwa_0 := bwa_12.out.cell 0 rfl
  have z12_bwa_1 := bwa_12.out.cell 1 rfl
  have z12_bga_0 := bga_12.out.cell 0 rfl
  have z12_bga_1 := bga_12.out.cell 1 rfl
  clear hbm4
  go_wp2_with fail
  refine (markTree_any (n := n) ga_12.out (by omega) hYC.out).mono ?_
  rintro e m5 ⟨rfl, ownM, hom5⟩
  have bA_13 : Hid (Box m5 w.heap.size [.string x.vTag, .string x.vText, .slice a0 x.vAttrs.length cap0, .slice b0 x.vKids.length bcap0] 25) := ((hom5).keep bA_12.out.lt (fun q => by have := rg_ga.out _ q; omega)).trans bA_12.out
  have wa_13 : Hid (TreeO (n + 1) m5 [.string (strT td), .slice awa (kidsOf td).length cwa] td fwa) := TreeO_stays _ _ _ _ _ _ (fun x hx => (hom5).keep (TreeO_lt _ _ _ _ _ wa_12.out x hx) (fun q => by have := rg_ga.out _ q; have := rg_wa.out _ hx; omega)) wa_12.out
  have bwa_13 : Hid (Box m5 w4.heap.size [.string (strT td), .slice awa (kidsOf td).length cwa] 29) := ((hom5).keep bwa_12.out.lt (fun q => by have := rg_ga.out _ q; omega)).trans bwa_12.out
  have bga_13 : Hid (Box m5 w6.heap.size [.string (strT td), .slice aga (kidsOf td).length cga] 29) := ((hom5).keep bga_12.out.lt (fun q => by have := rg_ga.out _ q; omega)).trans bga_12.out
  clear bA_12 wa_12 bwa_12 ga_12 bga_12
  have hB13 : Hid (Below w.heap.size w m5) := hB12.out.trans ((hom5).below hB12.out.size (fun x hx => by have := rg_ga.out x hx; omega))
  have sz13 := (hom5).2.2.2.1
  clear z12_bA_0 z12_bA_1 z12_bA_2 z12_bA_3 z12_bwa_0 z12_bwa_1 z12_bga_0 z12_bga_1
  have z13_bA_0 := bA_13.out.cell 0 rfl
  have z13_bA_1 := bA_13.out.cell 1 rfl
  have z13_bA_2 := bA_13.out.cell 2 rfl
  have z13_bA_3 := bA_13.out.cell 3 rfl
  have z13_bwa_0 := bwa_13.out.cell 0 rfl
  have z13_bwa_1 := bwa_13.out.cell 1 rfl
  have z13_bga_0 := bga_13.out.cell 0 rfl
  have z13_bga_1 := bga_13.out.cell 1 rfl
  have ga_13 : Hid (TreeO (n + 1) m5 [.string (strT td), .slice aga (kidsOf td).length cga] (mkTTree n td 1) fga) := ownM
  clear ownM hom5
  generalize hCI : (1 : Int) + (cntL (cntTree n) (kidsOf td) : Nat) = M at *
  have hCI' : Hid ((1 : Int) + (cntL (cntTree n) (kidsOf td) : Nat) = M) := hCI
  clear hCI
  have hM0 : 0 ≤ M := by have := hCI'.out; omega
  have hM1 : decide (M < 0) = false := by simp; omega
  go_wp2_with fail
  refine (heldTree_any (n := n) (lo := 0) (m := 1) (x := td) (TreeO_at (lo := 0) (n + 1) _ _ _ _ ga_13.out (fun _ _ => Nat.zero_le _)) (by omega) (by rw [hCI'.out]; exact hYC.out)).mono ?_
  rintro e m6 ⟨rfl, hbm6⟩
  rw [hCI'.out]
  have bA_14 : Hid (Box m6 w.heap.size [.string x.vTag, .string x.vText, .slice a0 x.vAttrs.length cap0, .slice b0 x.vKids.length bcap0] 25) := bA_13.out.below hbm6 bA_13.out.lt
  have wa_14 : Hid (TreeO (n + 1) m6 [.string (strT td), .slice awa (kidsOf td).length cwa] td fwa) := TreeO_stays _ _ _ _ _ _ (fun x hx => (hbm6).block x (TreeO_lt _ _ _ _ _ wa_13.out x hx)) wa_13.out
  have bwa_14 : Hid (Box m6 w4.heap.size [.string (strT td), .slice awa (kidsOf td).length cwa] 29) := bwa_13.out.below hbm6 bwa_13.out.lt
  have ga_14 : Hid (TreeO (n + 1) m6 [.string (strT td), .slice aga (kidsOf td).length cga] (mkTTree n td 1) fga) := TreeO_stays _ _ _ _ _ _ (fun x hx => (hbm6).block x (TreeO_lt _ _ _ _ _ ga_13.out x hx)) ga_13.out
  have bga_14 : Hid (Box m6 w6.heap.size [.string (strT td), .slice aga (kidsOf td).length cga] 29) := bga_13.out.below hbm6 bga_13.out.lt
  clear bA_13 wa_13 bwa_13 ga_13 bga_13
  have hB14 : Hid (Below w.heap.size w m6) := hB13.out.trans ((hbm6).mono hB13.out.size)
  have sz14 := (hbm6).size
  clear z13_bA_0 z13_bA_1 z13_bA_2 z13_bA_3 z13_bwa_0 z13_bwa_1 z13_bga_0 z13_bga_1
  have z14_bA_0 := bA_14.out.cell 0 rfl
  have z14_bA_1 := bA_14.out.cell 1 rfl
  have z14_bA_2 := bA_14.out.cell 2 rfl
  have z14_bA_3 := bA_14.out.cell 3 rfl
  have z14_bwa_0 := bwa_14.out.cell 0 rfl
  have z14_bwa_1 := bwa_14.out.cell 1 rfl
  have z14_bga_0 := bga_14.out.cell 0 rfl
  have z14_bga_1 := bga_14.out.cell 1 rfl
  clear hbm6
  go_wp2_with fail
  refine ((toOM_all (n + 1)).1 _ 0 _ x (MarkAt.below hx0.out hB14.out) hsm.out).mono ?_
  rintro e u7a ⟨⟨cs7, f7t, rfl, ht7, nd7t, lo7t⟩, hba7⟩
  have nd7t' : Hid (f7t.Nodup) := nd7t
  have rg_x7t0 : Hid (∀ b ∈ f7t, b < u7a.heap.size) := MarkOwn_lt _ _ _ _ _ ht7
  have lo7t' : Hid (∀ b ∈ f7t, m6.heap.size ≤ b) := lo7t
  obtain ⟨kk7, kz7, _, _, rfl, ss7, sz7x, _⟩ := ht7.opened
  obtain ⟨at7, ct7, rfl⟩ := ss7.form
  obtain ⟨bt7, dt7, rfl⟩ := sz7x.form
  have hto7 : Hid (MarkOwn (n + 1) u7a [.string x.vTag, .string x.vText, .slice at7 x.vAttrs.length ct7, .slice bt7 x.vKids.length dt7] x f7t) := ht7
  clear ht7 ss7 sz7x lo7t nd7t
  have bA_15 : Hid (Box u7a w.heap.size [.string x.vTag, .string x.vText, .slice a0 x.vAttrs.length cap0, .slice b0 x.vKids.length bcap0] 25) := bA_14.out.below hba7 bA_14.out.lt
  have wa_15 : Hid (TreeO (n + 1) u7a [.string (strT td), .slice awa (kidsOf td).length cwa] td fwa) := TreeO_stays _ _ _ _ _ _ (fun x hx => (hba7).block x (TreeO_lt _ _ _ _ _ wa_14.out x hx)) wa_14.out
  have bwa_15 : Hid (Box u7a w4.heap.size [.string (strT td), .slice awa (kidsOf td).length cwa] 29) := bwa_14.out.below hba7 bwa_14.out.lt
  have ga_15 : Hid (TreeO (n + 1) u7a [.string (strT td), .slice aga (kidsOf td).length cga] (mkTTree n td 1) fga) := TreeO_stays _ _ _ _ _ _ (fun x hx => (hba7).block x (TreeO_lt _ _ _ _ _ ga_14.out x hx)) ga_14.out
  have bga_15 : Hid (Box u7a w6.heap.size [.string (strT td), .slice aga (kidsOf td).length cga] 29) := bga_14.out.below hba7 bga_14.out.lt
  clear bA_14 wa_14 bwa_14 ga_14 bga_14
  have hB15 : Hid (Below w.heap.size w u7a) := hB14.out.trans ((hba7).mono hB14.out.size)
  have sz15 := (hba7).size
  clear z14_bA_0 z14_bA_1 z14_bA_2 z14_bA_3 z14_bwa_0 z14_bwa_1 z14_bga_0 z14_bga_1
  have z15_bA_0 := bA_15.out.cell 0 rfl
  have z15_bA_1 := bA_15.out.cell 1 rfl
  have z15_bA_2 := bA_15.out.cell 2 rfl
  have z15_bA_3 := bA_15.out.cell 3 rfl
  have z15_bwa_0 := bwa_15.out.cell 0 rfl
  have z15_bwa_1 := bwa_15.out.cell 1 rfl
  have z15_bga_0 := bga_15.out.cell 0 rfl
  have z15_bga_1 := bga_15.out.cell 1 rfl
  have x7t_15 : Hid (MarkOwn (n + 1) u7a [.string x.vTag, .string x.vText, .slice at7 x.vAttrs.length ct7, .slice bt7 x.vKids.length dt7] x f7t) := hto7
  clear hto7 hba7
  have rg_x7t : Hid (∀ b ∈ f7t, m6.heap.size ≤ b ∧ b < u7a.heap.size) := fun b q => ⟨lo7t'.out b q, rg_x7t0.out b q⟩
  go_wp2_with fail
  refine (implBare_any (MarkOwn_at (lo := 0) (n + 1) _ _ _ _ x7t_15.out (fun _ _ => Nat.zero_le _))).mono ?_
  rintro e w10 ⟨⟨csha, fha, rfl, ownha, _, lowha⟩, hbha⟩
  rw [hYS'.out] at ownha ⊢
  dsimp only at ownha ⊢
  have lowha' : Hid (∀ b ∈ fha, u7a.heap.size ≤ b) := lowha
  have bA_16 : Hid (Box w10 w.heap.size [.string x.vTag, .string x.vText, .slice a0 x.vAttrs.length cap0, .slice b0 x.vKids.length bcap0] 25) := bA_15.out.below hbha bA_15.out.lt
  have wa_16 : Hid (TreeO (n + 1) w10 [.string (strT td), .slice awa (kidsOf td).length cwa] td fwa) := TreeO_stays _ _ _ _ _ _ (fun x hx => (hbha).block x (TreeO_lt _ _ _ _ _ wa_15.out x hx)) wa_15.out
  have bwa_16 : Hid (Box w10 w4.heap.size [.string (strT td), .slice awa (kidsOf td).length cwa] 29) := bwa_15.out.below hbha bwa_15.out.lt
  have ga_16 : Hid (TreeO (n + 1) w10 [.string (strT td), .slice aga (kidsOf td).length cga] (mkTTree n td 1) fga) := TreeO_stays _ _ _ _ _ _ (fun x hx => (hbha).block x (TreeO_lt _ _ _ _ _ ga_15.out x hx)) ga_15.out
  have bga_16 : Hid (Box w10 w6.heap.size [.string (strT td), .slice aga (kidsOf td).length cga] 29) := bga_15.out.below hbha bga_15.out.lt
  have x7t_16 : Hid (MarkOwn (n + 1) w10 [.string x.vTag, .string x.vText, .slice at7 x.vAttrs.length ct7, .slice bt7 x.vKids.length dt7] x f7t) := MarkOwn_stays _ _ _ _ _ _ (fun x hx => (hbha).block x (MarkOwn_lt _ _ _ _ _ x7t_15.out x hx)) x7t_15.out
  clear bA_15 wa_15 bwa_15 ga_15 bga_15 x7t_15
  have hB16 : Hid (Below w.heap.size w w10) := hB15.out.trans ((hbha).mono hB15.out.size)
  have sz16 := (hbha).size
  clear z15_bA_0 z15_bA_1 z15_bA_2 z15_bA_3 z15_bwa_0 z15_bwa_1 z15_bga_0 z15_bga_1
  have z16_bA_0 := bA_16.out.cell 0 rfl
  have z16_bA_1 := bA_16.out.cell 1 rfl
  have z16_bA_2 := bA_16.out.cell 2 rfl
  have z16_bA_3 := bA_16.out.cell 3 rfl
  have z16_bwa_0 := bwa_16.out.cell 0 rfl
  have z16_bwa_1 := bwa_16.out.cell 1 rfl
  have z16_bga_0 := bga_16.out.cell 0 rfl
  have z16_bga_1 := bga_16.out.cell 1 rfl
  clear hbha lowha
  have rg_ha0 : Hid (∀ b ∈ fha, b < w10.heap.size) := TreeO_lt _ _ _ _ _ ownha
  have ownsha : Hid (TreeO (n + 1) w10 csha td fha) := ownha
  obtain ⟨kkha, rfl, ssha, _⟩ := ownha.opened
  obtain ⟨aha, cha, rfl⟩ := ssha.form
  clear ownha ssha
  have ha_16 : Hid (TreeO (n + 1) w10 [.string (strT td), .slice aha (kidsOf td).length cha] td fha) := ownsha
  have rg_ha : Hid (∀ b ∈ fha, u7a.heap.size ≤ b ∧ b < w10.heap.size) := fun b q => ⟨lowha'.out b q, rg_ha0.out b q⟩
  clear ownsha
  have hbzha : Below w10.heap.size w10 (w10.alloc (.cells (List.toArray [.string (strT td), .slice aha (kidsOf td).length cha]) 29)) := (Below.refl _ _).alloc (Nat.le_refl _) _
  have szzha : (w10.alloc (.cells (List.toArray [.string (strT td), .slice aha (kidsOf td).length cha]) 29)).heap.size = w10.heap.size + 1 := by simp
  have bA_17 : Hid (Box (w10.alloc (.cells (List.toArray [.string (strT td), .slice aha (kidsOf td).length cha]) 29)) w.heap.size [.string x.vTag, .string x.vText, .slice a0 x.vAttrs.length cap0, .slice b0 x.vKids.length bcap0] 25) := bA_16.out.below hbzha bA_16.out.lt
  have wa_17 : Hid (TreeO (n + 1) (w10.alloc (.cells (List.toArray [.string (strT td), .slice aha (kidsOf td).length cha]) 29)) [.string (strT td), .slice awa (kidsOf td).length cwa] td fwa) := TreeO_stays _ _ _ _ _ _ (fun x hx => (hbzha).block x (TreeO_lt _ _ _ _ _ wa_16.out x hx)) wa_16.out
  have bwa_17 : Hid (Box (w10.alloc (.cells (List.toArray [.string (strT td), .slice aha (kidsOf td).length cha]) 29)) w4.heap.size [.string (strT td), .slice awa (kidsOf td).length cwa] 29) := bwa_16.out.below hbzha bwa_16.out.lt
  have ga_17 : Hid (TreeO (n + 1) (w10.alloc (.cells (List.toArray [.string (strT td), .slice aha (kidsOf td).length cha]) 29)) [.string (strT td), .slice aga (kidsOf td).length cga] (mkTTree n td 1) fga) := TreeO_stays _ _ _ _ _ _ (fun x hx => (hbzha).block x (TreeO_lt _ _ _ _ _ ga_16.out x hx)) ga_16.out
  have bga_17 : Hid (Box (w10.alloc (.cells (List.toArray [.string (strT td), .slice aha (kidsOf td).length cha]) 29)) w6.heap.size [.string (strT td), .slice aga (kidsOf td).length cga] 29) := bga_16.out.below hbzha bga_16.out.lt
  have x7t_17 : Hid (MarkOwn (n + 1) (w10.alloc (.cells (List.toArray [.string (strT td), .slice aha (kidsOf td).length cha]) 29)) [.string x.vTag, .string x.vText, .slice at7 x.vAttrs.length ct7, .slice bt7 x.vKids.length dt7] x f7t) := MarkOwn_stays _ _ _ _ _ _ (fun x hx => (hbzha).block x (MarkOwn_lt _ _ _ _ _ x7t_16.out x hx)) x7t_16.out
  have ha_17 : Hid (TreeO (n + 1) (w10.alloc (.cells (List.toArray [.string (strT td), .slice aha (kidsOf td).length cha]) 29)) [.string (strT td), .slice aha (kidsOf td).length cha] td fha) := TreeO_stays _ _ _ _ _ _ (fun x hx => (hbzha).block x (TreeO_lt _ _ _ _ _ ha_16.out x hx)) ha_16.out
  clear bA_16 wa_16 bwa_16 ga_16 bga_16 x7t_16 ha_16
  have hB17 : Hid (Below w.heap.size w (w10.alloc (.cells (List.toArray [.string (strT td), .slice aha (kidsOf td).length cha]) 29))) := hB16.out.trans ((hbzha).mono hB16.out.size)
  have sz17 := (hbzha).size
  simp only [World.size_alloc] at sz17
  clear z16_bA_0 z16_bA_1 z16_bA_2 z16_bA_3 z16_bwa_0 z16_bwa_1 z16_bga_0 z16_bga_1
  have z17_bA_0 := bA_17.out.cell 0 rfl
  have z17_bA_1 := bA_17.out.cell 1 rfl
  have z17_bA_2 := bA_17.out.cell 2 rfl
  have z17_bA_3 := bA_17.out.cell 3 rfl
  have z17_bwa_0 := bwa_17.out.cell 0 rfl
  have z17_bwa_1 := bwa_17.out.cell 1 rfl
  have z17_bga_0 := bga_17.out.cell 0 rfl
  have z17_bga_1 := bga_17.out.cell 1 rfl
  have bha_17 : Hid (Box (w10.alloc (.cells (List.toArray [.string (strT td), .slice aha (kidsOf td).length cha]) 29)) w10.heap.size [.string (strT td), .slice aha (kidsOf td).length cha] 29) := Box.new w10 _ _
  have z17_bha_0 := bha_17.out.cell 0 rfl
  have z17_bha_1 := bha_17.out.cell 1 rfl
  clear hbzha
  clear x7t_17
  go_wp2_with fail
  refine (eqTree_any (lo := 0) (lo2 := 0) (TreeO_at (lo := 0) (n + 1) _ _ _ _ ha_17.out (fun _ _ => Nat.zero_le _)) (TreeO_at (lo := 0) (n + 1) _ _ _ _ wa_17.out (fun _ _ => Nat.zero_le _))).mono ?_
  rintro e w11 ⟨rfl, hbw11⟩
  have bA_18 : Hid (Box w11 w.heap.size [.string x.vTag, .string x.vText, .slice a0 x.vAttrs.length cap0, .slice b0 x.vKids.length bcap0] 25) := bA_17.out.below hbw11 bA_17.out.lt
  have wa_18 : Hid (TreeO (n + 1) w11 [.string (strT td), .slice awa (kidsOf td).length cwa] td fwa) := TreeO_stays _ _ _ _ _ _ (fun x hx => (hbw11).block x (TreeO_lt _ _ _ _ _ wa_17.out x hx)) wa_17.out
  have bwa_18 : Hid (Box w11 w4.heap.size [.string (strT td), .slice awa (kidsOf td).length cwa] 29) := bwa_17.out.below hbw11 bwa_17.out.lt
  have ga_18 : Hid (TreeO (n + 1) w11 [.string (strT td), .slice aga (kidsOf td).length cga] (mkTTree n td 1) fga) := TreeO_stays _ _ _ _ _ _ (fun x hx => (hbw11).block x (TreeO_lt _ _ _ _ _ ga_17.out x hx)) ga_17.out
  have bga_18 : Hid (Box w11 w6.heap.size [.string (strT td), .slice aga (kidsOf td).length cga] 29) := bga_17.out.below hbw11 bga_17.out.lt
  have ha_18 : Hid (TreeO (n + 1) w11 [.string (strT td), .slice aha (kidsOf td).length cha] td fha) := TreeO_stays _ _ _ _ _ _ (fun x hx => (hbw11).block x (TreeO_lt _ _ _ _ _ ha_17.out x hx)) ha_17.out
  have bha_18 : Hid (Box w11 w10.heap.size [.string (strT td), .slice aha (kidsOf td).length cha] 29) := bha_17.out.below hbw11 bha_17.out.lt
  clear bA_17 wa_17 bwa_17 ga_17 bga_17 ha_17 bha_17
  have hB18 : Hid (Below w.heap.size w w11) := hB17.out.trans ((hbw11).mono hB17.out.size)
  have sz18 := (hbw11).size
  simp only [World.size_alloc] at sz18
  clear z17_bA_0 z17_bA_1 z17_bA_2 z17_bA_3 z17_bwa_0 z17_bwa_1 z17_bga_0 z17_bga_1 z17_bha_0 z17_bha_1
  have z18_bA_0 := bA_18.out.cell 0 rfl
  have z18_bA_1 := bA_18.out.cell 1 rfl
  have z18_bA_2 := bA_18.out.cell 2 rfl
  have z18_bA_3 := bA_18.out.cell 3 rfl
  have z18_bwa_0 := bwa_18.out.cell 0 rfl
  have z18_bwa_1 := bwa_18.out.cell 1 rfl
  have z18_bga_0 := bga_18.out.cell 0 rfl
  have z18_bga_1 := bga_18.out.cell 1 rfl
  have z18_bha_0 := bha_18.out.cell 0 rfl
  have z18_bha_1 := bha_18.out.cell 1 rfl
  clear hbw11
  go_wp2_with fail
  refine (heldTree_any (n := n) (lo := 0) (m := 1) (x := td) (TreeO_at (lo := 0) (n + 1) _ _ _ _ ga_18.out (fun _ _ => Nat.zero_le _)) (by omega) (by rw [hCI'.out]; exact hYC.out)).mono ?_
  rintro e w12 ⟨rfl, hbw12⟩
  rw [hCI'.out]
  have bA_19 : Hid (Box w12 w.heap.size [.string x.vTag, .string x.vText, .slice a0 x.vAttrs.length cap0, .slice b0 x.vKids.length bcap0] 25) := bA_18.out.below hbw12 bA_18.out.lt
  have wa_19 : Hid (TreeO (n + 1) w12 [.string (strT td), .slice awa (kidsOf td).length cwa] td fwa) := TreeO_stays _ _ _ _ _ _ (fun x hx => (hbw12).block x (TreeO_lt _ _ _ _ _ wa_18.out x hx)) wa_18.out
  have bwa_19 : Hid (Box w12 w4.heap.size [.string (strT td), .slice awa (kidsOf td).length cwa] 29) := bwa_18.out.below hbw12 bwa_18.out.lt
  have ga_19 : Hid (TreeO (n + 1) w12 [.string (strT td), .slice aga (kidsOf td).length cga] (mkTTree n td 1) fga) := TreeO_stays _ _ _ _ _ _ (fun x hx => (hbw12).block x (TreeO_lt _ _ _ _ _ ga_18.out x hx)) ga_18.out
  have bga_19 : Hid (Box w12 w6.heap.size [.string (strT td), .slice aga (kidsOf td).length cga] 29) := bga_18.out.below hbw12 bga_18.out.lt
  have ha_19 : Hid (TreeO (n + 1) w12 [.string (strT td), .slice aha (kidsOf td).length cha] td fha) := TreeO_stays _ _ _ _ _ _ (fun x hx => (hbw12).block x (TreeO_lt _ _ _ _ _ ha_18.out x hx)) ha_18.out
  have bha_19 : Hid (Box w12 w10.heap.size [.string (strT td), .slice aha (kidsOf td).length cha] 29) := bha_18.out.below hbw12 bha_18.out.lt
  clear bA_18 wa_18 bwa_18 ga_18 bga_18 ha_18 bha_18
  have hB19 : Hid (Below w.heap.size w w12) := hB18.out.trans ((hbw12).mono hB18.out.size)
  have sz19 := (hbw12).size
  clear z18_bA_0 z18_bA_1 z18_bA_2 z18_bA_3 z18_bwa_0 z18_bwa_1 z18_bga_0 z18_bga_1 z18_bha_0 z18_bha_1
  have z19_bA_0 := bA_19.out.cell 0 rfl
  have z19_bA_1 := bA_19.out.cell 1 rfl
  have z19_bA_2 := bA_19.out.cell 2 rfl
  have z19_bA_3 := bA_19.out.cell 3 rfl
  have z19_bwa_0 := bwa_19.out.cell 0 rfl
  have z19_bwa_1 := bwa_19.out.cell 1 rfl
  have z19_bga_0 := bga_19.out.cell 0 rfl
  have z19_bga_1 := bga_19.out.cell 1 rfl
  have z19_bha_0 := bha_19.out.cell 0 rfl
  have z19_bha_1 := bha_19.out.cell 1 rfl
  clear hbw12
  go_wp2_with fail
  go_ret
  exact ⟨rfl, hB19.out⟩
/-! The row -/
set_option maxRecDepth 100000 in
theorem lifted (os : Os) (started : os.Started) (H : Type) (enc : TypeId × Value → H) :
    ReturnsInHanded {} Try.checked os 3 .any (Rows.fnExactBareSpec.pre6 enc Try.prog Try.f3 Rows.fnExactBareRow.domain false) (Rows.fnExactBareSpec.post enc Try.prog Try.f3 false true false false) := by
  refine returnsInHanded_of_change (C := Try.checked) own started (by kernel_rfl) Try.func3
    (ChangeSpec.witness6 (enc := enc) (C := Try.checked) false ⟨#[], #[.agg #[.string ByteArray.empty, .string ByteArray.empty, .slice none 0 0, .slice none 0 0]], []⟩ 8 (by kernel_rfl) (by kernel_rfl) (by kernel_rfl) (by kernel_rfl)) ?_
  intro W base args ds gs before hval0 hW hcnd _
  have hval : ∀ (j : Nat) t v, Try.f3.params[j]? = some t → args[j]? = some v → Value.okWide Try.prog W .any base t v := hval0
  have hW' := hW
  obtain ⟨p, q, hA0, hV, rfl, hfz, hnd⟩ := hW
  have hA : DataW.TrodAll enc Try.prog W 0 (fun _ => true) true Try.f3.params.toList args.toList ds p := hA0
  rw [Try.params3] at hA hval
  obtain ⟨v0, vs0, d0, ds0, p0, q0, hargs, rfl, rfl, h0, r0⟩ := trodAll_cons hA
  obtain ⟨rfl, rfl, rfl⟩ := trodAll_nil r0
  obtain rfl : args = #[v0] := by cases args; simp_all
  obtain ⟨rfl, rfl⟩ := trodVars_none hV
  have k0 := h0
  have lt0 : ∀ x ∈ p0, x.block < W.heap.size := by obtain ⟨m, hm⟩ := k0; exact DataW.trod_lt m _ _ _ hm
  obtain ⟨cs0, rfl, _⟩ := okWide_struct Try.underlying25 (hval 0 25 v0 rfl rfl)
  obtain ⟨fuel0, hf0⟩ := h0
  obtain ⟨x0, hx0⟩ := MarkAt_of_trod fuel0 _ _ hf0
  have hcs0 : (Value.agg cs0).cells = cs0 := rfl
  rw [hcs0] at hx0
  clear hA0 hval0
  have hwk := walk hx0
  rw [Array.toArray_toList] at hwk
  refine hwk.mono fun e W' ⟨he, bel⟩ => ?_
  subst he
  exact ⟨_, rfl, _, _, _, [], _, [], hW', trodAll_mk1 (shut_bool Try.underlying4 _), (trodAll_cons_mk (Below.trod laidOut (by kernel_rfl) (of_decide_eq_true (by kernel_rfl)) k0 bel lt0) trodAll_mk0), rfl, bel.frame _, fun h => by cases h⟩
theorem over : Rows.fnExactBareRow.holds Try.pinned (OpenSpec.ofChange Rows.fnExactBareSpec) :=
  OpenClaim.holds_of_wide 3 Try.f3 rfl rfl rfl rfl rfl rfl rfl ⟨rfl, rfl, rfl, rfl, rfl⟩ rfl rfl rfl rfl rfl (by kernel_rfl) Try.func3 (by kernel_rfl)
    (of_decide_eq_true (by kernel_rfl)) (by unfold Func.isWrapper; first | (rw [if_pos (by decide +kernel)]; kernel_rfl) | (rw [if_neg (by decide +kernel)]; exact ⟨rfl, rfl⟩))
    (fun os started H enc _ => lifted os started H enc)
end Go.Proofs.Ytlcddndpfhdakaa.fnExactBare
namespace Go.Proofs.Ytlcddndpfhdakaa
theorem fnExactBare_holds : Rows.FnExactBareSaid := fnExactBare.over
end Go.Proofs.Ytlcddndpfhdakaa
