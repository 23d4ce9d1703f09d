/- FnHandles: walked. -/
import Derived.Test.YtcbomaflfjdmjaaArDraws
import Derived.Test.YtcbomaflfjdmjaaArSame
import Derived.Test.YtcbomaflfjdmjaaArLawP
import Derived.Test.YtcbomaflfjdmjaaArDeref
import Derived.Test.YtcbomaflfjdmjaaArHandles
import Derived.Test.YtcbomaflfjdmjaaTakeLit
namespace Go.Proofs.Ytcbomaflfjdmjaa
open Go.RowKit Go.Deep
theorem hcell_at {w : World} {b off cl : Nat} {hl : List HandleD} {n : Nat} (h : SeqAt 2 HandleAt w 0 (.slice (some ⟨b, off, none⟩) n cl) hl) (j : Nat) (hj : j < hl.length) : w.cell? ⟨b, off + j * 2, none⟩ = some (.int .i64 hl[j].vAt) ∧ w.cell? ⟨b, off + j * 2 + 1, none⟩ = some (.int .i64 hl[j].vGen) := by
  obtain ⟨a', c', e, _, hx⟩ := h
  injection e with e1 e2 e3
  obtain ⟨b', off', e4, _, _, hc⟩ := hx (by omega)
  rw [e4] at e1
  injection e1 with e1
  injection e1 with e5 e6
  subst e5 e6
  obtain ⟨cs, _, lie, e, _⟩ := hc j hj
  subst e
  have z0 := lie 0 (by simp)
  have z1 := lie 1 (by simp)
  simp only [List.getElem?_cons_zero, List.getElem?_cons_succ, Nat.add_zero] at z0 z1
  exact ⟨z0, z1⟩
set_option maxRecDepth 100000 in
set_option maxHeartbeats 8000000 in
theorem fnHandles.walk {a : Option Addr} {n cap : Nat} (w : World) (_ : n ≤ maxLen) (hcode : n ≤ 1048576 → CodeAt w a n) :
    Calls Try.prog 6 #[.slice a n cap] w fun e w' => e = .returned (.bool true) ∧ Below w.heap.size w w' := by
  by_cases hbig : (1048576 : Int) < (n : Int)
  · go_enter Try.func6, Try.ntmps6
    go_wp2_with (go_at_call 7; refine (big_any _).mono ?_; rintro e w' ⟨rfl, rfl⟩; rw [decide_eq_true hbig])
    go_ret
    exact ⟨rfl, Below.refl _ _⟩
  have h' : Hid (CodeAt w a n) := hcode (by omega)
  clear hcode
  go_enter Try.func6, Try.ntmps6
  go_wp2_with (go_at_call 7; refine (big_any _).mono ?_; rintro e w' ⟨rfl, e9⟩; have e10 := e9.symm; clear e9; subst e10; rw [decide_eq_false hbig])
  refine (drawHandlesOf_any h'.out).mono ?_
  rintro e w1 ⟨⟨k0, k1, x, rfl, ho⟩, hb1⟩
  obtain ⟨p0, d0, p1, d1, rfl, rfl⟩ := ho.form
  obtain ⟨hl, ehl, hfew, hdYA, hdNA, hgenA, hrisA⟩ : ∃ hl, handlesD x = hl ∧ hl.length ≤ 12 ∧ Hid (∀ j, (hj : j < hl.length) → derefD x hl[j].vAt hl[j].vGen = ((derefD x hl[j].vAt hl[j].vGen).1, true)) ∧ Hid (∀ j, (hj : j < hl.length) → derefD x hl[j].vAt (hl[j].vGen - 1) = (⟨#[]⟩, false)) ∧ Hid (∀ j, (hj : j < hl.length) → 1 ≤ hl[j].vGen ∧ hl[j].vGen ≤ 1000000) ∧ Hid (∀ j, (hj : j + 1 < hl.length) → hl[j].vAt < hl[j + 1].vAt) :=
    ⟨handlesD x, rfl, handlesD_few x, fun j hj => by have := liveB_true (live_handle hj); unfold derefD; rw [this]; rfl, fun j hj => derefD_no (liveB_false (dead_gen hj)), fun j hj => ⟨(handle_gen hj).1, (handle_gen hj).2.1⟩, fun j hj => handle_rise hj⟩
  have ehl' : Hid (handlesD x = hl) := ehl
  clear ehl
  have hbA : Below w1.heap.size w1 (w1.alloc (.cells #[.slice p0 x.vSlots.length d0, .slice p1 x.vFree.length d1] 27)) := (Below.refl _ _).alloc (Nat.le_refl _) _
  have hAt : Hid (ArenaAt (w1.alloc (.cells #[.slice p0 x.vSlots.length d0, .slice p1 x.vFree.length d1] 27)) 0 [.slice p0 x.vSlots.length d0, .slice p1 x.vFree.length d1] x) := ArenaAt_stays _ _ _ 0 _ _ (.of_below hbA) ho.at
  have hbT : Hid (Box (w1.alloc (.cells #[.slice p0 x.vSlots.length d0, .slice p1 x.vFree.length d1] 27)) w1.heap.size [.slice p0 x.vSlots.length d0, .slice p1 x.vFree.length d1] 27) := Box.new w1 _ _
  have hBel : Hid (Below w.heap.size w (w1.alloc (.cells #[.slice p0 x.vSlots.length d0, .slice p1 x.vFree.length d1] 27))) := hb1.trans (hbA.mono hb1.size)
  clear ho hb1 hbA h' hbig
  go_wp2_with fail
  generalize w1.alloc (.cells #[.slice p0 x.vSlots.length d0, .slice p1 x.vFree.length d1] 27) = w2 at *
  generalize w1.heap.size = BT at *
  refine (implHandlesOf_any hAt.out).mono ?_
  rintro e w3 ⟨⟨kl, fl, rfl, ownL, _, _⟩, hb3⟩
  rw [ehl'.out] at ownL
  obtain ⟨al, cl, rfl⟩ := ownL.form
  have hL : Hid (SeqAt 2 HandleAt w3 0 (.slice al hl.length cl) hl) := ownL.at HandleOwn_at (fun _ _ => Nat.zero_le _)
  replace hAt : Hid (ArenaAt w3 0 [.slice p0 x.vSlots.length d0, .slice p1 x.vFree.length d1] x) := ArenaAt_stays _ _ _ 0 _ _ (.of_below hb3) hAt.out
  replace hbT : Hid (Box w3 BT [.slice p0 x.vSlots.length d0, .slice p1 x.vFree.length d1] 27) := hbT.out.below hb3 hbT.out.lt
  replace hBel : Hid (Below w.heap.size w w3) := hBel.out.trans (hb3.mono hBel.out.size)
  have t0 := hbT.out.cell 0 rfl
  have t1 := hbT.out.cell 1 rfl
  clear hb3 ownL
  go_wp2_with fail
  refine (specHandlesOf_any hAt.out).mono ?_
  rintro e w4 ⟨⟨k2, f2, rfl, own2, _, _⟩, hb4⟩
  rw [ehl'.out] at own2
  have hL2 : Hid (SeqAt 2 HandleAt w4 0 k2 hl) := own2.at HandleOwn_at (fun _ _ => Nat.zero_le _)
  replace hAt : Hid (ArenaAt w4 0 [.slice p0 x.vSlots.length d0, .slice p1 x.vFree.length d1] x) := ArenaAt_stays _ _ _ 0 _ _ (.of_below hb4) hAt.out
  replace hbT : Hid (Box w4 BT [.slice p0 x.vSlots.length d0, .slice p1 x.vFree.length d1] 27) := hbT.out.below hb4 hbT.out.lt
  replace hL : Hid (SeqAt 2 HandleAt w4 0 (.slice al hl.length cl) hl) := hL.out.below HandleAt_stays hb4
  replace hBel : Hid (Below w.heap.size w w4) := hBel.out.trans (Below.mono (hb4) hBel.out.size)
  clear hb4 own2 t0 t1
  go_wp2_with fail
  refine (sameHandles_any hL.out hL2.out).mono ?_
  rintro e w5 ⟨rfl, hb5⟩
  replace hAt : Hid (ArenaAt w5 0 [.slice p0 x.vSlots.length d0, .slice p1 x.vFree.length d1] x) := ArenaAt_stays _ _ _ 0 _ _ (.of_below hb5) hAt.out
  replace hbT : Hid (Box w5 BT [.slice p0 x.vSlots.length d0, .slice p1 x.vFree.length d1] 27) := hbT.out.below hb5 hbT.out.lt
  replace hL : Hid (SeqAt 2 HandleAt w5 0 (.slice al hl.length cl) hl) := hL.out.below HandleAt_stays hb5
  replace hBel : Hid (Below w.heap.size w w5) := hBel.out.trans (Below.mono (hb5) hBel.out.size)
  clear hb5 hL2
  go_wp2_with fail
  go_loopw [5] (fun i wr => ∃ j : Nat, j ≤ hl.length ∧ i = .int .i64 j ∧ Hid (ArenaAt wr 0 [.slice p0 x.vSlots.length d0, .slice p1 x.vFree.length d1] x) ∧ Hid (Box wr BT [.slice p0 x.vSlots.length d0, .slice p1 x.vFree.length d1] 27) ∧ Hid (SeqAt 2 HandleAt wr 0 (.slice al hl.length cl) hl) ∧ Hid (Below w.heap.size w wr)) (fun i _ => hl.length - (intOf i).toNat)
  case atStart => exact ⟨0, by omega, rfl, hAt, hbT, hL, hBel⟩
  case round =>
    clear hAt hbT hL hBel
    obtain ⟨j, hj, rfl, hAt, hbT, hL, hBel⟩ := hrel
    by_cases hlt : j < hl.length
    · have hlt' : (j : Int) < (hl.length : Int) := by omega
      have h0' : (0 : Int) ≤ (j : Int) := by omega
      obtain ⟨b, off, ea⟩ : ∃ b off, al = some ⟨b, off, none⟩ := by obtain ⟨a', c', e, _, hx⟩ := hL.out; obtain ⟨b, off, e4, _⟩ := hx (by omega); injection e with e1 _ _; exact ⟨b, off, by rw [e1, e4]⟩
      subst ea
      have hdY : Hid _ := hdYA.out j hlt
      have hdN : Hid _ := hdNA.out j hlt
      have hge := hgenA.out j hlt
      have hwr : IntKind.i64.wrap (hl[j].vGen - 1) = hl[j].vGen - 1 := by rw [IntKind.wrap_i64]; omega
      go_wp2_with fail
      replace hAt : Hid (ArenaAt wr.drew 0 [.slice p0 x.vSlots.length d0, .slice p1 x.vFree.length d1] x) := ArenaAt_stays _ _ _ 0 _ _ (.of_below (Below.drew (Below.refl _ _))) hAt.out
      replace hbT : Hid (Box wr.drew BT [.slice p0 x.vSlots.length d0, .slice p1 x.vFree.length d1] 27) := hbT.out.below (Below.drew (Below.refl _ _)) hbT.out.lt
      replace hL : Hid (SeqAt 2 HandleAt wr.drew 0 (.slice (some ⟨b, off, none⟩) hl.length cl) hl) := hL.out.below HandleAt_stays (Below.drew (Below.refl _ _))
      replace hBel : Hid (Below w.heap.size w wr.drew) := hBel.out.trans (Below.mono ((Below.drew (Below.refl _ _))) hBel.out.size)
      obtain ⟨q0, q1⟩ := hcell_at hL.out j hlt
      refine wp_region_held_drew (S := fun w' => w'.cell? ⟨BT, 0, none⟩ = some (.slice p0 x.vSlots.length d0) ∧ w'.cell? ⟨BT, 1, none⟩ = some (.slice p1 x.vFree.length d1) ∧ w'.cell? ⟨b, off + j * 2, none⟩ = some (.int .i64 hl[j].vAt) ∧ w'.cell? ⟨b, off + j * 2 + 1, none⟩ = some (.int .i64 hl[j].vGen)) (by kernel_rfl) ⟨hbT.out.cell 0 rfl, hbT.out.cell 1 rfl, q0, q1⟩ (fun hHeld => ?_)
      refine tq (i := 0) (d := 28) ?_
      simp only [sz, ss]
      refine tq (i := 1) (d := 29) ?_
      simp only [sz, ss]
      refine tq (i := 2) (d := 30) ?_
      simp only [sz, ss]
      refine tq (i := 3) (d := 31) ?_
      simp only [sz, ss]
      refine tq (i := 4) (d := 32) ?_
      simp only [sz, ss]
      refine wpAnyH_ready (rs := [5]) (by kernel_rfl) (by simp) ?_
      refine AllReadyH.cons rfl (fun K hK => ?_) AllReadyH.nil
      go_simp
      refine (implDeref_any (hAt := hl[j].vAt) (hGen := hl[j].vGen) (by exact hAt.out)).mono ?_
      rintro e w1 ⟨rfl, hb1⟩
      replace hAt : Hid (ArenaAt w1 0 [.slice p0 x.vSlots.length d0, .slice p1 x.vFree.length d1] x) := ArenaAt_stays _ _ _ 0 _ _ (.of_below hb1) hAt.out
      replace hbT : Hid (Box w1 BT [.slice p0 x.vSlots.length d0, .slice p1 x.vFree.length d1] 27) := hbT.out.below hb1 hbT.out.lt
      replace hL : Hid (SeqAt 2 HandleAt w1 0 (.slice (some ⟨b, off, none⟩) hl.length cl) hl) := hL.out.below HandleAt_stays hb1
      replace hBel : Hid (Below w.heap.size w w1) := hBel.out.trans (Below.mono (hb1) hBel.out.size)
      rw [hdY.out]
      refine hK.out _ _ ⟨cell_on hb1 hHeld.1, cell_on hb1 hHeld.2.1, cell_on hb1 hHeld.2.2.1, cell_on hb1 hHeld.2.2.2⟩ (fun hHeld => ?_)
      clear hK K
      refine tq (i := 6) (d := 27) ?_
      simp only [sz, ss]
      refine tq (i := 7) (d := 34) ?_
      simp only [sz, ss]
      refine tq (i := 8) (d := 35) ?_
      simp only [sz, ss]
      refine tq (i := 9) (d := 6) ?_
      simp only [sz, ss]
      refine tq (i := 10) (d := 7) ?_
      simp only [sz, ss]
      refine wpAnyH_done (by kernel_rfl) ?_ _
      clear q0 q1 hHeld
      go_wp2_with fail
      generalize w1 = w6 at *
      replace hAt : Hid (ArenaAt w6.drew 0 [.slice p0 x.vSlots.length d0, .slice p1 x.vFree.length d1] x) := ArenaAt_stays _ _ _ 0 _ _ (.of_below (Below.drew (Below.refl _ _))) hAt.out
      replace hbT : Hid (Box w6.drew BT [.slice p0 x.vSlots.length d0, .slice p1 x.vFree.length d1] 27) := hbT.out.below (Below.drew (Below.refl _ _)) hbT.out.lt
      replace hL : Hid (SeqAt 2 HandleAt w6.drew 0 (.slice (some ⟨b, off, none⟩) hl.length cl) hl) := hL.out.below HandleAt_stays (Below.drew (Below.refl _ _))
      replace hBel : Hid (Below w.heap.size w w6.drew) := hBel.out.trans (Below.mono ((Below.drew (Below.refl _ _))) hBel.out.size)
      obtain ⟨q0, q1⟩ := hcell_at hL.out j hlt
      refine wp_region_held_drew (S := fun w' => w'.cell? ⟨BT, 0, none⟩ = some (.slice p0 x.vSlots.length d0) ∧ w'.cell? ⟨BT, 1, none⟩ = some (.slice p1 x.vFree.length d1) ∧ w'.cell? ⟨b, off + j * 2, none⟩ = some (.int .i64 hl[j].vAt) ∧ w'.cell? ⟨b, off + j * 2 + 1, none⟩ = some (.int .i64 hl[j].vGen)) (by kernel_rfl) ⟨hbT.out.cell 0 rfl, hbT.out.cell 1 rfl, q0, q1⟩ (fun hHeld => ?_)
      refine tq (i := 0) (d := 37) ?_
      simp only [sz, ss]
      refine tq (i := 1) (d := 38) ?_
      simp only [sz, ss]
      refine tq (i := 2) (d := 39) ?_
      simp only [sz, ss]
      refine tq (i := 3) (d := 40) ?_
      simp only [sz, ss]
      refine tq (i := 4) (d := 41) ?_
      simp only [sz, ss]
      refine tq (i := 5) (d := 42) ?_
      simp only [sz, ss]
      refine tq (i := 6) (d := 43) ?_
      simp only [sz, ss]
      refine tq (i := 7) (d := 44) ?_
      simp only [sz, ss]
      refine tq (i := 8) (d := 45) ?_
      simp only [sz, ss]
      refine tq (i := 9) (d := 46) ?_
      simp only [sz, ss]
      refine tq (i := 10) (d := 47) ?_
      simp only [sz, ss]
      refine take_lit (i := 11) (d := 48) (v := .int .i64 (hl[j].vGen - 1)) rfl rfl (by kernel_rfl) (by kernel_rfl) (by kernel_rfl) (fun _ _ _ h => h) (Or.inl ⟨by rfl, ?_⟩) (by assumption) ?_
      · (intro w hSw; (try dsimp only at hSw); go_simp; first | done | rfl | (rw [hwr]))
      simp only [sz, ss]
      refine tq (i := 12) (d := 49) ?_
      simp only [sz, ss]
      refine wpAnyH_ready (rs := [13]) (by kernel_rfl) (by simp) ?_
      refine AllReadyH.cons rfl (fun K hK => ?_) AllReadyH.nil
      go_simp
      refine (implDeref_any (hAt := hl[j].vAt) (hGen := hl[j].vGen - 1) (by exact hAt.out)).mono ?_
      rintro e w1 ⟨rfl, hb1⟩
      replace hAt : Hid (ArenaAt w1 0 [.slice p0 x.vSlots.length d0, .slice p1 x.vFree.length d1] x) := ArenaAt_stays _ _ _ 0 _ _ (.of_below hb1) hAt.out
      replace hbT : Hid (Box w1 BT [.slice p0 x.vSlots.length d0, .slice p1 x.vFree.length d1] 27) := hbT.out.below hb1 hbT.out.lt
      replace hL : Hid (SeqAt 2 HandleAt w1 0 (.slice (some ⟨b, off, none⟩) hl.length cl) hl) := hL.out.below HandleAt_stays hb1
      replace hBel : Hid (Below w.heap.size w w1) := hBel.out.trans (Below.mono (hb1) hBel.out.size)
      rw [hdN.out]
      refine hK.out _ _ ⟨cell_on hb1 hHeld.1, cell_on hb1 hHeld.2.1, cell_on hb1 hHeld.2.2.1, cell_on hb1 hHeld.2.2.2⟩ (fun hHeld => ?_)
      clear hK K
      refine tq (i := 14) (d := 36) ?_
      simp only [sz, ss]
      refine tq (i := 15) (d := 51) ?_
      simp only [sz, ss]
      refine tq (i := 16) (d := 52) ?_
      simp only [sz, ss]
      refine tq (i := 17) (d := 8) ?_
      simp only [sz, ss]
      refine tq (i := 18) (d := 9) ?_
      simp only [sz, ss]
      refine wpAnyH_done (by kernel_rfl) ?_ _
      clear q0 q1 hHeld hge hwr
      go_wp2_with fail
      generalize w1 = w7 at *
      replace hAt : Hid (ArenaAt w7.drew 0 [.slice p0 x.vSlots.length d0, .slice p1 x.vFree.length d1] x) := ArenaAt_stays _ _ _ 0 _ _ (.of_below (Below.drew (Below.refl _ _))) hAt.out
      replace hbT : Hid (Box w7.drew BT [.slice p0 x.vSlots.length d0, .slice p1 x.vFree.length d1] 27) := hbT.out.below (Below.drew (Below.refl _ _)) hbT.out.lt
      replace hL : Hid (SeqAt 2 HandleAt w7.drew 0 (.slice (some ⟨b, off, none⟩) hl.length cl) hl) := hL.out.below HandleAt_stays (Below.drew (Below.refl _ _))
      replace hBel : Hid (Below w.heap.size w w7.drew) := hBel.out.trans (Below.mono ((Below.drew (Below.refl _ _))) hBel.out.size)
      obtain ⟨q0, q1⟩ := hcell_at hL.out j hlt
      by_cases hj0 : j = 0
      · have hj1 : ¬ (0 : Int) < (j : Int) := by omega
        clear hj0
        refine wp_region_held_drew (S := fun w' => w'.cell? ⟨b, off + j * 2, none⟩ = some (.int .i64 hl[j].vAt) ∧ w'.cell? ⟨BT, 0, none⟩ = some (.slice p0 x.vSlots.length d0)) (by kernel_rfl) ⟨q0, hbT.out.cell 0 rfl⟩ (fun hHeld => ?_)
        refine tq (i := 0) (d := 53) ?_
        simp only [sz, ss]
        refine tq (i := 1) (d := 54) ?_
        simp only [sz, ss]
        refine tq (i := 2) (d := 55) ?_
        simp only [sz, ss]
        refine tq (i := 3) (d := 56) ?_
        simp only [sz, ss]
        refine tq (i := 4) (d := 57) ?_
        simp only [sz, ss]
        refine tq (i := 5) (d := 58) ?_
        simp only [sz, ss]
        refine tq (i := 6) (d := 59) ?_
        simp only [sz, ss]
        refine take_lit (i := 7) (d := 60) (v := .bool false) rfl rfl (by kernel_rfl) (by kernel_rfl) (by kernel_rfl) (fun _ _ _ h => h) (Or.inl ⟨by rfl, ?_⟩) (by assumption) ?_
        · (intro w hSw; (try dsimp only at hSw); go_simp; first | done | omega | (simp; omega))
        simp only [sz, ss]
        refine tq (i := 8) (d := 61) ?_
        simp only [sz, ss]
        refine tn (i := 9) (d := 62) ?_
        simp only [sz, ss]
        refine tn (i := 10) (d := 63) ?_
        simp only [sz, ss]
        refine tn (i := 11) (d := 64) ?_
        simp only [sz, ss]
        refine tn (i := 12) (d := 65) ?_
        simp only [sz, ss]
        refine tn (i := 13) (d := 66) ?_
        simp only [sz, ss]
        refine tn (i := 14) (d := 67) ?_
        simp only [sz, ss]
        refine tn (i := 15) (d := 68) ?_
        simp only [sz, ss]
        refine tn (i := 16) (d := 69) ?_
        simp only [sz, ss]
        refine tn (i := 17) (d := 70) ?_
        simp only [sz, ss]
        refine tn (i := 18) (d := 71) ?_
        simp only [sz, ss]
        refine tn (i := 19) (d := 72) ?_
        simp only [sz, ss]
        refine tn (i := 20) (d := 73) ?_
        simp only [sz, ss]
        refine tq (i := 21) (d := 74) ?_
        simp only [sz, ss]
        refine tq (i := 22) (d := 75) ?_
        simp only [sz, ss]
        refine wpAnyH_done (by kernel_rfl) ?_ _
        clear hHeld q0 q1
        go_wp2_with fail
        go_roundw
        case rel => exact ⟨j + 1, by omega, by go_num, hAt, hbT, hL, hBel⟩
        case measure => simp [intOf]; omega
      · obtain ⟨j', rfl⟩ : ∃ k, j = k + 1 := ⟨j - 1, by omega⟩
        have hlt2 : j' < hl.length := by omega
        have hj1 : (0 : Int) < ((j' + 1 : Nat) : Int) := by omega
        have hris := hrisA.out j' hlt
        obtain ⟨q0p, _⟩ := hcell_at hL.out j' hlt2
        have hlp' : (j' : Int) < (hl.length : Int) := by omega
        have hlt3 : (j' : Int) + 1 < (hl.length : Int) := by omega
        have h03 : (0 : Int) ≤ (j' : Int) + 1 := by omega
        clear hj0
        refine wp_region_held_drew (S := fun w' => w'.cell? ⟨b, off + (j' + 1) * 2, none⟩ = some (.int .i64 hl[j' + 1].vAt) ∧ w'.cell? ⟨b, off + j' * 2, none⟩ = some (.int .i64 hl[j'].vAt)) (by kernel_rfl) ⟨q0, q0p⟩ (fun hHeld => ?_)
        refine tq (i := 0) (d := 53) ?_
        simp only [sz, ss]
        refine tq (i := 1) (d := 54) ?_
        simp only [sz, ss]
        refine tq (i := 2) (d := 55) ?_
        simp only [sz, ss]
        refine tq (i := 3) (d := 56) ?_
        simp only [sz, ss]
        refine tq (i := 4) (d := 57) ?_
        simp only [sz, ss]
        refine tq (i := 5) (d := 58) ?_
        simp only [sz, ss]
        refine tq (i := 6) (d := 59) ?_
        simp only [sz, ss]
        refine take_lit (i := 7) (d := 60) (v := .bool true) rfl rfl (by kernel_rfl) (by kernel_rfl) (by kernel_rfl) (fun _ _ _ h => h) (Or.inl ⟨by rfl, ?_⟩) (by assumption) ?_
        · (intro w hSw; (try dsimp only at hSw); go_simp; first | done | omega | (simp; omega))
        simp only [sz, ss]
        refine tq (i := 8) (d := 61) ?_
        simp only [sz, ss]
        refine tq (i := 9) (d := 62) ?_
        simp only [sz, ss]
        refine tq (i := 10) (d := 63) ?_
        simp only [sz, ss]
        refine take_lit (i := 11) (d := 64) (v := .int .i64 (j' : Int)) rfl rfl (by kernel_rfl) (by kernel_rfl) (by kernel_rfl) (fun _ _ _ h => h) (Or.inl ⟨by rfl, ?_⟩) (by assumption) ?_
        · (intro w hSw; (try dsimp only at hSw); go_simp; first | done | (rw [IntKind.wrap_i64]; omega))
        simp only [sz, ss]
        refine tq (i := 12) (d := 65) ?_
        simp only [sz, ss]
        refine tq (i := 13) (d := 66) ?_
        simp only [sz, ss]
        refine tq (i := 14) (d := 67) ?_
        simp only [sz, ss]
        refine tq (i := 15) (d := 68) ?_
        simp only [sz, ss]
        refine tq (i := 16) (d := 69) ?_
        simp only [sz, ss]
        refine tq (i := 17) (d := 70) ?_
        simp only [sz, ss]
        refine tq (i := 18) (d := 71) ?_
        simp only [sz, ss]
        refine tq (i := 19) (d := 72) ?_
        simp only [sz, ss]
        refine take_lit (i := 20) (d := 73) (v := .bool false) rfl rfl (by kernel_rfl) (by kernel_rfl) (by kernel_rfl) (fun _ _ _ h => h) (Or.inl ⟨by rfl, ?_⟩) (by assumption) ?_
        · (intro w hSw; (try dsimp only at hSw); go_simp; first | done | omega | (simp; omega))
        simp only [sz, ss]
        refine tq (i := 21) (d := 74) ?_
        simp only [sz, ss]
        refine tq (i := 22) (d := 75) ?_
        simp only [sz, ss]
        refine wpAnyH_done (by kernel_rfl) ?_ _
        clear hHeld q0 q1 q0p
        go_wp2_with fail
        go_roundw
        case rel => exact ⟨j' + 1 + 1, by omega, by go_num, hAt, hbT, hL, hBel⟩
        case measure => simp [intOf]; omega
    · go_wp2_with fail
      go_ret
      exact ⟨rfl, hBel.out⟩
end Go.Proofs.Ytcbomaflfjdmjaa
