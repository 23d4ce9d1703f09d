/- The walk of FnContains. -/
import Derived.Test.YtdnembnlomnceaaDrawSome
import Derived.Test.YtdnembnlomnceaaContains
import Derived.Test.YtdnembnlomnceaaAbove
import Derived.Test.YtdnembnlomnceaaContPlain
namespace Go.Proofs.Ytdnembnlomnceaa.fnContains
open Go.RowKit Go.Deep
theorem big_any {a : Option Addr} {n cap : Nat} (w : World) : Calls Try.prog 7 #[.slice a n cap] w fun e w' => e = .returned (.bool (decide ((1048576 : Int) < (n : Int)))) ∧ w' = w := by
 go_enter Try.func7, Try.ntmps7
 go_wp2
 go_ret
 exact ⟨rfl, rfl⟩
/-- a heap in a box, under a law -/
structure HT (w : World) (E : Nat) (cs : List Value) (y : HeapD) (W : World) : Prop where
 hB : Below w.heap.size w W
 bE : Box W E cs 28
 hx : HeapAt W 0 cs y
theorem HT.below {w W W' : World} {E : Nat} {cs : List Value} {y : HeapD} (h : HT w E cs y W) (q : Below W.heap.size W W') : HT w E cs y W' := ⟨h.hB.trans (q.mono h.hB.size), h.bE.below q h.bE.lt, heapAt_below h.hx q⟩
set_option maxRecDepth 100000 in
set_option maxHeartbeats 16000000 in
theorem walk {a : Option Addr} {n cap : Nat} (w : World) (hlen : n ≤ maxLen) (hcode : n ≤ 1048576 → CodeAt w a n) :
 Calls Try.prog 4 #[.slice a n cap] w fun e w' => e = .returned (.bool true) ∧ Below w.heap.size w w' := by
 unfold maxLen at hlen
 by_cases hbig : (1048576 : Int) < (n : Int)
 · clear hcode
   go_enter Try.func4, Try.ntmps4
   go_wp2_with (go_at_call 7; refine (big_any _).mono ?_; rintro e w' ⟨rfl, rfl⟩; rw [decide_eq_true hbig])
   go_ret
   exact ⟨rfl, Below.refl _ _⟩
 have hc' : Hid (CodeAt w a n) := hcode (by omega)
 have hbe : Hid (decide ((1048576 : Int) < (n : Int)) = false) := decide_eq_false hbig
 clear hcode hbig hlen
 go_enter Try.func4, Try.ntmps4
 go_wp2_with (go_at_call 7; refine (big_any _).mono ?_; rintro e w' ⟨rfl, e9⟩; have e10 := e9.symm; clear e9; subst e10; rw [hbe.out])
 refine (drawContains_any hc'.out).mono ?_
 rintro e w2 ⟨⟨y, cs, v1, v2, rfl, hi1, hi2, fs, hp, hn⟩, hb2⟩
 obtain ⟨aN5, kN5, aO5, kO5, aG5, kG5, rfl⟩ := hp.form
 have hT0' : Hid (HT w w2.heap.size [.int .i64 y.vNext, .int .i64 y.vDoc, .slice aN5 y.vNodes.length kN5, .slice aO5 y.vObjs.length kO5, .slice aG5 y.vGlobals.length kG5] y (w2.alloc (.cells #[.int .i64 y.vNext, .int .i64 y.vDoc, .slice aN5 y.vNodes.length kN5, .slice aO5 y.vObjs.length kO5, .slice aG5 y.vGlobals.length kG5] 28))) := by
  have AL : Below w2.heap.size w2 (w2.alloc (.cells #[.int .i64 y.vNext, .int .i64 y.vDoc, .slice aN5 y.vNodes.length kN5, .slice aO5 y.vObjs.length kO5, .slice aG5 y.vGlobals.length kG5] 28)) := (Below.refl _ _).alloc (Nat.le_refl _) _
  exact ⟨hb2.trans (AL.mono hb2.size), Box.new w2 _ _, (hp.below AL).at0⟩
 have hi2h : Hid (InI v2) := hi2
 clear hp hn hb2 hc' hbe hi1 hi2
 go_upto_region 4 with fail
 obtain ⟨E, hE⟩ : ∃ E, w2.heap.size = E := ⟨_, rfl⟩
 rw [hE] at hT0' ⊢
 have hT0 : Hid _ := hT0'
 clear hT0' hE
 generalize (w2.alloc (.cells #[.int .i64 y.vNext, .int .i64 y.vDoc, .slice aN5 y.vNodes.length kN5, .slice aO5 y.vObjs.length kO5, .slice aG5 y.vGlobals.length kG5] 28)) = w2' at hT0 ⊢
 obtain ⟨q, hq⟩ : ∃ q, containsI y v1 v2 = q := ⟨_, rfl⟩
 have hqh : Hid (containsI y v1 v2 = q) := hq
 clear hq
 have d0 := hT0.out.bE.cell 0 rfl
 have d1 := hT0.out.bE.cell 1 rfl
 have d2 := hT0.out.bE.cell 2 rfl
 have d3 := hT0.out.bE.cell 3 rfl
 have d4 := hT0.out.bE.cell 4 rfl
 go_wp2_with fail
 refine (implContains_any hT0.out.hx).mono ?_
 rintro e w3 ⟨rfl, hb⟩
 rw [hqh.out]
 have hT1 : Hid (HT w E [.int .i64 y.vNext, .int .i64 y.vDoc, .slice aN5 y.vNodes.length kN5, .slice aO5 y.vObjs.length kO5, .slice aG5 y.vGlobals.length kG5] y w3) := hT0.out.below hb
 clear hb d0 d1 d2 d3 d4 hT0
 have d0 := hT1.out.bE.cell 0 rfl
 have d1 := hT1.out.bE.cell 1 rfl
 have d2 := hT1.out.bE.cell 2 rfl
 have d3 := hT1.out.bE.cell 3 rfl
 have d4 := hT1.out.bE.cell 4 rfl
 go_wp2_with fail
 refine (specContains_any hT1.out.hx).mono ?_
 rintro e w4 ⟨rfl, hb⟩
 rw [contains_eq, hqh.out]
 have hT2 : Hid (HT w E [.int .i64 y.vNext, .int .i64 y.vDoc, .slice aN5 y.vNodes.length kN5, .slice aO5 y.vObjs.length kO5, .slice aG5 y.vGlobals.length kG5] y w4) := hT1.out.below hb
 clear hb d0 d1 d2 d3 d4 hT1
 have d0 := hT2.out.bE.cell 0 rfl
 have d1 := hT2.out.bE.cell 1 rfl
 have d2 := hT2.out.bE.cell 2 rfl
 have d3 := hT2.out.bE.cell 3 rfl
 have d4 := hT2.out.bE.cell 4 rfl
 go_wp2_with fail
 refine (specHeapOk_any hT2.out.hx).mono ?_
 rintro e w5 ⟨rfl, hb⟩
 obtain ⟨v, hv⟩ : ∃ v, specB y = v := ⟨_, rfl⟩
 rw [hv]
 have hvh : Hid (implB y = v) := by show _ = _; rw [← spec_impl]; exact hv
 have hT3 : Hid (HT w E [.int .i64 y.vNext, .int .i64 y.vDoc, .slice aN5 y.vNodes.length kN5, .slice aO5 y.vObjs.length kO5, .slice aG5 y.vGlobals.length kG5] y w5) := hT2.out.below hb
 clear hb d0 d1 d2 d3 d4 hT2 hv
 cases v
 · -- no right heap: the program's answer is the specification's
   have d0 := hT3.out.bE.cell 0 rfl
   have d1 := hT3.out.bE.cell 1 rfl
   have d2 := hT3.out.bE.cell 2 rfl
   have d3 := hT3.out.bE.cell 3 rfl
   have d4 := hT3.out.bE.cell 4 rfl
   go_wp2_with fail
   refine (specContains_any hT3.out.hx).mono ?_
   rintro e w6 ⟨rfl, hb⟩
   rw [contains_eq, hqh.out]
   have hT4 : Hid (HT w E [.int .i64 y.vNext, .int .i64 y.vDoc, .slice aN5 y.vNodes.length kN5, .slice aO5 y.vObjs.length kO5, .slice aG5 y.vGlobals.length kG5] y w6) := hT3.out.below hb
   clear hb d0 d1 d2 d3 d4 hT3
   go_wp2_with fail
   go_ret
   exact ⟨by simp, hT4.out.hB⟩
 go_upto_region 7 with fail
 go_cut [48] from 37 (fun v wx => v = .bool false ∧ Hid (HT w E [.int .i64 y.vNext, .int .i64 y.vDoc, .slice aN5 y.vNodes.length kN5, .slice aO5 y.vObjs.length kO5, .slice aG5 y.vGlobals.length kG5] y wx))
 case first =>
  rcases Bool.eq_false_or_eq_true q with hq | hq
  · subst hq
    have d0 := hT3.out.bE.cell 0 rfl
    have d1 := hT3.out.bE.cell 1 rfl
    have d2 := hT3.out.bE.cell 2 rfl
    have d3 := hT3.out.bE.cell 3 rfl
    have d4 := hT3.out.bE.cell 4 rfl
    go_wp2_with fail
    refine (implContains_any hT3.out.hx).mono ?_
    rintro e w6 ⟨rfl, hb⟩
    obtain ⟨r, hr⟩ : ∃ r, containsI y v2 v1 = r := ⟨_, rfl⟩
    rw [hr]
    have hT4 : Hid (HT w E [.int .i64 y.vNext, .int .i64 y.vDoc, .slice aN5 y.vNodes.length kN5, .slice aO5 y.vObjs.length kO5, .slice aG5 y.vGlobals.length kG5] y w6) := hT3.out.below hb
    clear hb d0 d1 d2 d3 d4 hT3
    cases r
    · go_wp2_with fail
      go_meet
      exact ⟨rfl, hT4⟩
    · have he : v1 = v2 := cont_both hvh.out hqh.out hr
      subst he
      go_wp2_with fail
      go_meet
      exact ⟨by simp, hT4⟩
  · subst hq
    go_wp2_with fail
    go_meet
    exact ⟨rfl, hT3⟩
 case rest =>
  obtain ⟨rfl, hT4⟩ := hcut
  clear hT3
  go_upto_region 9 with fail
  go_upto_block 0 with fail
  go_cut [] from 7 (fun wx => Hid (HT w E [.int .i64 y.vNext, .int .i64 y.vDoc, .slice aN5 y.vNodes.length kN5, .slice aO5 y.vObjs.length kO5, .slice aG5 y.vGlobals.length kG5] y wx))
  case first =>
   go_wp2_with fail
   go_loopw [7] (fun iv wr => ∃ (j : Nat), j ≤ y.vNodes.length ∧ iv = .int .i64 j ∧ Hid (HT w E [.int .i64 y.vNext, .int .i64 y.vDoc, .slice aN5 y.vNodes.length kN5, .slice aO5 y.vObjs.length kO5, .slice aG5 y.vGlobals.length kG5] y wr)) (fun iv _ => y.vNodes.length - (intOf iv).toNat)
   case atStart => exact ⟨0, by omega, rfl, hT4⟩
   case round =>
    obtain ⟨j, hj, rfl, hTr⟩ := hrel
    obtain ⟨k2, k3, k4, ec, s2, s3, s4, _⟩ := id hTr.out.hx
    simp only [List.cons.injEq, and_true] at ec
    obtain ⟨_, _, rfl, rfl, rfl⟩ := ec
    obtain ⟨a', c', e3, hm, hx⟩ := s2
    injection e3 with e31 e32 e33
    subst e31 e33
    unfold maxLen at hm
    have hx' : Hid _ := hx
    have d2 := hTr.out.bE.cell 2 rfl
    clear hx s3 s4
    by_cases hlt : j < y.vNodes.length
    · cases q
      · go_wp2_with fail
        go_meet
        exact hTr
      · obtain ⟨bN, oN, rfl, hlo, hbw, hc⟩ := hx'.out (by omega)
        obtain ⟨cs, hcl, lie, hr⟩ := hc j hlt
        obtain ⟨X, hX⟩ : ∃ X, y.vNodes[j].vId = X := ⟨_, rfl⟩
        have lid : wr.drew.cell? ⟨bN, oN + j * 6, none⟩ = some (.int .i64 X) := by
         obtain ⟨_, _, rfl, _⟩ := hr
         have z0 := lie_at lie 0 rfl
         rw [hX] at z0
         exact z0
        have hlI : (j : Int) < ((y.vNodes.length : Nat) : Int) := by omega
        have hj0 : (0 : Int) ≤ (j : Int) := by omega
        clear lie hcl hx' hc hr hX
        go_upto_region 12 with fail
        clear d2
        have hTd : Hid (HT w E [.int .i64 y.vNext, .int .i64 y.vDoc, .slice (some ⟨bN, oN, none⟩) y.vNodes.length kN5, .slice aO5 y.vObjs.length kO5, .slice aG5 y.vGlobals.length kG5] y wr.drew) := hTr.out.below (Below.drew (Below.refl _ _))
        clear hTr
        rcases Bool.eq_false_or_eq_true (containsI y v2 X) with hz | hz
        · have hb1 : Hid (containsI y v2 X = true) := hz
          have hb2 : Hid (containsI y v1 X = true) := cont_trans hvh.out hqh.out hz
          clear hz
          refine wp_region_held_drew (S := fun w' => w'.cell? ⟨E, 0, none⟩ = some (.int .i64 y.vNext) ∧ w'.cell? ⟨E, 1, none⟩ = some (.int .i64 y.vDoc) ∧ w'.cell? ⟨E, 2, none⟩ = some (.slice (some ⟨bN, oN, none⟩) y.vNodes.length kN5) ∧ w'.cell? ⟨E, 3, none⟩ = some (.slice aO5 y.vObjs.length kO5) ∧ w'.cell? ⟨E, 4, none⟩ = some (.slice aG5 y.vGlobals.length kG5) ∧ w'.cell? ⟨bN, oN + j * 6, none⟩ = some (.int .i64 X)) (by kernel_rfl) ⟨hTd.out.bE.cell 0 rfl, hTd.out.bE.cell 1 rfl, hTd.out.bE.cell 2 rfl, hTd.out.bE.cell 3 rfl, hTd.out.bE.cell 4 rfl, lid⟩ (fun hHeld => ?_)
          refine tq (i := 0) (d := 59) ?_
          simp only [sz, ss]
          refine tq (i := 1) (d := 60) ?_
          simp only [sz, ss]
          refine tq (i := 2) (d := 61) ?_
          simp only [sz, ss]
          refine tq (i := 3) (d := 62) ?_
          simp only [sz, ss]
          refine tq (i := 4) (d := 63) ?_
          simp only [sz, ss]
          refine tq (i := 5) (d := 64) ?_
          simp only [sz, ss]
          refine tq (i := 6) (d := 65) ?_
          simp only [sz, ss]
          refine tq (i := 7) (d := 66) ?_
          simp only [sz, ss]
          refine wpAnyH_ready (rs := [8]) (by kernel_rfl) (by simp) ?_
          refine AllReadyH.cons rfl (fun K hK => ?_) AllReadyH.nil
          go_simp
          refine (implContains_any hTd.out.hx).mono ?_
          rintro e u1 ⟨rfl, hb⟩
          rw [hb1.out]
          have hTe : Hid (HT w E [.int .i64 y.vNext, .int .i64 y.vDoc, .slice (some ⟨bN, oN, none⟩) y.vNodes.length kN5, .slice aO5 y.vObjs.length kO5, .slice aG5 y.vGlobals.length kG5] y u1) := hTd.out.below hb
          have lid1 : u1.cell? ⟨bN, oN + j * 6, none⟩ = some (.int .i64 X) := cell_on hb lid
          clear hb
          refine hK.out _ _ ⟨hTe.out.bE.cell 0 rfl, hTe.out.bE.cell 1 rfl, hTe.out.bE.cell 2 rfl, hTe.out.bE.cell 3 rfl, hTe.out.bE.cell 4 rfl, lid1⟩ (fun hHeld => ?_)
          clear hK K
          refine tq (i := 9) (d := 68) ?_
          simp only [sz, ss]
          refine tq (i := 10) (d := 69) ?_
          simp only [sz, ss]
          refine tq (i := 11) (d := 70) ?_
          simp only [sz, ss]
          refine tq (i := 12) (d := 71) ?_
          simp only [sz, ss]
          refine tq (i := 13) (d := 72) ?_
          simp only [sz, ss]
          refine tq (i := 14) (d := 73) ?_
          simp only [sz, ss]
          refine tq (i := 15) (d := 74) ?_
          simp only [sz, ss]
          refine tq (i := 16) (d := 75) ?_
          simp only [sz, ss]
          refine tq (i := 17) (d := 76) ?_
          simp only [sz, ss]
          refine wpAnyH_ready (rs := [18]) (by kernel_rfl) (by simp) ?_
          refine AllReadyH.cons rfl (fun K hK => ?_) AllReadyH.nil
          go_simp
          refine (implContains_any hTe.out.hx).mono ?_
          rintro e u2 ⟨rfl, hb⟩
          rw [hb2.out]
          have hTf : Hid (HT w E [.int .i64 y.vNext, .int .i64 y.vDoc, .slice (some ⟨bN, oN, none⟩) y.vNodes.length kN5, .slice aO5 y.vObjs.length kO5, .slice aG5 y.vGlobals.length kG5] y u2) := hTe.out.below hb
          have lid2 : u2.cell? ⟨bN, oN + j * 6, none⟩ = some (.int .i64 X) := cell_on hb lid1
          clear hb
          refine hK.out _ _ ⟨hTf.out.bE.cell 0 rfl, hTf.out.bE.cell 1 rfl, hTf.out.bE.cell 2 rfl, hTf.out.bE.cell 3 rfl, hTf.out.bE.cell 4 rfl, lid2⟩ (fun hHeld => ?_)
          clear hK K
          refine tq (i := 19) (d := 78) ?_
          simp only [sz, ss]
          refine tq (i := 20) (d := 79) ?_
          simp only [sz, ss]
          refine wpAnyH_done (by kernel_rfl) ?_ _
          clear hHeld lid1 lid2 hTe
          generalize u2 = wz at hTf ⊢
          go_wp2_with fail
          go_roundw
          case rel => exact ⟨j + 1, by omega, by go_num, hTf⟩
          case measure => simp [intOf]; omega
        · have hb1 : Hid (containsI y v2 X = false) := hz
          clear hz
          refine wp_region_held_drew (S := fun w' => w'.cell? ⟨E, 0, none⟩ = some (.int .i64 y.vNext) ∧ w'.cell? ⟨E, 1, none⟩ = some (.int .i64 y.vDoc) ∧ w'.cell? ⟨E, 2, none⟩ = some (.slice (some ⟨bN, oN, none⟩) y.vNodes.length kN5) ∧ w'.cell? ⟨E, 3, none⟩ = some (.slice aO5 y.vObjs.length kO5) ∧ w'.cell? ⟨E, 4, none⟩ = some (.slice aG5 y.vGlobals.length kG5) ∧ w'.cell? ⟨bN, oN + j * 6, none⟩ = some (.int .i64 X)) (by kernel_rfl) ⟨hTd.out.bE.cell 0 rfl, hTd.out.bE.cell 1 rfl, hTd.out.bE.cell 2 rfl, hTd.out.bE.cell 3 rfl, hTd.out.bE.cell 4 rfl, lid⟩ (fun hHeld => ?_)
          refine tq (i := 0) (d := 59) ?_
          simp only [sz, ss]
          refine tq (i := 1) (d := 60) ?_
          simp only [sz, ss]
          refine tq (i := 2) (d := 61) ?_
          simp only [sz, ss]
          refine tq (i := 3) (d := 62) ?_
          simp only [sz, ss]
          refine tq (i := 4) (d := 63) ?_
          simp only [sz, ss]
          refine tq (i := 5) (d := 64) ?_
          simp only [sz, ss]
          refine tq (i := 6) (d := 65) ?_
          simp only [sz, ss]
          refine tq (i := 7) (d := 66) ?_
          simp only [sz, ss]
          refine wpAnyH_ready (rs := [8]) (by kernel_rfl) (by simp) ?_
          refine AllReadyH.cons rfl (fun K hK => ?_) AllReadyH.nil
          go_simp
          refine (implContains_any hTd.out.hx).mono ?_
          rintro e u1 ⟨rfl, hb⟩
          rw [hb1.out]
          have hTe : Hid (HT w E [.int .i64 y.vNext, .int .i64 y.vDoc, .slice (some ⟨bN, oN, none⟩) y.vNodes.length kN5, .slice aO5 y.vObjs.length kO5, .slice aG5 y.vGlobals.length kG5] y u1) := hTd.out.below hb
          have lid1 : u1.cell? ⟨bN, oN + j * 6, none⟩ = some (.int .i64 X) := cell_on hb lid
          clear hb
          refine hK.out _ _ ⟨hTe.out.bE.cell 0 rfl, hTe.out.bE.cell 1 rfl, hTe.out.bE.cell 2 rfl, hTe.out.bE.cell 3 rfl, hTe.out.bE.cell 4 rfl, lid1⟩ (fun hHeld => ?_)
          clear hK K
          refine tq (i := 9) (d := 68) ?_
          simp only [sz, ss]
          refine tn (i := 10) (d := 69) ?_
          simp only [sz, ss]
          refine tn (i := 11) (d := 70) ?_
          simp only [sz, ss]
          refine tn (i := 12) (d := 71) ?_
          simp only [sz, ss]
          refine tn (i := 13) (d := 72) ?_
          simp only [sz, ss]
          refine tn (i := 14) (d := 73) ?_
          simp only [sz, ss]
          refine tn (i := 15) (d := 74) ?_
          simp only [sz, ss]
          refine tn (i := 16) (d := 75) ?_
          simp only [sz, ss]
          refine tn (i := 17) (d := 76) ?_
          simp only [sz, ss]
          refine tn (i := 18) (d := 77) ?_
          simp only [sz, ss]
          refine tn (i := 19) (d := 78) ?_
          simp only [sz, ss]
          refine tq (i := 20) (d := 79) ?_
          simp only [sz, ss]
          refine wpAnyH_done (by kernel_rfl) ?_ _
          clear hHeld lid1
          generalize u1 = wz at hTe ⊢
          go_wp2_with fail
          go_roundw
          case rel => exact ⟨j + 1, by omega, by go_num, hTe⟩
          case measure => simp [intOf]; omega
    · go_wp2_with fail
      go_meet
      exact hTr
  case rest =>
   have hT5 : Hid (HT w E [.int .i64 y.vNext, .int .i64 y.vDoc, .slice aN5 y.vNodes.length kN5, .slice aO5 y.vObjs.length kO5, .slice aG5 y.vGlobals.length kG5] y wc) := hcut
   clear hcut hT4
   have d0 := hT5.out.bE.cell 0 rfl
   have d1 := hT5.out.bE.cell 1 rfl
   have d2 := hT5.out.bE.cell 2 rfl
   have d3 := hT5.out.bE.cell 3 rfl
   have d4 := hT5.out.bE.cell 4 rfl
   go_wp2_with fail
   refine (implAbove_any hT5.out.hx).mono ?_
   rintro e w8 ⟨⟨va, fa, rfl, hs, _⟩, hb⟩
   have hT6 : Hid (HT w E [.int .i64 y.vNext, .int .i64 y.vDoc, .slice aN5 y.vNodes.length kN5, .slice aO5 y.vObjs.length kO5, .slice aG5 y.vGlobals.length kG5] y w8) := hT5.out.below hb
   have hs' : Hid (SeqAt 1 IntAt w8 0 va (aboveS y v2)) := hs.at intOwn_at (fun _ _ => Nat.zero_le _)
   obtain ⟨av, cv, rfl⟩ := hs.form
   clear hb d0 d1 d2 d3 d4 hT5 hs
   go_wp2_with fail
   refine (has_any hs'.out).mono ?_
   rintro e w9 ⟨rfl, e9⟩
   have e10 := e9.symm
   clear e9
   subst e10
   rw [cont_above hvh.out, hqh.out]
   go_wp2_with fail
   go_ret
   exact ⟨by simp, hT6.out.hB⟩
end Go.Proofs.Ytdnembnlomnceaa.fnContains
