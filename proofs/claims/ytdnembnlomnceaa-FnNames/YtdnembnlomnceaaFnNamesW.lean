/- The walk of FnNames. -/
import Derived.Test.YtdnembnlomnceaaDrawField
import Derived.Test.YtdnembnlomnceaaHeldWalks
import Derived.Test.YtdnembnlomnceaaImplRight
namespace Go.Proofs.Ytdnembnlomnceaa.fnNames
open Go.RowKit Go.Deep
theorem big_any {a : Option Addr} {n cap : Nat} (w : World) : Calls Try.prog 7 #[.slice a n cap] w fun e w' => e = .returned (.bool (decide ((1048576 : Int) < (n : Int)))) ∧ w' = w := by
 go_enter Try.func7, Try.ntmps7
 go_wp2
 go_ret
 exact ⟨rfl, rfl⟩
/-- a heap in a box, under a law -/
structure HT (w : World) (E : Nat) (cs : List Value) (y : HeapD) (W : World) : Prop where
 hB : Below w.heap.size w W
 bE : Box W E cs 28
 hx : HeapAt W 0 cs y
theorem HT.below {w W W' : World} {E : Nat} {cs : List Value} {y : HeapD} (h : HT w E cs y W) (q : Below W.heap.size W W') : HT w E cs y W' := ⟨h.hB.trans (q.mono h.hB.size), h.bE.below q h.bE.lt, heapAt_below h.hx q⟩
set_option maxRecDepth 100000 in
set_option maxHeartbeats 16000000 in
theorem walk {a : Option Addr} {n cap : Nat} (w : World) (hlen : n ≤ maxLen) (hcode : n ≤ 1048576 → CodeAt w a n) :
 Calls Try.prog 3 #[.slice a n cap] w fun e w' => e = .returned (.bool true) ∧ Below w.heap.size w w' := by
 unfold maxLen at hlen
 by_cases hbig : (1048576 : Int) < (n : Int)
 · clear hcode
   go_enter Try.func3, Try.ntmps3
   go_wp2_with (go_at_call 7; refine (big_any _).mono ?_; rintro e w' ⟨rfl, rfl⟩; rw [decide_eq_true hbig])
   go_ret
   exact ⟨rfl, Below.refl _ _⟩
 have hc' : Hid (CodeAt w a n) := hcode (by omega)
 have hbe : Hid (decide ((1048576 : Int) < (n : Int)) = false) := decide_eq_false hbig
 clear hcode hbig hlen
 go_enter Try.func3, Try.ntmps3
 go_wp2_with (go_at_call 7; refine (big_any _).mono ?_; rintro e w' ⟨rfl, e9⟩; have e10 := e9.symm; clear e9; subst e10; rw [hbe.out])
 refine (drawField_any hc'.out).mono ?_
 rintro e w2 ⟨⟨y, cs, nm, fd, rfl, hF, fs, hp, hn⟩, hb2⟩
 obtain ⟨aN5, kN5, aO5, kO5, aG5, kG5, rfl⟩ := hp.form
 have hT0' : Hid (HT w w2.heap.size [.int .i64 y.vNext, .int .i64 y.vDoc, .slice aN5 y.vNodes.length kN5, .slice aO5 y.vObjs.length kO5, .slice aG5 y.vGlobals.length kG5] y (w2.alloc (.cells #[.int .i64 y.vNext, .int .i64 y.vDoc, .slice aN5 y.vNodes.length kN5, .slice aO5 y.vObjs.length kO5, .slice aG5 y.vGlobals.length kG5] 28))) := by
  have AL : Below w2.heap.size w2 (w2.alloc (.cells #[.int .i64 y.vNext, .int .i64 y.vDoc, .slice aN5 y.vNodes.length kN5, .slice aO5 y.vObjs.length kO5, .slice aG5 y.vGlobals.length kG5] 28)) := (Below.refl _ _).alloc (Nat.le_refl _) _
  exact ⟨hb2.trans (AL.mono hb2.size), Box.new w2 _ _, (hp.below AL).at0⟩
 have hzz : Hid (fieldOfI y nm ⟨#[122, 122, 122, 122, 122, 122]⟩ = (0, false)) := field_no hF (by decide)
 obtain ⟨gi, hgi⟩ : ∃ gi, (globalI y nm).1 = gi := ⟨_, rfl⟩
 obtain ⟨gt, hgt⟩ : ∃ gt, (globalI y nm).2 = gt := ⟨_, rfl⟩
 obtain ⟨ni, hni⟩ : ∃ ni, (nodeOfI y nm).1 = ni := ⟨_, rfl⟩
 obtain ⟨nt, hnt⟩ : ∃ nt, (nodeOfI y nm).2 = nt := ⟨_, rfl⟩
 obtain ⟨fi, hfi⟩ : ∃ fi, (fieldOfI y nm fd).1 = fi := ⟨_, rfl⟩
 obtain ⟨ft, hft⟩ : ∃ ft, (fieldOfI y nm fd).2 = ft := ⟨_, rfl⟩
 have h1 : Hid ((globalI y nm).1 = gi) := hgi
 have h2 : Hid ((globalI y nm).2 = gt) := hgt
 have h3 : Hid ((nodeOfI y nm).1 = ni) := hni
 have h4 : Hid ((nodeOfI y nm).2 = nt) := hnt
 have h5 : Hid ((fieldOfI y nm fd).1 = fi) := hfi
 have h6 : Hid ((fieldOfI y nm fd).2 = ft) := hft
 have h7 : Hid ((fieldOfI y nm ⟨#[122, 122, 122, 122, 122, 122]⟩).1 = 0) := by show _ = _; rw [hzz.out]
 have h8 : Hid ((fieldOfI y nm ⟨#[122, 122, 122, 122, 122, 122]⟩).2 = false) := by show _ = _; rw [hzz.out]
 clear hF hp hn hb2 hc' hbe hzz hgi hgt hni hnt hfi hft
 go_upto_region 4 with fail
 obtain ⟨E, hE⟩ : ∃ E, w2.heap.size = E := ⟨_, rfl⟩
 rw [hE] at hT0' ⊢
 have hT0 : Hid _ := hT0'
 clear hT0' hE
 generalize (w2.alloc (.cells #[.int .i64 y.vNext, .int .i64 y.vDoc, .slice aN5 y.vNodes.length kN5, .slice aO5 y.vObjs.length kO5, .slice aG5 y.vGlobals.length kG5] 28)) = w2' at hT0 ⊢
 have d0 := hT0.out.bE.cell 0 rfl
 have d1 := hT0.out.bE.cell 1 rfl
 have d2 := hT0.out.bE.cell 2 rfl
 have d3 := hT0.out.bE.cell 3 rfl
 have d4 := hT0.out.bE.cell 4 rfl
 go_wp2_with fail
 refine (implGlobalOf_any hT0.out.hx).mono ?_
 rintro e w3 ⟨rfl, hb⟩
 rw [h1.out, h2.out]
 have hT1 : Hid (HT w E [.int .i64 y.vNext, .int .i64 y.vDoc, .slice aN5 y.vNodes.length kN5, .slice aO5 y.vObjs.length kO5, .slice aG5 y.vGlobals.length kG5] y w3) := hT0.out.below hb
 clear hb hT0 d0 d1 d2 d3 d4
 have d0 := hT1.out.bE.cell 0 rfl
 have d1 := hT1.out.bE.cell 1 rfl
 have d2 := hT1.out.bE.cell 2 rfl
 have d3 := hT1.out.bE.cell 3 rfl
 have d4 := hT1.out.bE.cell 4 rfl
 go_wp2_with fail
 refine (specGlobalOf_any hT1.out.hx).mono ?_
 rintro e w4 ⟨rfl, hb⟩
 rw [global_eq]
 rw [h1.out, h2.out]
 have hT2 : Hid (HT w E [.int .i64 y.vNext, .int .i64 y.vDoc, .slice aN5 y.vNodes.length kN5, .slice aO5 y.vObjs.length kO5, .slice aG5 y.vGlobals.length kG5] y w4) := hT1.out.below hb
 clear hb hT1 d0 d1 d2 d3 d4
 have d0 := hT2.out.bE.cell 0 rfl
 have d1 := hT2.out.bE.cell 1 rfl
 have d2 := hT2.out.bE.cell 2 rfl
 have d3 := hT2.out.bE.cell 3 rfl
 have d4 := hT2.out.bE.cell 4 rfl
 go_wp2_with fail
 refine (implNodeOf_any hT2.out.hx).mono ?_
 rintro e w5 ⟨rfl, hb⟩
 rw [h3.out, h4.out]
 have hT3 : Hid (HT w E [.int .i64 y.vNext, .int .i64 y.vDoc, .slice aN5 y.vNodes.length kN5, .slice aO5 y.vObjs.length kO5, .slice aG5 y.vGlobals.length kG5] y w5) := hT2.out.below hb
 clear hb hT2 d0 d1 d2 d3 d4
 have d0 := hT3.out.bE.cell 0 rfl
 have d1 := hT3.out.bE.cell 1 rfl
 have d2 := hT3.out.bE.cell 2 rfl
 have d3 := hT3.out.bE.cell 3 rfl
 have d4 := hT3.out.bE.cell 4 rfl
 go_wp2_with fail
 refine (specNodeOf_any hT3.out.hx).mono ?_
 rintro e w6 ⟨rfl, hb⟩
 rw [nodeOf_eq]
 rw [h3.out, h4.out]
 have hT4 : Hid (HT w E [.int .i64 y.vNext, .int .i64 y.vDoc, .slice aN5 y.vNodes.length kN5, .slice aO5 y.vObjs.length kO5, .slice aG5 y.vGlobals.length kG5] y w6) := hT3.out.below hb
 clear hb hT3 d0 d1 d2 d3 d4
 have d0 := hT4.out.bE.cell 0 rfl
 have d1 := hT4.out.bE.cell 1 rfl
 have d2 := hT4.out.bE.cell 2 rfl
 have d3 := hT4.out.bE.cell 3 rfl
 have d4 := hT4.out.bE.cell 4 rfl
 go_wp2_with fail
 refine (implFieldOf_any hT4.out.hx).mono ?_
 rintro e w7 ⟨rfl, hb⟩
 rw [h5.out, h6.out]
 have hT5 : Hid (HT w E [.int .i64 y.vNext, .int .i64 y.vDoc, .slice aN5 y.vNodes.length kN5, .slice aO5 y.vObjs.length kO5, .slice aG5 y.vGlobals.length kG5] y w7) := hT4.out.below hb
 clear hb hT4 d0 d1 d2 d3 d4
 have d0 := hT5.out.bE.cell 0 rfl
 have d1 := hT5.out.bE.cell 1 rfl
 have d2 := hT5.out.bE.cell 2 rfl
 have d3 := hT5.out.bE.cell 3 rfl
 have d4 := hT5.out.bE.cell 4 rfl
 go_wp2_with fail
 refine (implFieldOf_any hT5.out.hx).mono ?_
 rintro e w8 ⟨rfl, hb⟩
 rw [h7.out, h8.out]
 have hT6 : Hid (HT w E [.int .i64 y.vNext, .int .i64 y.vDoc, .slice aN5 y.vNodes.length kN5, .slice aO5 y.vObjs.length kO5, .slice aG5 y.vGlobals.length kG5] y w8) := hT5.out.below hb
 clear hb hT5 d0 d1 d2 d3 d4
 have d0 := hT6.out.bE.cell 0 rfl
 have d1 := hT6.out.bE.cell 1 rfl
 have d2 := hT6.out.bE.cell 2 rfl
 have d3 := hT6.out.bE.cell 3 rfl
 have d4 := hT6.out.bE.cell 4 rfl
 go_wp2_with fail
 refine (specFieldOf_any hT6.out.hx).mono ?_
 rintro e w9 ⟨rfl, hb⟩
 rw [fieldOf_eq]
 rw [h5.out, h6.out]
 have hT7 : Hid (HT w E [.int .i64 y.vNext, .int .i64 y.vDoc, .slice aN5 y.vNodes.length kN5, .slice aO5 y.vObjs.length kO5, .slice aG5 y.vGlobals.length kG5] y w9) := hT6.out.below hb
 clear hb hT6 d0 d1 d2 d3 d4
 obtain ⟨vv, hv⟩ : ∃ vv, implB y = vv := ⟨_, rfl⟩
 have hvh : Hid (implB y = vv) := hv
 have hwh : Hid (specB y = vv) := by show _ = _; rw [spec_impl]; exact hv
 clear hv h7 h8
 go_upto_region 11 with fail
 have hTd : Hid (HT w E [.int .i64 y.vNext, .int .i64 y.vDoc, .slice aN5 y.vNodes.length kN5, .slice aO5 y.vObjs.length kO5, .slice aG5 y.vGlobals.length kG5] y w9.drew) := hT7.out.below (Below.drew (Below.refl _ _))
 clear hT7
 refine wp_region_held_drew (S := fun w' => w'.cell? ⟨E, 0, none⟩ = some (.int .i64 y.vNext) ∧ w'.cell? ⟨E, 1, none⟩ = some (.int .i64 y.vDoc) ∧ w'.cell? ⟨E, 2, none⟩ = some (.slice aN5 y.vNodes.length kN5) ∧ w'.cell? ⟨E, 3, none⟩ = some (.slice aO5 y.vObjs.length kO5) ∧ w'.cell? ⟨E, 4, none⟩ = some (.slice aG5 y.vGlobals.length kG5)) (by kernel_rfl) ⟨hTd.out.bE.cell 0 rfl, hTd.out.bE.cell 1 rfl, hTd.out.bE.cell 2 rfl, hTd.out.bE.cell 3 rfl, hTd.out.bE.cell 4 rfl⟩ (fun hHeld => ?_)
 refine tq (i := 0) (d := 73) ?_
 simp only [sz, ss]
 refine tq (i := 1) (d := 74) ?_
 simp only [sz, ss]
 refine tq (i := 2) (d := 75) ?_
 simp only [sz, ss]
 refine tq (i := 3) (d := 76) ?_
 simp only [sz, ss]
 refine tq (i := 4) (d := 77) ?_
 simp only [sz, ss]
 refine tq (i := 5) (d := 78) ?_
 simp only [sz, ss]
 refine tq (i := 6) (d := 79) ?_
 simp only [sz, ss]
 refine tq (i := 7) (d := 80) ?_
 simp only [sz, ss]
 refine tq (i := 8) (d := 81) ?_
 simp only [sz, ss]
 refine tq (i := 9) (d := 82) ?_
 simp only [sz, ss]
 refine tq (i := 10) (d := 83) ?_
 simp only [sz, ss]
 refine tq (i := 11) (d := 84) ?_
 simp only [sz, ss]
 refine tq (i := 12) (d := 85) ?_
 simp only [sz, ss]
 refine tq (i := 13) (d := 86) ?_
 simp only [sz, ss]
 refine tq (i := 14) (d := 87) ?_
 simp only [sz, ss]
 refine tq (i := 15) (d := 88) ?_
 simp only [sz, ss]
 refine tq (i := 16) (d := 89) ?_
 simp only [sz, ss]
 refine tq (i := 17) (d := 90) ?_
 simp only [sz, ss]
 refine tq (i := 18) (d := 91) ?_
 simp only [sz, ss]
 refine tq (i := 19) (d := 92) ?_
 simp only [sz, ss]
 refine tq (i := 20) (d := 93) ?_
 simp only [sz, ss]
 refine tq (i := 21) (d := 94) ?_
 simp only [sz, ss]
 refine tq (i := 22) (d := 95) ?_
 simp only [sz, ss]
 refine tq (i := 23) (d := 96) ?_
 simp only [sz, ss]
 refine tq (i := 24) (d := 97) ?_
 simp only [sz, ss]
 refine tq (i := 25) (d := 98) ?_
 simp only [sz, ss]
 refine tq (i := 26) (d := 99) ?_
 simp only [sz, ss]
 refine tq (i := 27) (d := 100) ?_
 simp only [sz, ss]
 refine tq (i := 28) (d := 101) ?_
 simp only [sz, ss]
 refine tq (i := 29) (d := 102) ?_
 simp only [sz, ss]
 refine tq (i := 30) (d := 103) ?_
 simp only [sz, ss]
 refine tq (i := 31) (d := 104) ?_
 simp only [sz, ss]
 refine tq (i := 32) (d := 105) ?_
 simp only [sz, ss]
 refine tq (i := 33) (d := 106) ?_
 simp only [sz, ss]
 refine tq (i := 34) (d := 107) ?_
 simp only [sz, ss]
 refine tq (i := 35) (d := 108) ?_
 simp only [sz, ss]
 refine tq (i := 36) (d := 109) ?_
 simp only [sz, ss]
 refine tq (i := 38) (d := 111) ?_
 simp only [sz, ss]
 refine wpAnyH_ready (rs := [37]) (by kernel_rfl) (by simp) ?_
 refine AllReadyH.cons rfl (fun K hK => ?_) AllReadyH.nil
 go_simp
 refine (implHeapOk_any hTd.out.hx).mono ?_
 rintro e u1 ⟨rfl, hb⟩
 rw [hvh.out]
 have hTe : Hid (HT w E [.int .i64 y.vNext, .int .i64 y.vDoc, .slice aN5 y.vNodes.length kN5, .slice aO5 y.vObjs.length kO5, .slice aG5 y.vGlobals.length kG5] y u1) := hTd.out.below hb
 clear hb
 refine hK.out _ _ ⟨hTe.out.bE.cell 0 rfl, hTe.out.bE.cell 1 rfl, hTe.out.bE.cell 2 rfl, hTe.out.bE.cell 3 rfl, hTe.out.bE.cell 4 rfl⟩ (fun hHeld => ?_)
 clear hK K
 refine wpAnyH_ready (rs := [39]) (by kernel_rfl) (by simp) ?_
 refine AllReadyH.cons rfl (fun K hK => ?_) AllReadyH.nil
 go_simp
 refine (specHeapOk_any hTe.out.hx).mono ?_
 rintro e u2 ⟨rfl, hb⟩
 rw [hwh.out]
 have hTf : Hid (HT w E [.int .i64 y.vNext, .int .i64 y.vDoc, .slice aN5 y.vNodes.length kN5, .slice aO5 y.vObjs.length kO5, .slice aG5 y.vGlobals.length kG5] y u2) := hTe.out.below hb
 clear hb
 refine hK.out _ _ ⟨hTf.out.bE.cell 0 rfl, hTf.out.bE.cell 1 rfl, hTf.out.bE.cell 2 rfl, hTf.out.bE.cell 3 rfl, hTf.out.bE.cell 4 rfl⟩ (fun hHeld => ?_)
 clear hK K
 refine tq (i := 40) (d := 113) ?_
 simp only [sz, ss]
 refine tq (i := 41) (d := 114) ?_
 simp only [sz, ss]
 refine wpAnyH_done (by kernel_rfl) ?_ _
 clear hHeld hTd hTe hvh hwh
 rcases Bool.eq_false_or_eq_true gt with hg | hg
 · obtain ⟨ob, hob, hnd⟩ := names_yes (show (globalI y nm).2 = true by rw [h2.out]; exact hg)
   rw [h1.out] at hob
   have hobh : Hid (getI ObjD.vId y.vObjs gi = some ob) := hob
   have hni : ni = ob.vNode := by rw [← h3.out, hnd]
   have hnt : nt = (ob.vNode != 0) := by rw [← h4.out, hnd]
   subst hg hni hnt
   clear hob hnd h1 h2 h3 h4 h5 h6
   obtain ⟨k2, k3, k4, ec, s2, s3, s4, _⟩ := id hTf.out.hx
   simp only [List.cons.injEq, and_true] at ec
   obtain ⟨_, _, rfl, rfl, rfl⟩ := ec
   obtain ⟨a', c', e3, hm, hx⟩ := s3
   injection e3 with e31 e32 e33
   subst e31 e33
   unfold maxLen at hm
   have hx' : Hid _ := hx
   have d3 := hTf.out.bE.cell 3 rfl
   clear hx s2 s4
   go_wp2_with fail
   go_loop [20] (fun iv => ∃ (j : Nat), j ≤ y.vObjs.length ∧ iv = .int .i64 j ∧ Hid (getI ObjD.vId (y.vObjs.drop j) gi = some ob)) (fun iv => y.vObjs.length - (intOf iv).toNat)
   case atStart => exact ⟨0, by omega, rfl, hobh⟩
   case round =>
    obtain ⟨j, hj, rfl, hrem⟩ := hrel
    by_cases hlt : j < y.vObjs.length
    · obtain ⟨b, off, rfl, hlo, hbw, hc⟩ := hx'.out (by omega)
      obtain ⟨cs, hcl, lie, hr⟩ := hc j hlt
      by_cases hq : y.vObjs[j].vId = gi
      · have hoe : Hid (y.vObjs[j] = ob) := getI_hit hlt hq hrem.out
        rw [hoe.out] at hr hq
        obtain ⟨kf, rfl, _⟩ := hr
        have z0 := lie_at lie 0 rfl
        have z1 := lie_at lie 1 rfl
        rw [hq] at z0
        simp only [Nat.add_zero] at z0
        clear lie hcl hx' hc hq hoe
        go_wp2_with fail
        go_ret
        exact ⟨by simp, hTf.out.hB⟩
      · have H2 : Hid _ := getI_miss (f := ObjD.vId) hlt hq hrem.out
        generalize y.vObjs[j] = X at hr hq
        obtain ⟨kf, rfl, _⟩ := hr
        have z0 := lie_at lie 0 rfl
        simp only [Nat.add_zero] at z0
        clear lie hcl hx' hc
        go_wp2_with fail
        go_round
        case rel => exact ⟨j + 1, by omega, by go_num, H2⟩
        case measure => simp [intOf]; omega
    · exact (getI_end hlt hrem.out).elim
 · obtain ⟨hA, hB⟩ := names_no (show (globalI y nm).2 = false by rw [h2.out]; exact hg) fd
   have hnt : nt = false := by rw [← h4.out]; exact hA
   have hft : ft = false := by rw [← h6.out]; exact hB
   subst hg hnt hft
   clear hA hB h1 h2 h3 h4 h5 h6
   go_wp2_with fail
   go_ret
   exact ⟨rfl, hTf.out.hB⟩
end Go.Proofs.Ytdnembnlomnceaa.fnNames
