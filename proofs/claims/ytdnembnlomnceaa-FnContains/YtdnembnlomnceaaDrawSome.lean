/- A node of a drawn heap, or a number; DrawContains. -/
import Derived.Test.YtdnembnlomnceaaDrawHs
namespace Go.Proofs.Ytdnembnlomnceaa
open Go.RowKit Go.Deep
theorem HeapP.idAt {w : World} {k0 k1 vO vG : Value} {g nl cap : Nat} {x : HeapD} {fs : List Nat} (h : HeapP w [k0, k1, .slice (some ⟨g, 0, none⟩) nl cap, vO, vG] x fs) {k : Nat} (hk : k < x.vNodes.length) : w.cell? ⟨g, k * 6, none⟩ = some (.int .i64 x.vNodes[k].vId) ∧ InI x.vNodes[k].vId := by
 obtain ⟨CC, fi, h1, h2, _⟩ := h.node hk
 have h3 := h1.len
 obtain ⟨k3, k5, f3, bL, cL, e, _, _, r0, _⟩ := h1
 obtain ⟨a3, c3, a5, c5, e2⟩ := h3
 exact ⟨h2 0 _ (by rw [e2]; rfl), r0⟩
/-- a heap in a box at the beginning of a call -/
structure SM (w : World) (g : Nat) (a : Option Addr) (n cap : Nat) (cs : List Value) (y : HeapD) (fs : List Nat) (W : World) : Prop where
 hG : w.grownBy W (some g)
 hR : RdAt W g a n cap
 bx : Box W w.heap.size cs 28
 hp : HeapP W cs y fs
 ng : g ∉ fs
 lt : g < w.heap.size
theorem SM.grow {w W u : World} {g : Nat} {a : Option Addr} {n cap : Nat} {cs : List Value} {y : HeapD} {fs : List Nat} (h : SM w g a n cap cs y fs W) (r : RdAt u g a n cap) (q : W.grownBy u (some g)) : SM w g a n cap cs y fs u :=
 ⟨grown_on h.hG q, r, box_other h.bx (by have := h.lt; omega) q, h.hp.stays (fun b hb => q.block b (h.hp.lt b hb) (fun e => by injection e with e; exact h.ng (e ▸ hb))), h.ng, h.lt⟩
set_option maxRecDepth 100000 in
set_option maxHeartbeats 8000000 in
theorem some_any {w : World} {g : Nat} {a : Option Addr} {n cap : Nat} {cs : List Value} {y : HeapD} {fs : List Nat} (h : RdAt w g a n cap) (hp : HeapP w cs y fs) (hng : g ∉ fs) (hs : HSz y) :
 Calls Try.prog 48 #[.pointer (some ⟨g, 0, none⟩), .agg cs.toArray] w fun e w' => ∃ v : Int, e = .returned (.int .i64 v) ∧ InI v ∧ RdAt w' g a n cap ∧ w.grownBy w' (some g) := by
 obtain ⟨aN5, kN5, aO5, kO5, aG5, kG5, rfl⟩ := hp.form
 have hN : 0 < y.vNodes.length := hs.1
 have hN16 : y.vNodes.length ≤ 16 := hs.2.1
 obtain ⟨gN, rfl, _⟩ := hp.posN hN
 have hS0 : Hid (SM w g a n cap [.int .i64 y.vNext, .int .i64 y.vDoc, .slice (some ⟨gN, 0, none⟩) y.vNodes.length kN5, .slice aO5 y.vObjs.length kO5, .slice aG5 y.vGlobals.length kG5] y fs (w.alloc (.cells #[.int .i64 y.vNext, .int .i64 y.vDoc, .slice (some ⟨gN, 0, none⟩) y.vNodes.length kN5, .slice aO5 y.vObjs.length kO5, .slice aG5 y.vGlobals.length kG5] 28))) := by
  have AL : Below w.heap.size w (w.alloc (.cells #[.int .i64 y.vNext, .int .i64 y.vDoc, .slice (some ⟨gN, 0, none⟩) y.vNodes.length kN5, .slice aO5 y.vObjs.length kO5, .slice aG5 y.vGlobals.length kG5] 28)) := (Below.refl _ _).alloc (Nat.le_refl _) _
  exact ⟨grown_of_below AL _, h.below AL, Box.new w _ _, hp.below AL, hng, h.lt⟩
 clear h hp hng hs
 go_enter Try.func48, Try.ntmps48
 go_upto_region 1 with fail
 generalize (w.alloc (.cells #[.int .i64 y.vNext, .int .i64 y.vDoc, .slice (some ⟨gN, 0, none⟩) y.vNodes.length kN5, .slice aO5 y.vObjs.length kO5, .slice aG5 y.vGlobals.length kG5] 28)) = w0 at hS0 ⊢
 go_wp2_with fail
 refine (once_any (by exact hS0.out.hR) 8 (by omega) (by omega)).mono ?_
 rintro e w1 ⟨b1, rfl, hr1, hg1⟩
 have hS1 : Hid (SM w g a n cap [.int .i64 y.vNext, .int .i64 y.vDoc, .slice (some ⟨gN, 0, none⟩) y.vNodes.length kN5, .slice aO5 y.vObjs.length kO5, .slice aG5 y.vGlobals.length kG5] y fs w1) := hS0.out.grow hr1 hg1
 clear hr1 hg1 hS0
 cases b1
 · go_upto_region 3 with fail
   have hS2 : Hid (SM w g a n cap [.int .i64 y.vNext, .int .i64 y.vDoc, .slice (some ⟨gN, 0, none⟩) y.vNodes.length kN5, .slice aO5 y.vObjs.length kO5, .slice aG5 y.vGlobals.length kG5] y fs w1.drew) := hS1.out.grow (RdAt.below hS1.out.hR (Below.drew (Below.refl _ _))) (grown_of_below (Below.drew (Below.refl _ _)) _)
   clear hS1
   refine wp_region_held_drew (S := fun w' => w'.cell? ⟨w.heap.size, 0, none⟩ = some (.int .i64 y.vNext) ∧ w'.cell? ⟨w.heap.size, 1, none⟩ = some (.int .i64 y.vDoc) ∧ w'.cell? ⟨w.heap.size, 2, none⟩ = some (.slice (some ⟨gN, 0, none⟩) y.vNodes.length kN5) ∧ w'.cell? ⟨w.heap.size, 3, none⟩ = some (.slice aO5 y.vObjs.length kO5) ∧ w'.cell? ⟨w.heap.size, 4, none⟩ = some (.slice aG5 y.vGlobals.length kG5)) (by kernel_rfl) ⟨hS2.out.bx.cell 0 rfl, hS2.out.bx.cell 1 rfl, hS2.out.bx.cell 2 rfl, hS2.out.bx.cell 3 rfl, hS2.out.bx.cell 4 rfl⟩ (fun hHeld => ?_)
   refine tq (i := 0) (d := 9) ?_
   simp only [sz, ss]
   refine tq (i := 1) (d := 10) ?_
   simp only [sz, ss]
   refine tq (i := 2) (d := 11) ?_
   simp only [sz, ss]
   refine tq (i := 3) (d := 12) ?_
   simp only [sz, ss]
   refine tq (i := 4) (d := 13) ?_
   simp only [sz, ss]
   refine tq (i := 5) (d := 14) ?_
   simp only [sz, ss]
   refine wpAnyH_ready (rs := [6]) (by kernel_rfl) (by simp) ?_
   refine AllReadyH.cons rfl (fun K hK => ?_) AllReadyH.nil
   go_simp
   refine (below_any (by exact hS2.out.hR) (y.vNodes.length : Int) (by omega) (by omega)).mono ?_
   rintro e u ⟨v, rfl, v0, v1, hru, hgu⟩
   obtain ⟨k, rfl⟩ := Int.eq_ofNat_of_zero_le v0
   have hk : k < y.vNodes.length := by omega
   have hS3 : Hid (SM w g a n cap [.int .i64 y.vNext, .int .i64 y.vDoc, .slice (some ⟨gN, 0, none⟩) y.vNodes.length kN5, .slice aO5 y.vObjs.length kO5, .slice aG5 y.vGlobals.length kG5] y fs u) := hS2.out.grow hru ⟨hgu.os, hgu.tape, hgu.output, hgu.size, hgu.block⟩
   clear hru hgu
   refine hK.out _ _ ⟨hS3.out.bx.cell 0 rfl, hS3.out.bx.cell 1 rfl, hS3.out.bx.cell 2 rfl, hS3.out.bx.cell 3 rfl, hS3.out.bx.cell 4 rfl⟩ (fun hHeld => ?_)
   clear hK K
   refine tq (i := 7) (d := 16) ?_
   simp only [sz, ss]
   refine tq (i := 8) (d := 17) ?_
   simp only [sz, ss]
   refine wpAnyH_ready (rs := [9]) (by kernel_rfl) (by simp) ?_
   refine AllReadyH.cons rfl (fun K hK => ?_) AllReadyH.nil
   obtain ⟨lc, hid⟩ := hS3.out.hp.idAt hk
   have hidh : Hid (InI y.vNodes[k].vId) := hid
   go_simp
   clear lc hid
   refine hK.out _ _ hHeld (fun hHeld => ?_)
   clear hK K
   refine tq (i := 10) (d := 4) ?_
   simp only [sz, ss]
   refine wpAnyH_done (by kernel_rfl) ?_ _
   clear hHeld
   go_wp2_with fail
   go_ret
   exact ⟨_, rfl, hidh.out, hS3.out.hR, hS3.out.hG⟩
 · go_wp2_with fail
   refine (off_any (by exact hS1.out.hR) 1 9 (by omega) (by omega) (by omega) (by omega)).mono ?_
   rintro e w2 ⟨v2, rfl, hv2, hr2, hg2⟩
   have hS2 : Hid (SM w g a n cap [.int .i64 y.vNext, .int .i64 y.vDoc, .slice (some ⟨gN, 0, none⟩) y.vNodes.length kN5, .slice aO5 y.vObjs.length kO5, .slice aG5 y.vGlobals.length kG5] y fs w2) := hS1.out.grow hr2 hg2
   have hv : Hid (InI v2) := hv2
   clear hr2 hg2 hS1 hv2
   go_wp2_with fail
   go_ret
   exact ⟨_, rfl, hv.out, hS2.out.hR, hS2.out.hG⟩
set_option maxRecDepth 100000 in
set_option maxHeartbeats 8000000 in
theorem drawContains_any {w : World} {a : Option Addr} {n cap : Nat} (h : CodeAt w a n) :
 Calls Try.prog 17 #[.slice a n cap] w fun e w' => (∃ (y : HeapD) (cs : List Value) (v1 v2 : Int), e = .returned (.tuple #[.agg cs.toArray, .int .i64 v1, .int .i64 v2]) ∧ InI v1 ∧ InI v2 ∧ ∃ fs, HeapP w' cs y fs ∧ ∀ b ∈ fs, w.heap.size ≤ b) ∧ Below w.heap.size w w' := by
 have h' : Hid (CodeAt w a n) := h
 clear h
 have bR0 : Hid (Box (w.alloc (.cells #[.int .i64 0, .int .i64 0, .slice none 0 0, .slice none 0 0, .slice none 0 0] 28)) w.heap.size [.int .i64 0, .int .i64 0, .slice none 0 0, .slice none 0 0, .slice none 0 0] 28) := Box.new w _ _
 have hb0 : Hid (Below w.heap.size w (w.alloc (.cells #[.int .i64 0, .int .i64 0, .slice none 0 0, .slice none 0 0, .slice none 0 0] 28))) := (Below.refl _ _).alloc (Nat.le_refl _) _
 go_enter Try.func17, Try.ntmps17
 go_upto_region 1 with fail
 generalize (w.alloc (.cells #[.int .i64 0, .int .i64 0, .slice none 0 0, .slice none 0 0, .slice none 0 0] 28)) = w0 at bR0 hb0 ⊢
 go_wp2_with fail
 refine (open_any (h'.out.below hb0.out)).mono ?_
 rintro e w1 ⟨g, rfl, hg1, hr1, hbw1⟩
 have hr1h : Hid (RdAt w1 g a n cap) := hr1
 have hB1 : Hid (Below w.heap.size w w1) := hb0.out.trans (hbw1.mono hb0.out.size)
 have bR1 : Hid (Box w1 w.heap.size [.int .i64 0, .int .i64 0, .slice none 0 0, .slice none 0 0, .slice none 0 0] 28) := bR0.out.below hbw1 bR0.out.lt
 have hgR : Hid (w.heap.size ≤ w.heap.size ∧ w.heap.size ≤ g ∧ w.heap.size ≠ g ∧ g < w1.heap.size) := by
  have q1 := bR0.out.lt
  have q2 := hr1.lt
  exact ⟨Nat.le_refl _, by omega, by omega, q2⟩
 clear hr1 hbw1 hg1 bR0 hb0 h'
 go_wp2_with fail
 refine (heap_any hr1h.out 20 (by omega) (by omega)).mono ?_
 rintro e w2 ⟨⟨y, cs, fs, rfl, hsz, _, hp, hn⟩, hr2, hg2⟩
 obtain ⟨aN5, kN5, aO5, kO5, aG5, kG5, rfl⟩ := hp.form
 have hD1 : Hid (DH w g a n cap w.heap.size w2.heap.size y [.int .i64 y.vNext, .int .i64 y.vDoc, .slice aN5 y.vNodes.length kN5, .slice aO5 y.vObjs.length kO5, .slice aG5 y.vGlobals.length kG5] (w2.alloc (.cells #[.int .i64 y.vNext, .int .i64 y.vDoc, .slice aN5 y.vNodes.length kN5, .slice aO5 y.vObjs.length kO5, .slice aG5 y.vGlobals.length kG5] 28))) := DH.first hB1.out hgR.out bR1.out hp hn hr2 hg2
 have hSz : Hid (HSz y) := hsz
 clear hp hn hr2 hg2 hsz hr1h hB1 bR1 hgR
 go_upto_region 3 with fail
 obtain ⟨E, hE⟩ : ∃ E, w2.heap.size = E := ⟨_, rfl⟩
 rw [hE] at hD1 ⊢
 clear hE
 obtain ⟨R, hR⟩ : ∃ R, w.heap.size = R := ⟨_, rfl⟩
 have hRh : Hid (w.heap.size = R) := hR
 have hD2 : Hid (DH w g a n cap R E y [.int .i64 y.vNext, .int .i64 y.vDoc, .slice aN5 y.vNodes.length kN5, .slice aO5 y.vObjs.length kO5, .slice aG5 y.vGlobals.length kG5] (w2.alloc (.cells #[.int .i64 y.vNext, .int .i64 y.vDoc, .slice aN5 y.vNodes.length kN5, .slice aO5 y.vObjs.length kO5, .slice aG5 y.vGlobals.length kG5] 28))) := by rw [← hR]; exact hD1
 clear hD1
 rw [hR]
 clear hR
 generalize (w2.alloc (.cells #[.int .i64 y.vNext, .int .i64 y.vDoc, .slice aN5 y.vNodes.length kN5, .slice aO5 y.vObjs.length kO5, .slice aG5 y.vGlobals.length kG5] 28)) = w3 at hD2 ⊢
 have d0 := hD2.out.bE.cell 0 rfl
 have d1 := hD2.out.bE.cell 1 rfl
 have d2 := hD2.out.bE.cell 2 rfl
 have d3 := hD2.out.bE.cell 3 rfl
 have d4 := hD2.out.bE.cell 4 rfl
 go_wp2_with fail
 obtain ⟨fs, hp, hn⟩ := hD2.out.hp
 refine (some_any (by exact hD2.out.hR) hp (fun z => (hn _ z).2.2.2 rfl) hSz.out).mono ?_
 rintro e w7 ⟨v7, rfl, hv70, hr7, hg7⟩
 have hv7 : Hid (InI v7) := hv70
 have hD6 : Hid (DH w g a n cap R E y [.int .i64 y.vNext, .int .i64 y.vDoc, .slice aN5 y.vNodes.length kN5, .slice aO5 y.vObjs.length kO5, .slice aG5 y.vGlobals.length kG5] w7) := hD2.out.grow hr7 hg7
 clear hv70 hr7 hg7 hD2 d0 d1 d2 d3 d4 hp hn
 go_upto_region 4 with fail
 have hD7 : Hid (DH w g a n cap R E y [.int .i64 y.vNext, .int .i64 y.vDoc, .slice aN5 y.vNodes.length kN5, .slice aO5 y.vObjs.length kO5, .slice aG5 y.vGlobals.length kG5] w7.drew) := hD6.out.below (Below.drew (Below.refl _ _))
 clear hD6
 refine wp_region_held_drew (S := fun w' => w'.cell? ⟨E, 0, none⟩ = some (.int .i64 y.vNext) ∧ w'.cell? ⟨E, 1, none⟩ = some (.int .i64 y.vDoc) ∧ w'.cell? ⟨E, 2, none⟩ = some (.slice aN5 y.vNodes.length kN5) ∧ w'.cell? ⟨E, 3, none⟩ = some (.slice aO5 y.vObjs.length kO5) ∧ w'.cell? ⟨E, 4, none⟩ = some (.slice aG5 y.vGlobals.length kG5)) (by kernel_rfl) ⟨hD7.out.bE.cell 0 rfl, hD7.out.bE.cell 1 rfl, hD7.out.bE.cell 2 rfl, hD7.out.bE.cell 3 rfl, hD7.out.bE.cell 4 rfl⟩ (fun hHeld => ?_)
 refine tq (i := 0) (d := 15) ?_
 simp only [sz, ss]
 refine tq (i := 1) (d := 16) ?_
 simp only [sz, ss]
 refine tq (i := 2) (d := 17) ?_
 simp only [sz, ss]
 refine tq (i := 3) (d := 18) ?_
 simp only [sz, ss]
 refine wpAnyH_ready (rs := [4]) (by kernel_rfl) (by simp) ?_
 refine AllReadyH.cons rfl (fun K hK => ?_) AllReadyH.nil
 go_simp
 obtain ⟨fs, hp, hn⟩ := hD7.out.hp
 refine (some_any (by exact hD7.out.hR) hp (fun z => (hn _ z).2.2.2 rfl) hSz.out).mono ?_
 rintro e u ⟨v8, rfl, hv8, hru, hgu⟩
 have hD8 : Hid (DH w g a n cap R E y [.int .i64 y.vNext, .int .i64 y.vDoc, .slice aN5 y.vNodes.length kN5, .slice aO5 y.vObjs.length kO5, .slice aG5 y.vGlobals.length kG5] u) := hD7.out.grow hru ⟨hgu.os, hgu.tape, hgu.output, hgu.size, hgu.block⟩
 have hv8h : Hid (InI v8) := hv8
 clear hv8 hru hgu hp hn
 refine hK.out _ _ ⟨hD8.out.bE.cell 0 rfl, hD8.out.bE.cell 1 rfl, hD8.out.bE.cell 2 rfl, hD8.out.bE.cell 3 rfl, hD8.out.bE.cell 4 rfl⟩ (fun hHeld => ?_)
 clear hK K
 refine wpAnyH_ready (rs := [5]) (by kernel_rfl) (by simp) ?_
 refine AllReadyH.cons rfl (fun K hK => ?_) AllReadyH.nil
 have z0_ := hD8.out.bR.cell 0 rfl
 have z1_ := hD8.out.bR.cell 1 rfl
 have z2_ := hD8.out.bR.cell 2 rfl
 have z3_ := hD8.out.bR.cell 3 rfl
 have z4_ := hD8.out.bR.cell 4 rfl
 have uz_ := hD8.out.bR.unfrozen
 go_simp
 have bE9 : Hid (Box (putCells u R 0 [.int .i64 y.vNext, .int .i64 y.vDoc, .slice aN5 y.vNodes.length kN5, .slice aO5 y.vObjs.length kO5, .slice aG5 y.vGlobals.length kG5]) E [.int .i64 y.vNext, .int .i64 y.vDoc, .slice aN5 y.vNodes.length kN5, .slice aO5 y.vObjs.length kO5, .slice aG5 y.vGlobals.length kG5] 28) := (putCells_other _ _ _ _ _ (fun e => hD8.out.ne.1 e.symm)).trans hD8.out.bE
 refine hK.out _ _ ⟨bE9.out.cell 0 rfl, bE9.out.cell 1 rfl, bE9.out.cell 2 rfl, bE9.out.cell 3 rfl, bE9.out.cell 4 rfl⟩ (fun hHeld => ?_)
 clear hK K
 refine tq (i := 6) (d := 3) ?_
 simp only [sz, ss]
 refine tq (i := 7) (d := 4) ?_
 simp only [sz, ss]
 refine wpAnyH_done (by kernel_rfl) ?_ _
 clear hHeld bE9 z0_ z1_ z2_ z3_ z4_ uz_
 obtain ⟨hgv, hgb⟩ := hD8.out.give
 have hF : Box (putCells u R 0 [.int .i64 y.vNext, .int .i64 y.vDoc, .slice aN5 y.vNodes.length kN5, .slice aO5 y.vObjs.length kO5, .slice aG5 y.vGlobals.length kG5]) R [.int .i64 y.vNext, .int .i64 y.vDoc, .slice aN5 y.vNodes.length kN5, .slice aO5 y.vObjs.length kO5, .slice aG5 y.vGlobals.length kG5] 28 := Box.puts5 hD8.out.bR
 have g0 := hF.cell 0 rfl
 have g1 := hF.cell 1 rfl
 have g2 := hF.cell 2 rfl
 have g3 := hF.cell 3 rfl
 have g4 := hF.cell 4 rfl
 simp only [putCells] at g0 g1 g2 g3 g4
 go_wp2_with fail
 exact bodyPost_ret (v := .tuple #[.agg (List.toArray [.int .i64 y.vNext, .int .i64 y.vDoc, .slice aN5 y.vNodes.length kN5, .slice aO5 y.vObjs.length kO5, .slice aG5 y.vGlobals.length kG5]), .int .i64 v7, .int .i64 v8]) (by simp [results, Try.results17, go_sem, g0, g1, g2, g3, g4]) rfl ⟨⟨y, _, v7, v8, rfl, hv7.out, hv8h.out, hgv⟩, hgb⟩
end Go.Proofs.Ytdnembnlomnceaa
