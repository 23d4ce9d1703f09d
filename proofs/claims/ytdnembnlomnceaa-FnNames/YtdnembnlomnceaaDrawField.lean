/- DrawFieldOf: a heap and two names. -/
import Derived.Test.YtdnembnlomnceaaDrawHeap
namespace Go.Proofs.Ytdnembnlomnceaa
open Go.RowKit Go.Deep
structure DH (w : World) (g : Nat) (a : Option Addr) (n cap R E : Nat) (y : HeapD) (cs : List Value) (W : World) : Prop where
 hB : Below w.heap.size w W
 hR : RdAt W g a n cap
 bR : Box W R [.int .i64 0, .int .i64 0, .slice none 0 0, .slice none 0 0, .slice none 0 0] 28
 bE : Box W E cs 28
 ne : R ≠ E ∧ R ≠ g ∧ g < E
 lo : w.heap.size ≤ R ∧ w.heap.size ≤ g
 hp : ∃ fs, HeapP W cs y fs ∧ ∀ b ∈ fs, w.heap.size ≤ b ∧ b ≠ R ∧ b ≠ E ∧ b ≠ g
theorem DH.hx {w W : World} {g : Nat} {a : Option Addr} {n cap R E : Nat} {y : HeapD} {cs : List Value} (h : DH w g a n cap R E y cs W) : HeapAt W 0 cs y := by
 obtain ⟨fs, hp, _⟩ := h.hp; exact hp.at0
theorem DH.below {w W W' : World} {g : Nat} {a : Option Addr} {n cap R E : Nat} {y : HeapD} {cs : List Value} (h : DH w g a n cap R E y cs W) (q : Below W.heap.size W W') : DH w g a n cap R E y cs W' := by
 obtain ⟨fs, hp, hn⟩ := h.hp
 exact ⟨h.hB.trans (q.mono h.hB.size), h.hR.below q, h.bR.below q h.bR.lt, h.bE.below q h.bE.lt, h.ne, h.lo, fs, hp.below q, hn⟩
theorem DH.grow {w W W' : World} {g : Nat} {a : Option Addr} {n cap R E : Nat} {y : HeapD} {cs : List Value} (h : DH w g a n cap R E y cs W) (hr : RdAt W' g a n cap) (q : W.grownBy W' (some g)) : DH w g a n cap R E y cs W' := by
 obtain ⟨fs, hp, hn⟩ := h.hp
 have ne := h.ne
 exact ⟨below_grown h.hB h.lo.2 q, hr, box_other h.bR ne.2.1 q, box_other h.bE (by omega) q, ne, h.lo, fs, hp.stays (fun b hb => q.block b (hp.lt b hb) (fun e => by injection e with e; have := hn b hb; omega)), hn⟩
/-- another heap in the box -/
theorem DH.ran {w W W2 : World} {g : Nat} {a : Option Addr} {n cap R E : Nat} {y z : HeapD} {cs : List Value} {k0 k1 k2 k3 k4 : Value} {fs2 : List Nat} (h : DH w g a n cap R E y cs W) (q : Below W.heap.size W W2) (hp : HeapP W2 [k0, k1, k2, k3, k4] z fs2) (hn : ∀ b ∈ fs2, W.heap.size ≤ b) : DH w g a n cap R E z [k0, k1, k2, k3, k4] (putCells W2 E 0 [k0, k1, k2, k3, k4]) := by
 have h2 := h.below q
 have ne := h.ne
 have lo := h.lo
 have e1 := h.bE.lt
 have e2 := h.bR.lt
 have e3 := h.hR.lt
 obtain ⟨a0, a1, a2, a3, a4, rfl⟩ : ∃ a0 a1 a2 a3 a4, cs = [a0, a1, a2, a3, a4] := by
  obtain ⟨fs, hp0, _⟩ := h.hp
  obtain ⟨_, _, _, _, _, _, e⟩ := hp0.form
  exact ⟨_, _, _, _, _, e⟩
 have hz := h.hB.size
 exact ⟨putCells_below _ _ _ _ _ _ (by omega) h2.hB, h2.hR.keep (fun b hb => putCells_other _ _ _ _ _ (by omega)), (putCells_other _ _ _ _ _ (by omega)).trans h2.bR, ((((h2.bE.set (i := 0) _).set (i := 1) _).set (i := 2) _).set (i := 3) _).set (i := 4) _, ne, lo, fs2, hp.stays (fun b hb => putCells_other _ _ _ _ _ (by have := hn b hb; omega)), fun b hb => by have := hn b hb; omega⟩
theorem DH.form {w W : World} {g : Nat} {a : Option Addr} {n cap R E : Nat} {y : HeapD} {cs : List Value} (h : DH w g a n cap R E y cs W) : ∃ (aN5 : Option Addr) (kN5 : Nat) (aO5 : Option Addr) (kO5 : Nat) (aG5 : Option Addr) (kG5 : Nat), cs = [.int .i64 y.vNext, .int .i64 y.vDoc, .slice aN5 y.vNodes.length kN5, .slice aO5 y.vObjs.length kO5, .slice aG5 y.vGlobals.length kG5] := by
 obtain ⟨fs, hp, _⟩ := h.hp
 obtain ⟨a1, c1, a2, c2, a3, c3, e⟩ := hp.form
 exact ⟨a1, c1, a2, c2, a3, c3, e⟩
/-- the beginning: the heap that the reader gave -/
theorem DH.first {w w1 w2 : World} {g : Nat} {a : Option Addr} {n cap R : Nat} {y : HeapD} {cs : List Value} {fs : List Nat} (hB : Below w.heap.size w w1) (hR1 : w.heap.size ≤ R ∧ w.heap.size ≤ g ∧ R ≠ g ∧ g < w1.heap.size) (bR : Box w1 R [.int .i64 0, .int .i64 0, .slice none 0 0, .slice none 0 0, .slice none 0 0] 28) (hp : HeapP w2 cs y fs) (hn : ∀ b ∈ fs, w1.heap.size ≤ b) (hr : RdAt w2 g a n cap) (hg : w1.grownBy w2 (some g)) :
 DH w g a n cap R w2.heap.size y cs (w2.alloc (.cells cs.toArray 28)) := by
 have AL : Below w2.heap.size w2 (w2.alloc (.cells cs.toArray 28)) := (Below.refl _ _).alloc (Nat.le_refl _) _
 have hz := hg.size
 have e2 := bR.lt
 have b2 : Box w2 R [.int .i64 0, .int .i64 0, .slice none 0 0, .slice none 0 0, .slice none 0 0] 28 := box_other bR hR1.2.2.1 hg
 exact ⟨(below_grown hB hR1.2.1 hg).trans (AL.mono (Nat.le_trans hB.size hz)), hr.below AL, b2.below AL b2.lt, Box.new w2 _ _, ⟨by omega, hR1.2.2.1, by omega⟩, ⟨hR1.1, hR1.2.1⟩, fs, hp.below AL, fun b hb => by have h1 := hn b hb; have h2 := hp.lt b hb; have h3 := hB.size; omega⟩
/-- given back -/
theorem DH.give {w W : World} {g : Nat} {a : Option Addr} {n cap R E : Nat} {y : HeapD} {cs : List Value} (h : DH w g a n cap R E y cs W) : (∃ fs, HeapP (putCells W R 0 cs) cs y fs ∧ ∀ b ∈ fs, w.heap.size ≤ b) ∧ Below w.heap.size w (putCells W R 0 cs) := by
 obtain ⟨fs, hp, hn⟩ := h.hp
 exact ⟨⟨fs, hp.stays (fun b hb => putCells_other _ _ _ _ _ (by have := hn b hb; omega)), fun b hb => (hn b hb).1⟩, putCells_below _ _ _ _ _ _ h.lo.1 h.hB⟩
theorem FW.top {h : HeapD} (q : FW h) {o : OpD} (hw : o.vWord.size ≤ 3) : FW (topD h o).1 := by
 unfold topD
 split
 · exact q.ran hw
 · intro ob hb; cases hb
end Go.Proofs.Ytdnembnlomnceaa
namespace Go.Proofs.Ytdnembnlomnceaa
open Go.RowKit Go.Deep
set_option maxRecDepth 100000 in
set_option maxHeartbeats 8000000 in
theorem drawField_any {w : World} {a : Option Addr} {n cap : Nat} (h : CodeAt w a n) :
 Calls Try.prog 8 #[.slice a n cap] w fun e w' => (∃ (y : HeapD) (cs : List Value) (nm fd : ByteArray), e = .returned (.tuple #[.agg cs.toArray, .string nm, .string fd]) ∧ FW y ∧ ∃ fs, HeapP w' cs y fs ∧ ∀ b ∈ fs, w.heap.size ≤ b) ∧ Below w.heap.size w w' := by
 have h' : Hid (CodeAt w a n) := h
 clear h
 have bR0 : Hid (Box (w.alloc (.cells #[.int .i64 0, .int .i64 0, .slice none 0 0, .slice none 0 0, .slice none 0 0] 28)) w.heap.size [.int .i64 0, .int .i64 0, .slice none 0 0, .slice none 0 0, .slice none 0 0] 28) := Box.new w _ _
 have hb0 : Hid (Below w.heap.size w (w.alloc (.cells #[.int .i64 0, .int .i64 0, .slice none 0 0, .slice none 0 0, .slice none 0 0] 28))) := (Below.refl _ _).alloc (Nat.le_refl _) _
 go_enter Try.func8, Try.ntmps8
 go_upto_region 1 with fail
 generalize (w.alloc (.cells #[.int .i64 0, .int .i64 0, .slice none 0 0, .slice none 0 0, .slice none 0 0] 28)) = w0 at bR0 hb0 ⊢
 go_wp2_with fail
 refine (open_any (h'.out.below hb0.out)).mono ?_
 rintro e w1 ⟨g, rfl, hg1, hr1, hbw1⟩
 have hr1h : Hid (RdAt w1 g a n cap) := hr1
 have hB1 : Hid (Below w.heap.size w w1) := hb0.out.trans (hbw1.mono hb0.out.size)
 have bR1 : Hid (Box w1 w.heap.size [.int .i64 0, .int .i64 0, .slice none 0 0, .slice none 0 0, .slice none 0 0] 28) := bR0.out.below hbw1 bR0.out.lt
 have hgR : Hid (w.heap.size ≤ w.heap.size ∧ w.heap.size ≤ g ∧ w.heap.size ≠ g ∧ g < w1.heap.size) := by
  have q1 := bR0.out.lt
  have q2 := hr1.lt
  exact ⟨Nat.le_refl _, by omega, by omega, q2⟩
 clear hr1 hbw1 hg1 bR0 hb0 h'
 go_wp2_with fail
 refine (heap_any hr1h.out 12 (by omega) (by omega)).mono ?_
 rintro e w2 ⟨⟨y, cs, fs, rfl, _, hF, hp, hn⟩, hr2, hg2⟩
 obtain ⟨aN5, kN5, aO5, kO5, aG5, kG5, rfl⟩ := hp.form
 have hD1 : Hid (DH w g a n cap w.heap.size w2.heap.size y [.int .i64 y.vNext, .int .i64 y.vDoc, .slice aN5 y.vNodes.length kN5, .slice aO5 y.vObjs.length kO5, .slice aG5 y.vGlobals.length kG5] (w2.alloc (.cells #[.int .i64 y.vNext, .int .i64 y.vDoc, .slice aN5 y.vNodes.length kN5, .slice aO5 y.vObjs.length kO5, .slice aG5 y.vGlobals.length kG5] 28))) := DH.first hB1.out hgR.out bR1.out hp hn hr2 hg2
 have hF1 : Hid (FW y) := hF
 clear hp hn hr2 hg2 hF hr1h hB1 bR1 hgR
 go_upto_region 3 with fail
 obtain ⟨E, hE⟩ : ∃ E, w2.heap.size = E := ⟨_, rfl⟩
 rw [hE] at hD1 ⊢
 clear hE
 obtain ⟨R, hR⟩ : ∃ R, w.heap.size = R := ⟨_, rfl⟩
 have hRh : Hid (w.heap.size = R) := hR
 have hD2 : Hid (DH w g a n cap R E y [.int .i64 y.vNext, .int .i64 y.vDoc, .slice aN5 y.vNodes.length kN5, .slice aO5 y.vObjs.length kO5, .slice aG5 y.vGlobals.length kG5] (w2.alloc (.cells #[.int .i64 y.vNext, .int .i64 y.vDoc, .slice aN5 y.vNodes.length kN5, .slice aO5 y.vObjs.length kO5, .slice aG5 y.vGlobals.length kG5] 28))) := by rw [← hR]; exact hD1
 clear hD1
 rw [hR]
 clear hR
 generalize (w2.alloc (.cells #[.int .i64 y.vNext, .int .i64 y.vDoc, .slice aN5 y.vNodes.length kN5, .slice aO5 y.vObjs.length kO5, .slice aG5 y.vGlobals.length kG5] 28)) = w3 at hD2 ⊢
 go_wp2_with fail
 refine (name_any (by exact hD2.out.hR)).mono ?_
 rintro e w4 ⟨nm, rfl, hnm, hr4, hg4⟩
 have hD3 : Hid (DH w g a n cap R E y [.int .i64 y.vNext, .int .i64 y.vDoc, .slice aN5 y.vNodes.length kN5, .slice aO5 y.vObjs.length kO5, .slice aG5 y.vGlobals.length kG5] w4) := hD2.out.grow hr4 hg4
 clear hr4 hg4 hD2
 have hT : Hid (DH w g a n cap R E y [.int .i64 y.vNext, .int .i64 y.vDoc, .slice aN5 y.vNodes.length kN5, .slice aO5 y.vObjs.length kO5, .slice aG5 y.vGlobals.length kG5] (w4.alloc (.cells (xyT.map Value.string).toArray 9))) := hD3.out.below ((Below.refl _ _).alloc (Nat.le_refl _) _)
 have bx : Hid (Box (w4.alloc (.cells (xyT.map Value.string).toArray 9)) w4.heap.size (xyT.map Value.string) 9) := Box.new w4 _ _
 have lx : Hid (g < w4.heap.size) := hD3.out.hR.lt
 go_wp2_with fail
 refine (below_any (by exact hT.out.hR) 2 (by omega) (by omega)).mono ?_
 rintro e w5 ⟨v5, rfl, v50, v51, hr5, hg5⟩
 have hD4 : Hid (DH w g a n cap R E y [.int .i64 y.vNext, .int .i64 y.vDoc, .slice aN5 y.vNodes.length kN5, .slice aO5 y.vObjs.length kO5, .slice aG5 y.vGlobals.length kG5] w5) := hT.out.grow hr5 hg5
 have bx5 : Hid (Box w5 w4.heap.size (xyT.map Value.string) 9) := box_other bx.out (by have := lx.out; omega) hg5
 obtain ⟨k, rfl⟩ := Int.eq_ofNat_of_zero_le v50
 have hk : k < xyT.length := by show k < 2; omega
 have hc := box_str bx5.out k hk
 have hfd : xyT[k].size ≤ 3 := mem_le (by decide) k hk
 generalize xyT[k] = fd at hc hfd
 have hk2 : (k : Int) < 2 := by omega
 clear hr5 hg5 bx5 hT bx hD3
 go_upto_region 5 with fail
 clear hc
 go_wp2_with fail
 refine (once_any (by exact hD4.out.hR) 3 (by omega) (by omega)).mono ?_
 rintro e w6 ⟨b6, rfl, hr6, hg6⟩
 have hD : Hid (DH w g a n cap R E y [.int .i64 y.vNext, .int .i64 y.vDoc, .slice aN5 y.vNodes.length kN5, .slice aO5 y.vObjs.length kO5, .slice aG5 y.vGlobals.length kG5] w6) := hD4.out.grow hr6 hg6
 have hF : Hid (FW y) := hF1
 clear hr6 hg6 hD4 hF1 hk2 hk v50 v51
 go_upto_if 22 with fail
 go_cut [] from 23 (fun wx => ∃ (y : HeapD) (cs : List Value), Hid (FW y) ∧ Hid (DH w g a n cap R E y cs wx))
 case first =>
  cases b6
  · skip
    have d0 := hD.out.bE.cell 0 rfl
    have d1 := hD.out.bE.cell 1 rfl
    have d2 := hD.out.bE.cell 2 rfl
    have d3 := hD.out.bE.cell 3 rfl
    have d4 := hD.out.bE.cell 4 rfl
    go_wp2_with fail
    refine (ran_any (o := ⟨2, nm, ⟨#[]⟩, ⟨#[]⟩, ⟨#[]⟩, false, false, 0, ⟨#[]⟩⟩) hD.out.hx ⟨(show nm.size ≤ maxLen by unfold maxLen; omega), (Nat.zero_le _), (Nat.zero_le _), (Nat.zero_le _), (Nat.zero_le _)⟩ (by show InI 0; unfold InI; omega)).mono ?_
    rintro e u hr
    obtain ⟨⟨z, c2⟩, hz⟩ : ∃ z, topD y ⟨2, nm, ⟨#[]⟩, ⟨#[]⟩, ⟨#[]⟩, false, false, 0, ⟨#[]⟩⟩ = z := ⟨_, rfl⟩
    have hFz : Hid (FW z) := by
     show FW _
     have q := hF.out.top (o := ⟨2, nm, ⟨#[]⟩, ⟨#[]⟩, ⟨#[]⟩, false, false, 0, ⟨#[]⟩⟩) (by first | decide | exact Nat.zero_le _ | (show fd.size ≤ 3; omega))
     rw [hz] at q
     exact q
    rw [hz] at hr
    obtain ⟨⟨cs2, fs2, rfl, hp2, hn2⟩, hb2⟩ := hr
    obtain ⟨aN6, kN6, aO6, kO6, aG6, kG6, rfl⟩ := hp2.form
    have hD5 : Hid (DH w g a n cap R E z [.int .i64 z.vNext, .int .i64 z.vDoc, .slice aN6 z.vNodes.length kN6, .slice aO6 z.vObjs.length kO6, .slice aG6 z.vGlobals.length kG6] (putCells u E 0 [.int .i64 z.vNext, .int .i64 z.vDoc, .slice aN6 z.vNodes.length kN6, .slice aO6 z.vObjs.length kO6, .slice aG6 z.vGlobals.length kG6])) := hD.out.ran hb2 hp2 hn2
    have bE5 : Hid (Box u E [.int .i64 y.vNext, .int .i64 y.vDoc, .slice aN5 y.vNodes.length kN5, .slice aO5 y.vObjs.length kO5, .slice aG5 y.vGlobals.length kG5] 28) := hD.out.bE.below hb2 hD.out.bE.lt
    clear hz hb2 hp2 hn2 d0 d1 d2 d3 d4 hF hD
    have u0_ := bE5.out.cell 0 rfl
    have u1_ := bE5.out.cell 1 rfl
    have u2_ := bE5.out.cell 2 rfl
    have u3_ := bE5.out.cell 3 rfl
    have u4_ := bE5.out.cell 4 rfl
    have uf_ := bE5.out.unfrozen
    go_upto_region 7 with fail
    clear u0_ u1_ u2_ u3_ u4_ uf_ bE5
    simp only [putCells] at hD5
    generalize (((((World.setCell u ⟨E, 0, none⟩ (.int .i64 z.vNext)).setCell ⟨E, 1, none⟩ (.int .i64 z.vDoc)).setCell ⟨E, 2, none⟩ (.slice aN6 z.vNodes.length kN6)).setCell ⟨E, 3, none⟩ (.slice aO6 z.vObjs.length kO6)).setCell ⟨E, 4, none⟩ (.slice aG6 z.vGlobals.length kG6)) = v1 at hD5 ⊢
    have hD : Hid _ := hD5
    have hF : Hid _ := hFz
    clear hD5 hFz
    revert hD hF
    generalize z = y
    generalize aN6 = aN5
    generalize kN6 = kN5
    generalize aO6 = aO5
    generalize kO6 = kO5
    generalize aG6 = aG5
    generalize kG6 = kG5
    intro hD hF
    have d0 := hD.out.bE.cell 0 rfl
    have d1 := hD.out.bE.cell 1 rfl
    have d2 := hD.out.bE.cell 2 rfl
    have d3 := hD.out.bE.cell 3 rfl
    have d4 := hD.out.bE.cell 4 rfl
    go_wp2_with fail
    refine (ran_any (o := ⟨2, ⟨#[98]⟩, ⟨#[]⟩, ⟨#[]⟩, ⟨#[]⟩, false, false, 0, ⟨#[]⟩⟩) hD.out.hx ⟨(show (⟨#[98]⟩ : ByteArray).size ≤ maxLen by decide), (Nat.zero_le _), (Nat.zero_le _), (Nat.zero_le _), (Nat.zero_le _)⟩ (by show InI 0; unfold InI; omega)).mono ?_
    rintro e u hr
    obtain ⟨⟨z, c2⟩, hz⟩ : ∃ z, topD y ⟨2, ⟨#[98]⟩, ⟨#[]⟩, ⟨#[]⟩, ⟨#[]⟩, false, false, 0, ⟨#[]⟩⟩ = z := ⟨_, rfl⟩
    have hFz : Hid (FW z) := by
     show FW _
     have q := hF.out.top (o := ⟨2, ⟨#[98]⟩, ⟨#[]⟩, ⟨#[]⟩, ⟨#[]⟩, false, false, 0, ⟨#[]⟩⟩) (by first | decide | exact Nat.zero_le _ | (show fd.size ≤ 3; omega))
     rw [hz] at q
     exact q
    rw [hz] at hr
    obtain ⟨⟨cs2, fs2, rfl, hp2, hn2⟩, hb2⟩ := hr
    obtain ⟨aN6, kN6, aO6, kO6, aG6, kG6, rfl⟩ := hp2.form
    have hD5 : Hid (DH w g a n cap R E z [.int .i64 z.vNext, .int .i64 z.vDoc, .slice aN6 z.vNodes.length kN6, .slice aO6 z.vObjs.length kO6, .slice aG6 z.vGlobals.length kG6] (putCells u E 0 [.int .i64 z.vNext, .int .i64 z.vDoc, .slice aN6 z.vNodes.length kN6, .slice aO6 z.vObjs.length kO6, .slice aG6 z.vGlobals.length kG6])) := hD.out.ran hb2 hp2 hn2
    have bE5 : Hid (Box u E [.int .i64 y.vNext, .int .i64 y.vDoc, .slice aN5 y.vNodes.length kN5, .slice aO5 y.vObjs.length kO5, .slice aG5 y.vGlobals.length kG5] 28) := hD.out.bE.below hb2 hD.out.bE.lt
    clear hz hb2 hp2 hn2 d0 d1 d2 d3 d4 hF hD
    have u0_ := bE5.out.cell 0 rfl
    have u1_ := bE5.out.cell 1 rfl
    have u2_ := bE5.out.cell 2 rfl
    have u3_ := bE5.out.cell 3 rfl
    have u4_ := bE5.out.cell 4 rfl
    have uf_ := bE5.out.unfrozen
    go_upto_region 8 with fail
    clear u0_ u1_ u2_ u3_ u4_ uf_ bE5
    simp only [putCells] at hD5
    generalize (((((World.setCell u ⟨E, 0, none⟩ (.int .i64 z.vNext)).setCell ⟨E, 1, none⟩ (.int .i64 z.vDoc)).setCell ⟨E, 2, none⟩ (.slice aN6 z.vNodes.length kN6)).setCell ⟨E, 3, none⟩ (.slice aO6 z.vObjs.length kO6)).setCell ⟨E, 4, none⟩ (.slice aG6 z.vGlobals.length kG6)) = v2 at hD5 ⊢
    have hD : Hid _ := hD5
    have hF : Hid _ := hFz
    clear hD5 hFz
    revert hD hF
    generalize z = y
    generalize aN6 = aN5
    generalize kN6 = kN5
    generalize aO6 = aO5
    generalize kO6 = kO5
    generalize aG6 = aG5
    generalize kG6 = kG5
    intro hD hF
    have d0 := hD.out.bE.cell 0 rfl
    have d1 := hD.out.bE.cell 1 rfl
    have d2 := hD.out.bE.cell 2 rfl
    have d3 := hD.out.bE.cell 3 rfl
    have d4 := hD.out.bE.cell 4 rfl
    go_wp2_with fail
    refine (ran_any (o := ⟨3, nm, ⟨#[98]⟩, fd, ⟨#[]⟩, false, false, 0, ⟨#[]⟩⟩) hD.out.hx ⟨(show nm.size ≤ maxLen by unfold maxLen; omega), (show (⟨#[98]⟩ : ByteArray).size ≤ maxLen by decide), (show fd.size ≤ maxLen by unfold maxLen; omega), (Nat.zero_le _), (Nat.zero_le _)⟩ (by show InI 0; unfold InI; omega)).mono ?_
    rintro e u hr
    obtain ⟨⟨z, c2⟩, hz⟩ : ∃ z, topD y ⟨3, nm, ⟨#[98]⟩, fd, ⟨#[]⟩, false, false, 0, ⟨#[]⟩⟩ = z := ⟨_, rfl⟩
    have hFz : Hid (FW z) := by
     show FW _
     have q := hF.out.top (o := ⟨3, nm, ⟨#[98]⟩, fd, ⟨#[]⟩, false, false, 0, ⟨#[]⟩⟩) (by first | decide | exact Nat.zero_le _ | (show fd.size ≤ 3; omega))
     rw [hz] at q
     exact q
    rw [hz] at hr
    obtain ⟨⟨cs2, fs2, rfl, hp2, hn2⟩, hb2⟩ := hr
    obtain ⟨aN6, kN6, aO6, kO6, aG6, kG6, rfl⟩ := hp2.form
    have hD5 : Hid (DH w g a n cap R E z [.int .i64 z.vNext, .int .i64 z.vDoc, .slice aN6 z.vNodes.length kN6, .slice aO6 z.vObjs.length kO6, .slice aG6 z.vGlobals.length kG6] (putCells u E 0 [.int .i64 z.vNext, .int .i64 z.vDoc, .slice aN6 z.vNodes.length kN6, .slice aO6 z.vObjs.length kO6, .slice aG6 z.vGlobals.length kG6])) := hD.out.ran hb2 hp2 hn2
    have bE5 : Hid (Box u E [.int .i64 y.vNext, .int .i64 y.vDoc, .slice aN5 y.vNodes.length kN5, .slice aO5 y.vObjs.length kO5, .slice aG5 y.vGlobals.length kG5] 28) := hD.out.bE.below hb2 hD.out.bE.lt
    clear hz hb2 hp2 hn2 d0 d1 d2 d3 d4 hF hD
    have u0_ := bE5.out.cell 0 rfl
    have u1_ := bE5.out.cell 1 rfl
    have u2_ := bE5.out.cell 2 rfl
    have u3_ := bE5.out.cell 3 rfl
    have u4_ := bE5.out.cell 4 rfl
    have uf_ := bE5.out.unfrozen
    go_wp2_with fail
    clear u0_ u1_ u2_ u3_ u4_ uf_ bE5
    simp only [putCells] at hD5
    generalize (((((World.setCell u ⟨E, 0, none⟩ (.int .i64 z.vNext)).setCell ⟨E, 1, none⟩ (.int .i64 z.vDoc)).setCell ⟨E, 2, none⟩ (.slice aN6 z.vNodes.length kN6)).setCell ⟨E, 3, none⟩ (.slice aO6 z.vObjs.length kO6)).setCell ⟨E, 4, none⟩ (.slice aG6 z.vGlobals.length kG6)) = v3 at hD5 ⊢
    go_meet
    exact ⟨z, _, hFz, hD5⟩
  · go_wp2_with fail
    go_meet
    exact ⟨y, _, hF, hD⟩
 case rest =>
  obtain ⟨z, cs, hFz, hz0⟩ := hcut
  obtain ⟨aN6, kN6, aO6, kO6, aG6, kG6, rfl⟩ := hz0.out.form
  have hZ : Hid (DH w g a n cap R E z [.int .i64 z.vNext, .int .i64 z.vDoc, .slice aN6 z.vNodes.length kN6, .slice aO6 z.vObjs.length kO6, .slice aG6 z.vGlobals.length kG6] wc) := hz0
  clear hz0 hD hF
  have u0 := hZ.out.bE.cell 0 rfl
  have u1 := hZ.out.bE.cell 1 rfl
  have u2 := hZ.out.bE.cell 2 rfl
  have u3 := hZ.out.bE.cell 3 rfl
  have u4 := hZ.out.bE.cell 4 rfl
  have z0 := hZ.out.bR.cell 0 rfl
  have z1 := hZ.out.bR.cell 1 rfl
  have z2 := hZ.out.bR.cell 2 rfl
  have z3 := hZ.out.bR.cell 3 rfl
  have z4 := hZ.out.bR.cell 4 rfl
  have uz := hZ.out.bR.unfrozen
  go_wp2_with fail
  have bF : Box (putCells wc R 0 [.int .i64 z.vNext, .int .i64 z.vDoc, .slice aN6 z.vNodes.length kN6, .slice aO6 z.vObjs.length kO6, .slice aG6 z.vGlobals.length kG6]) R [.int .i64 z.vNext, .int .i64 z.vDoc, .slice aN6 z.vNodes.length kN6, .slice aO6 z.vObjs.length kO6, .slice aG6 z.vGlobals.length kG6] 28 := Box.puts5 hZ.out.bR
  have g0 := bF.cell 0 rfl
  have g1 := bF.cell 1 rfl
  have g2 := bF.cell 2 rfl
  have g3 := bF.cell 3 rfl
  have g4 := bF.cell 4 rfl
  obtain ⟨hgv, hgb⟩ := hZ.out.give
  exact bodyPost_ret (v := .tuple #[.agg (List.toArray [.int .i64 z.vNext, .int .i64 z.vDoc, .slice aN6 z.vNodes.length kN6, .slice aO6 z.vObjs.length kO6, .slice aG6 z.vGlobals.length kG6]), .string nm, .string fd]) (by simp only [putCells] at g0 g1 g2 g3 g4; simp [results, Try.results8, go_sem, g0, g1, g2, g3, g4]) rfl ⟨⟨z, _, nm, fd, rfl, hFz.out, hgv⟩, hgb⟩
end Go.Proofs.Ytdnembnlomnceaa
