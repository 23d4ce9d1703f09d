/- An op carried out by the specification: l4Ran and Ran walked. -/
import Derived.Test.YtdnembnlomnceaaGreatAbb
import Derived.Test.YtdnembnlomnceaaGreatTakeMore
import Derived.Test.YtdnembnlomnceaaGreatRanWords
import Derived.Test.YtdnembnlomnceaaGreatHeapSpec
import Derived.Test.YtdnembnlomnceaaGreatHCopyP
import Derived.Test.YtdnembnlomnceaaGreatActW6
import Derived.Test.YtdnembnlomnceaaGreatActU
import Derived.Test.YtdnembnlomnceaaGreatActT
namespace Go.Proofs.YtdnembnlomnceaaGreat
open Go.RowKit Go.Deep
theorem l4Act_any {w : World} {cs : List Value} {x : HeapD} {fs : List Nat} {o : OpD} (hp : HeapP w cs x fs) (hf : o.fits) (hst : InI o.vStop) (hs : specB x = true) (hk : o.vKind = 1 ∨ o.vKind = 2 ∨ o.vKind = 3 ∨ o.vKind = 4 ∨ o.vKind = 5 ∨ o.vKind = 6 ∨ o.vKind = 7 ∨ o.vKind = 8 ∨ o.vKind = 9 ∨ o.vKind = 10 ∨ o.vKind = 11 ∨ o.vKind = 12) :
 Calls Tryz.prog 106 #[.agg cs.toArray, .agg o.cells.toArray] w fun e w' => ∃ cs', e = .returned (.tuple #[.agg cs'.toArray, .int .i64 (actD x o).2]) ∧ HR w fs w' cs' (actD x o).1 := by
 rcases hk with h | h | h | h | h | h | h | h | h | h | h | h
 · exact A1.l4Act1_any hp hf hst hs (by omega)
 · exact A1.l4Act1_any hp hf hst hs (by omega)
 · exact A3.l4Act3_any hp hf hst hs h
 · exact A4.l4Act4_any hp hf hst hs h
 · exact A5.l4Act5_any hp hf hst hs h
 · exact A6.l4Act6_any hp hf hst hs h
 · exact A7.l4Act7_any hp hf hst hs (by omega)
 · exact A7.l4Act7_any hp hf hst hs (by omega)
 · exact A9.l4Act9_any hp hf hst hs (by omega)
 · exact A1.l4Act1_any hp hf hst hs (by omega)
 · exact A9.l4Act9_any hp hf hst hs (by omega)
 · exact A9.l4Act9_any hp hf hst hs (by omega)
set_option maxRecDepth 100000 in
set_option maxHeartbeats 8000000 in
theorem l4Ran_any {w : World} {cs : List Value} {x : HeapD} {o : OpD} (hx : HeapAt w 0 cs x) (hs0 : specB x = true) (hf : o.fits) (hst0 : InI o.vStop) :
 Calls Tryz.prog 81 #[.agg cs.toArray, .agg o.cells.toArray] w fun e w' => RanR w w' (ranD x o) e := by
 have hx0 := hx
 obtain ⟨k2, k3, k4, rfl, s2, s3, s4, _⟩ := hx
 obtain ⟨aN, kN, rfl⟩ := s2.form
 obtain ⟨aO, kO, rfl⟩ := s3.form
 obtain ⟨aG, kG, rfl⟩ := s4.form
 have hs : Hid (specB x = true) := hs0
 have hsm : Hid x.small := (right_of hs0).small
 have hst : Hid (InI o.vStop) := hst0
 have hfh : Hid o.fits := hf
 unfold OpD.cells
 obtain ⟨z, hz⟩ : ∃ z, ranD x o = z := ⟨_, rfl⟩
 have hzh : Hid (ranD x o = z) := hz
 obtain ⟨y, hy⟩ : ∃ y, (actD x o).1 = y := ⟨_, rfl⟩
 have hyh : Hid ((actD x o).1 = y) := hy
 obtain ⟨c, hc⟩ : ∃ c, (actD x o).2 = c := ⟨_, rfl⟩
 have hch : Hid ((actD x o).2 = c) := hc
 rw [hz]
 have hZ0 : Hid (R3 w (cHp x aN kN aO kO aG kG) (cOp o.vKind o) x (((w.alloc (.cells (cHp x aN kN aO kO aG kG).toArray 28)).alloc (.cells (cOp o.vKind o).toArray 91)).alloc (.cells cZp.toArray 28))) := R3.start hx0
 clear hz hy hc hx0 s2 s3 s4 hs0 hst0 hf
 go_enter Tryz.func81, Tryz.ntmps81
 go_upto_region 1 with fail
 generalize (((w.alloc (.cells (cHp x aN kN aO kO aG kG).toArray 28)).alloc (.cells (cOp o.vKind o).toArray 91)).alloc (.cells cZp.toArray 28)) = w0 at hZ0 ⊢
 have o0 := hZ0.out.bO.cell 0 rfl
 have o1 := hZ0.out.bO.cell 1 rfl
 have o2 := hZ0.out.bO.cell 2 rfl
 have o3 := hZ0.out.bO.cell 3 rfl
 have o4 := hZ0.out.bO.cell 4 rfl
 have o5 := hZ0.out.bO.cell 5 rfl
 have o6 := hZ0.out.bO.cell 6 rfl
 have o7 := hZ0.out.bO.cell 7 rfl
 have o8 := hZ0.out.bO.cell 8 rfl
 go_wp2_with fail
 refine (specOp_any hfh.out).mono ?_
 rintro e w1 ⟨rfl, hb1⟩
 obtain ⟨v, hv⟩ : ∃ v, opS o = v := ⟨_, rfl⟩
 rw [hv]
 have hvh : Hid (opS o = v) := hv
 have hZ1 : Hid _ := hZ0.out.below hb1
 clear hv hb1 hZ0 o0 o1 o2 o3 o4 o5 o6 o7 o8
 cases v
 · have ht : Hid (z = (x, 2)) := by show _ = _; rw [← hzh.out]; unfold ranD; rw [if_neg (by rw [hvh.out]; decide)]
   obtain ⟨d0, d1, d2, d3, d4⟩ := fv5 hZ1.out.bH
   go_wp2_with fail
   refine (l4CopyP_any hZ1.out.hx hsm.out).mono ?_
   rintro e w9 ⟨⟨cs9, rfl, fs9, hp9, hn9⟩, hb9⟩
   obtain ⟨aN9, kN9, aO9, kO9, aG9, kG9, rfl⟩ := hp9.form
   have hB9 : Hid (Below w1.heap.size w1 w9) := hb9
   have hP9 : Hid (HeapP w9 (cHp x aN9 kN9 aO9 kO9 aG9 kG9) x fs9) := hp9
   have hN9 : Hid (∀ b ∈ fs9, w1.heap.size ≤ b) := hn9
   have hR9 : Hid (Box w9 (w.heap.size + 1 + 1) cZp 28) := hZ1.out.bR.below hb9 hZ1.out.bR.lt
   clear hb9 hp9 hn9 d0 d1 d2 d3 d4
   obtain ⟨z0, z1, z2, z3, z4⟩ := fv5 hR9.out
   have uz := hR9.out.unfrozen
   go_wp2_with fail
   have bF : Box (putCells w9 (w.heap.size + 1 + 1) 0 (cHp x aN9 kN9 aO9 kO9 aG9 kG9)) (w.heap.size + 1 + 1) (cHp x aN9 kN9 aO9 kO9 aG9 kG9) 28 := Box.puts5 hR9.out
   obtain ⟨g0, g1, g2, g3, g4⟩ := fv5 bF
   exact bodyPost_ret (v := .tuple #[.agg (List.toArray (cHp x aN9 kN9 aO9 kO9 aG9 kG9)), .int .i64 2]) (by simp only [putCells] at g0 g1 g2 g3 g4; simp [results, Tryz.results81, go_sem, g0, g1, g2, g3, g4]) rfl (by rw [ht.out]; exact R3.give hZ1.out hB9.out hP9.out (fun b hb => by have h1 := hN9.out b hb; have h2 := hZ1.out.bR.lt; omega) 2)
 go_upto_region 3 with fail
 go_cut [6, 7] from 8 (fun s6 s7 wx => ∃ (EE : Nat) (aN2 : Option Addr) (kN2 : Nat) (aO2 : Option Addr) (kO2 : Nat) (aG2 : Option Addr) (kG2 : Nat) (fs2 : List Nat), s6 = .pointer (some ⟨EE, 0, none⟩) ∧ s7 = .int .i64 c ∧ Hid (R3 w (cHp x aN kN aO kO aG kG) (cOp o.vKind o) x wx) ∧ Hid (HeapP wx (cHp y aN2 kN2 aO2 kO2 aG2 kG2) y fs2) ∧ Hid (Box wx EE (cHp y aN2 kN2 aO2 kO2 aG2 kG2) 28) ∧ Hid (∀ b ∈ fs2, w.heap.size ≤ b ∧ b ≠ w.heap.size + 1 + 1))
 case first =>
  have hZ2 : Hid (R3 w (cHp x aN kN aO kO aG kG) (cOp o.vKind o) x w1.drew) := hZ1.out.below (Below.drew (Below.refl _ _))
  clear hZ1
  refine wp_region_held_drew (S := fun w' => w'.cell? ⟨w.heap.size, 0, none⟩ = some (.int .i64 x.vNext) ∧ w'.cell? ⟨w.heap.size, 1, none⟩ = some (.int .i64 x.vDoc) ∧ w'.cell? ⟨w.heap.size, 2, none⟩ = some (.slice aN x.vNodes.length kN) ∧ w'.cell? ⟨w.heap.size, 3, none⟩ = some (.slice aO x.vObjs.length kO) ∧ w'.cell? ⟨w.heap.size, 4, none⟩ = some (.slice aG x.vGlobals.length kG) ∧ w'.cell? ⟨w.heap.size + 1, 0, none⟩ = some (.int .i64 o.vKind) ∧ w'.cell? ⟨w.heap.size + 1, 1, none⟩ = some (.string o.vName) ∧ w'.cell? ⟨w.heap.size + 1, 2, none⟩ = some (.string o.vOther) ∧ w'.cell? ⟨w.heap.size + 1, 3, none⟩ = some (.string o.vWord) ∧ w'.cell? ⟨w.heap.size + 1, 4, none⟩ = some (.string o.vType) ∧ w'.cell? ⟨w.heap.size + 1, 5, none⟩ = some (.bool o.vCapture) ∧ w'.cell? ⟨w.heap.size + 1, 6, none⟩ = some (.bool o.vOnce) ∧ w'.cell? ⟨w.heap.size + 1, 7, none⟩ = some (.int .i64 o.vStop) ∧ w'.cell? ⟨w.heap.size + 1, 8, none⟩ = some (.string o.vLname)) (by kernel_rfl) ⟨hZ2.out.bH.cell 0 rfl, hZ2.out.bH.cell 1 rfl, hZ2.out.bH.cell 2 rfl, hZ2.out.bH.cell 3 rfl, hZ2.out.bH.cell 4 rfl, hZ2.out.bO.cell 0 rfl, hZ2.out.bO.cell 1 rfl, hZ2.out.bO.cell 2 rfl, hZ2.out.bO.cell 3 rfl, hZ2.out.bO.cell 4 rfl, hZ2.out.bO.cell 5 rfl, hZ2.out.bO.cell 6 rfl, hZ2.out.bO.cell 7 rfl, hZ2.out.bO.cell 8 rfl⟩ (fun hHeld => ?_)
  refine tk 0 ?_
  refine tk 2 ?_
  refine rd2 1 7 (fun K hK => ?_) (fun K hK => ?_)
  · go_simp
    refine (l4CopyP_any hZ2.out.hx hsm.out).mono ?_
    rintro e u1 ⟨⟨cs1, rfl, fs1, hp1, hn1⟩, hb1⟩
    obtain ⟨aN1, kN1, aO1, kO1, aG1, kG1, rfl⟩ := hp1.form
    have hZ3 : Hid _ := hZ2.out.below hb1
    have hP1 : Hid (HeapP u1 (cHp x aN1 kN1 aO1 kO1 aG1 kG1) x fs1) := hp1
    have hN1 : Hid (∀ b ∈ fs1, (World.heap w1.drew).size ≤ b) := hn1
    have hB1 : Hid (Below (World.heap w1.drew).size w1.drew u1) := hb1
    clear hb1 hp1 hn1
    refine hK.out _ _ ⟨hZ3.out.bH.cell 0 rfl, hZ3.out.bH.cell 1 rfl, hZ3.out.bH.cell 2 rfl, hZ3.out.bH.cell 3 rfl, hZ3.out.bH.cell 4 rfl, hZ3.out.bO.cell 0 rfl, hZ3.out.bO.cell 1 rfl, hZ3.out.bO.cell 2 rfl, hZ3.out.bO.cell 3 rfl, hZ3.out.bO.cell 4 rfl, hZ3.out.bO.cell 5 rfl, hZ3.out.bO.cell 6 rfl, hZ3.out.bO.cell 7 rfl, hZ3.out.bO.cell 8 rfl⟩ (fun hHeld => ?_)
    clear hK K
    refine rd2 3 7 (fun K hK => ?_) (fun K hK => ?_)
    · go_simp
      have hact : Calls Tryz.prog 106 #[.agg (List.toArray (cHp x aN1 kN1 aO1 kO1 aG1 kG1)), .agg (List.toArray (cOp o.vKind o))] u1 fun e w' => ∃ cs', e = .returned (.tuple #[.agg cs'.toArray, .int .i64 (actD x o).2]) ∧ HR u1 fs1 w' cs' (actD x o).1 := by
       have q := l4Act_any hP1.out hfh.out hst.out hs.out (opS_kind hvh.out)
       unfold OpD.cells at q
       exact q
      refine hact.mono ?_
      rintro e u2 ⟨cs2, rfl, hr2⟩
      rw [hyh.out] at hr2
      rw [hch.out]
      obtain ⟨aN2, kN2, aO2, kO2, aG2, kG2, rfl⟩ := hr2.form
      obtain ⟨hb2, fs2, hp2, hn2, hs2⟩ := HR.newer hB1.out hN1.out hr2
      have hZ4 : Hid _ := hZ2.out.below hb2
      have lw : w.heap.size + 1 + 1 < (World.heap w1.drew).size := hZ2.out.bR.lt
      have hP3 : Hid (HeapP u2 (cHp y aN2 kN2 aO2 kO2 aG2 kG2) y fs2) := hp2
      have hN3 : Hid (∀ b ∈ fs2, w.heap.size ≤ b ∧ b ≠ w.heap.size + 1 + 1) := fun b hb => by have := hn2 b hb; omega
      clear hact hr2 hb2 hp2 hn2 hs2
      refine hK.out _ _ ⟨hZ4.out.bH.cell 0 rfl, hZ4.out.bH.cell 1 rfl, hZ4.out.bH.cell 2 rfl, hZ4.out.bH.cell 3 rfl, hZ4.out.bH.cell 4 rfl, hZ4.out.bO.cell 0 rfl, hZ4.out.bO.cell 1 rfl, hZ4.out.bO.cell 2 rfl, hZ4.out.bO.cell 3 rfl, hZ4.out.bO.cell 4 rfl, hZ4.out.bO.cell 5 rfl, hZ4.out.bO.cell 6 rfl, hZ4.out.bO.cell 7 rfl, hZ4.out.bO.cell 8 rfl⟩ (fun hHeld => ?_)
      clear hK K
      refine tk 4 ?_
      refine tk 5 ?_
      refine tk 6 ?_
      refine rd1 7 (fun K hK => ?_)
      go_simp
      have hZ5 : Hid (R3 w (cHp x aN kN aO kO aG kG) (cOp o.vKind o) x (World.alloc u2 (.cells cZp.toArray 28))) := hZ4.out.below ((Below.refl _ u2).alloc (Nat.le_refl _) _)
      obtain ⟨EE, hEE⟩ : ∃ EE, u2.heap.size = EE := ⟨_, rfl⟩
      have bX5 : Hid (Box (World.alloc u2 (.cells cZp.toArray 28)) EE cZp 28) := by rw [← hEE]; exact Box.new u2 _ _
      have lE : w.heap.size + 1 + 1 < EE := by rw [← hEE]; exact hZ4.out.bR.lt
      have hEEh : Hid (u2.heap.size = EE) := hEE
      clear hEE
      refine hK.out _ _ ⟨hZ5.out.bH.cell 0 rfl, hZ5.out.bH.cell 1 rfl, hZ5.out.bH.cell 2 rfl, hZ5.out.bH.cell 3 rfl, hZ5.out.bH.cell 4 rfl, hZ5.out.bO.cell 0 rfl, hZ5.out.bO.cell 1 rfl, hZ5.out.bO.cell 2 rfl, hZ5.out.bO.cell 3 rfl, hZ5.out.bO.cell 4 rfl, hZ5.out.bO.cell 5 rfl, hZ5.out.bO.cell 6 rfl, hZ5.out.bO.cell 7 rfl, hZ5.out.bO.cell 8 rfl⟩ (fun hHeld => ?_)
      clear hK K
      refine rd1 8 (fun K hK => ?_)
      go_simp
      have hZ9 : Hid (R3 w (cHp x aN kN aO kO aG kG) (cOp o.vKind o) x (World.alloc u2 (.cells (cHp y aN2 kN2 aO2 kO2 aG2 kG2).toArray 28))) := hZ4.out.below ((Below.refl _ u2).alloc (Nat.le_refl _) _)
      have hP9 : Hid (HeapP (World.alloc u2 (.cells (cHp y aN2 kN2 aO2 kO2 aG2 kG2).toArray 28)) (cHp y aN2 kN2 aO2 kO2 aG2 kG2) y fs2) := hP3.out.below ((Below.refl _ u2).alloc (Nat.le_refl _) _)
      refine hK.out _ _ ⟨hZ9.out.bH.cell 0 rfl, hZ9.out.bH.cell 1 rfl, hZ9.out.bH.cell 2 rfl, hZ9.out.bH.cell 3 rfl, hZ9.out.bH.cell 4 rfl, hZ9.out.bO.cell 0 rfl, hZ9.out.bO.cell 1 rfl, hZ9.out.bO.cell 2 rfl, hZ9.out.bO.cell 3 rfl, hZ9.out.bO.cell 4 rfl, hZ9.out.bO.cell 5 rfl, hZ9.out.bO.cell 6 rfl, hZ9.out.bO.cell 7 rfl, hZ9.out.bO.cell 8 rfl⟩ (fun hHeld => ?_)
      clear hK K
      refine tk 9 ?_
      refine wpAnyH_done (by kernel_rfl) ?_ _
      have eEE := hEEh.out
      have bE5 : Hid (Box (World.alloc u2 (.cells (cHp y aN2 kN2 aO2 kO2 aG2 kG2).toArray 28)) EE (cHp y aN2 kN2 aO2 kO2 aG2 kG2) 28) := by rw [← eEE]; exact Box.new u2 _ _
      clear hHeld
      have hZ5 : Hid _ := hZ9
      have hP5 : Hid _ := hP9
      have hN5 : Hid _ := hN3
      clear hZ9 hP9 hN3
      rw [eEE]
      generalize (World.alloc u2 (.cells (cHp y aN2 kN2 aO2 kO2 aG2 kG2).toArray 28)) = w5 at hZ5 hP5 bE5 ⊢
      clear eEE
      go_wp2_with fail
      go_meet
      exact ⟨EE, aN2, kN2, aO2, kO2, aG2, kG2, fs2, rfl, rfl, hZ5, hP5, bE5, hN5⟩
    · go_simp
      have hZ4 : Hid (R3 w (cHp x aN kN aO kO aG kG) (cOp o.vKind o) x (World.alloc u1 (.cells cZp.toArray 28))) := hZ3.out.below ((Below.refl _ u1).alloc (Nat.le_refl _) _)
      obtain ⟨EE, hEE⟩ : ∃ EE, u1.heap.size = EE := ⟨_, rfl⟩
      have bX4 : Hid (Box (World.alloc u1 (.cells cZp.toArray 28)) EE cZp 28) := by rw [← hEE]; exact Box.new u1 _ _
      have lE : w.heap.size + 1 + 1 < EE := by rw [← hEE]; exact hZ3.out.bR.lt
      have hEEh : Hid (u1.heap.size = EE) := hEE
      have hP2 : Hid (HeapP (World.alloc u1 (.cells cZp.toArray 28)) (cHp x aN1 kN1 aO1 kO1 aG1 kG1) x fs1) := hP1.out.below ((Below.refl _ u1).alloc (Nat.le_refl _) _)
      have hB2 : Hid (Below (World.heap w1.drew).size w1.drew (World.alloc u1 (.cells cZp.toArray 28))) := hB1.out.trans (((Below.refl _ u1).alloc (Nat.le_refl _) _).mono hB1.out.size)
      have hE1 : Hid (∀ b ∈ fs1, b < EE) := fun b hb => by have := hP1.out.lt b hb; have := hEEh.out; omega
      have hEz : Hid _ := bX4.out.lt
      clear hEE
      refine hK.out _ _ ⟨hZ4.out.bH.cell 0 rfl, hZ4.out.bH.cell 1 rfl, hZ4.out.bH.cell 2 rfl, hZ4.out.bH.cell 3 rfl, hZ4.out.bH.cell 4 rfl, hZ4.out.bO.cell 0 rfl, hZ4.out.bO.cell 1 rfl, hZ4.out.bO.cell 2 rfl, hZ4.out.bO.cell 3 rfl, hZ4.out.bO.cell 4 rfl, hZ4.out.bO.cell 5 rfl, hZ4.out.bO.cell 6 rfl, hZ4.out.bO.cell 7 rfl, hZ4.out.bO.cell 8 rfl⟩ (fun hHeld => ?_)
      clear hK K
      refine rd1 3 (fun K hK => ?_)
      go_simp
      have hact : Calls Tryz.prog 106 #[.agg (List.toArray (cHp x aN1 kN1 aO1 kO1 aG1 kG1)), .agg (List.toArray (cOp o.vKind o))] (World.alloc u1 (.cells cZp.toArray 28)) fun e w' => ∃ cs', e = .returned (.tuple #[.agg cs'.toArray, .int .i64 (actD x o).2]) ∧ HR (World.alloc u1 (.cells cZp.toArray 28)) fs1 w' cs' (actD x o).1 := by
       have q := l4Act_any hP2.out hfh.out hst.out hs.out (opS_kind hvh.out)
       unfold OpD.cells at q
       exact q
      refine hact.mono ?_
      rintro e u2 ⟨cs2, rfl, hr2⟩
      rw [hyh.out] at hr2
      rw [hch.out]
      obtain ⟨aN2, kN2, aO2, kO2, aG2, kG2, rfl⟩ := hr2.form
      obtain ⟨hb2, fs2, hp2, hn2, hs2⟩ := HR.newer hB2.out hN1.out hr2
      have hZ5 : Hid _ := hZ2.out.below hb2
      have lw : w.heap.size + 1 + 1 < (World.heap w1.drew).size := hZ2.out.bR.lt
      have ho2 : Out fs1 (World.alloc u1 (.cells cZp.toArray 28)) u2 := by obtain ⟨_, _, _, h⟩ := hr2; exact h
      have bX5 : Hid (Box u2 EE cZp 28) := (ho2.keep hEz.out (fun z => by have := hE1.out EE z; omega)).trans bX4.out
      have hE2 : Hid (∀ b ∈ fs2, b ≠ EE) := fun b hb => by
       have h1 := hEz.out
       rcases hs2 b hb with z | z
       · have := hE1.out b z; omega
       · intro e; rw [e] at z; omega
      have hP3 : Hid (HeapP u2 (cHp y aN2 kN2 aO2 kO2 aG2 kG2) y fs2) := hp2
      have hN3 : Hid (∀ b ∈ fs2, w.heap.size ≤ b ∧ b ≠ w.heap.size + 1 + 1) := fun b hb => by have := hn2 b hb; omega
      clear hact hr2 hb2 hp2 hn2 hs2
      refine hK.out _ _ ⟨hZ5.out.bH.cell 0 rfl, hZ5.out.bH.cell 1 rfl, hZ5.out.bH.cell 2 rfl, hZ5.out.bH.cell 3 rfl, hZ5.out.bH.cell 4 rfl, hZ5.out.bO.cell 0 rfl, hZ5.out.bO.cell 1 rfl, hZ5.out.bO.cell 2 rfl, hZ5.out.bO.cell 3 rfl, hZ5.out.bO.cell 4 rfl, hZ5.out.bO.cell 5 rfl, hZ5.out.bO.cell 6 rfl, hZ5.out.bO.cell 7 rfl, hZ5.out.bO.cell 8 rfl⟩ (fun hHeld => ?_)
      clear hK K
      refine tk 4 ?_
      refine tk 5 ?_
      refine tk 6 ?_
      refine rd1 8 (fun K hK => ?_)
      have bE9 := bX5.out
      rw [← hEEh.out] at bE9
      have u0_ := bE9.cell 0 rfl
      have u1_ := bE9.cell 1 rfl
      have u2_ := bE9.cell 2 rfl
      have u3_ := bE9.cell 3 rfl
      have u4_ := bE9.cell 4 rfl
      have uf_ := bE9.unfrozen
      go_simp
      have hZ9 : Hid (R3 w (cHp x aN kN aO kO aG kG) (cOp o.vKind o) x (putCells u2 u1.heap.size 0 (cHp y aN2 kN2 aO2 kO2 aG2 kG2))) := hZ5.out.put _ (by have h_ := hEEh.out; omega)
      have hP9 : Hid (HeapP (putCells u2 u1.heap.size 0 (cHp y aN2 kN2 aO2 kO2 aG2 kG2)) (cHp y aN2 kN2 aO2 kO2 aG2 kG2) y fs2) := hP3.out.stays fun b hb => putCells_other _ _ _ _ _ (by rw [hEEh.out]; exact hE2.out b hb)
      refine hK.out _ _ ⟨hZ9.out.bH.cell 0 rfl, hZ9.out.bH.cell 1 rfl, hZ9.out.bH.cell 2 rfl, hZ9.out.bH.cell 3 rfl, hZ9.out.bH.cell 4 rfl, hZ9.out.bO.cell 0 rfl, hZ9.out.bO.cell 1 rfl, hZ9.out.bO.cell 2 rfl, hZ9.out.bO.cell 3 rfl, hZ9.out.bO.cell 4 rfl, hZ9.out.bO.cell 5 rfl, hZ9.out.bO.cell 6 rfl, hZ9.out.bO.cell 7 rfl, hZ9.out.bO.cell 8 rfl⟩ (fun hHeld => ?_)
      clear hK K
      refine tk 9 ?_
      refine wpAnyH_done (by kernel_rfl) ?_ _
      have eEE := hEEh.out
      have bE5 : Hid (Box (putCells u2 u1.heap.size 0 (cHp y aN2 kN2 aO2 kO2 aG2 kG2)) EE (cHp y aN2 kN2 aO2 kO2 aG2 kG2) 28) := by rw [eEE]; exact (((((bX5.out.set (i := 0) _).set (i := 1) _).set (i := 2) _).set (i := 3) _).set (i := 4) _)
      clear hHeld
      have hZ5 : Hid _ := hZ9
      have hP5 : Hid _ := hP9
      have hN5 : Hid _ := hN3
      clear hZ9 hP9 hN3
      rw [eEE] at hZ5 hP5 bE5
      rw [eEE]
      simp only [putCells] at hZ5 hP5 bE5
      generalize (((((World.setCell u2 ⟨EE, 0, none⟩ (.int .i64 y.vNext)).setCell ⟨EE, 1, none⟩ (.int .i64 y.vDoc)).setCell ⟨EE, 2, none⟩ (.slice aN2 y.vNodes.length kN2)).setCell ⟨EE, 3, none⟩ (.slice aO2 y.vObjs.length kO2)).setCell ⟨EE, 4, none⟩ (.slice aG2 y.vGlobals.length kG2)) = w5 at hZ5 hP5 bE5 ⊢
      clear eEE
      go_wp2_with fail
      go_meet
      exact ⟨EE, aN2, kN2, aO2, kO2, aG2, kG2, fs2, rfl, rfl, hZ5, hP5, bE5, hN5⟩
  · go_simp
    have hZ3 : Hid (R3 w (cHp x aN kN aO kO aG kG) (cOp o.vKind o) x (World.alloc w1.drew (.cells cZp.toArray 28))) := hZ2.out.below ((Below.refl _ w1.drew).alloc (Nat.le_refl _) _)
    obtain ⟨EE, hEE⟩ : ∃ EE, w1.heap.size = EE := ⟨_, rfl⟩
    have bX3 : Hid (Box (World.alloc w1.drew (.cells cZp.toArray 28)) EE cZp 28) := by rw [← hEE]; exact Box.new w1.drew _ _
    have lE : w.heap.size + 1 + 1 < EE := by rw [← hEE]; exact hZ2.out.bR.lt
    have hEEh : Hid (w1.heap.size = EE) := hEE
    clear hEE
    refine hK.out _ _ ⟨hZ3.out.bH.cell 0 rfl, hZ3.out.bH.cell 1 rfl, hZ3.out.bH.cell 2 rfl, hZ3.out.bH.cell 3 rfl, hZ3.out.bH.cell 4 rfl, hZ3.out.bO.cell 0 rfl, hZ3.out.bO.cell 1 rfl, hZ3.out.bO.cell 2 rfl, hZ3.out.bO.cell 3 rfl, hZ3.out.bO.cell 4 rfl, hZ3.out.bO.cell 5 rfl, hZ3.out.bO.cell 6 rfl, hZ3.out.bO.cell 7 rfl, hZ3.out.bO.cell 8 rfl⟩ (fun hHeld => ?_)
    clear hK K
    refine rd1 1 (fun K hK => ?_)
    go_simp
    refine (l4CopyP_any hZ3.out.hx hsm.out).mono ?_
    rintro e u1 ⟨⟨cs1, rfl, fs1, hp1, hn1⟩, hb1⟩
    obtain ⟨aN1, kN1, aO1, kO1, aG1, kG1, rfl⟩ := hp1.form
    have hZ4 : Hid _ := hZ3.out.below hb1
    have hP1 : Hid (HeapP u1 (cHp x aN1 kN1 aO1 kO1 aG1 kG1) x fs1) := hp1
    have hN1 : Hid (∀ b ∈ fs1, (World.heap (World.alloc w1.drew (.cells cZp.toArray 28))).size ≤ b) := hn1
    have hB1 : Hid (Below (World.heap (World.alloc w1.drew (.cells cZp.toArray 28))).size (World.alloc w1.drew (.cells cZp.toArray 28)) u1) := hb1
    have bX4 : Hid (Box u1 EE cZp 28) := Box.below bX3.out hb1 (Box.lt bX3.out)
    have lX : EE < (World.heap (World.alloc w1.drew (.cells cZp.toArray 28))).size := Box.lt bX3.out
    clear hb1 hp1 hn1
    refine hK.out _ _ ⟨hZ4.out.bH.cell 0 rfl, hZ4.out.bH.cell 1 rfl, hZ4.out.bH.cell 2 rfl, hZ4.out.bH.cell 3 rfl, hZ4.out.bH.cell 4 rfl, hZ4.out.bO.cell 0 rfl, hZ4.out.bO.cell 1 rfl, hZ4.out.bO.cell 2 rfl, hZ4.out.bO.cell 3 rfl, hZ4.out.bO.cell 4 rfl, hZ4.out.bO.cell 5 rfl, hZ4.out.bO.cell 6 rfl, hZ4.out.bO.cell 7 rfl, hZ4.out.bO.cell 8 rfl⟩ (fun hHeld => ?_)
    clear hK K
    refine rd1 3 (fun K hK => ?_)
    go_simp
    have hact : Calls Tryz.prog 106 #[.agg (List.toArray (cHp x aN1 kN1 aO1 kO1 aG1 kG1)), .agg (List.toArray (cOp o.vKind o))] u1 fun e w' => ∃ cs', e = .returned (.tuple #[.agg cs'.toArray, .int .i64 (actD x o).2]) ∧ HR u1 fs1 w' cs' (actD x o).1 := by
     have q := l4Act_any hP1.out hfh.out hst.out hs.out (opS_kind hvh.out)
     unfold OpD.cells at q
     exact q
    refine hact.mono ?_
    rintro e u2 ⟨cs2, rfl, hr2⟩
    rw [hyh.out] at hr2
    rw [hch.out]
    obtain ⟨aN2, kN2, aO2, kO2, aG2, kG2, rfl⟩ := hr2.form
    obtain ⟨hb2, fs2, hp2, hn2, hs2⟩ := HR.newer hB1.out hN1.out hr2
    have hZ5 : Hid _ := hZ3.out.below hb2
    have lw : w.heap.size + 1 + 1 < (World.heap (World.alloc w1.drew (.cells cZp.toArray 28))).size := hZ3.out.bR.lt
    have bX5 : Hid (Box u2 EE cZp 28) := Box.below bX3.out hb2 lX
    have hE2 : Hid (∀ b ∈ fs2, b ≠ EE) := fun b hb => by have := hn2 b hb; omega
    have hP3 : Hid (HeapP u2 (cHp y aN2 kN2 aO2 kO2 aG2 kG2) y fs2) := hp2
    have hN3 : Hid (∀ b ∈ fs2, w.heap.size ≤ b ∧ b ≠ w.heap.size + 1 + 1) := fun b hb => by have := hn2 b hb; omega
    clear hact hr2 hb2 hp2 hn2 hs2
    refine hK.out _ _ ⟨hZ5.out.bH.cell 0 rfl, hZ5.out.bH.cell 1 rfl, hZ5.out.bH.cell 2 rfl, hZ5.out.bH.cell 3 rfl, hZ5.out.bH.cell 4 rfl, hZ5.out.bO.cell 0 rfl, hZ5.out.bO.cell 1 rfl, hZ5.out.bO.cell 2 rfl, hZ5.out.bO.cell 3 rfl, hZ5.out.bO.cell 4 rfl, hZ5.out.bO.cell 5 rfl, hZ5.out.bO.cell 6 rfl, hZ5.out.bO.cell 7 rfl, hZ5.out.bO.cell 8 rfl⟩ (fun hHeld => ?_)
    clear hK K
    refine tk 4 ?_
    refine tk 5 ?_
    refine tk 6 ?_
    refine rd1 8 (fun K hK => ?_)
    have bE9 := bX5.out
    rw [← hEEh.out] at bE9
    have u0_ := bE9.cell 0 rfl
    have u1_ := bE9.cell 1 rfl
    have u2_ := bE9.cell 2 rfl
    have u3_ := bE9.cell 3 rfl
    have u4_ := bE9.cell 4 rfl
    have uf_ := bE9.unfrozen
    go_simp
    have hZ9 : Hid (R3 w (cHp x aN kN aO kO aG kG) (cOp o.vKind o) x (putCells u2 w1.heap.size 0 (cHp y aN2 kN2 aO2 kO2 aG2 kG2))) := hZ5.out.put _ (by have h_ := hEEh.out; omega)
    have hP9 : Hid (HeapP (putCells u2 w1.heap.size 0 (cHp y aN2 kN2 aO2 kO2 aG2 kG2)) (cHp y aN2 kN2 aO2 kO2 aG2 kG2) y fs2) := hP3.out.stays fun b hb => putCells_other _ _ _ _ _ (by rw [hEEh.out]; exact hE2.out b hb)
    refine hK.out _ _ ⟨hZ9.out.bH.cell 0 rfl, hZ9.out.bH.cell 1 rfl, hZ9.out.bH.cell 2 rfl, hZ9.out.bH.cell 3 rfl, hZ9.out.bH.cell 4 rfl, hZ9.out.bO.cell 0 rfl, hZ9.out.bO.cell 1 rfl, hZ9.out.bO.cell 2 rfl, hZ9.out.bO.cell 3 rfl, hZ9.out.bO.cell 4 rfl, hZ9.out.bO.cell 5 rfl, hZ9.out.bO.cell 6 rfl, hZ9.out.bO.cell 7 rfl, hZ9.out.bO.cell 8 rfl⟩ (fun hHeld => ?_)
    clear hK K
    refine tk 9 ?_
    refine wpAnyH_done (by kernel_rfl) ?_ _
    have eEE := hEEh.out
    have bE5 : Hid (Box (putCells u2 w1.heap.size 0 (cHp y aN2 kN2 aO2 kO2 aG2 kG2)) EE (cHp y aN2 kN2 aO2 kO2 aG2 kG2) 28) := by rw [eEE]; exact (((((bX5.out.set (i := 0) _).set (i := 1) _).set (i := 2) _).set (i := 3) _).set (i := 4) _)
    clear hHeld
    have hZ5 : Hid _ := hZ9
    have hP5 : Hid _ := hP9
    have hN5 : Hid _ := hN3
    clear hZ9 hP9 hN3
    rw [eEE] at hZ5 hP5 bE5
    rw [eEE]
    simp only [putCells] at hZ5 hP5 bE5
    generalize (((((World.setCell u2 ⟨EE, 0, none⟩ (.int .i64 y.vNext)).setCell ⟨EE, 1, none⟩ (.int .i64 y.vDoc)).setCell ⟨EE, 2, none⟩ (.slice aN2 y.vNodes.length kN2)).setCell ⟨EE, 3, none⟩ (.slice aO2 y.vObjs.length kO2)).setCell ⟨EE, 4, none⟩ (.slice aG2 y.vGlobals.length kG2)) = w5 at hZ5 hP5 bE5 ⊢
    clear eEE
    go_wp2_with fail
    go_meet
    exact ⟨EE, aN2, kN2, aO2, kO2, aG2, kG2, fs2, rfl, rfl, hZ5, hP5, bE5, hN5⟩
 case rest =>
  obtain ⟨EE, aN2, kN2, aO2, kO2, aG2, kG2, fs2, rfl, rfl, hZ5, hP5, bE5, hN5⟩ := hcut
  clear hZ1
  generalize wc = w5 at hZ5 hP5 bE5 ⊢
  rcases Classical.em (c = 0) with hc0 | hc0
  · subst hc0
    obtain ⟨e0, e1, e2, e3, e4⟩ := fv5 bE5.out
    go_wp2_with fail
    refine (specHeapOk_any hP5.out.at0).mono ?_
    rintro e w6 ⟨rfl, hb6⟩
    obtain ⟨v, hv⟩ : ∃ v, specB y = v := ⟨_, rfl⟩
    rw [hv]
    have hvy : Hid (specB y = v) := hv
    have hZ6 : Hid _ := hZ5.out.below hb6
    have bE6 : Hid (Box w6 EE (cHp y aN2 kN2 aO2 kO2 aG2 kG2) 28) := bE5.out.below hb6 bE5.out.lt
    have hP6 : Hid _ := hP5.out.below hb6
    clear hv e0 e1 e2 e3 e4 hb6
    cases v
    · have ht : Hid (z = (x, 4)) := by show _ = _; rw [← hzh.out]; unfold ranD; rw [if_pos hvh.out]; unfold doneD; rw [hch.out, if_pos rfl, hyh.out, if_neg (by rw [hvy.out]; decide)]
      obtain ⟨d0, d1, d2, d3, d4⟩ := fv5 hZ6.out.bH
      go_wp2_with fail
      refine (l4CopyP_any hZ6.out.hx hsm.out).mono ?_
      rintro e w9 ⟨⟨cs9, rfl, fs9, hp9, hn9⟩, hb9⟩
      obtain ⟨aN9, kN9, aO9, kO9, aG9, kG9, rfl⟩ := hp9.form
      have hB9 : Hid (Below w6.heap.size w6 w9) := hb9
      have hP9 : Hid (HeapP w9 (cHp x aN9 kN9 aO9 kO9 aG9 kG9) x fs9) := hp9
      have hN9 : Hid (∀ b ∈ fs9, w6.heap.size ≤ b) := hn9
      have hR9 : Hid (Box w9 (w.heap.size + 1 + 1) cZp 28) := hZ6.out.bR.below hb9 hZ6.out.bR.lt
      clear hb9 hp9 hn9 d0 d1 d2 d3 d4
      obtain ⟨z0, z1, z2, z3, z4⟩ := fv5 hR9.out
      have uz := hR9.out.unfrozen
      go_wp2_with fail
      have bF : Box (putCells w9 (w.heap.size + 1 + 1) 0 (cHp x aN9 kN9 aO9 kO9 aG9 kG9)) (w.heap.size + 1 + 1) (cHp x aN9 kN9 aO9 kO9 aG9 kG9) 28 := Box.puts5 hR9.out
      obtain ⟨g0, g1, g2, g3, g4⟩ := fv5 bF
      exact bodyPost_ret (v := .tuple #[.agg (List.toArray (cHp x aN9 kN9 aO9 kO9 aG9 kG9)), .int .i64 4]) (by simp only [putCells] at g0 g1 g2 g3 g4; simp [results, Tryz.results81, go_sem, g0, g1, g2, g3, g4]) rfl (by rw [ht.out]; exact R3.give hZ6.out hB9.out hP9.out (fun b hb => by have h1 := hN9.out b hb; have h2 := hZ6.out.bR.lt; omega) 4)
    · have ht : Hid (z = (y, 0)) := by show _ = _; rw [← hzh.out]; unfold ranD; rw [if_pos hvh.out]; unfold doneD; rw [hch.out, if_pos rfl, hyh.out, if_pos hvy.out]
      obtain ⟨e0, e1, e2, e3, e4⟩ := fv5 bE6.out
      obtain ⟨z0, z1, z2, z3, z4⟩ := fv5 hZ6.out.bR
      have uz := hZ6.out.bR.unfrozen
      go_wp2_with fail
      have bF : Box (putCells w6 (w.heap.size + 1 + 1) 0 (cHp y aN2 kN2 aO2 kO2 aG2 kG2)) (w.heap.size + 1 + 1) (cHp y aN2 kN2 aO2 kO2 aG2 kG2) 28 := Box.puts5 hZ6.out.bR
      obtain ⟨g0, g1, g2, g3, g4⟩ := fv5 bF
      exact bodyPost_ret (v := .tuple #[.agg (List.toArray (cHp y aN2 kN2 aO2 kO2 aG2 kG2)), .int .i64 0]) (by simp only [putCells] at g0 g1 g2 g3 g4; simp [results, Tryz.results81, go_sem, g0, g1, g2, g3, g4]) rfl (by rw [ht.out]; exact R3.give hZ6.out (Below.refl _ _) hP6.out hN5.out 0)
  · have ht : Hid (z = (x, c)) := by show _ = _; rw [← hzh.out]; unfold ranD; rw [if_pos hvh.out]; unfold doneD; rw [hch.out, if_neg hc0]
    obtain ⟨d0, d1, d2, d3, d4⟩ := fv5 hZ5.out.bH
    go_wp2_with fail
    refine (l4CopyP_any hZ5.out.hx hsm.out).mono ?_
    rintro e w9 ⟨⟨cs9, rfl, fs9, hp9, hn9⟩, hb9⟩
    obtain ⟨aN9, kN9, aO9, kO9, aG9, kG9, rfl⟩ := hp9.form
    have hB9 : Hid (Below w5.heap.size w5 w9) := hb9
    have hP9 : Hid (HeapP w9 (cHp x aN9 kN9 aO9 kO9 aG9 kG9) x fs9) := hp9
    have hN9 : Hid (∀ b ∈ fs9, w5.heap.size ≤ b) := hn9
    have hR9 : Hid (Box w9 (w.heap.size + 1 + 1) cZp 28) := hZ5.out.bR.below hb9 hZ5.out.bR.lt
    clear hb9 hp9 hn9 d0 d1 d2 d3 d4
    obtain ⟨z0, z1, z2, z3, z4⟩ := fv5 hR9.out
    have uz := hR9.out.unfrozen
    go_wp2_with fail
    have bF : Box (putCells w9 (w.heap.size + 1 + 1) 0 (cHp x aN9 kN9 aO9 kO9 aG9 kG9)) (w.heap.size + 1 + 1) (cHp x aN9 kN9 aO9 kO9 aG9 kG9) 28 := Box.puts5 hR9.out
    obtain ⟨g0, g1, g2, g3, g4⟩ := fv5 bF
    exact bodyPost_ret (v := .tuple #[.agg (List.toArray (cHp x aN9 kN9 aO9 kO9 aG9 kG9)), .int .i64 c]) (by simp only [putCells] at g0 g1 g2 g3 g4; simp [results, Tryz.results81, go_sem, g0, g1, g2, g3, g4]) rfl (by rw [ht.out]; exact R3.give hZ5.out hB9.out hP9.out (fun b hb => by have h1 := hN9.out b hb; have h2 := hZ5.out.bR.lt; omega) c)
theorem zeroH_at (w : World) : HeapP w cZp ⟨0, 0, [], [], []⟩ [] := by
 refine ⟨.slice none 0 0, .slice none 0 0, .slice none 0 0, [], [], [], [], [], rfl, GrowOwn.nil, GrowOwn.nil, ⟨none, 0, rfl, ⟨Nat.zero_le _, Nat.le_refl _⟩, Or.inl ⟨rfl, rfl⟩⟩, ?_, ?_, rfl, List.nodup_nil⟩ <;> (show InI 0; unfold InI; omega)
def zeroH : HeapD := ⟨0, 0, [], [], []⟩
def topD (x : HeapD) (o : OpD) : HeapD × Int := if specB x = true then ranD x o else (zeroH, 1)
set_option maxRecDepth 100000 in
set_option maxHeartbeats 8000000 in
theorem ran_any {w : World} {cs : List Value} {x : HeapD} {o : OpD} (hx : HeapAt w 0 cs x) (hf : o.fits) (hst0 : InI o.vStop) :
 Calls Tryz.prog 44 #[.agg cs.toArray, .agg o.cells.toArray] w fun e w' => RanR w w' (topD x o) e := by
 have hx0 := hx
 obtain ⟨k2, k3, k4, rfl, s2, s3, s4, _⟩ := hx
 obtain ⟨aN, kN, rfl⟩ := s2.form
 obtain ⟨aO, kO, rfl⟩ := s3.form
 obtain ⟨aG, kG, rfl⟩ := s4.form
 have hst : Hid (InI o.vStop) := hst0
 have hfh : Hid o.fits := hf
 have hl : Hid (∀ W, HeapAt W 0 (cHp x aN kN aO kO aG kG) x → specB x = true → Calls Tryz.prog 81 #[.agg (List.toArray (cHp x aN kN aO kO aG kG)), .agg (List.toArray (cOp o.vKind o))] W fun e w' => RanR W w' (ranD x o) e) := fun W h1 h2 => by
  have q := l4Ran_any h1 h2 hf hst0
  unfold OpD.cells at q
  exact q
 unfold OpD.cells
 obtain ⟨z, hz⟩ : ∃ z, topD x o = z := ⟨_, rfl⟩
 have hzh : Hid (topD x o = z) := hz
 obtain ⟨z1, hz1⟩ : ∃ z1, ranD x o = z1 := ⟨_, rfl⟩
 have hz1h : Hid (ranD x o = z1) := hz1
 rw [hz]
 have hZ0 : Hid (R3 w (cHp x aN kN aO kO aG kG) (cOp o.vKind o) x (((w.alloc (.cells (cHp x aN kN aO kO aG kG).toArray 28)).alloc (.cells (cOp o.vKind o).toArray 91)).alloc (.cells cZp.toArray 28))) := R3.start hx0
 clear hz hz1 hx0 s2 s3 s4 hst0 hf
 go_enter Tryz.func44, Tryz.ntmps44
 go_upto_region 1 with fail
 generalize (((w.alloc (.cells (cHp x aN kN aO kO aG kG).toArray 28)).alloc (.cells (cOp o.vKind o).toArray 91)).alloc (.cells cZp.toArray 28)) = w0 at hZ0 ⊢
 obtain ⟨d0, d1, d2, d3, d4⟩ := fv5 hZ0.out.bH
 go_wp2_with fail
 refine (specHeapOk_any hZ0.out.hx).mono ?_
 rintro e w1 ⟨rfl, hb1⟩
 obtain ⟨v, hv⟩ : ∃ v, specB x = v := ⟨_, rfl⟩
 rw [hv]
 have hvh : Hid (specB x = v) := hv
 have hZ1 : Hid _ := hZ0.out.below hb1
 clear hv hb1 hZ0 d0 d1 d2 d3 d4
 cases v
 · have ht : Hid (z = (zeroH, 1)) := by show _ = _; rw [← hzh.out]; unfold topD; rw [if_neg (by rw [hvh.out]; decide)]
   have hzp : Hid (∀ W, HeapP W cZp zeroH []) := zeroH_at
   obtain ⟨z0, z1, z2, z3, z4⟩ := fv5 hZ1.out.bR
   have uz := hZ1.out.bR.unfrozen
   go_wp2_with fail
   have bF : Box (putCells w1 (w.heap.size + 1 + 1) 0 cZp) (w.heap.size + 1 + 1) cZp 28 := Box.puts5 hZ1.out.bR
   obtain ⟨g0, g1, g2, g3, g4⟩ := fv5 bF
   exact bodyPost_ret (v := .tuple #[.agg (List.toArray cZp), .int .i64 1]) (by simp only [putCells] at g0 g1 g2 g3 g4; simp [results, Tryz.results44, go_sem, g0, g1, g2, g3, g4]) rfl (by rw [ht.out]; exact R3.give hZ1.out (Below.refl _ _) (hzp.out _) (fun b hb => by cases hb) 1)
 have ht : Hid (z = z1) := by show _ = _; rw [← hzh.out, ← hz1h.out]; unfold topD; rw [if_pos hvh.out]
 obtain ⟨y, c⟩ := z1
 obtain ⟨d0, d1, d2, d3, d4⟩ := fv5 hZ1.out.bH
 have o0 := hZ1.out.bO.cell 0 rfl
 have o1 := hZ1.out.bO.cell 1 rfl
 have o2 := hZ1.out.bO.cell 2 rfl
 have o3 := hZ1.out.bO.cell 3 rfl
 have o4 := hZ1.out.bO.cell 4 rfl
 have o5 := hZ1.out.bO.cell 5 rfl
 have o6 := hZ1.out.bO.cell 6 rfl
 have o7 := hZ1.out.bO.cell 7 rfl
 have o8 := hZ1.out.bO.cell 8 rfl
 go_wp2_with fail
 refine (hl.out _ hZ1.out.hx hvh.out).mono ?_
 rintro e w6 hr6
 rw [hz1h.out] at hr6
 obtain ⟨⟨cs6, fs6, rfl, hp6, hn6⟩, hb6⟩ := hr6
 obtain ⟨aN6, kN6, aO6, kO6, aG6, kG6, rfl⟩ := hp6.form
 have hB6 : Hid (Below w1.heap.size w1 w6) := hb6
 have hP6 : Hid (HeapP w6 (cHp y aN6 kN6 aO6 kO6 aG6 kG6) y fs6) := hp6
 have hN6 : Hid (∀ b ∈ fs6, w.heap.size ≤ b ∧ b ≠ w.heap.size + 1 + 1) := fun b hb => by have h1 := hn6 b hb; have h2 := hZ1.out.bR.lt; omega
 have hR6 : Hid (Box w6 (w.heap.size + 1 + 1) cZp 28) := hZ1.out.bR.below hb6 hZ1.out.bR.lt
 clear hb6 hp6 hn6 d0 d1 d2 d3 d4 o0 o1 o2 o3 o4 o5 o6 o7 o8
 obtain ⟨z0, z1, z2, z3, z4⟩ := fv5 hR6.out
 have uz := hR6.out.unfrozen
 go_wp2_with fail
 have bF : Box (putCells w6 (w.heap.size + 1 + 1) 0 (cHp y aN6 kN6 aO6 kO6 aG6 kG6)) (w.heap.size + 1 + 1) (cHp y aN6 kN6 aO6 kO6 aG6 kG6) 28 := Box.puts5 hR6.out
 obtain ⟨g0, g1, g2, g3, g4⟩ := fv5 bF
 exact bodyPost_ret (v := .tuple #[.agg (List.toArray (cHp y aN6 kN6 aO6 kO6 aG6 kG6)), .int .i64 c]) (by simp only [putCells] at g0 g1 g2 g3 g4; simp [results, Tryz.results44, go_sem, g0, g1, g2, g3, g4]) rfl (by rw [ht.out]; exact R3.give hZ1.out hB6.out hP6.out hN6.out c)
end Go.Proofs.YtdnembnlomnceaaGreat
