/- l4Act of the specification: walked, for the ops of kinds 9, 11, 12. -/
import Derived.Test.YtdnembnlomnceaaGreatAbb
import Derived.Test.YtdnembnlomnceaaGreatTakeMore
import Derived.Test.YtdnembnlomnceaaGreatRnAct
import Derived.Test.YtdnembnlomnceaaGreatMakeW
import Derived.Test.YtdnembnlomnceaaGreatHeldS
import Derived.Test.YtdnembnlomnceaaGreatActU
namespace Go.Proofs.YtdnembnlomnceaaGreat
open Go.RowKit Go.Deep
namespace K9
theorem HeapP.inI {w : World} {cs : List Value} {x : HeapD} {fs : List Nat} (h : HeapP w cs x fs) {id : Int} (e : 0 ≤ idxN x id) : InI id := by
 rcases idxN_is x id with ⟨q, _⟩ | ⟨i, hi, _, q, _⟩
 · omega
 · obtain ⟨vN, vO, vG, bN, bO, cN, cO, fG, e, hN, _⟩ := h
   obtain ⟨h1, h2, h3, h4, h5, h6, h7⟩ := hN
   obtain ⟨_, _, _, _, _, _, _, _, r, _⟩ := h5 i hi (by omega) (by omega)
   rw [← q]; exact r
theorem there_of {x : HeapD} {id : Int} (e : 0 ≤ idxN x id) : (nodeAt x id).isSome = true := by
 rcases idxN_is x id with ⟨q, _⟩ | ⟨i, hi, _, _, q⟩
 · omega
 · rw [q]; rfl
set_option maxRecDepth 100000 in
set_option maxHeartbeats 8000000 in
theorem l4Tree9_any {w : World} {cs : List Value} {x : HeapD} {fs : List Nat} {o : OpD} (hp : HeapP w cs x fs) (hf : o.fits) (hs : specB x = true) (hk : o.vKind = 9) :
 Calls Tryz.prog 124 #[.agg cs.toArray, .agg o.cells.toArray] w fun e w' => ∃ cs', e = .returned (.tuple #[.agg cs'.toArray, .int .i64 (treeD x o).2]) ∧ HR w fs w' cs' (treeD x o).1 := by
 obtain ⟨aN, kN, aO, kO, aG, kG, rfl⟩ := hp.form
 have hR : Hid (RightH x) := right_of hs
 have hsh : Hid (specB x = true) := hs
 have hZ0 : Hid (HX (cOp 9 o) 91 w fs w.heap.size (w.heap.size + 1 + 1) (w.heap.size + 1) (((w.alloc (.cells (cHp x aN kN aO kO aG kG).toArray 28)).alloc (.cells (cOp 9 o).toArray 91)).alloc (.cells cZp.toArray 28)) (cHp x aN kN aO kO aG kG) x fs) := HX.start hp
 unfold OpD.cells treeD
 rw [hk]
 have hkh : Hid (o.vKind = 9) := hk
 have hfh : Hid o.fits := hf
 obtain ⟨nd, hnd⟩ : ∃ nd, wrappedR x o.vName = nd := ⟨_, rfl⟩
 have hth : nd = 0 ∨ 0 ≤ idxN x nd := by rw [← hnd]; exact wrapped_there hR.out _
 obtain ⟨ot, hot⟩ : ∃ ot, wrappedR x o.vOther = ot := ⟨_, rfl⟩
 have hoh : Hid (ot = 0 ∨ 0 ≤ idxN x ot) := by rw [← hot]; exact wrapped_there hR.out _
 have hndh : Hid (wrappedR x o.vName = nd) := hnd
 have hoth : Hid (wrappedR x o.vOther = ot) := hot
 rw [hnd, hot]
 clear hnd hot
 clear hk hp hf hs
 obtain ⟨d0, d1, d2, d3, d4⟩ := fv5 hZ0.out.hb.bH
 have o1 := hZ0.out.bq.cell 1 rfl
 go_enter Tryz.func124, Tryz.ntmps124
 go_wp2_with fail
 refine (l2Wrapped_any hZ0.out.hb.hp.at0).mono ?_
 rintro e w1 ⟨rfl, hb1⟩
 rw [hndh.out]
 have hZ1 : Hid _ := hZ0.out.below hb1
 clear hb1 hZ0 d0 d1 d2 d3 d4 o1
 obtain ⟨d0, d1, d2, d3, d4⟩ := fv5 hZ1.out.hb.bH
 have o2 := hZ1.out.bq.cell 2 rfl
 go_wp2_with fail
 refine (l2Wrapped_any hZ1.out.hb.hp.at0).mono ?_
 rintro e w2 ⟨rfl, hb2⟩
 rw [hoth.out]
 have hZ2 : Hid _ := hZ1.out.below hb2
 clear hb2 hZ1 d0 d1 d2 d3 d4 o2
 have o0 := hZ2.out.bq.cell 0 rfl
 by_cases hn0 : nd = 0
 · have htd : Hid (treeOp x o nd ot = (x, 5)) := by show _ = _; unfold treeOp; rw [if_pos (Or.inl hn0)]
   clear hth
   have hZf : Hid _ := hZ2.out.hb
   obtain ⟨d0, d1, d2, d3, d4⟩ := fv5 hZf.out.bH
   obtain ⟨z0, z1, z2, z3, z4⟩ := fv5 hZf.out.bR
   have uz := hZf.out.bR.unfrozen
   go_wp2_with fail
   have bF : Box (putCells w2 (w.heap.size + 1 + 1) 0 (cHp x aN kN aO kO aG kG)) (w.heap.size + 1 + 1) (cHp x aN kN aO kO aG kG) 28 := Box.puts5 hZf.out.bR
   obtain ⟨g0, g1, g2, g3, g4⟩ := fv5 bF
   exact bodyPost_ret (v := .tuple #[.agg (List.toArray (cHp x aN kN aO kO aG kG)), .int .i64 5]) (by simp only [putCells] at g0 g1 g2 g3 g4; simp [results, Tryz.results124, go_sem, g0, g1, g2, g3, g4]) rfl ⟨(cHp x aN kN aO kO aG kG), by rw [htd.out], by rw [htd.out]; exact hZf.out.ret (cHp x aN kN aO kO aG kG)⟩
 · have hnd0 : Hid (0 ≤ idxN x nd) := by rcases hth with q | q; exact absurd q hn0; exact q
   obtain ⟨i, hi, hidx0, X, hX, hpar0, hlis0, hkid0⟩ : ∃ i, ∃ hi : i < x.vNodes.length, idxN x nd = (i : Int) ∧ ∃ X, x.vNodes[i] = X ∧ parOf x nd = X.vParent ∧ lisOf x nd = X.vListeners ∧ kidsOfN x nd = X.vKids := by
    rcases idxN_is x nd with ⟨q, _⟩ | ⟨i, hi, q, _, q2⟩
    · have := hnd0.out; omega
    · exact ⟨i, hi, q, _, rfl, by unfold parOf; rw [q2], by unfold lisOf; rw [q2], by unfold kidsOfN; rw [q2]⟩
   have hidx : Hid (idxN x nd = (i : Int)) := hidx0
   have hn0h : Hid (¬ nd = 0) := hn0
   have hXe : Hid (x.vNodes[i] = X) := hX
   have hXm : Hid (X ∈ x.vNodes) := by show X ∈ x.vNodes; rw [← hX]; exact List.getElem_mem hi
   have hpar : Hid (parOf x nd = X.vParent) := hpar0
   have hlis : Hid (lisOf x nd = X.vListeners) := hlis0
   have hkid : Hid (kidsOfN x nd = X.vKids) := hkid0
   obtain ⟨gN, rfl, _⟩ := hZ2.out.hb.hp.posN (show 0 < x.vNodes.length by omega)
   obtain ⟨C, fi, hC, hcell, _⟩ := hZ2.out.hb.node hi
   rw [hX] at hC
   obtain ⟨n3, m3, n5, m5, rfl⟩ := hC.len
   have n0 : Hid (w2.cell? ⟨gN, i * 6, none⟩ = some (.int .i64 X.vId)) := hcell 0 _ rfl
   have n1 : Hid (w2.cell? ⟨gN, i * 6 + 1, none⟩ = some (.string X.vTag)) := hcell 1 _ rfl
   have n2 : Hid (w2.cell? ⟨gN, i * 6 + 2, none⟩ = some (.int .i64 X.vParent)) := hcell 2 _ rfl
   have n3' : Hid (w2.cell? ⟨gN, i * 6 + 3, none⟩ = some (.slice n3 X.vKids.length m3)) := hcell 3 _ rfl
   have n4 : Hid (w2.cell? ⟨gN, i * 6 + 4, none⟩ = some (.int .i64 X.vWrapper)) := hcell 4 _ rfl
   have n5' : Hid (w2.cell? ⟨gN, i * 6 + 5, none⟩ = some (.slice n5 X.vListeners.length m5)) := hcell 5 _ rfl
   have hiI : (i : Int) < (x.vNodes.length : Int) := by omega
   have hi0 : (0 : Int) ≤ (i : Int) := by omega
   clear hth hidx0 hpar0 hlis0 hkid0 hC hcell hX
   rcases Classical.em (ot = 0) with hot0 | hot0
   all_goals
    go_upto_region 5 with fail
    clear o0 hot0
    go_cut [8] (fun s8 wx => ∃ (gx : Nat), s8 = .pointer (some ⟨gx, 0, none⟩) ∧ w2.heap.size ≤ gx ∧ Hid (Below (World.heap w2).size w2 wx) ∧ Hid (Box wx gx (cNd X n3 m3 n5 m5) 73))
    case first =>
     have hkd : Hid (Below (World.heap w2).size w2 (World.drew w2)) := Below.drew (Below.refl _ _)
     refine wp_region_held_drew (S := fun w' => w'.cell? ⟨w.heap.size, 0, none⟩ = some (.int .i64 x.vNext) ∧ w'.cell? ⟨w.heap.size, 1, none⟩ = some (.int .i64 x.vDoc) ∧ w'.cell? ⟨w.heap.size, 2, none⟩ = some (.slice (some ⟨gN, 0, none⟩) x.vNodes.length kN) ∧ w'.cell? ⟨w.heap.size, 3, none⟩ = some (.slice aO x.vObjs.length kO) ∧ w'.cell? ⟨w.heap.size, 4, none⟩ = some (.slice aG x.vGlobals.length kG) ∧ w'.cell? ⟨gN, i * 6, none⟩ = some (.int .i64 X.vId) ∧ w'.cell? ⟨gN, i * 6 + 1, none⟩ = some (.string X.vTag) ∧ w'.cell? ⟨gN, i * 6 + 2, none⟩ = some (.int .i64 X.vParent) ∧ w'.cell? ⟨gN, i * 6 + 3, none⟩ = some (.slice n3 X.vKids.length m3) ∧ w'.cell? ⟨gN, i * 6 + 4, none⟩ = some (.int .i64 X.vWrapper) ∧ w'.cell? ⟨gN, i * 6 + 5, none⟩ = some (.slice n5 X.vListeners.length m5)) (by kernel_rfl) (fv5a hZ2.out.hb.bH ⟨n0.out, n1.out, n2.out, n3'.out, n4.out, n5'.out⟩) (fun hHeld => ?_)
     refine tk 0 ?_
     refine tk 1 ?_
     refine tk 2 ?_
     refine tk 3 ?_
     refine rd2 4 7 (fun K hK => ?_) (fun K hK => ?_)
     · go_simp
       refine (l2Node_any (hZ2.out.below hkd.out).hb.hp.at0).mono ?_
       rintro e u6 ⟨rfl, hb6⟩
       rw [hidx.out]
       have hk1 : Hid (Below (World.heap w2).size w2 u6) := hkd.out.trans (Below.mono hb6 (Below.size hkd.out))
       have lu6 := hb6.size
       clear hb6
       refine hK.out _ _ (fv5a (hZ2.out.below hk1.out).hb.bH ⟨cell_on hk1.out n0.out, cell_on hk1.out n1.out, cell_on hk1.out n2.out, cell_on hk1.out n3'.out, cell_on hk1.out n4.out, cell_on hk1.out n5'.out⟩) (fun hHeld => ?_)
       clear hK K
       refine tk 5 ?_
       refine tk 6 ?_
       refine rd1 7 (fun K hK => ?_)
       go_simp
       have hk2 : Hid (Below (World.heap w2).size w2 (World.alloc u6 (.cells cZn.toArray 73))) := Below.alloc hk1.out (Below.size hk1.out) _
       obtain ⟨EE, hEE⟩ : ∃ EE, u6.heap.size = EE := ⟨_, rfl⟩
       have bX2 : Hid (Box (World.alloc u6 (.cells cZn.toArray 73)) EE cZn 73) := by rw [← hEE]; exact Box.new u6 _ _
       have lE : w2.heap.size ≤ EE := by rw [← hEE]; have := Below.size hk1.out; exact this
       have hEEh : Hid (u6.heap.size = EE) := hEE
       clear hEE
       refine hK.out _ _ (fv5a (hZ2.out.below hk2.out).hb.bH ⟨cell_on hk2.out n0.out, cell_on hk2.out n1.out, cell_on hk2.out n2.out, cell_on hk2.out n3'.out, cell_on hk2.out n4.out, cell_on hk2.out n5'.out⟩) (fun hHeld => ?_)
       clear hK K
       refine rd1 8 (fun K hK => ?_)
       go_simp
       have hkF : Hid (Below (World.heap w2).size w2 (World.alloc u6 (.cells (cNd X n3 m3 n5 m5).toArray 73))) := Below.alloc hk1.out (Below.size hk1.out) _
       refine hK.out _ _ (fv5a (hZ2.out.below hkF.out).hb.bH ⟨cell_on hkF.out n0.out, cell_on hkF.out n1.out, cell_on hkF.out n2.out, cell_on hkF.out n3'.out, cell_on hkF.out n4.out, cell_on hkF.out n5'.out⟩) (fun hHeld => ?_)
       clear hK K
       refine wpAnyH_done (by kernel_rfl) ?_ _
       have eEE := hEEh.out
       have bXF : Hid (Box (World.alloc u6 (.cells (cNd X n3 m3 n5 m5).toArray 73)) EE (cNd X n3 m3 n5 m5) 73) := by rw [← eEE]; exact Box.new u6 _ _
       go_wp2_with fail
       go_meet
       exact ⟨EE, by rw [eEE], lE, hkF, bXF⟩
     · go_simp
       have hk1 : Hid (Below (World.heap w2).size w2 (World.alloc w2.drew (.cells cZn.toArray 73))) := Below.alloc hkd.out (Below.size hkd.out) _
       obtain ⟨EE, hEE⟩ : ∃ EE, w2.heap.size = EE := ⟨_, rfl⟩
       have bX1 : Hid (Box (World.alloc w2.drew (.cells cZn.toArray 73)) EE cZn 73) := by rw [← hEE]; exact Box.new w2.drew _ _
       have lE : w2.heap.size ≤ EE := by rw [← hEE]; have := Below.size hkd.out; exact this
       have hEEh : Hid (w2.heap.size = EE) := hEE
       clear hEE
       refine hK.out _ _ (fv5a (hZ2.out.below hk1.out).hb.bH ⟨cell_on hk1.out n0.out, cell_on hk1.out n1.out, cell_on hk1.out n2.out, cell_on hk1.out n3'.out, cell_on hk1.out n4.out, cell_on hk1.out n5'.out⟩) (fun hHeld => ?_)
       clear hK K
       refine rd1 4 (fun K hK => ?_)
       go_simp
       refine (l2Node_any (hZ2.out.below hk1.out).hb.hp.at0).mono ?_
       rintro e u6 ⟨rfl, hb6⟩
       rw [hidx.out]
       have hk2 : Hid (Below (World.heap w2).size w2 u6) := hk1.out.trans (Below.mono hb6 (Below.size hk1.out))
       have bX2 : Hid (Box u6 EE cZn 73) := Box.below bX1.out hb6 (Box.lt bX1.out)
       have lu6 := hb6.size
       clear hb6
       refine hK.out _ _ (fv5a (hZ2.out.below hk2.out).hb.bH ⟨cell_on hk2.out n0.out, cell_on hk2.out n1.out, cell_on hk2.out n2.out, cell_on hk2.out n3'.out, cell_on hk2.out n4.out, cell_on hk2.out n5'.out⟩) (fun hHeld => ?_)
       clear hK K
       refine tk 5 ?_
       refine tk 6 ?_
       refine rd1 8 (fun K hK => ?_)
       have bE9 := bX2.out
       rw [← hEEh.out] at bE9
       have u0_ := bE9.cell 0 rfl
       have u1_ := bE9.cell 1 rfl
       have u2_ := bE9.cell 2 rfl
       have u3_ := bE9.cell 3 rfl
       have u4_ := bE9.cell 4 rfl
       have u5_ := bE9.cell 5 rfl
       have uf_ := bE9.unfrozen
       go_simp
       have hkF : Hid (Below (World.heap w2).size w2 (putCells u6 w2.heap.size 0 (cNd X n3 m3 n5 m5))) := putCells_below (cNd X n3 m3 n5 m5) _ _ _ _ _ (by have h_ := hEEh.out; omega) hk2.out
       refine hK.out _ _ (fv5a (hZ2.out.below hkF.out).hb.bH ⟨cell_on hkF.out n0.out, cell_on hkF.out n1.out, cell_on hkF.out n2.out, cell_on hkF.out n3'.out, cell_on hkF.out n4.out, cell_on hkF.out n5'.out⟩) (fun hHeld => ?_)
       clear hK K
       refine wpAnyH_done (by kernel_rfl) ?_ _
       have eEE := hEEh.out
       have bXF : Hid (Box (putCells u6 w2.heap.size 0 (cNd X n3 m3 n5 m5)) EE (cNd X n3 m3 n5 m5) 73) := by rw [eEE]; exact ((((((bX2.out.set (i := 0) _).set (i := 1) _).set (i := 2) _).set (i := 3) _).set (i := 4) _).set (i := 5) _)
       go_wp2_with fail
       go_meet
       exact ⟨EE, by rw [eEE], lE, hkF, bXF⟩
    case rest =>
     obtain ⟨gx, rfl, hgx, hbx, bX5⟩ := hcut
     generalize wc = w5 at hbx bX5 ⊢
     have hZ5 : Hid _ := hZ2.out.below (hbx.out)
     have o0 := hZ5.out.bq.cell 0 rfl
     have hp5 := bX5.out.cell 2 rfl
     by_cases hz : X.vParent = 0
     · have htd : Hid (treeOp x o nd ot = (x, 3)) := by show _ = _; unfold treeOp; rw [if_neg (by rw [hkh.out]; omega), if_pos hkh.out, hpar.out, if_pos hz]
       have hZf : Hid _ := hZ5.out.hb
       obtain ⟨d0, d1, d2, d3, d4⟩ := fv5 hZf.out.bH
       obtain ⟨z0, z1, z2, z3, z4⟩ := fv5 hZf.out.bR
       have uz := hZf.out.bR.unfrozen
       go_wp2_with fail
       have bF : Box (putCells w5 (w.heap.size + 1 + 1) 0 (cHp x (some ⟨gN, 0, none⟩) kN aO kO aG kG)) (w.heap.size + 1 + 1) (cHp x (some ⟨gN, 0, none⟩) kN aO kO aG kG) 28 := Box.puts5 hZf.out.bR
       obtain ⟨g0, g1, g2, g3, g4⟩ := fv5 bF
       exact bodyPost_ret (v := .tuple #[.agg (List.toArray (cHp x (some ⟨gN, 0, none⟩) kN aO kO aG kG)), .int .i64 3]) (by simp only [putCells] at g0 g1 g2 g3 g4; simp [results, Tryz.results124, go_sem, g0, g1, g2, g3, g4]) rfl ⟨(cHp x (some ⟨gN, 0, none⟩) kN aO kO aG kG), by rw [htd.out], by rw [htd.out]; exact hZf.out.ret (cHp x (some ⟨gN, 0, none⟩) kN aO kO aG kG)⟩
     · have htd0 : Hid (treeOp x o nd ot = (detachD x nd, 0)) := by show _ = _; unfold treeOp; rw [if_neg (by rw [hkh.out]; omega), if_pos hkh.out, hpar.out, if_neg hz]
       obtain ⟨d0, d1, d2, d3, d4⟩ := fv5 hZ5.out.hb.bH
       go_wp2_with fail
       refine (l4Detach_any hZ5.out.hb.hp hnd0.out (fun z q => Nat.le_trans (hR.out.kids z q).1 (by omega))).mono ?_
       rintro e w6 ⟨cs6, rfl, hr6⟩
       obtain ⟨y, hy⟩ : ∃ y, detachD x nd = y := ⟨_, rfl⟩
       rw [hy] at hr6
       have htd : Hid (treeOp x o nd ot = (y, 0)) := by show _ = _; rw [htd0.out, hy]
       obtain ⟨aN6, kN6, aO6, kO6, aG6, kG6, rfl⟩ := hr6.form
       obtain ⟨bR6, hR6⟩ := hZ5.out.hb.over hr6
       have bR6h : Hid (Box w6 (w.heap.size + 1 + 1) cZp 28) := bR6
       have hR6h : Hid _ := hR6
       clear hr6 bR6 hR6 hy d0 d1 d2 d3 d4
       obtain ⟨z0, z1, z2, z3, z4⟩ := fv5 bR6h.out
       have uz := bR6h.out.unfrozen
       go_wp2_with fail
       have bF : Box (putCells w6 (w.heap.size + 1 + 1) 0 (cHp y aN6 kN6 aO6 kO6 aG6 kG6)) (w.heap.size + 1 + 1) (cHp y aN6 kN6 aO6 kO6 aG6 kG6) 28 := Box.puts5 bR6h.out
       obtain ⟨g0, g1, g2, g3, g4⟩ := fv5 bF
       exact bodyPost_ret (v := .tuple #[.agg (List.toArray (cHp y aN6 kN6 aO6 kO6 aG6 kG6)), .int .i64 0]) (by simp only [putCells] at g0 g1 g2 g3 g4; simp [results, Tryz.results124, go_sem, g0, g1, g2, g3, g4]) rfl ⟨(cHp y aN6 kN6 aO6 kO6 aG6 kG6), by rw [htd.out], by rw [htd.out]; exact hR6h.out⟩
end K9
end Go.Proofs.YtdnembnlomnceaaGreat
namespace Go.Proofs.YtdnembnlomnceaaGreat
open Go.RowKit Go.Deep
namespace K11
theorem HeapP.inI {w : World} {cs : List Value} {x : HeapD} {fs : List Nat} (h : HeapP w cs x fs) {id : Int} (e : 0 ≤ idxN x id) : InI id := by
 rcases idxN_is x id with ⟨q, _⟩ | ⟨i, hi, _, q, _⟩
 · omega
 · obtain ⟨vN, vO, vG, bN, bO, cN, cO, fG, e, hN, _⟩ := h
   obtain ⟨h1, h2, h3, h4, h5, h6, h7⟩ := hN
   obtain ⟨_, _, _, _, _, _, _, _, r, _⟩ := h5 i hi (by omega) (by omega)
   rw [← q]; exact r
theorem there_of {x : HeapD} {id : Int} (e : 0 ≤ idxN x id) : (nodeAt x id).isSome = true := by
 rcases idxN_is x id with ⟨q, _⟩ | ⟨i, hi, _, _, q⟩
 · omega
 · rw [q]; rfl
set_option maxRecDepth 100000 in
set_option maxHeartbeats 8000000 in
theorem l4Tree11_any {w : World} {cs : List Value} {x : HeapD} {fs : List Nat} {o : OpD} (hp : HeapP w cs x fs) (hf : o.fits) (hs : specB x = true) (hk : o.vKind = 11) :
 Calls Tryz.prog 124 #[.agg cs.toArray, .agg o.cells.toArray] w fun e w' => ∃ cs', e = .returned (.tuple #[.agg cs'.toArray, .int .i64 (treeD x o).2]) ∧ HR w fs w' cs' (treeD x o).1 := by
 obtain ⟨aN, kN, aO, kO, aG, kG, rfl⟩ := hp.form
 have hR : Hid (RightH x) := right_of hs
 have hsh : Hid (specB x = true) := hs
 have hZ0 : Hid (HX (cOp 11 o) 91 w fs w.heap.size (w.heap.size + 1 + 1) (w.heap.size + 1) (((w.alloc (.cells (cHp x aN kN aO kO aG kG).toArray 28)).alloc (.cells (cOp 11 o).toArray 91)).alloc (.cells cZp.toArray 28)) (cHp x aN kN aO kO aG kG) x fs) := HX.start hp
 unfold OpD.cells treeD
 rw [hk]
 have hkh : Hid (o.vKind = 11) := hk
 have hfh : Hid o.fits := hf
 obtain ⟨nd, hnd⟩ : ∃ nd, wrappedR x o.vName = nd := ⟨_, rfl⟩
 have hth : nd = 0 ∨ 0 ≤ idxN x nd := by rw [← hnd]; exact wrapped_there hR.out _
 obtain ⟨ot, hot⟩ : ∃ ot, wrappedR x o.vOther = ot := ⟨_, rfl⟩
 have hoh : Hid (ot = 0 ∨ 0 ≤ idxN x ot) := by rw [← hot]; exact wrapped_there hR.out _
 have hndh : Hid (wrappedR x o.vName = nd) := hnd
 have hoth : Hid (wrappedR x o.vOther = ot) := hot
 rw [hnd, hot]
 clear hnd hot
 clear hk hp hf hs
 obtain ⟨d0, d1, d2, d3, d4⟩ := fv5 hZ0.out.hb.bH
 have o1 := hZ0.out.bq.cell 1 rfl
 go_enter Tryz.func124, Tryz.ntmps124
 go_wp2_with fail
 refine (l2Wrapped_any hZ0.out.hb.hp.at0).mono ?_
 rintro e w1 ⟨rfl, hb1⟩
 rw [hndh.out]
 have hZ1 : Hid (HX (cOp 11 o) 91 w fs w.heap.size (w.heap.size + 1 + 1) (w.heap.size + 1) w1 (cHp x aN kN aO kO aG kG) x fs) := hZ0.out.below hb1
 clear hb1 hZ0 d0 d1 d2 d3 d4 o1
 obtain ⟨d0, d1, d2, d3, d4⟩ := fv5 hZ1.out.hb.bH
 have o2 := hZ1.out.bq.cell 2 rfl
 go_wp2_with fail
 refine (l2Wrapped_any hZ1.out.hb.hp.at0).mono ?_
 rintro e w2 ⟨rfl, hb2⟩
 rw [hoth.out]
 have hZ2 : Hid (HX (cOp 11 o) 91 w fs w.heap.size (w.heap.size + 1 + 1) (w.heap.size + 1) w2 (cHp x aN kN aO kO aG kG) x fs) := hZ1.out.below hb2
 clear hb2 hZ1 d0 d1 d2 d3 d4 o2
 have o0 := hZ2.out.bq.cell 0 rfl
 by_cases hn0 : nd = 0
 · have htd : Hid (treeOp x o nd ot = (x, 5)) := by show _ = _; unfold treeOp; rw [if_pos (Or.inl hn0)]
   clear hth
   have hZf : Hid _ := hZ2.out.hb
   obtain ⟨d0, d1, d2, d3, d4⟩ := fv5 hZf.out.bH
   obtain ⟨z0, z1, z2, z3, z4⟩ := fv5 hZf.out.bR
   have uz := hZf.out.bR.unfrozen
   go_wp2_with fail
   have bF : Box (putCells w2 (w.heap.size + 1 + 1) 0 (cHp x aN kN aO kO aG kG)) (w.heap.size + 1 + 1) (cHp x aN kN aO kO aG kG) 28 := Box.puts5 hZf.out.bR
   obtain ⟨g0, g1, g2, g3, g4⟩ := fv5 bF
   exact bodyPost_ret (v := .tuple #[.agg (List.toArray (cHp x aN kN aO kO aG kG)), .int .i64 5]) (by simp only [putCells] at g0 g1 g2 g3 g4; simp [results, Tryz.results124, go_sem, g0, g1, g2, g3, g4]) rfl ⟨(cHp x aN kN aO kO aG kG), by rw [htd.out], by rw [htd.out]; exact hZf.out.ret (cHp x aN kN aO kO aG kG)⟩
 · have hnd0 : Hid (0 ≤ idxN x nd) := by rcases hth with q | q; exact absurd q hn0; exact q
   obtain ⟨i, hi, hidx0, X, hX, hpar0, hlis0, hkid0⟩ : ∃ i, ∃ hi : i < x.vNodes.length, idxN x nd = (i : Int) ∧ ∃ X, x.vNodes[i] = X ∧ parOf x nd = X.vParent ∧ lisOf x nd = X.vListeners ∧ kidsOfN x nd = X.vKids := by
    rcases idxN_is x nd with ⟨q, _⟩ | ⟨i, hi, q, _, q2⟩
    · have := hnd0.out; omega
    · exact ⟨i, hi, q, _, rfl, by unfold parOf; rw [q2], by unfold lisOf; rw [q2], by unfold kidsOfN; rw [q2]⟩
   have hidx : Hid (idxN x nd = (i : Int)) := hidx0
   have hn0h : Hid (¬ nd = 0) := hn0
   have hXe : Hid (x.vNodes[i] = X) := hX
   have hXm : Hid (X ∈ x.vNodes) := by show X ∈ x.vNodes; rw [← hX]; exact List.getElem_mem hi
   have hpar : Hid (parOf x nd = X.vParent) := hpar0
   have hlis : Hid (lisOf x nd = X.vListeners) := hlis0
   have hkid : Hid (kidsOfN x nd = X.vKids) := hkid0
   obtain ⟨gN, rfl, _⟩ := hZ2.out.hb.hp.posN (show 0 < x.vNodes.length by omega)
   obtain ⟨C, fi, hC, hcell, _⟩ := hZ2.out.hb.node hi
   rw [hX] at hC
   obtain ⟨n3, m3, n5, m5, rfl⟩ := hC.len
   have n0 : Hid (w2.cell? ⟨gN, i * 6, none⟩ = some (.int .i64 X.vId)) := hcell 0 _ rfl
   have n1 : Hid (w2.cell? ⟨gN, i * 6 + 1, none⟩ = some (.string X.vTag)) := hcell 1 _ rfl
   have n2 : Hid (w2.cell? ⟨gN, i * 6 + 2, none⟩ = some (.int .i64 X.vParent)) := hcell 2 _ rfl
   have n3' : Hid (w2.cell? ⟨gN, i * 6 + 3, none⟩ = some (.slice n3 X.vKids.length m3)) := hcell 3 _ rfl
   have n4 : Hid (w2.cell? ⟨gN, i * 6 + 4, none⟩ = some (.int .i64 X.vWrapper)) := hcell 4 _ rfl
   have n5' : Hid (w2.cell? ⟨gN, i * 6 + 5, none⟩ = some (.slice n5 X.vListeners.length m5)) := hcell 5 _ rfl
   have hiI : (i : Int) < (x.vNodes.length : Int) := by omega
   have hi0 : (0 : Int) ≤ (i : Int) := by omega
   clear hth hidx0 hpar0 hlis0 hkid0 hC hcell hX
   rcases Classical.em (ot = 0) with hot0 | hot0
   all_goals
    go_upto_region 5 with fail
    clear o0 hot0
    go_cut [8] (fun s8 wx => ∃ (gx : Nat), s8 = .pointer (some ⟨gx, 0, none⟩) ∧ w2.heap.size ≤ gx ∧ Hid (Below (World.heap w2).size w2 wx) ∧ Hid (Box wx gx (cNd X n3 m3 n5 m5) 73))
    case first =>
     have hkd : Hid (Below (World.heap w2).size w2 (World.drew w2)) := Below.drew (Below.refl _ _)
     refine wp_region_held_drew (S := fun w' => w'.cell? ⟨w.heap.size, 0, none⟩ = some (.int .i64 x.vNext) ∧ w'.cell? ⟨w.heap.size, 1, none⟩ = some (.int .i64 x.vDoc) ∧ w'.cell? ⟨w.heap.size, 2, none⟩ = some (.slice (some ⟨gN, 0, none⟩) x.vNodes.length kN) ∧ w'.cell? ⟨w.heap.size, 3, none⟩ = some (.slice aO x.vObjs.length kO) ∧ w'.cell? ⟨w.heap.size, 4, none⟩ = some (.slice aG x.vGlobals.length kG) ∧ w'.cell? ⟨gN, i * 6, none⟩ = some (.int .i64 X.vId) ∧ w'.cell? ⟨gN, i * 6 + 1, none⟩ = some (.string X.vTag) ∧ w'.cell? ⟨gN, i * 6 + 2, none⟩ = some (.int .i64 X.vParent) ∧ w'.cell? ⟨gN, i * 6 + 3, none⟩ = some (.slice n3 X.vKids.length m3) ∧ w'.cell? ⟨gN, i * 6 + 4, none⟩ = some (.int .i64 X.vWrapper) ∧ w'.cell? ⟨gN, i * 6 + 5, none⟩ = some (.slice n5 X.vListeners.length m5)) (by kernel_rfl) (fv5a hZ2.out.hb.bH ⟨n0.out, n1.out, n2.out, n3'.out, n4.out, n5'.out⟩) (fun hHeld => ?_)
     refine tk 0 ?_
     refine tk 1 ?_
     refine tk 2 ?_
     refine tk 3 ?_
     refine rd2 4 7 (fun K hK => ?_) (fun K hK => ?_)
     · go_simp
       refine (l2Node_any (hZ2.out.below hkd.out).hb.hp.at0).mono ?_
       rintro e u6 ⟨rfl, hb6⟩
       rw [hidx.out]
       have hk1 : Hid (Below (World.heap w2).size w2 u6) := hkd.out.trans (Below.mono hb6 (Below.size hkd.out))
       have lu6 := hb6.size
       clear hb6
       refine hK.out _ _ (fv5a (hZ2.out.below hk1.out).hb.bH ⟨cell_on hk1.out n0.out, cell_on hk1.out n1.out, cell_on hk1.out n2.out, cell_on hk1.out n3'.out, cell_on hk1.out n4.out, cell_on hk1.out n5'.out⟩) (fun hHeld => ?_)
       clear hK K
       refine tk 5 ?_
       refine tk 6 ?_
       refine rd1 7 (fun K hK => ?_)
       go_simp
       have hk2 : Hid (Below (World.heap w2).size w2 (World.alloc u6 (.cells cZn.toArray 73))) := Below.alloc hk1.out (Below.size hk1.out) _
       obtain ⟨EE, hEE⟩ : ∃ EE, u6.heap.size = EE := ⟨_, rfl⟩
       have bX2 : Hid (Box (World.alloc u6 (.cells cZn.toArray 73)) EE cZn 73) := by rw [← hEE]; exact Box.new u6 _ _
       have lE : w2.heap.size ≤ EE := by rw [← hEE]; have := Below.size hk1.out; exact this
       have hEEh : Hid (u6.heap.size = EE) := hEE
       clear hEE
       refine hK.out _ _ (fv5a (hZ2.out.below hk2.out).hb.bH ⟨cell_on hk2.out n0.out, cell_on hk2.out n1.out, cell_on hk2.out n2.out, cell_on hk2.out n3'.out, cell_on hk2.out n4.out, cell_on hk2.out n5'.out⟩) (fun hHeld => ?_)
       clear hK K
       refine rd1 8 (fun K hK => ?_)
       go_simp
       have hkF : Hid (Below (World.heap w2).size w2 (World.alloc u6 (.cells (cNd X n3 m3 n5 m5).toArray 73))) := Below.alloc hk1.out (Below.size hk1.out) _
       refine hK.out _ _ (fv5a (hZ2.out.below hkF.out).hb.bH ⟨cell_on hkF.out n0.out, cell_on hkF.out n1.out, cell_on hkF.out n2.out, cell_on hkF.out n3'.out, cell_on hkF.out n4.out, cell_on hkF.out n5'.out⟩) (fun hHeld => ?_)
       clear hK K
       refine wpAnyH_done (by kernel_rfl) ?_ _
       have eEE := hEEh.out
       have bXF : Hid (Box (World.alloc u6 (.cells (cNd X n3 m3 n5 m5).toArray 73)) EE (cNd X n3 m3 n5 m5) 73) := by rw [← eEE]; exact Box.new u6 _ _
       go_wp2_with fail
       go_meet
       exact ⟨EE, by rw [eEE], lE, hkF, bXF⟩
     · go_simp
       have hk1 : Hid (Below (World.heap w2).size w2 (World.alloc w2.drew (.cells cZn.toArray 73))) := Below.alloc hkd.out (Below.size hkd.out) _
       obtain ⟨EE, hEE⟩ : ∃ EE, w2.heap.size = EE := ⟨_, rfl⟩
       have bX1 : Hid (Box (World.alloc w2.drew (.cells cZn.toArray 73)) EE cZn 73) := by rw [← hEE]; exact Box.new w2.drew _ _
       have lE : w2.heap.size ≤ EE := by rw [← hEE]; have := Below.size hkd.out; exact this
       have hEEh : Hid (w2.heap.size = EE) := hEE
       clear hEE
       refine hK.out _ _ (fv5a (hZ2.out.below hk1.out).hb.bH ⟨cell_on hk1.out n0.out, cell_on hk1.out n1.out, cell_on hk1.out n2.out, cell_on hk1.out n3'.out, cell_on hk1.out n4.out, cell_on hk1.out n5'.out⟩) (fun hHeld => ?_)
       clear hK K
       refine rd1 4 (fun K hK => ?_)
       go_simp
       refine (l2Node_any (hZ2.out.below hk1.out).hb.hp.at0).mono ?_
       rintro e u6 ⟨rfl, hb6⟩
       rw [hidx.out]
       have hk2 : Hid (Below (World.heap w2).size w2 u6) := hk1.out.trans (Below.mono hb6 (Below.size hk1.out))
       have bX2 : Hid (Box u6 EE cZn 73) := Box.below bX1.out hb6 (Box.lt bX1.out)
       have lu6 := hb6.size
       clear hb6
       refine hK.out _ _ (fv5a (hZ2.out.below hk2.out).hb.bH ⟨cell_on hk2.out n0.out, cell_on hk2.out n1.out, cell_on hk2.out n2.out, cell_on hk2.out n3'.out, cell_on hk2.out n4.out, cell_on hk2.out n5'.out⟩) (fun hHeld => ?_)
       clear hK K
       refine tk 5 ?_
       refine tk 6 ?_
       refine rd1 8 (fun K hK => ?_)
       have bE9 := bX2.out
       rw [← hEEh.out] at bE9
       have u0_ := bE9.cell 0 rfl
       have u1_ := bE9.cell 1 rfl
       have u2_ := bE9.cell 2 rfl
       have u3_ := bE9.cell 3 rfl
       have u4_ := bE9.cell 4 rfl
       have u5_ := bE9.cell 5 rfl
       have uf_ := bE9.unfrozen
       go_simp
       have hkF : Hid (Below (World.heap w2).size w2 (putCells u6 w2.heap.size 0 (cNd X n3 m3 n5 m5))) := putCells_below (cNd X n3 m3 n5 m5) _ _ _ _ _ (by have h_ := hEEh.out; omega) hk2.out
       refine hK.out _ _ (fv5a (hZ2.out.below hkF.out).hb.bH ⟨cell_on hkF.out n0.out, cell_on hkF.out n1.out, cell_on hkF.out n2.out, cell_on hkF.out n3'.out, cell_on hkF.out n4.out, cell_on hkF.out n5'.out⟩) (fun hHeld => ?_)
       clear hK K
       refine wpAnyH_done (by kernel_rfl) ?_ _
       have eEE := hEEh.out
       have bXF : Hid (Box (putCells u6 w2.heap.size 0 (cNd X n3 m3 n5 m5)) EE (cNd X n3 m3 n5 m5) 73) := by rw [eEE]; exact ((((((bX2.out.set (i := 0) _).set (i := 1) _).set (i := 2) _).set (i := 3) _).set (i := 4) _).set (i := 5) _)
       go_wp2_with fail
       go_meet
       exact ⟨EE, by rw [eEE], lE, hkF, bXF⟩
    case rest =>
     obtain ⟨gx, rfl, hgx, hbx, bX5⟩ := hcut
     generalize wc = w5 at hbx bX5 ⊢
     have hZ5 : Hid (HX (cOp 11 o) 91 w fs w.heap.size (w.heap.size + 1 + 1) (w.heap.size + 1) w5 (cHp x (some ⟨gN, 0, none⟩) kN aO kO aG kG) x fs) := hZ2.out.below (hbx.out)
     have o0 := hZ5.out.bq.cell 0 rfl
     have hp5 := bX5.out.cell 3 rfl
     rcases Classical.em (X.vKids = []) with hz | hz
     · have htd : Hid (treeOp x o nd ot = (x, 3)) := by show _ = _; unfold treeOp; rw [if_neg (by rw [hkh.out]; have := hn0h.out; omega), if_neg (by rw [hkh.out]; decide), if_neg (by rw [hkh.out]; decide), if_pos hkh.out, hkid.out, hz]
       rw [hz] at hp5
       simp only [List.length_nil] at hp5
       have hZf : Hid _ := hZ5.out.hb
       obtain ⟨d0, d1, d2, d3, d4⟩ := fv5 hZf.out.bH
       obtain ⟨z0, z1, z2, z3, z4⟩ := fv5 hZf.out.bR
       have uz := hZf.out.bR.unfrozen
       go_wp2_with fail
       have bF : Box (putCells w5 (w.heap.size + 1 + 1) 0 (cHp x (some ⟨gN, 0, none⟩) kN aO kO aG kG)) (w.heap.size + 1 + 1) (cHp x (some ⟨gN, 0, none⟩) kN aO kO aG kG) 28 := Box.puts5 hZf.out.bR
       obtain ⟨g0, g1, g2, g3, g4⟩ := fv5 bF
       exact bodyPost_ret (v := .tuple #[.agg (List.toArray (cHp x (some ⟨gN, 0, none⟩) kN aO kO aG kG)), .int .i64 3]) (by simp only [putCells] at g0 g1 g2 g3 g4; simp [results, Tryz.results124, go_sem, g0, g1, g2, g3, g4]) rfl ⟨(cHp x (some ⟨gN, 0, none⟩) kN aO kO aG kG), by rw [htd.out], by rw [htd.out]; exact hZf.out.ret (cHp x (some ⟨gN, 0, none⟩) kN aO kO aG kG)⟩
     · obtain ⟨k, hkm, hk0⟩ : ∃ k, X.vKids = k :: X.vKids.tail ∧ k ∈ X.vKids := by
        cases hq : X.vKids with
        | nil => exact absurd hq hz
        | cons a b => exact ⟨a, rfl, by simp⟩
       have hlp : 0 < X.vKids.length := List.length_pos_of_mem hk0
       have hlI : (0 : Int) < ((X.vKids.length : Nat) : Int) := by omega
       have hlN : ¬ ((X.vKids.length : Nat) : Int) = 0 := by omega
       have hlN2 : ¬ X.vKids.length = 0 := by omega
       obtain ⟨y, hy⟩ : ∃ y, (wrapD x k).1 = y := ⟨_, rfl⟩
       obtain ⟨id, hid0⟩ : ∃ id, (wrapD x k).2 = id := ⟨_, rfl⟩
       have hyh : Hid ((wrapD x k).1 = y) := hy
       have hidh : Hid ((wrapD x k).2 = id) := hid0
       have hid : Hid (InI id) := by show InI id; rw [← hid0]; exact wrap_inI hZ5.out.hb.hp k
       have hki : Hid (0 ≤ idxN x k) := (hR.out.kids X hXm.out).2 k hk0
       have hkI : Hid (InI k) := HeapP.inI hZ5.out.hb.hp hki.out
       have hgy : Hid (y.vGlobals.length ≤ 1000) := by show _ ≤ _; rw [← hy, wrap_globs]; have := hR.out.nG; omega
       have hol : Hid (x.vObjs.length ≤ 1000) := by show _ ≤ _; have := hR.out.nO; omega
       have hnx1 : 0 ≤ x.vNext ∧ x.vNext ≤ 1000000000 := by have := hR.out.next; omega
       have htdh : Hid (treeOp x o nd ot = ({ y with vGlobals := setD y.vGlobals o.vOther id }, 0)) := by show _ = _; unfold treeOp; rw [if_neg (by rw [hkh.out]; have := hn0h.out; omega), if_neg (by rw [hkh.out]; decide), if_neg (by rw [hkh.out]; decide), if_pos hkh.out, hkid.out, hkm]; show _ = _; rw [← hy, ← hid0]
       obtain ⟨_, b3, k3, b5, k5, eg, _, _, _, hc3, _, _, hK0⟩ := hZ5.out.hb.nodeAt hi
       injection eg with eg
       injection eg with eg
       subst eg
       rw [hXe.out] at hc3 hK0
       have hc3' : w5.cell? ⟨gN, i * 6 + 3, none⟩ = some (.slice n3 X.vKids.length m3) := cell_on hbx.out n3'.out
       rw [hc3] at hc3'
       injection hc3' with hc3'
       injection hc3' with e31 e32 e33
       subst e31 e33
       obtain ⟨a', c', e, _, hx⟩ := hK0
       injection e with e1 e2 e3
       subst e1 e3
       obtain ⟨bk, ok, rfl, _, hbk, hc⟩ := hx hlp
       obtain ⟨cs, _, lie, rfl, hkI0⟩ := hc 0 hlp
       have l0 := lie 0 (by simp)
       have hk00 : X.vKids[0] = k := Option.some.inj (by rw [← List.getElem?_eq_getElem hlp, hkm]; rfl)
       rw [hk00] at l0
       simp only [List.getElem?_cons_zero, Nat.add_zero, Nat.mul_one] at l0
       have lk0 : Hid (w5.drew.cell? ⟨bk, ok, none⟩ = some (.int .i64 k)) := l0
       have hfl : Hid (∀ b ∈ fs, b < w5.heap.size) := fun b hb => hZ5.out.hb.hp.lt b hb
       have hgxn : Hid (gx ∉ fs) := fun q => by have h1 := hZ2.out.hb.hp.lt _ q; omega
       have hw5 : Hid (w.heap.size ≤ w5.heap.size) := hZ5.out.hb.out.2.2.2.1
       have hbx5l : Hid (gx < w5.heap.size) := bX5.out.lt
       clear hy hid0 hc3 hc hx lie hkI0 l0 hk00 hk0 hz hkm
       go_upto_region 19 with fail
       clear hp5
       go_cut [9, 10] (fun s9 s10 wx => ∃ (EE : Nat) (aN6 : Option Addr) (kN6 : Nat) (aO6 : Option Addr) (kO6 : Nat) (aG6 : Option Addr) (kG6 : Nat) (fs7 : List Nat), s9 = .pointer (some ⟨EE, 0, none⟩) ∧ s10 = .int .i64 id ∧ Hid (HX (cOp 11 o) 91 w fs EE (w.heap.size + 1 + 1) (w.heap.size + 1) wx (cHp y aN6 kN6 aO6 kO6 aG6 kG6) y fs7))
       case first =>
        have hY0 : Hid (HX (cOp 11 o) 91 w fs w.heap.size (w.heap.size + 1 + 1) (w.heap.size + 1) w5.drew (cHp x (some ⟨gN, 0, none⟩) kN aO kO aG kG) x fs) := hZ5.out.below (Below.drew (Below.refl _ _))
        have bx0 : Hid (Box w5.drew gx (cNd X (some ⟨bk, ok, none⟩) k3 n5 m5) 73) := bX5.out.below (Below.drew (Below.refl _ _)) bX5.out.lt
        refine wp_region_held_drew (S := fun w' => w'.cell? ⟨w.heap.size, 0, none⟩ = some (.int .i64 x.vNext) ∧ w'.cell? ⟨w.heap.size, 1, none⟩ = some (.int .i64 x.vDoc) ∧ w'.cell? ⟨w.heap.size, 2, none⟩ = some (.slice (some ⟨gN, 0, none⟩) x.vNodes.length kN) ∧ w'.cell? ⟨w.heap.size, 3, none⟩ = some (.slice aO x.vObjs.length kO) ∧ w'.cell? ⟨w.heap.size, 4, none⟩ = some (.slice aG x.vGlobals.length kG) ∧ w'.cell? ⟨gx, 3, none⟩ = some (.slice (some ⟨bk, ok, none⟩) X.vKids.length k3)) (by kernel_rfl) (fv5a hY0.out.hb.bH (bx0.out.cell 3 rfl)) (fun hHeld => ?_)
        refine tk 0 ?_
        refine tk 1 ?_
        refine tk 2 ?_
        refine tk 3 ?_
        refine rd2 4 9 (fun K hK => ?_) (fun K hK => ?_)
        · have ldc : w5.cell? ⟨bk, ok, none⟩ = some (.int .i64 k) := lk0.out
          go_simp
          clear ldc
          refine hK.out _ _ hHeld (fun hHeld => ?_)
          clear hK K
          refine rd2 5 9 (fun K hK => ?_) (fun K hK => ?_)
          · go_simp
            refine (l4Wrap_any hY0.out.hb.hp ⟨hnx1.1, by omega⟩ hol.out hkI.out hki.out).mono ?_
            rintro e u6 ⟨cs6, rfl, hr6⟩
            rw [hidh.out]
            rw [hyh.out] at hr6
            obtain ⟨aN6, kN6, aO6, kO6, aG6, kG6, rfl⟩ := hr6.form
            have hr6h : Hid (HR w5.drew fs u6 (cHp y aN6 kN6 aO6 kO6 aG6 kG6) y) := hr6
            have hgo := hY0.out.gone hr6
            have bH6 : Hid (Box u6 w.heap.size (cHp x (some ⟨gN, 0, none⟩) kN aO kO aG kG) 28) := hgo.1
            have bx6 : Hid (Box u6 gx (cNd X (some ⟨bk, ok, none⟩) k3 n5 m5) 73) := hgo.2.2.2 bx0.out hgxn.out
            clear hgo hr6
            refine hK.out _ _ (fv5a bH6.out (bx6.out.cell 3 rfl)) (fun hHeld => ?_)
            clear hK K
            refine tk 6 ?_
            refine tk 7 ?_
            refine tk 8 ?_
            refine rd1 9 (fun K hK => ?_)
            go_simp
            have bH7 : Hid (Box (World.alloc u6 (.cells cZp.toArray 28)) w.heap.size (cHp x (some ⟨gN, 0, none⟩) kN aO kO aG kG) 28) := bH6.out.alloc _
            have bx7 : Hid (Box (World.alloc u6 (.cells cZp.toArray 28)) gx (cNd X (some ⟨bk, ok, none⟩) k3 n5 m5) 73) := bx6.out.alloc _
            refine hK.out _ _ (fv5a bH7.out (bx7.out.cell 3 rfl)) (fun hHeld => ?_)
            clear hK K
            refine rd1 10 (fun K hK => ?_)
            go_simp
            obtain ⟨fs7, hz7⟩ := hY0.out.nextNew hr6h.out
            have hZ7 : Hid (HX (cOp 11 o) 91 w fs (World.heap u6).size (w.heap.size + 1 + 1) (w.heap.size + 1) (World.alloc u6 (.cells (cHp y aN6 kN6 aO6 kO6 aG6 kG6).toArray 28)) (cHp y aN6 kN6 aO6 kO6 aG6 kG6) y fs7) := hz7
            have bH8 : Hid (Box (World.alloc u6 (.cells (cHp y aN6 kN6 aO6 kO6 aG6 kG6).toArray 28)) w.heap.size (cHp x (some ⟨gN, 0, none⟩) kN aO kO aG kG) 28) := bH6.out.alloc _
            have bx8 : Hid (Box (World.alloc u6 (.cells (cHp y aN6 kN6 aO6 kO6 aG6 kG6).toArray 28)) gx (cNd X (some ⟨bk, ok, none⟩) k3 n5 m5) 73) := bx6.out.alloc _
            clear hz7
            refine hK.out _ _ (fv5a bH8.out (bx8.out.cell 3 rfl)) (fun hHeld => ?_)
            clear hK K
            refine tk 11 ?_
            refine wpAnyH_done (by kernel_rfl) ?_ _
            go_wp2_with fail
            go_meet
            exact ⟨(World.heap u6).size, aN6, kN6, aO6, kO6, aG6, kG6, fs7, rfl, rfl, hZ7⟩
          · go_simp
            have hbu : Below (World.heap w5.drew).size w5.drew (World.alloc w5.drew (.cells cZp.toArray 28)) := (Below.refl _ _).alloc (Nat.le_refl _) _
            have hY1 : Hid (HX (cOp 11 o) 91 w fs w.heap.size (w.heap.size + 1 + 1) (w.heap.size + 1) (World.alloc w5.drew (.cells cZp.toArray 28)) (cHp x (some ⟨gN, 0, none⟩) kN aO kO aG kG) x fs) := hY0.out.below hbu
            have bx1 : Hid (Box (World.alloc w5.drew (.cells cZp.toArray 28)) gx (cNd X (some ⟨bk, ok, none⟩) k3 n5 m5) 73) := bx0.out.below hbu bx0.out.lt
            have hk1 : Hid (World.cell? (World.alloc w5.drew (.cells cZp.toArray 28)) ⟨bk, ok, none⟩ = some (.int .i64 k)) := cell_on hbu lk0.out
            obtain ⟨EE, hEE⟩ : ∃ EE, w5.heap.size = EE := ⟨_, rfl⟩
            have bE1 : Hid (Box (World.alloc w5.drew (.cells cZp.toArray 28)) EE cZp 28) := by rw [← hEE]; exact Box.new w5.drew _ _
            have lE : w5.heap.size ≤ EE := by rw [← hEE]; exact Nat.le_refl _
            have hEEh : Hid (w5.heap.size = EE) := hEE
            clear hbu hEE
            refine hK.out _ _ (fv5a hY1.out.hb.bH (bx1.out.cell 3 rfl)) (fun hHeld => ?_)
            clear hK K
            refine rd1 5 (fun K hK => ?_)
            go_simp
            refine (l4Wrap_any hY1.out.hb.hp ⟨hnx1.1, by omega⟩ hol.out hkI.out hki.out).mono ?_
            rintro e u6 ⟨cs6, rfl, hr6⟩
            rw [hidh.out]
            rw [hyh.out] at hr6
            obtain ⟨aN6, kN6, aO6, kO6, aG6, kG6, rfl⟩ := hr6.form
            have hr6h : Hid (HR (World.alloc w5.drew (.cells cZp.toArray 28)) fs u6 (cHp y aN6 kN6 aO6 kO6 aG6 kG6) y) := hr6
            have hgo := hY1.out.gone hr6
            have bH6 : Hid (Box u6 w.heap.size (cHp x (some ⟨gN, 0, none⟩) kN aO kO aG kG) 28) := hgo.1
            have bx6 : Hid (Box u6 gx (cNd X (some ⟨bk, ok, none⟩) k3 n5 m5) 73) := hgo.2.2.2 bx1.out hgxn.out
            have bE6 : Hid (Box u6 EE cZp 28) := hgo.2.2.2 bE1.out (fun q => by have h1 := hfl.out _ q; have h2 := lE; omega)
            clear hgo hr6
            refine hK.out _ _ (fv5a bH6.out (bx6.out.cell 3 rfl)) (fun hHeld => ?_)
            clear hK K
            refine tk 6 ?_
            refine tk 7 ?_
            refine tk 8 ?_
            refine rd1 10 (fun K hK => ?_)
            have bE9 := bE6.out
            rw [← hEEh.out] at bE9
            have u0_ := bE9.cell 0 rfl
            have u1_ := bE9.cell 1 rfl
            have u2_ := bE9.cell 2 rfl
            have u3_ := bE9.cell 3 rfl
            have u4_ := bE9.cell 4 rfl
            have uf_ := bE9.unfrozen
            go_simp
            obtain ⟨fs7, hz7⟩ := hY1.out.nextPut hr6h.out bE6.out rfl (by have h1 := hw5.out; omega) ⟨fun q => by have h2 := hZ5.out.hb.bR.lt; omega, fun q => by have h2 := hZ5.out.bq.lt; omega⟩ (fun q => by have h1 := hfl.out _ q; omega) (bE1.out.lt)
            have hZ7 : Hid (HX (cOp 11 o) 91 w fs EE (w.heap.size + 1 + 1) (w.heap.size + 1) (putCells u6 w5.heap.size 0 (cHp y aN6 kN6 aO6 kO6 aG6 kG6)) (cHp y aN6 kN6 aO6 kO6 aG6 kG6) y fs7) := by rw [hEEh.out]; exact hz7
            have bH8 : Hid (Box (putCells u6 w5.heap.size 0 (cHp y aN6 kN6 aO6 kO6 aG6 kG6)) w.heap.size (cHp x (some ⟨gN, 0, none⟩) kN aO kO aG kG) 28) := Box.puts_other bH6.out (by have h2 := hZ5.out.hb.bH.lt; have h3 := hEEh.out; omega) _
            have bx8 : Hid (Box (putCells u6 w5.heap.size 0 (cHp y aN6 kN6 aO6 kO6 aG6 kG6)) gx (cNd X (some ⟨bk, ok, none⟩) k3 n5 m5) 73) := Box.puts_other bx6.out (by have h2 := hbx5l.out; have h3 := hEEh.out; omega) _
            clear hz7
            refine hK.out _ _ (fv5a bH8.out (bx8.out.cell 3 rfl)) (fun hHeld => ?_)
            clear hK K
            refine tk 11 ?_
            refine wpAnyH_done (by kernel_rfl) ?_ _
            have eEE := hEEh.out
            rw [eEE] at hZ7
            simp only [putCells] at hZ7
            go_wp2_with fail
            go_meet
            exact ⟨EE, aN6, kN6, aO6, kO6, aG6, kG6, fs7, by first | rfl | rw [eEE], rfl, hZ7⟩
        · go_simp
          have hbu : Below (World.heap w5.drew).size w5.drew (World.alloc w5.drew (.cells cZp.toArray 28)) := (Below.refl _ _).alloc (Nat.le_refl _) _
          have hY1 : Hid (HX (cOp 11 o) 91 w fs w.heap.size (w.heap.size + 1 + 1) (w.heap.size + 1) (World.alloc w5.drew (.cells cZp.toArray 28)) (cHp x (some ⟨gN, 0, none⟩) kN aO kO aG kG) x fs) := hY0.out.below hbu
          have bx1 : Hid (Box (World.alloc w5.drew (.cells cZp.toArray 28)) gx (cNd X (some ⟨bk, ok, none⟩) k3 n5 m5) 73) := bx0.out.below hbu bx0.out.lt
          have hk1 : Hid (World.cell? (World.alloc w5.drew (.cells cZp.toArray 28)) ⟨bk, ok, none⟩ = some (.int .i64 k)) := cell_on hbu lk0.out
          obtain ⟨EE, hEE⟩ : ∃ EE, w5.heap.size = EE := ⟨_, rfl⟩
          have bE1 : Hid (Box (World.alloc w5.drew (.cells cZp.toArray 28)) EE cZp 28) := by rw [← hEE]; exact Box.new w5.drew _ _
          have lE : w5.heap.size ≤ EE := by rw [← hEE]; exact Nat.le_refl _
          have hEEh : Hid (w5.heap.size = EE) := hEE
          clear hbu hEE
          refine hK.out _ _ (fv5a hY1.out.hb.bH (bx1.out.cell 3 rfl)) (fun hHeld => ?_)
          clear hK K
          refine rd1 4 (fun K hK => ?_)
          have ldc : w5.cell? ⟨bk, ok, none⟩ = some (.int .i64 k) := lk0.out
          go_simp
          clear ldc
          refine hK.out _ _ hHeld (fun hHeld => ?_)
          clear hK K
          refine rd1 5 (fun K hK => ?_)
          go_simp
          refine (l4Wrap_any hY1.out.hb.hp ⟨hnx1.1, by omega⟩ hol.out hkI.out hki.out).mono ?_
          rintro e u6 ⟨cs6, rfl, hr6⟩
          rw [hidh.out]
          rw [hyh.out] at hr6
          obtain ⟨aN6, kN6, aO6, kO6, aG6, kG6, rfl⟩ := hr6.form
          have hr6h : Hid (HR (World.alloc w5.drew (.cells cZp.toArray 28)) fs u6 (cHp y aN6 kN6 aO6 kO6 aG6 kG6) y) := hr6
          have hgo := hY1.out.gone hr6
          have bH6 : Hid (Box u6 w.heap.size (cHp x (some ⟨gN, 0, none⟩) kN aO kO aG kG) 28) := hgo.1
          have bx6 : Hid (Box u6 gx (cNd X (some ⟨bk, ok, none⟩) k3 n5 m5) 73) := hgo.2.2.2 bx1.out hgxn.out
          have bE6 : Hid (Box u6 EE cZp 28) := hgo.2.2.2 bE1.out (fun q => by have h1 := hfl.out _ q; have h2 := lE; omega)
          clear hgo hr6
          refine hK.out _ _ (fv5a bH6.out (bx6.out.cell 3 rfl)) (fun hHeld => ?_)
          clear hK K
          refine tk 6 ?_
          refine tk 7 ?_
          refine tk 8 ?_
          refine rd1 10 (fun K hK => ?_)
          have bE9 := bE6.out
          rw [← hEEh.out] at bE9
          have u0_ := bE9.cell 0 rfl
          have u1_ := bE9.cell 1 rfl
          have u2_ := bE9.cell 2 rfl
          have u3_ := bE9.cell 3 rfl
          have u4_ := bE9.cell 4 rfl
          have uf_ := bE9.unfrozen
          go_simp
          obtain ⟨fs7, hz7⟩ := hY1.out.nextPut hr6h.out bE6.out rfl (by have h1 := hw5.out; omega) ⟨fun q => by have h2 := hZ5.out.hb.bR.lt; omega, fun q => by have h2 := hZ5.out.bq.lt; omega⟩ (fun q => by have h1 := hfl.out _ q; omega) (bE1.out.lt)
          have hZ7 : Hid (HX (cOp 11 o) 91 w fs EE (w.heap.size + 1 + 1) (w.heap.size + 1) (putCells u6 w5.heap.size 0 (cHp y aN6 kN6 aO6 kO6 aG6 kG6)) (cHp y aN6 kN6 aO6 kO6 aG6 kG6) y fs7) := by rw [hEEh.out]; exact hz7
          have bH8 : Hid (Box (putCells u6 w5.heap.size 0 (cHp y aN6 kN6 aO6 kO6 aG6 kG6)) w.heap.size (cHp x (some ⟨gN, 0, none⟩) kN aO kO aG kG) 28) := Box.puts_other bH6.out (by have h2 := hZ5.out.hb.bH.lt; have h3 := hEEh.out; omega) _
          have bx8 : Hid (Box (putCells u6 w5.heap.size 0 (cHp y aN6 kN6 aO6 kO6 aG6 kG6)) gx (cNd X (some ⟨bk, ok, none⟩) k3 n5 m5) 73) := Box.puts_other bx6.out (by have h2 := hbx5l.out; have h3 := hEEh.out; omega) _
          clear hz7
          refine hK.out _ _ (fv5a bH8.out (bx8.out.cell 3 rfl)) (fun hHeld => ?_)
          clear hK K
          refine tk 11 ?_
          refine wpAnyH_done (by kernel_rfl) ?_ _
          have eEE := hEEh.out
          rw [eEE] at hZ7
          simp only [putCells] at hZ7
          go_wp2_with fail
          go_meet
          exact ⟨EE, aN6, kN6, aO6, kO6, aG6, kG6, fs7, by first | rfl | rw [eEE], rfl, hZ7⟩
       case rest =>
        obtain ⟨EE, aN6, kN6, aO6, kO6, aG6, kG6, fs7, rfl, rfl, hZ7⟩ := hcut
        generalize wc = w7 at hZ7 ⊢
        have d4 := hZ7.out.hb.bH.cell 4 rfl
        have o2 := hZ7.out.bq.cell 2 rfl
        go_wp2_with fail
        refine (l4Set_any hZ7.out.hb.hp.globs hgy.out hfh.out.2.1 hid.out).mono ?_
        rintro e w9 ⟨⟨v9, f9, rfl, hs9, hn9, hl9⟩, hb9⟩
        obtain ⟨aG9, kG9, rfl⟩ := hs9.form
        obtain ⟨fs9, hp9, hsub9⟩ := hZ7.out.hb.hp.glob (w1 := w9) (fun b hb => hb9.block b (hZ7.out.hb.hp.lt b hb)) hs9 hn9 hl9
        have hZ9 : Hid (HX (cOp 11 o) 91 w fs EE (w.heap.size + 1 + 1) (w.heap.size + 1) (w9.setCell ⟨EE, 4, none⟩ (.slice aG9 (setD y.vGlobals o.vOther id).length kG9)) [.int .i64 y.vNext, .int .i64 y.vDoc, .slice aN6 y.vNodes.length kN6, .slice aO6 y.vObjs.length kO6, .slice aG9 (setD y.vGlobals o.vOther id).length kG9] { y with vGlobals := setD y.vGlobals o.vOther id } fs9) := hZ7.out.store hp9 hsub9 (Out.of_below hb9) rfl
        have bg9 := (hZ7.out.hb.below hb9).bH.cell 4 rfl
        have uf9 := (hZ7.out.hb.below hb9).bH.unfrozen
        clear d4 o2 hs9 hn9 hl9 hb9 hp9 hsub9
        go_upto_region 21 with fail
        clear bg9 uf9
        generalize (w9.setCell ⟨EE, 4, none⟩ (.slice aG9 (setD y.vGlobals o.vOther id).length kG9)) = wz at hZ9 ⊢
        have hZf : Hid _ := hZ9.out.hb
        obtain ⟨d0, d1, d2, d3, d4⟩ := fv5 hZf.out.bH
        obtain ⟨z0, z1, z2, z3, z4⟩ := fv5 hZf.out.bR
        have uz := hZf.out.bR.unfrozen
        go_wp2_with fail
        have bF : Box (putCells wz (w.heap.size + 1 + 1) 0 [.int .i64 y.vNext, .int .i64 y.vDoc, .slice aN6 y.vNodes.length kN6, .slice aO6 y.vObjs.length kO6, .slice aG9 (setD y.vGlobals o.vOther id).length kG9]) (w.heap.size + 1 + 1) [.int .i64 y.vNext, .int .i64 y.vDoc, .slice aN6 y.vNodes.length kN6, .slice aO6 y.vObjs.length kO6, .slice aG9 (setD y.vGlobals o.vOther id).length kG9] 28 := Box.puts5 hZf.out.bR
        obtain ⟨g0, g1, g2, g3, g4⟩ := fv5 bF
        exact bodyPost_ret (v := .tuple #[.agg (List.toArray [.int .i64 y.vNext, .int .i64 y.vDoc, .slice aN6 y.vNodes.length kN6, .slice aO6 y.vObjs.length kO6, .slice aG9 (setD y.vGlobals o.vOther id).length kG9]), .int .i64 0]) (by simp only [putCells] at g0 g1 g2 g3 g4; simp [results, Tryz.results124, go_sem, g0, g1, g2, g3, g4]) rfl ⟨[.int .i64 y.vNext, .int .i64 y.vDoc, .slice aN6 y.vNodes.length kN6, .slice aO6 y.vObjs.length kO6, .slice aG9 (setD y.vGlobals o.vOther id).length kG9], by rw [htdh.out], by rw [htdh.out]; exact hZf.out.ret [.int .i64 y.vNext, .int .i64 y.vDoc, .slice aN6 y.vNodes.length kN6, .slice aO6 y.vObjs.length kO6, .slice aG9 (setD y.vGlobals o.vOther id).length kG9]⟩
end K11
end Go.Proofs.YtdnembnlomnceaaGreat
namespace Go.Proofs.YtdnembnlomnceaaGreat
open Go.RowKit Go.Deep
theorem lis_flat {w : World} {v : Value} {xs : List ListenerD} {bss : List (List Nat)} {css : List (List Value)} (h : GrowOwn 89 5 ListenerOwn 0 w v xs bss css) : bss.flatten = [] := by
 obtain ⟨h1, h2, h3, h4, h5, h6, h7⟩ := h
 refine List.flatten_eq_nil_iff.2 fun l hl => ?_
 obtain ⟨i, hi, rfl⟩ := List.getElem_of_mem hl
 have := h5 i (by omega) (by omega) hi
 exact this.2.2.2.2
theorem HB.listen {w W : World} {fs fs' : List Nat} {g r : Nat} {k0 k1 vO vG : Value} {gN nl cap : Nat} {y : HeapD} (h : HB w fs g r W [k0, k1, .slice (some ⟨gN, 0, none⟩) nl cap, vO, vG] y fs') {i : Nat} (hi : i < y.vNodes.length) {k5 : Value} (h5 : W.cell? ⟨gN, i * 6 + 5, none⟩ = some k5) :
 ∃ (bL : List (List Nat)) (cL : List (List Value)), GrowOwn 89 5 ListenerOwn 0 W k5 y.vNodes[i].vListeners bL cL ∧ (∀ b, k5.ownBlock = some b → b ∈ fs' ∧ b ≠ gN) ∧
  ∀ (w3 : World) (gL m cp : Nat) (c3 : List (List Value)) (l : ListenerD), GrowOwn 89 5 ListenerOwn 0 w3 (.slice (some ⟨gL, 0, none⟩) m cp) (y.vNodes[i].vListeners ++ [l]) (bL ++ [[]]) c3 → W.grownBy w3 k5.ownBlock → (k5.ownBlock = some gL ∨ gL = W.heap.size) →
   ∃ fs1, HB w fs g r (w3.setCell ⟨gN, i * 6 + 5, none⟩ (.slice (some ⟨gL, 0, none⟩) m cp)) [k0, k1, .slice (some ⟨gN, 0, none⟩) nl cap, vO, vG] { y with vNodes := y.vNodes.set i { y.vNodes[i] with vListeners := y.vNodes[i].vListeners ++ [l] } } fs1 := by
 have hlt := h.hp.lt
 obtain ⟨C, fi, h1, h2, h3, h4, hnd, h6⟩ := h.hp.node hi
 have h1' := h1
 obtain ⟨q3, q5, f3, bL, cL, rfl, hK, hL, _⟩ := h1'
 have e5 : q5 = k5 := by have := h2 5 q5 rfl; rw [h5] at this; injection this with this; exact this.symm
 subst e5
 rename_i hfi
 have hown : ∀ b, q5.ownBlock = some b → b ∈ fi := fun b hb => by
  obtain ⟨_, _, _, _, hfs⟩ := hfi
  rw [hfs]; exact List.mem_append_right _ (List.mem_append_left _ (mem_own.2 hb))
 refine ⟨bL, cL, hL, fun b hb => h3 b (hown b hb), fun w3 gL m cp c3 l hg3 hgr hat => ?_⟩
 have hz := hgr.size
 obtain ⟨fi', hC', hn', hs'⟩ := h1.lis (w1 := w3) hnd (k5 := q5) (bL := bL) (cL := cL) rfl (fun b hb hne => hgr.block b (hlt b (h3 b hb).1) (fun e => hne e.symm)) hg3 (by simp [lis_flat hL]) (fun b hb => by
  injection hb with hb
  subst hb
  rcases hat with q | q
  · exact Or.inl q
  · exact Or.inr (by show W.heap.size ≤ gL; omega)) ⟨rfl, rfl⟩
 obtain ⟨fs1, q1, q2⟩ := h6 w3 5 _ _ fi' (by decide) hz (fun b hb hn => hgr.block b (hlt b hb) (fun e => hn (hown b e.symm))) hC' hn' hs'
 exact ⟨fs1, h.inner q1 q2 (Out.set ⟨hgr.os, hgr.tape, hgr.output, hz, fun b hb hn => hgr.block b hb (fun e => hn (h3 b (hown b e.symm)).1)⟩ h4 _)⟩
theorem HX.listen {ds : List Value} {T q : Nat} {w W : World} {fs fs' : List Nat} {g r : Nat} {k0 k1 vO vG : Value} {gN nl cap : Nat} {y : HeapD} (h : HX ds T w fs g r q W [k0, k1, .slice (some ⟨gN, 0, none⟩) nl cap, vO, vG] y fs') {i : Nat} (hi : i < y.vNodes.length) {k5 : Value} (h5 : W.cell? ⟨gN, i * 6 + 5, none⟩ = some k5) :
 ∃ (bL : List (List Nat)) (cL : List (List Value)), GrowOwn 89 5 ListenerOwn 0 W k5 y.vNodes[i].vListeners bL cL ∧ (∀ b, k5.ownBlock = some b → b ∈ fs' ∧ b ≠ gN ∧ b ≠ g) ∧
  ∀ (w3 : World) (gL m cp : Nat) (c3 : List (List Value)) (l : ListenerD), GrowOwn 89 5 ListenerOwn 0 w3 (.slice (some ⟨gL, 0, none⟩) m cp) (y.vNodes[i].vListeners ++ [l]) (bL ++ [[]]) c3 → W.grownBy w3 k5.ownBlock → (k5.ownBlock = some gL ∨ gL = W.heap.size) →
   ∃ fs1, HB w fs g r (w3.setCell ⟨gN, i * 6 + 5, none⟩ (.slice (some ⟨gL, 0, none⟩) m cp)) [k0, k1, .slice (some ⟨gN, 0, none⟩) nl cap, vO, vG] { y with vNodes := y.vNodes.set i { y.vNodes[i] with vListeners := y.vNodes[i].vListeners ++ [l] } } fs1 := by
 obtain ⟨bL, cL, h1, h2, h3⟩ := h.hb.listen hi h5
 exact ⟨bL, cL, h1, fun b hb => ⟨(h2 b hb).1, (h2 b hb).2, (h.hb.sub b (h2 b hb).1).2.1⟩, h3⟩
theorem HeapP.boxN {w : World} {k0 k1 vO vG : Value} {gN n kN : Nat} {x : HeapD} {fs : List Nat} (h : HeapP w [k0, k1, .slice (some ⟨gN, 0, none⟩) n kN, vO, vG] x fs) : ∃ cur, Box w gN cur 73 := by
 obtain ⟨vN', vO', vG', bN, bO, cN, cO, fG, e, hN, hO, hG, i1, i2, rfl, nd⟩ := h
 simp only [List.cons.injEq, and_true] at e
 obtain ⟨rfl, rfl, rfl, rfl, rfl⟩ := e
 rcases hN.2.2.2.1.2 with ⟨q, _⟩ | ⟨g, cap, cur, q, _, hh, _⟩
 · cases q
 · injection q with q1 q2 q3
   injection q1 with q1
   injection q1 with q1
   subst q1
   exact ⟨cur.toList, by unfold Box; simpa using hh⟩
/-- a record more behind a row that has room or is none, as an operation of a region that draws -/
theorem step_append_own {P : Program} {w : World} {ops : Array Oper} {o : Oper} {a : Act} {K : Act → World → Prop} {Q : Exit → Act → World → Prop} {E : Prop} {c : Nat} (hgd : o.guard = none) (s x : Operand) (t : TypeId)
 (ho : o.op = .call { callee := .builtin .append, args := #[s, x], argTypes := #[t, t] }) (base : Nat) (e : TypeId) (i : TypeInfo) (z : Value) (bytes : Nat) (ht : P.underlying t = some (.slice e)) (hi : P.info? e = some i) (hz : i.zero = some z) (hsize : i.size = c) (hby : i.bytes = bytes) (hzs : z.cells.size = c) (hc : 0 < c)
 (v : Value) (n : Nat) (ys : List Value) (hs : a.eval s = v) (hown : w.ownsRow base e c v n ys) (ad : Addr) (kc : Nat) (cs : List Value) (hx : a.eval x = .slice (some ad) 1 kc) (hl : cs.length = c) (hk : ∀ j u, cs[j]? = some u → w.cell? (ad.add j) = some u) (hone : ∀ u ∈ cs, u.oneCell' = true) (hm : n + 1 ≤ maxLen) (hbytes : (n + 1) * bytes ≤ 140737488355328) (hbase : base ≤ w.heap.size)
 (h : ∀ g cap w', w'.ownsRow base e c (.slice (some ⟨g, 0, none⟩) (n + 1) cap) (n + 1) (ys ++ cs) → w.grownBy w' v.ownBlock → (v.ownBlock = some g ∨ g = w.heap.size) → K (a.put o.dst (.slice (some ⟨g, 0, none⟩) (n + 1) cap)) w') : if Region.wanted o (yielded ops a.tmps) = true then Oper.wp P o a w K Q else E := by
 have hw : Region.wanted o (yielded ops a.tmps) = true := by simp [Region.wanted, hgd]
 rw [if_pos hw]
 obtain ⟨v', w', hr, h1, h2, h3, h4⟩ := run_append_own_at (P := P) w base t o.type e i z c bytes ht hi hz hsize hby hzs hc v n ys hown ad 1 kc cs (by rw [hl, Nat.one_mul]) hk hone hm hbytes hbase
 unfold Oper.wp execOp
 simp only [ho, resolve, invoke, builtin, Sem.run_bind, Sem.run_pure, Result.andThen_ok, List.map_toArray, List.map_cons, List.map_nil, hs, hx, hr]
 have h1' := h1
 rcases h1'.2 with ⟨_, q⟩ | ⟨g, cap, cur, rfl, _⟩
 · omega
 · refine h g cap w' h1 h2 ?_
   rcases h4 with q | q
   · exact Or.inl q.symm
   · right; simpa [Value.ownBlock] using q
end Go.Proofs.YtdnembnlomnceaaGreat
namespace Go.Proofs.YtdnembnlomnceaaGreat
open Go.RowKit Go.Deep
namespace K12
theorem infoLisP : ((Tryz.prog.info? 89).map fun i => (i.zero, i.size, i.bytes)) = some (some (.agg #[.string ByteArray.empty, .bool false, .bool false, .int .i64 0, .string ByteArray.empty]), 5, 48) := by kernel_rfl
theorem HeapP.inI {w : World} {cs : List Value} {x : HeapD} {fs : List Nat} (h : HeapP w cs x fs) {id : Int} (e : 0 ≤ idxN x id) : InI id := by
 rcases idxN_is x id with ⟨q, _⟩ | ⟨i, hi, _, q, _⟩
 · omega
 · obtain ⟨vN, vO, vG, bN, bO, cN, cO, fG, e, hN, _⟩ := h
   obtain ⟨h1, h2, h3, h4, h5, h6, h7⟩ := hN
   obtain ⟨_, _, _, _, _, _, _, _, r, _⟩ := h5 i hi (by omega) (by omega)
   rw [← q]; exact r
theorem there_of {x : HeapD} {id : Int} (e : 0 ≤ idxN x id) : (nodeAt x id).isSome = true := by
 rcases idxN_is x id with ⟨q, _⟩ | ⟨i, hi, _, _, q⟩
 · omega
 · rw [q]; rfl
set_option maxRecDepth 100000 in
set_option maxHeartbeats 8000000 in
theorem l4Tree12_any {w : World} {cs : List Value} {x : HeapD} {fs : List Nat} {o : OpD} (hp : HeapP w cs x fs) (hf : o.fits) (hs : specB x = true) (hk : o.vKind = 12) (hst : InI o.vStop) :
 Calls Tryz.prog 124 #[.agg cs.toArray, .agg o.cells.toArray] w fun e w' => ∃ cs', e = .returned (.tuple #[.agg cs'.toArray, .int .i64 (treeD x o).2]) ∧ HR w fs w' cs' (treeD x o).1 := by
 obtain ⟨aN, kN, aO, kO, aG, kG, rfl⟩ := hp.form
 have hR : Hid (RightH x) := right_of hs
 have hsh : Hid (specB x = true) := hs
 have hZ0 : Hid (HX (cOp 12 o) 91 w fs w.heap.size (w.heap.size + 1 + 1) (w.heap.size + 1) (((w.alloc (.cells (cHp x aN kN aO kO aG kG).toArray 28)).alloc (.cells (cOp 12 o).toArray 91)).alloc (.cells cZp.toArray 28)) (cHp x aN kN aO kO aG kG) x fs) := HX.start hp
 unfold OpD.cells treeD
 rw [hk]
 have hkh : Hid (o.vKind = 12) := hk
 have hfh : Hid o.fits := hf
 have hsth : Hid (InI o.vStop) := hst
 obtain ⟨iL, hiL0, heL0, heL1, heL2⟩ := info_partsP infoLisP
 have hiL : Hid (Tryz.prog.info? 89 = some iL) := hiL0
 have heL : Hid (iL.zero = some (.agg #[.string ByteArray.empty, .bool false, .bool false, .int .i64 0, .string ByteArray.empty]) ∧ iL.size = 5 ∧ iL.bytes = 48) := ⟨heL0, heL1, heL2⟩
 clear hiL0 heL0 heL1 heL2 hst
 obtain ⟨nd, hnd⟩ : ∃ nd, wrappedR x o.vName = nd := ⟨_, rfl⟩
 have hth : nd = 0 ∨ 0 ≤ idxN x nd := by rw [← hnd]; exact wrapped_there hR.out _
 obtain ⟨ot, hot⟩ : ∃ ot, wrappedR x o.vOther = ot := ⟨_, rfl⟩
 have hoh : Hid (ot = 0 ∨ 0 ≤ idxN x ot) := by rw [← hot]; exact wrapped_there hR.out _
 have hndh : Hid (wrappedR x o.vName = nd) := hnd
 have hoth : Hid (wrappedR x o.vOther = ot) := hot
 rw [hnd, hot]
 clear hnd hot
 clear hk hp hf hs
 obtain ⟨d0, d1, d2, d3, d4⟩ := fv5 hZ0.out.hb.bH
 have o1 := hZ0.out.bq.cell 1 rfl
 go_enter Tryz.func124, Tryz.ntmps124
 go_wp2_with fail
 refine (l2Wrapped_any hZ0.out.hb.hp.at0).mono ?_
 rintro e w1 ⟨rfl, hb1⟩
 rw [hndh.out]
 have hZ1 : Hid _ := hZ0.out.below hb1
 clear hb1 hZ0 d0 d1 d2 d3 d4 o1
 obtain ⟨d0, d1, d2, d3, d4⟩ := fv5 hZ1.out.hb.bH
 have o2 := hZ1.out.bq.cell 2 rfl
 go_wp2_with fail
 refine (l2Wrapped_any hZ1.out.hb.hp.at0).mono ?_
 rintro e w2 ⟨rfl, hb2⟩
 rw [hoth.out]
 have hZ2 : Hid _ := hZ1.out.below hb2
 clear hb2 hZ1 d0 d1 d2 d3 d4 o2
 have o0 := hZ2.out.bq.cell 0 rfl
 by_cases hn0 : nd = 0
 · have htd : Hid (treeOp x o nd ot = (x, 5)) := by show _ = _; unfold treeOp; rw [if_pos (Or.inl hn0)]
   clear hth
   have hZf : Hid _ := hZ2.out.hb
   obtain ⟨d0, d1, d2, d3, d4⟩ := fv5 hZf.out.bH
   obtain ⟨z0, z1, z2, z3, z4⟩ := fv5 hZf.out.bR
   have uz := hZf.out.bR.unfrozen
   go_wp2_with fail
   have bF : Box (putCells w2 (w.heap.size + 1 + 1) 0 (cHp x aN kN aO kO aG kG)) (w.heap.size + 1 + 1) (cHp x aN kN aO kO aG kG) 28 := Box.puts5 hZf.out.bR
   obtain ⟨g0, g1, g2, g3, g4⟩ := fv5 bF
   exact bodyPost_ret (v := .tuple #[.agg (List.toArray (cHp x aN kN aO kO aG kG)), .int .i64 5]) (by simp only [putCells] at g0 g1 g2 g3 g4; simp [results, Tryz.results124, go_sem, g0, g1, g2, g3, g4]) rfl ⟨(cHp x aN kN aO kO aG kG), by rw [htd.out], by rw [htd.out]; exact hZf.out.ret (cHp x aN kN aO kO aG kG)⟩
 · have hnd0 : Hid (0 ≤ idxN x nd) := by rcases hth with q | q; exact absurd q hn0; exact q
   obtain ⟨i, hi, hidx0, X, hX, hpar0, hlis0, hkid0⟩ : ∃ i, ∃ hi : i < x.vNodes.length, idxN x nd = (i : Int) ∧ ∃ X, x.vNodes[i] = X ∧ parOf x nd = X.vParent ∧ lisOf x nd = X.vListeners ∧ kidsOfN x nd = X.vKids := by
    rcases idxN_is x nd with ⟨q, _⟩ | ⟨i, hi, q, _, q2⟩
    · have := hnd0.out; omega
    · exact ⟨i, hi, q, _, rfl, by unfold parOf; rw [q2], by unfold lisOf; rw [q2], by unfold kidsOfN; rw [q2]⟩
   have hidx : Hid (idxN x nd = (i : Int)) := hidx0
   have hn0h : Hid (¬ nd = 0) := hn0
   have hXe : Hid (x.vNodes[i] = X) := hX
   have hXm : Hid (X ∈ x.vNodes) := by show X ∈ x.vNodes; rw [← hX]; exact List.getElem_mem hi
   have hpar : Hid (parOf x nd = X.vParent) := hpar0
   have hlis : Hid (lisOf x nd = X.vListeners) := hlis0
   have hkid : Hid (kidsOfN x nd = X.vKids) := hkid0
   obtain ⟨gN, rfl, _⟩ := hZ2.out.hb.hp.posN (show 0 < x.vNodes.length by omega)
   obtain ⟨C, fi, hC, hcell, _⟩ := hZ2.out.hb.node hi
   rw [hX] at hC
   obtain ⟨n3, m3, n5, m5, rfl⟩ := hC.len
   have n0 : Hid (w2.cell? ⟨gN, i * 6, none⟩ = some (.int .i64 X.vId)) := hcell 0 _ rfl
   have n1 : Hid (w2.cell? ⟨gN, i * 6 + 1, none⟩ = some (.string X.vTag)) := hcell 1 _ rfl
   have n2 : Hid (w2.cell? ⟨gN, i * 6 + 2, none⟩ = some (.int .i64 X.vParent)) := hcell 2 _ rfl
   have n3' : Hid (w2.cell? ⟨gN, i * 6 + 3, none⟩ = some (.slice n3 X.vKids.length m3)) := hcell 3 _ rfl
   have n4 : Hid (w2.cell? ⟨gN, i * 6 + 4, none⟩ = some (.int .i64 X.vWrapper)) := hcell 4 _ rfl
   have n5' : Hid (w2.cell? ⟨gN, i * 6 + 5, none⟩ = some (.slice n5 X.vListeners.length m5)) := hcell 5 _ rfl
   have hiI : (i : Int) < (x.vNodes.length : Int) := by omega
   have hi0 : (0 : Int) ≤ (i : Int) := by omega
   clear hth hidx0 hpar0 hlis0 hkid0 hC hcell hX
   rcases Classical.em (ot = 0) with hot0 | hot0
   all_goals
    go_upto_region 5 with fail
    clear o0 hot0
    go_cut [8] (fun s8 wx => ∃ (gx : Nat), s8 = .pointer (some ⟨gx, 0, none⟩) ∧ w2.heap.size ≤ gx ∧ Hid (Below (World.heap w2).size w2 wx) ∧ Hid (Box wx gx (cNd X n3 m3 n5 m5) 73))
    case first =>
     have hkd : Hid (Below (World.heap w2).size w2 (World.drew w2)) := Below.drew (Below.refl _ _)
     refine wp_region_held_drew (S := fun w' => w'.cell? ⟨w.heap.size, 0, none⟩ = some (.int .i64 x.vNext) ∧ w'.cell? ⟨w.heap.size, 1, none⟩ = some (.int .i64 x.vDoc) ∧ w'.cell? ⟨w.heap.size, 2, none⟩ = some (.slice (some ⟨gN, 0, none⟩) x.vNodes.length kN) ∧ w'.cell? ⟨w.heap.size, 3, none⟩ = some (.slice aO x.vObjs.length kO) ∧ w'.cell? ⟨w.heap.size, 4, none⟩ = some (.slice aG x.vGlobals.length kG) ∧ w'.cell? ⟨gN, i * 6, none⟩ = some (.int .i64 X.vId) ∧ w'.cell? ⟨gN, i * 6 + 1, none⟩ = some (.string X.vTag) ∧ w'.cell? ⟨gN, i * 6 + 2, none⟩ = some (.int .i64 X.vParent) ∧ w'.cell? ⟨gN, i * 6 + 3, none⟩ = some (.slice n3 X.vKids.length m3) ∧ w'.cell? ⟨gN, i * 6 + 4, none⟩ = some (.int .i64 X.vWrapper) ∧ w'.cell? ⟨gN, i * 6 + 5, none⟩ = some (.slice n5 X.vListeners.length m5)) (by kernel_rfl) (fv5a hZ2.out.hb.bH ⟨n0.out, n1.out, n2.out, n3'.out, n4.out, n5'.out⟩) (fun hHeld => ?_)
     refine tk 0 ?_
     refine tk 1 ?_
     refine tk 2 ?_
     refine tk 3 ?_
     refine rd2 4 7 (fun K hK => ?_) (fun K hK => ?_)
     · go_simp
       refine (l2Node_any (hZ2.out.below hkd.out).hb.hp.at0).mono ?_
       rintro e u6 ⟨rfl, hb6⟩
       rw [hidx.out]
       have hk1 : Hid (Below (World.heap w2).size w2 u6) := hkd.out.trans (Below.mono hb6 (Below.size hkd.out))
       have lu6 := hb6.size
       clear hb6
       refine hK.out _ _ (fv5a (hZ2.out.below hk1.out).hb.bH ⟨cell_on hk1.out n0.out, cell_on hk1.out n1.out, cell_on hk1.out n2.out, cell_on hk1.out n3'.out, cell_on hk1.out n4.out, cell_on hk1.out n5'.out⟩) (fun hHeld => ?_)
       clear hK K
       refine tk 5 ?_
       refine tk 6 ?_
       refine rd1 7 (fun K hK => ?_)
       go_simp
       have hk2 : Hid (Below (World.heap w2).size w2 (World.alloc u6 (.cells cZn.toArray 73))) := Below.alloc hk1.out (Below.size hk1.out) _
       obtain ⟨EE, hEE⟩ : ∃ EE, u6.heap.size = EE := ⟨_, rfl⟩
       have bX2 : Hid (Box (World.alloc u6 (.cells cZn.toArray 73)) EE cZn 73) := by rw [← hEE]; exact Box.new u6 _ _
       have lE : w2.heap.size ≤ EE := by rw [← hEE]; have := Below.size hk1.out; exact this
       have hEEh : Hid (u6.heap.size = EE) := hEE
       clear hEE
       refine hK.out _ _ (fv5a (hZ2.out.below hk2.out).hb.bH ⟨cell_on hk2.out n0.out, cell_on hk2.out n1.out, cell_on hk2.out n2.out, cell_on hk2.out n3'.out, cell_on hk2.out n4.out, cell_on hk2.out n5'.out⟩) (fun hHeld => ?_)
       clear hK K
       refine rd1 8 (fun K hK => ?_)
       go_simp
       have hkF : Hid (Below (World.heap w2).size w2 (World.alloc u6 (.cells (cNd X n3 m3 n5 m5).toArray 73))) := Below.alloc hk1.out (Below.size hk1.out) _
       refine hK.out _ _ (fv5a (hZ2.out.below hkF.out).hb.bH ⟨cell_on hkF.out n0.out, cell_on hkF.out n1.out, cell_on hkF.out n2.out, cell_on hkF.out n3'.out, cell_on hkF.out n4.out, cell_on hkF.out n5'.out⟩) (fun hHeld => ?_)
       clear hK K
       refine wpAnyH_done (by kernel_rfl) ?_ _
       have eEE := hEEh.out
       have bXF : Hid (Box (World.alloc u6 (.cells (cNd X n3 m3 n5 m5).toArray 73)) EE (cNd X n3 m3 n5 m5) 73) := by rw [← eEE]; exact Box.new u6 _ _
       go_wp2_with fail
       go_meet
       exact ⟨EE, by rw [eEE], lE, hkF, bXF⟩
     · go_simp
       have hk1 : Hid (Below (World.heap w2).size w2 (World.alloc w2.drew (.cells cZn.toArray 73))) := Below.alloc hkd.out (Below.size hkd.out) _
       obtain ⟨EE, hEE⟩ : ∃ EE, w2.heap.size = EE := ⟨_, rfl⟩
       have bX1 : Hid (Box (World.alloc w2.drew (.cells cZn.toArray 73)) EE cZn 73) := by rw [← hEE]; exact Box.new w2.drew _ _
       have lE : w2.heap.size ≤ EE := by rw [← hEE]; have := Below.size hkd.out; exact this
       have hEEh : Hid (w2.heap.size = EE) := hEE
       clear hEE
       refine hK.out _ _ (fv5a (hZ2.out.below hk1.out).hb.bH ⟨cell_on hk1.out n0.out, cell_on hk1.out n1.out, cell_on hk1.out n2.out, cell_on hk1.out n3'.out, cell_on hk1.out n4.out, cell_on hk1.out n5'.out⟩) (fun hHeld => ?_)
       clear hK K
       refine rd1 4 (fun K hK => ?_)
       go_simp
       refine (l2Node_any (hZ2.out.below hk1.out).hb.hp.at0).mono ?_
       rintro e u6 ⟨rfl, hb6⟩
       rw [hidx.out]
       have hk2 : Hid (Below (World.heap w2).size w2 u6) := hk1.out.trans (Below.mono hb6 (Below.size hk1.out))
       have bX2 : Hid (Box u6 EE cZn 73) := Box.below bX1.out hb6 (Box.lt bX1.out)
       have lu6 := hb6.size
       clear hb6
       refine hK.out _ _ (fv5a (hZ2.out.below hk2.out).hb.bH ⟨cell_on hk2.out n0.out, cell_on hk2.out n1.out, cell_on hk2.out n2.out, cell_on hk2.out n3'.out, cell_on hk2.out n4.out, cell_on hk2.out n5'.out⟩) (fun hHeld => ?_)
       clear hK K
       refine tk 5 ?_
       refine tk 6 ?_
       refine rd1 8 (fun K hK => ?_)
       have bE9 := bX2.out
       rw [← hEEh.out] at bE9
       have u0_ := bE9.cell 0 rfl
       have u1_ := bE9.cell 1 rfl
       have u2_ := bE9.cell 2 rfl
       have u3_ := bE9.cell 3 rfl
       have u4_ := bE9.cell 4 rfl
       have u5_ := bE9.cell 5 rfl
       have uf_ := bE9.unfrozen
       go_simp
       have hkF : Hid (Below (World.heap w2).size w2 (putCells u6 w2.heap.size 0 (cNd X n3 m3 n5 m5))) := putCells_below (cNd X n3 m3 n5 m5) _ _ _ _ _ (by have h_ := hEEh.out; omega) hk2.out
       refine hK.out _ _ (fv5a (hZ2.out.below hkF.out).hb.bH ⟨cell_on hkF.out n0.out, cell_on hkF.out n1.out, cell_on hkF.out n2.out, cell_on hkF.out n3'.out, cell_on hkF.out n4.out, cell_on hkF.out n5'.out⟩) (fun hHeld => ?_)
       clear hK K
       refine wpAnyH_done (by kernel_rfl) ?_ _
       have eEE := hEEh.out
       have bXF : Hid (Box (putCells u6 w2.heap.size 0 (cNd X n3 m3 n5 m5)) EE (cNd X n3 m3 n5 m5) 73) := by rw [eEE]; exact ((((((bX2.out.set (i := 0) _).set (i := 1) _).set (i := 2) _).set (i := 3) _).set (i := 4) _).set (i := 5) _)
       go_wp2_with fail
       go_meet
       exact ⟨EE, by rw [eEE], lE, hkF, bXF⟩
    case rest =>
     obtain ⟨gx, rfl, hgx, hbx, bX5⟩ := hcut
     generalize wc = w5 at hbx bX5 ⊢
     have hZ5 : Hid _ := hZ2.out.below (hbx.out)
     have o0 := hZ5.out.bq.cell 0 rfl
     have hp5 := bX5.out.cell 5 rfl
     by_cases hz : X.vListeners.length = 4
     · have htd : Hid (treeOp x o nd ot = (x, 4)) := by show _ = _; unfold treeOp; rw [if_neg (by rw [hkh.out]; have := hn0h.out; omega), if_neg (by rw [hkh.out]; decide), if_pos hkh.out, hlis.out, if_pos hz]
       have hzI : ((X.vListeners.length : Nat) : Int) = 4 := by omega
       have hZf : Hid _ := hZ5.out.hb
       obtain ⟨d0, d1, d2, d3, d4⟩ := fv5 hZf.out.bH
       obtain ⟨z0, z1, z2, z3, z4⟩ := fv5 hZf.out.bR
       have uz := hZf.out.bR.unfrozen
       go_wp2_with fail
       have bF : Box (putCells w5 (w.heap.size + 1 + 1) 0 (cHp x (some ⟨gN, 0, none⟩) kN aO kO aG kG)) (w.heap.size + 1 + 1) (cHp x (some ⟨gN, 0, none⟩) kN aO kO aG kG) 28 := Box.puts5 hZf.out.bR
       obtain ⟨g0, g1, g2, g3, g4⟩ := fv5 bF
       exact bodyPost_ret (v := .tuple #[.agg (List.toArray (cHp x (some ⟨gN, 0, none⟩) kN aO kO aG kG)), .int .i64 4]) (by simp only [putCells] at g0 g1 g2 g3 g4; simp [results, Tryz.results124, go_sem, g0, g1, g2, g3, g4]) rfl ⟨(cHp x (some ⟨gN, 0, none⟩) kN aO kO aG kG), by rw [htd.out], by rw [htd.out]; exact hZf.out.ret (cHp x (some ⟨gN, 0, none⟩) kN aO kO aG kG)⟩
     · have htdh : Hid (treeOp x o nd ot = ({ x with vNodes := x.vNodes.set i { x.vNodes[i] with vListeners := x.vNodes[i].vListeners ++ [lisD o] } }, 0)) := by show _ = _; unfold treeOp; rw [if_neg (by rw [hkh.out]; have := hn0h.out; omega), if_neg (by rw [hkh.out]; decide), if_pos hkh.out, hlis.out, if_neg hz, hidx.out, Int.toNat_natCast, modify_set _ _ _ hi]
       have hzI : ¬ ((X.vListeners.length : Nat) : Int) = 4 := by omega
       go_upto_region 14 with fail
       clear hp5
       have nL : Hid _ := cell_on hbx.out n5'.out
       have hY0 : Hid (HX (cOp 12 o) 91 w fs w.heap.size (w.heap.size + 1 + 1) (w.heap.size + 1) w5.drew (cHp x (some ⟨gN, 0, none⟩) kN aO kO aG kG) x fs) := hZ5.out.below (Below.drew (Below.refl _ _))
       have hl0 : Hid (w5.drew.cell? ⟨gN, i * 6 + 5, none⟩ = some (.slice n5 X.vListeners.length m5)) := nL
       have hqN : Hid (w.heap.size + 1 ≠ gN) := by
        obtain ⟨_, _, _, _, _, hgm, _⟩ := hZ5.out.hb.hp.node hi
        exact fun e => hZ5.out.nq _ hgm e.symm
       refine wp_region_held_drew (S := fun w' => w'.cell? ⟨w.heap.size, 0, none⟩ = some (.int .i64 x.vNext) ∧ w'.cell? ⟨w.heap.size, 1, none⟩ = some (.int .i64 x.vDoc) ∧ w'.cell? ⟨w.heap.size, 2, none⟩ = some (.slice (some ⟨gN, 0, none⟩) x.vNodes.length kN) ∧ w'.cell? ⟨w.heap.size, 3, none⟩ = some (.slice aO x.vObjs.length kO) ∧ w'.cell? ⟨w.heap.size, 4, none⟩ = some (.slice aG x.vGlobals.length kG) ∧ w'.cell? ⟨w.heap.size + 1, 4, none⟩ = some (.string o.vType) ∧ w'.cell? ⟨w.heap.size + 1, 5, none⟩ = some (.bool o.vCapture) ∧ w'.cell? ⟨w.heap.size + 1, 6, none⟩ = some (.bool o.vOnce) ∧ w'.cell? ⟨w.heap.size + 1, 7, none⟩ = some (.int .i64 o.vStop) ∧ w'.cell? ⟨w.heap.size + 1, 8, none⟩ = some (.string o.vLname)) (by kernel_rfl) ⟨hZ5.out.hb.bH.cell 0 rfl, hZ5.out.hb.bH.cell 1 rfl, hZ5.out.hb.bH.cell 2 rfl, hZ5.out.hb.bH.cell 3 rfl, hZ5.out.hb.bH.cell 4 rfl, hZ5.out.bq.cell 4 rfl, hZ5.out.bq.cell 5 rfl, hZ5.out.bq.cell 6 rfl, hZ5.out.bq.cell 7 rfl, hZ5.out.bq.cell 8 rfl⟩ (fun hHeld => ?_)
       refine tk 0 ?_
       refine tk 1 ?_
       refine tk 2 ?_
       refine tk 3 ?_
       refine tk 5 ?_
       refine tk 6 ?_
       refine tk 7 ?_
       refine tk 8 ?_
       refine tk 13 ?_
       refine tk 14 ?_
       refine rd2 4 15 (fun K hK => ?_) (fun K hK => ?_)
       · go_simp
         refine (l2Node_any hY0.out.hb.hp.at0).mono ?_
         rintro e u4 ⟨rfl, hbu⟩
         rw [hidx.out]
         have hY1 : Hid _ := hY0.out.below hbu
         have hl1 : Hid _ := cell_on hbu hl0.out
         clear hbu
         refine hK.out _ _ ⟨hY1.out.hb.bH.cell 0 rfl, hY1.out.hb.bH.cell 1 rfl, hY1.out.hb.bH.cell 2 rfl, hY1.out.hb.bH.cell 3 rfl, hY1.out.hb.bH.cell 4 rfl, hY1.out.bq.cell 4 rfl, hY1.out.bq.cell 5 rfl, hY1.out.bq.cell 6 rfl, hY1.out.bq.cell 7 rfl, hY1.out.bq.cell 8 rfl⟩ (fun hHeld => ?_)
         clear hK K
         refine rd2 9 15 (fun K hK => ?_) (fun K hK => ?_)
         · go_simp
           refine (l2Node_any hY1.out.hb.hp.at0).mono ?_
           rintro e u9 ⟨rfl, hbu⟩
           rw [hidx.out]
           have hY2 : Hid _ := hY1.out.below hbu
           have hl2 : Hid _ := cell_on hbu hl1.out
           clear hbu
           refine hK.out _ _ ⟨hY2.out.hb.bH.cell 0 rfl, hY2.out.hb.bH.cell 1 rfl, hY2.out.hb.bH.cell 2 rfl, hY2.out.hb.bH.cell 3 rfl, hY2.out.hb.bH.cell 4 rfl, hY2.out.bq.cell 4 rfl, hY2.out.bq.cell 5 rfl, hY2.out.bq.cell 6 rfl, hY2.out.bq.cell 7 rfl, hY2.out.bq.cell 8 rfl⟩ (fun hHeld => ?_)
           clear hK K
           refine tk 10 ?_
           refine tk 11 ?_
           refine rd2 12 15 (fun K hK => ?_) (fun K hK => ?_)
           · have ldc := hl2.out
             go_simp
             clear ldc
             refine hK.out _ _ hHeld (fun hHeld => ?_)
             clear hK K
             refine rd1 15 (fun K hK => ?_)
             go_simp
             have hbu : Below (World.heap u9).size u9 (World.alloc u9 (.cells #[.string o.vType, .bool o.vCapture, .bool o.vOnce, .int .i64 o.vStop, .string o.vLname] 89)) := (Below.refl _ _).alloc (Nat.le_refl _) _
             have hY3 : Hid _ := hY2.out.below hbu
             have hl3 : Hid _ := cell_on hbu hl2.out
             obtain ⟨EE, hEE⟩ : ∃ EE, u9.heap.size = EE := ⟨_, rfl⟩
             have bG3 : Hid (Box (World.alloc u9 (.cells #[.string o.vType, .bool o.vCapture, .bool o.vOnce, .int .i64 o.vStop, .string o.vLname] 89)) EE [.string o.vType, .bool o.vCapture, .bool o.vOnce, .int .i64 o.vStop, .string o.vLname] 89) := by rw [← hEE]; exact Box.new u9 _ _
             have hEEh : Hid (u9.heap.size = EE) := hEE
             clear hbu hEE
             refine hK.out _ _ ⟨hY3.out.hb.bH.cell 0 rfl, hY3.out.hb.bH.cell 1 rfl, hY3.out.hb.bH.cell 2 rfl, hY3.out.hb.bH.cell 3 rfl, hY3.out.hb.bH.cell 4 rfl, hY3.out.bq.cell 4 rfl, hY3.out.bq.cell 5 rfl, hY3.out.bq.cell 6 rfl, hY3.out.bq.cell 7 rfl, hY3.out.bq.cell 8 rfl⟩ (fun hHeld => ?_)
             clear hK K
             refine rd1 16 (fun K hK => ?_)
             obtain ⟨bL, cL, hgL, hown, hlis2⟩ := hY3.out.listen hi hl3.out
             have hgLh : Hid _ := hgL
             have hlis3 : Hid _ := hlis2
             have hownh : Hid _ := hown
             have eEE := hEEh.out
             refine step_append_own rfl _ _ 71 rfl 0 89 iL _ 48 Tryz.underlying71 hiL.out heL.out.1 heL.out.2.1 heL.out.2.2 rfl (by decide) (.slice n5 X.vListeners.length m5) X.vListeners.length cL.flatten rfl (by have := hgLh.out.2.2.2.1; rw [hXe.out] at this; exact this) ⟨EE, 0, none⟩ 1 [.string o.vType, .bool o.vCapture, .bool o.vOnce, .int .i64 o.vStop, .string o.vLname] (by rw [← eEE]; first | rfl | simp [go_sem]) rfl (by intro j u hu; match j, hu with | 0, hu => (simp at hu; subst hu; exact bG3.out.cell 0 rfl) | 1, hu => (simp at hu; subst hu; exact bG3.out.cell 1 rfl) | 2, hu => (simp at hu; subst hu; exact bG3.out.cell 2 rfl) | 3, hu => (simp at hu; subst hu; exact bG3.out.cell 3 rfl) | 4, hu => (simp at hu; subst hu; exact bG3.out.cell 4 rfl) | j + 5, hu => simp at hu) (by intro u hu; simp at hu; rcases hu with rfl | rfl | rfl | rfl | rfl <;> rfl) (by have := hR.out.lis X hXm.out; unfold maxLen; omega) (by have := hR.out.lis X hXm.out; omega) (Nat.zero_le _) ?_
             intro gL cp w8 ho8 hg8 hat8
             have hgr8 := GrowOwn.snoc ListenerOwn_stays (n1 := X.vListeners.length + 1) hgLh.out (Below.refl _ _) (Nat.zero_le _) (cs := [.string o.vType, .bool o.vCapture, .bool o.vOnce, .int .i64 o.vStop, .string o.vLname]) (x := lisD o) (fs := []) rfl ⟨rfl, hfh.out.2.2.2.1, hsth.out, hfh.out.2.2.2.2, rfl⟩ List.nodup_nil (by simp) (by simp) (by rw [hXe.out]) ho8 hg8 hat8
             obtain ⟨fs9, hz9⟩ := hlis3.out w8 gL _ cp _ (lisD o) hgr8 hg8 hat8
             have hZ9 : Hid (HB w fs w.heap.size (w.heap.size + 1 + 1) (w8.setCell ⟨gN, i * 6 + 5, none⟩ (.slice (some ⟨gL, 0, none⟩) (X.vListeners.length + 1) cp)) (cHp x (some ⟨gN, 0, none⟩) kN aO kO aG kG) { x with vNodes := x.vNodes.set i { x.vNodes[i] with vListeners := x.vNodes[i].vListeners ++ [lisD o] } } fs9) := hz9
             have bH8 : Hid (Box w8 w.heap.size (cHp x (some ⟨gN, 0, none⟩) kN aO kO aG kG) 28) := hY3.out.hb.bH.grownP hg8 (fun e => (hownh.out _ e).2.2 rfl)
             have bQ8 : Hid (Box w8 (w.heap.size + 1) (cOp 12 o) 91) := hY3.out.bq.grownP hg8 (fun e => hY3.out.nq _ (hownh.out _ e).1 rfl)
             obtain ⟨cur8, hb8⟩ := hY3.out.hb.hp.boxN
             have bN8 : Hid (Box w8 gN cur8 73) := hb8.grownP hg8 (fun e => (hownh.out _ e).2.1 rfl)
             have hl8 : Hid (w8.cell? ⟨gN, i * 6 + 5, none⟩ = some (.slice n5 X.vListeners.length m5)) := (World.cell?_of_block (w := (World.alloc u9 (.cells #[.string o.vType, .bool o.vCapture, .bool o.vOnce, .int .i64 o.vStop, .string o.vLname] 89))) (w' := w8) (hg8.block gN hb8.lt (fun e => (hownh.out _ e.symm).2.1 rfl))).trans hl3.out
             clear hgL hown hlis2 hgLh hlis3 hownh hgr8 hz9 hb8 ho8 hg8 hat8 eEE
             refine hK.out _ _ ⟨bH8.out.cell 0 rfl, bH8.out.cell 1 rfl, bH8.out.cell 2 rfl, bH8.out.cell 3 rfl, bH8.out.cell 4 rfl, bQ8.out.cell 4 rfl, bQ8.out.cell 5 rfl, bQ8.out.cell 6 rfl, bQ8.out.cell 7 rfl, bQ8.out.cell 8 rfl⟩ (fun hHeld => ?_)
             clear hK K
             refine tk 17 ?_
             refine tk 18 ?_
             refine rd1 19 (fun K hK => ?_)
             have ldc := hl8.out
             have ufn := bN8.out.unfrozen
             have bQ9 : Hid (Box (w8.setCell ⟨gN, i * 6 + 5, none⟩ (.slice (some ⟨gL, 0, none⟩) (X.vListeners.length + 1) cp)) (w.heap.size + 1) (cOp 12 o) 91) := bQ8.out.other hqN.out _
             go_simp
             clear ldc ufn
             refine hK.out _ _ ⟨hZ9.out.bH.cell 0 rfl, hZ9.out.bH.cell 1 rfl, hZ9.out.bH.cell 2 rfl, hZ9.out.bH.cell 3 rfl, hZ9.out.bH.cell 4 rfl, bQ9.out.cell 4 rfl, bQ9.out.cell 5 rfl, bQ9.out.cell 6 rfl, bQ9.out.cell 7 rfl, bQ9.out.cell 8 rfl⟩ (fun hHeld => ?_)
             clear hK K
             refine wpAnyH_done (by kernel_rfl) ?_ _
             clear hHeld
             obtain ⟨d0, d1, d2, d3, d4⟩ := fv5 hZ9.out.bH
             obtain ⟨z0, z1, z2, z3, z4⟩ := fv5 hZ9.out.bR
             have uz := hZ9.out.bR.unfrozen
             go_wp2_with fail
             have bF : Box (putCells (w8.setCell ⟨gN, i * 6 + 5, none⟩ (.slice (some ⟨gL, 0, none⟩) (X.vListeners.length + 1) cp)) (w.heap.size + 1 + 1) 0 (cHp x (some ⟨gN, 0, none⟩) kN aO kO aG kG)) (w.heap.size + 1 + 1) (cHp x (some ⟨gN, 0, none⟩) kN aO kO aG kG) 28 := Box.puts5 hZ9.out.bR
             obtain ⟨g0, g1, g2, g3, g4⟩ := fv5 bF
             exact bodyPost_ret (v := .tuple #[.agg (List.toArray (cHp x (some ⟨gN, 0, none⟩) kN aO kO aG kG)), .int .i64 0]) (by simp only [putCells] at g0 g1 g2 g3 g4; simp [results, Tryz.results124, go_sem, g0, g1, g2, g3, g4]) rfl ⟨(cHp x (some ⟨gN, 0, none⟩) kN aO kO aG kG), by rw [htdh.out], by rw [htdh.out]; exact hZ9.out.ret (cHp x (some ⟨gN, 0, none⟩) kN aO kO aG kG)⟩
           · go_simp
             have hbu : Below (World.heap u9).size u9 (World.alloc u9 (.cells #[.string o.vType, .bool o.vCapture, .bool o.vOnce, .int .i64 o.vStop, .string o.vLname] 89)) := (Below.refl _ _).alloc (Nat.le_refl _) _
             have hY3 : Hid _ := hY2.out.below hbu
             have hl3 : Hid _ := cell_on hbu hl2.out
             obtain ⟨EE, hEE⟩ : ∃ EE, u9.heap.size = EE := ⟨_, rfl⟩
             have bG3 : Hid (Box (World.alloc u9 (.cells #[.string o.vType, .bool o.vCapture, .bool o.vOnce, .int .i64 o.vStop, .string o.vLname] 89)) EE [.string o.vType, .bool o.vCapture, .bool o.vOnce, .int .i64 o.vStop, .string o.vLname] 89) := by rw [← hEE]; exact Box.new u9 _ _
             have hEEh : Hid (u9.heap.size = EE) := hEE
             clear hbu hEE
             refine hK.out _ _ ⟨hY3.out.hb.bH.cell 0 rfl, hY3.out.hb.bH.cell 1 rfl, hY3.out.hb.bH.cell 2 rfl, hY3.out.hb.bH.cell 3 rfl, hY3.out.hb.bH.cell 4 rfl, hY3.out.bq.cell 4 rfl, hY3.out.bq.cell 5 rfl, hY3.out.bq.cell 6 rfl, hY3.out.bq.cell 7 rfl, hY3.out.bq.cell 8 rfl⟩ (fun hHeld => ?_)
             clear hK K
             refine rd1 12 (fun K hK => ?_)
             have ldc := hl3.out
             go_simp
             clear ldc
             refine hK.out _ _ hHeld (fun hHeld => ?_)
             clear hK K
             refine rd1 16 (fun K hK => ?_)
             obtain ⟨bL, cL, hgL, hown, hlis2⟩ := hY3.out.listen hi hl3.out
             have hgLh : Hid _ := hgL
             have hlis3 : Hid _ := hlis2
             have hownh : Hid _ := hown
             have eEE := hEEh.out
             refine step_append_own rfl _ _ 71 rfl 0 89 iL _ 48 Tryz.underlying71 hiL.out heL.out.1 heL.out.2.1 heL.out.2.2 rfl (by decide) (.slice n5 X.vListeners.length m5) X.vListeners.length cL.flatten rfl (by have := hgLh.out.2.2.2.1; rw [hXe.out] at this; exact this) ⟨EE, 0, none⟩ 1 [.string o.vType, .bool o.vCapture, .bool o.vOnce, .int .i64 o.vStop, .string o.vLname] (by rw [← eEE]; first | rfl | simp [go_sem]) rfl (by intro j u hu; match j, hu with | 0, hu => (simp at hu; subst hu; exact bG3.out.cell 0 rfl) | 1, hu => (simp at hu; subst hu; exact bG3.out.cell 1 rfl) | 2, hu => (simp at hu; subst hu; exact bG3.out.cell 2 rfl) | 3, hu => (simp at hu; subst hu; exact bG3.out.cell 3 rfl) | 4, hu => (simp at hu; subst hu; exact bG3.out.cell 4 rfl) | j + 5, hu => simp at hu) (by intro u hu; simp at hu; rcases hu with rfl | rfl | rfl | rfl | rfl <;> rfl) (by have := hR.out.lis X hXm.out; unfold maxLen; omega) (by have := hR.out.lis X hXm.out; omega) (Nat.zero_le _) ?_
             intro gL cp w8 ho8 hg8 hat8
             have hgr8 := GrowOwn.snoc ListenerOwn_stays (n1 := X.vListeners.length + 1) hgLh.out (Below.refl _ _) (Nat.zero_le _) (cs := [.string o.vType, .bool o.vCapture, .bool o.vOnce, .int .i64 o.vStop, .string o.vLname]) (x := lisD o) (fs := []) rfl ⟨rfl, hfh.out.2.2.2.1, hsth.out, hfh.out.2.2.2.2, rfl⟩ List.nodup_nil (by simp) (by simp) (by rw [hXe.out]) ho8 hg8 hat8
             obtain ⟨fs9, hz9⟩ := hlis3.out w8 gL _ cp _ (lisD o) hgr8 hg8 hat8
             have hZ9 : Hid (HB w fs w.heap.size (w.heap.size + 1 + 1) (w8.setCell ⟨gN, i * 6 + 5, none⟩ (.slice (some ⟨gL, 0, none⟩) (X.vListeners.length + 1) cp)) (cHp x (some ⟨gN, 0, none⟩) kN aO kO aG kG) { x with vNodes := x.vNodes.set i { x.vNodes[i] with vListeners := x.vNodes[i].vListeners ++ [lisD o] } } fs9) := hz9
             have bH8 : Hid (Box w8 w.heap.size (cHp x (some ⟨gN, 0, none⟩) kN aO kO aG kG) 28) := hY3.out.hb.bH.grownP hg8 (fun e => (hownh.out _ e).2.2 rfl)
             have bQ8 : Hid (Box w8 (w.heap.size + 1) (cOp 12 o) 91) := hY3.out.bq.grownP hg8 (fun e => hY3.out.nq _ (hownh.out _ e).1 rfl)
             obtain ⟨cur8, hb8⟩ := hY3.out.hb.hp.boxN
             have bN8 : Hid (Box w8 gN cur8 73) := hb8.grownP hg8 (fun e => (hownh.out _ e).2.1 rfl)
             have hl8 : Hid (w8.cell? ⟨gN, i * 6 + 5, none⟩ = some (.slice n5 X.vListeners.length m5)) := (World.cell?_of_block (w := (World.alloc u9 (.cells #[.string o.vType, .bool o.vCapture, .bool o.vOnce, .int .i64 o.vStop, .string o.vLname] 89))) (w' := w8) (hg8.block gN hb8.lt (fun e => (hownh.out _ e.symm).2.1 rfl))).trans hl3.out
             clear hgL hown hlis2 hgLh hlis3 hownh hgr8 hz9 hb8 ho8 hg8 hat8 eEE
             refine hK.out _ _ ⟨bH8.out.cell 0 rfl, bH8.out.cell 1 rfl, bH8.out.cell 2 rfl, bH8.out.cell 3 rfl, bH8.out.cell 4 rfl, bQ8.out.cell 4 rfl, bQ8.out.cell 5 rfl, bQ8.out.cell 6 rfl, bQ8.out.cell 7 rfl, bQ8.out.cell 8 rfl⟩ (fun hHeld => ?_)
             clear hK K
             refine tk 17 ?_
             refine tk 18 ?_
             refine rd1 19 (fun K hK => ?_)
             have ldc := hl8.out
             have ufn := bN8.out.unfrozen
             have bQ9 : Hid (Box (w8.setCell ⟨gN, i * 6 + 5, none⟩ (.slice (some ⟨gL, 0, none⟩) (X.vListeners.length + 1) cp)) (w.heap.size + 1) (cOp 12 o) 91) := bQ8.out.other hqN.out _
             go_simp
             clear ldc ufn
             refine hK.out _ _ ⟨hZ9.out.bH.cell 0 rfl, hZ9.out.bH.cell 1 rfl, hZ9.out.bH.cell 2 rfl, hZ9.out.bH.cell 3 rfl, hZ9.out.bH.cell 4 rfl, bQ9.out.cell 4 rfl, bQ9.out.cell 5 rfl, bQ9.out.cell 6 rfl, bQ9.out.cell 7 rfl, bQ9.out.cell 8 rfl⟩ (fun hHeld => ?_)
             clear hK K
             refine wpAnyH_done (by kernel_rfl) ?_ _
             clear hHeld
             obtain ⟨d0, d1, d2, d3, d4⟩ := fv5 hZ9.out.bH
             obtain ⟨z0, z1, z2, z3, z4⟩ := fv5 hZ9.out.bR
             have uz := hZ9.out.bR.unfrozen
             go_wp2_with fail
             have bF : Box (putCells (w8.setCell ⟨gN, i * 6 + 5, none⟩ (.slice (some ⟨gL, 0, none⟩) (X.vListeners.length + 1) cp)) (w.heap.size + 1 + 1) 0 (cHp x (some ⟨gN, 0, none⟩) kN aO kO aG kG)) (w.heap.size + 1 + 1) (cHp x (some ⟨gN, 0, none⟩) kN aO kO aG kG) 28 := Box.puts5 hZ9.out.bR
             obtain ⟨g0, g1, g2, g3, g4⟩ := fv5 bF
             exact bodyPost_ret (v := .tuple #[.agg (List.toArray (cHp x (some ⟨gN, 0, none⟩) kN aO kO aG kG)), .int .i64 0]) (by simp only [putCells] at g0 g1 g2 g3 g4; simp [results, Tryz.results124, go_sem, g0, g1, g2, g3, g4]) rfl ⟨(cHp x (some ⟨gN, 0, none⟩) kN aO kO aG kG), by rw [htdh.out], by rw [htdh.out]; exact hZ9.out.ret (cHp x (some ⟨gN, 0, none⟩) kN aO kO aG kG)⟩
         · go_simp
           have hbu : Below (World.heap u4).size u4 (World.alloc u4 (.cells #[.string o.vType, .bool o.vCapture, .bool o.vOnce, .int .i64 o.vStop, .string o.vLname] 89)) := (Below.refl _ _).alloc (Nat.le_refl _) _
           have hY2 : Hid _ := hY1.out.below hbu
           have hl2 : Hid _ := cell_on hbu hl1.out
           obtain ⟨EE, hEE⟩ : ∃ EE, u4.heap.size = EE := ⟨_, rfl⟩
           have bG2 : Hid (Box (World.alloc u4 (.cells #[.string o.vType, .bool o.vCapture, .bool o.vOnce, .int .i64 o.vStop, .string o.vLname] 89)) EE [.string o.vType, .bool o.vCapture, .bool o.vOnce, .int .i64 o.vStop, .string o.vLname] 89) := by rw [← hEE]; exact Box.new u4 _ _
           have hEEh : Hid (u4.heap.size = EE) := hEE
           clear hbu hEE
           refine hK.out _ _ ⟨hY2.out.hb.bH.cell 0 rfl, hY2.out.hb.bH.cell 1 rfl, hY2.out.hb.bH.cell 2 rfl, hY2.out.hb.bH.cell 3 rfl, hY2.out.hb.bH.cell 4 rfl, hY2.out.bq.cell 4 rfl, hY2.out.bq.cell 5 rfl, hY2.out.bq.cell 6 rfl, hY2.out.bq.cell 7 rfl, hY2.out.bq.cell 8 rfl⟩ (fun hHeld => ?_)
           clear hK K
           refine rd1 9 (fun K hK => ?_)
           go_simp
           refine (l2Node_any hY2.out.hb.hp.at0).mono ?_
           rintro e u9 ⟨rfl, hbu⟩
           rw [hidx.out]
           have hY3 : Hid _ := hY2.out.below hbu
           have hl3 : Hid _ := cell_on hbu hl2.out
           have bG3 : Hid (Box u9 EE [.string o.vType, .bool o.vCapture, .bool o.vOnce, .int .i64 o.vStop, .string o.vLname] 89) := bG2.out.below hbu bG2.out.lt
           clear hbu
           refine hK.out _ _ ⟨hY3.out.hb.bH.cell 0 rfl, hY3.out.hb.bH.cell 1 rfl, hY3.out.hb.bH.cell 2 rfl, hY3.out.hb.bH.cell 3 rfl, hY3.out.hb.bH.cell 4 rfl, hY3.out.bq.cell 4 rfl, hY3.out.bq.cell 5 rfl, hY3.out.bq.cell 6 rfl, hY3.out.bq.cell 7 rfl, hY3.out.bq.cell 8 rfl⟩ (fun hHeld => ?_)
           clear hK K
           refine tk 10 ?_
           refine tk 11 ?_
           refine rd1 12 (fun K hK => ?_)
           have ldc := hl3.out
           go_simp
           clear ldc
           refine hK.out _ _ hHeld (fun hHeld => ?_)
           clear hK K
           refine rd1 16 (fun K hK => ?_)
           obtain ⟨bL, cL, hgL, hown, hlis2⟩ := hY3.out.listen hi hl3.out
           have hgLh : Hid _ := hgL
           have hlis3 : Hid _ := hlis2
           have hownh : Hid _ := hown
           have eEE := hEEh.out
           refine step_append_own rfl _ _ 71 rfl 0 89 iL _ 48 Tryz.underlying71 hiL.out heL.out.1 heL.out.2.1 heL.out.2.2 rfl (by decide) (.slice n5 X.vListeners.length m5) X.vListeners.length cL.flatten rfl (by have := hgLh.out.2.2.2.1; rw [hXe.out] at this; exact this) ⟨EE, 0, none⟩ 1 [.string o.vType, .bool o.vCapture, .bool o.vOnce, .int .i64 o.vStop, .string o.vLname] (by rw [← eEE]; first | rfl | simp [go_sem]) rfl (by intro j u hu; match j, hu with | 0, hu => (simp at hu; subst hu; exact bG3.out.cell 0 rfl) | 1, hu => (simp at hu; subst hu; exact bG3.out.cell 1 rfl) | 2, hu => (simp at hu; subst hu; exact bG3.out.cell 2 rfl) | 3, hu => (simp at hu; subst hu; exact bG3.out.cell 3 rfl) | 4, hu => (simp at hu; subst hu; exact bG3.out.cell 4 rfl) | j + 5, hu => simp at hu) (by intro u hu; simp at hu; rcases hu with rfl | rfl | rfl | rfl | rfl <;> rfl) (by have := hR.out.lis X hXm.out; unfold maxLen; omega) (by have := hR.out.lis X hXm.out; omega) (Nat.zero_le _) ?_
           intro gL cp w8 ho8 hg8 hat8
           have hgr8 := GrowOwn.snoc ListenerOwn_stays (n1 := X.vListeners.length + 1) hgLh.out (Below.refl _ _) (Nat.zero_le _) (cs := [.string o.vType, .bool o.vCapture, .bool o.vOnce, .int .i64 o.vStop, .string o.vLname]) (x := lisD o) (fs := []) rfl ⟨rfl, hfh.out.2.2.2.1, hsth.out, hfh.out.2.2.2.2, rfl⟩ List.nodup_nil (by simp) (by simp) (by rw [hXe.out]) ho8 hg8 hat8
           obtain ⟨fs9, hz9⟩ := hlis3.out w8 gL _ cp _ (lisD o) hgr8 hg8 hat8
           have hZ9 : Hid (HB w fs w.heap.size (w.heap.size + 1 + 1) (w8.setCell ⟨gN, i * 6 + 5, none⟩ (.slice (some ⟨gL, 0, none⟩) (X.vListeners.length + 1) cp)) (cHp x (some ⟨gN, 0, none⟩) kN aO kO aG kG) { x with vNodes := x.vNodes.set i { x.vNodes[i] with vListeners := x.vNodes[i].vListeners ++ [lisD o] } } fs9) := hz9
           have bH8 : Hid (Box w8 w.heap.size (cHp x (some ⟨gN, 0, none⟩) kN aO kO aG kG) 28) := hY3.out.hb.bH.grownP hg8 (fun e => (hownh.out _ e).2.2 rfl)
           have bQ8 : Hid (Box w8 (w.heap.size + 1) (cOp 12 o) 91) := hY3.out.bq.grownP hg8 (fun e => hY3.out.nq _ (hownh.out _ e).1 rfl)
           obtain ⟨cur8, hb8⟩ := hY3.out.hb.hp.boxN
           have bN8 : Hid (Box w8 gN cur8 73) := hb8.grownP hg8 (fun e => (hownh.out _ e).2.1 rfl)
           have hl8 : Hid (w8.cell? ⟨gN, i * 6 + 5, none⟩ = some (.slice n5 X.vListeners.length m5)) := (World.cell?_of_block (w := u9) (w' := w8) (hg8.block gN hb8.lt (fun e => (hownh.out _ e.symm).2.1 rfl))).trans hl3.out
           clear hgL hown hlis2 hgLh hlis3 hownh hgr8 hz9 hb8 ho8 hg8 hat8 eEE
           refine hK.out _ _ ⟨bH8.out.cell 0 rfl, bH8.out.cell 1 rfl, bH8.out.cell 2 rfl, bH8.out.cell 3 rfl, bH8.out.cell 4 rfl, bQ8.out.cell 4 rfl, bQ8.out.cell 5 rfl, bQ8.out.cell 6 rfl, bQ8.out.cell 7 rfl, bQ8.out.cell 8 rfl⟩ (fun hHeld => ?_)
           clear hK K
           refine tk 17 ?_
           refine tk 18 ?_
           refine rd1 19 (fun K hK => ?_)
           have ldc := hl8.out
           have ufn := bN8.out.unfrozen
           have bQ9 : Hid (Box (w8.setCell ⟨gN, i * 6 + 5, none⟩ (.slice (some ⟨gL, 0, none⟩) (X.vListeners.length + 1) cp)) (w.heap.size + 1) (cOp 12 o) 91) := bQ8.out.other hqN.out _
           go_simp
           clear ldc ufn
           refine hK.out _ _ ⟨hZ9.out.bH.cell 0 rfl, hZ9.out.bH.cell 1 rfl, hZ9.out.bH.cell 2 rfl, hZ9.out.bH.cell 3 rfl, hZ9.out.bH.cell 4 rfl, bQ9.out.cell 4 rfl, bQ9.out.cell 5 rfl, bQ9.out.cell 6 rfl, bQ9.out.cell 7 rfl, bQ9.out.cell 8 rfl⟩ (fun hHeld => ?_)
           clear hK K
           refine wpAnyH_done (by kernel_rfl) ?_ _
           clear hHeld
           obtain ⟨d0, d1, d2, d3, d4⟩ := fv5 hZ9.out.bH
           obtain ⟨z0, z1, z2, z3, z4⟩ := fv5 hZ9.out.bR
           have uz := hZ9.out.bR.unfrozen
           go_wp2_with fail
           have bF : Box (putCells (w8.setCell ⟨gN, i * 6 + 5, none⟩ (.slice (some ⟨gL, 0, none⟩) (X.vListeners.length + 1) cp)) (w.heap.size + 1 + 1) 0 (cHp x (some ⟨gN, 0, none⟩) kN aO kO aG kG)) (w.heap.size + 1 + 1) (cHp x (some ⟨gN, 0, none⟩) kN aO kO aG kG) 28 := Box.puts5 hZ9.out.bR
           obtain ⟨g0, g1, g2, g3, g4⟩ := fv5 bF
           exact bodyPost_ret (v := .tuple #[.agg (List.toArray (cHp x (some ⟨gN, 0, none⟩) kN aO kO aG kG)), .int .i64 0]) (by simp only [putCells] at g0 g1 g2 g3 g4; simp [results, Tryz.results124, go_sem, g0, g1, g2, g3, g4]) rfl ⟨(cHp x (some ⟨gN, 0, none⟩) kN aO kO aG kG), by rw [htdh.out], by rw [htdh.out]; exact hZ9.out.ret (cHp x (some ⟨gN, 0, none⟩) kN aO kO aG kG)⟩
       · go_simp
         have hbu : Below (World.heap w5.drew).size w5.drew (World.alloc w5.drew (.cells #[.string o.vType, .bool o.vCapture, .bool o.vOnce, .int .i64 o.vStop, .string o.vLname] 89)) := (Below.refl _ _).alloc (Nat.le_refl _) _
         have hY1 : Hid _ := hY0.out.below hbu
         have hl1 : Hid _ := cell_on hbu hl0.out
         obtain ⟨EE, hEE⟩ : ∃ EE, w5.heap.size = EE := ⟨_, rfl⟩
         have bG1 : Hid (Box (World.alloc w5.drew (.cells #[.string o.vType, .bool o.vCapture, .bool o.vOnce, .int .i64 o.vStop, .string o.vLname] 89)) EE [.string o.vType, .bool o.vCapture, .bool o.vOnce, .int .i64 o.vStop, .string o.vLname] 89) := by rw [← hEE]; exact Box.new w5.drew _ _
         have hEEh : Hid (w5.heap.size = EE) := hEE
         clear hbu hEE
         refine hK.out _ _ ⟨hY1.out.hb.bH.cell 0 rfl, hY1.out.hb.bH.cell 1 rfl, hY1.out.hb.bH.cell 2 rfl, hY1.out.hb.bH.cell 3 rfl, hY1.out.hb.bH.cell 4 rfl, hY1.out.bq.cell 4 rfl, hY1.out.bq.cell 5 rfl, hY1.out.bq.cell 6 rfl, hY1.out.bq.cell 7 rfl, hY1.out.bq.cell 8 rfl⟩ (fun hHeld => ?_)
         clear hK K
         refine rd1 4 (fun K hK => ?_)
         go_simp
         refine (l2Node_any hY1.out.hb.hp.at0).mono ?_
         rintro e u4 ⟨rfl, hbu⟩
         rw [hidx.out]
         have hY2 : Hid _ := hY1.out.below hbu
         have hl2 : Hid _ := cell_on hbu hl1.out
         have bG2 : Hid (Box u4 EE [.string o.vType, .bool o.vCapture, .bool o.vOnce, .int .i64 o.vStop, .string o.vLname] 89) := bG1.out.below hbu bG1.out.lt
         clear hbu
         refine hK.out _ _ ⟨hY2.out.hb.bH.cell 0 rfl, hY2.out.hb.bH.cell 1 rfl, hY2.out.hb.bH.cell 2 rfl, hY2.out.hb.bH.cell 3 rfl, hY2.out.hb.bH.cell 4 rfl, hY2.out.bq.cell 4 rfl, hY2.out.bq.cell 5 rfl, hY2.out.bq.cell 6 rfl, hY2.out.bq.cell 7 rfl, hY2.out.bq.cell 8 rfl⟩ (fun hHeld => ?_)
         clear hK K
         refine rd1 9 (fun K hK => ?_)
         go_simp
         refine (l2Node_any hY2.out.hb.hp.at0).mono ?_
         rintro e u9 ⟨rfl, hbu⟩
         rw [hidx.out]
         have hY3 : Hid _ := hY2.out.below hbu
         have hl3 : Hid _ := cell_on hbu hl2.out
         have bG3 : Hid (Box u9 EE [.string o.vType, .bool o.vCapture, .bool o.vOnce, .int .i64 o.vStop, .string o.vLname] 89) := bG2.out.below hbu bG2.out.lt
         clear hbu
         refine hK.out _ _ ⟨hY3.out.hb.bH.cell 0 rfl, hY3.out.hb.bH.cell 1 rfl, hY3.out.hb.bH.cell 2 rfl, hY3.out.hb.bH.cell 3 rfl, hY3.out.hb.bH.cell 4 rfl, hY3.out.bq.cell 4 rfl, hY3.out.bq.cell 5 rfl, hY3.out.bq.cell 6 rfl, hY3.out.bq.cell 7 rfl, hY3.out.bq.cell 8 rfl⟩ (fun hHeld => ?_)
         clear hK K
         refine tk 10 ?_
         refine tk 11 ?_
         refine rd1 12 (fun K hK => ?_)
         have ldc := hl3.out
         go_simp
         clear ldc
         refine hK.out _ _ hHeld (fun hHeld => ?_)
         clear hK K
         refine rd1 16 (fun K hK => ?_)
         obtain ⟨bL, cL, hgL, hown, hlis2⟩ := hY3.out.listen hi hl3.out
         have hgLh : Hid _ := hgL
         have hlis3 : Hid _ := hlis2
         have hownh : Hid _ := hown
         have eEE := hEEh.out
         refine step_append_own rfl _ _ 71 rfl 0 89 iL _ 48 Tryz.underlying71 hiL.out heL.out.1 heL.out.2.1 heL.out.2.2 rfl (by decide) (.slice n5 X.vListeners.length m5) X.vListeners.length cL.flatten rfl (by have := hgLh.out.2.2.2.1; rw [hXe.out] at this; exact this) ⟨EE, 0, none⟩ 1 [.string o.vType, .bool o.vCapture, .bool o.vOnce, .int .i64 o.vStop, .string o.vLname] (by rw [← eEE]; first | rfl | simp [go_sem]) rfl (by intro j u hu; match j, hu with | 0, hu => (simp at hu; subst hu; exact bG3.out.cell 0 rfl) | 1, hu => (simp at hu; subst hu; exact bG3.out.cell 1 rfl) | 2, hu => (simp at hu; subst hu; exact bG3.out.cell 2 rfl) | 3, hu => (simp at hu; subst hu; exact bG3.out.cell 3 rfl) | 4, hu => (simp at hu; subst hu; exact bG3.out.cell 4 rfl) | j + 5, hu => simp at hu) (by intro u hu; simp at hu; rcases hu with rfl | rfl | rfl | rfl | rfl <;> rfl) (by have := hR.out.lis X hXm.out; unfold maxLen; omega) (by have := hR.out.lis X hXm.out; omega) (Nat.zero_le _) ?_
         intro gL cp w8 ho8 hg8 hat8
         have hgr8 := GrowOwn.snoc ListenerOwn_stays (n1 := X.vListeners.length + 1) hgLh.out (Below.refl _ _) (Nat.zero_le _) (cs := [.string o.vType, .bool o.vCapture, .bool o.vOnce, .int .i64 o.vStop, .string o.vLname]) (x := lisD o) (fs := []) rfl ⟨rfl, hfh.out.2.2.2.1, hsth.out, hfh.out.2.2.2.2, rfl⟩ List.nodup_nil (by simp) (by simp) (by rw [hXe.out]) ho8 hg8 hat8
         obtain ⟨fs9, hz9⟩ := hlis3.out w8 gL _ cp _ (lisD o) hgr8 hg8 hat8
         have hZ9 : Hid (HB w fs w.heap.size (w.heap.size + 1 + 1) (w8.setCell ⟨gN, i * 6 + 5, none⟩ (.slice (some ⟨gL, 0, none⟩) (X.vListeners.length + 1) cp)) (cHp x (some ⟨gN, 0, none⟩) kN aO kO aG kG) { x with vNodes := x.vNodes.set i { x.vNodes[i] with vListeners := x.vNodes[i].vListeners ++ [lisD o] } } fs9) := hz9
         have bH8 : Hid (Box w8 w.heap.size (cHp x (some ⟨gN, 0, none⟩) kN aO kO aG kG) 28) := hY3.out.hb.bH.grownP hg8 (fun e => (hownh.out _ e).2.2 rfl)
         have bQ8 : Hid (Box w8 (w.heap.size + 1) (cOp 12 o) 91) := hY3.out.bq.grownP hg8 (fun e => hY3.out.nq _ (hownh.out _ e).1 rfl)
         obtain ⟨cur8, hb8⟩ := hY3.out.hb.hp.boxN
         have bN8 : Hid (Box w8 gN cur8 73) := hb8.grownP hg8 (fun e => (hownh.out _ e).2.1 rfl)
         have hl8 : Hid (w8.cell? ⟨gN, i * 6 + 5, none⟩ = some (.slice n5 X.vListeners.length m5)) := (World.cell?_of_block (w := u9) (w' := w8) (hg8.block gN hb8.lt (fun e => (hownh.out _ e.symm).2.1 rfl))).trans hl3.out
         clear hgL hown hlis2 hgLh hlis3 hownh hgr8 hz9 hb8 ho8 hg8 hat8 eEE
         refine hK.out _ _ ⟨bH8.out.cell 0 rfl, bH8.out.cell 1 rfl, bH8.out.cell 2 rfl, bH8.out.cell 3 rfl, bH8.out.cell 4 rfl, bQ8.out.cell 4 rfl, bQ8.out.cell 5 rfl, bQ8.out.cell 6 rfl, bQ8.out.cell 7 rfl, bQ8.out.cell 8 rfl⟩ (fun hHeld => ?_)
         clear hK K
         refine tk 17 ?_
         refine tk 18 ?_
         refine rd1 19 (fun K hK => ?_)
         have ldc := hl8.out
         have ufn := bN8.out.unfrozen
         have bQ9 : Hid (Box (w8.setCell ⟨gN, i * 6 + 5, none⟩ (.slice (some ⟨gL, 0, none⟩) (X.vListeners.length + 1) cp)) (w.heap.size + 1) (cOp 12 o) 91) := bQ8.out.other hqN.out _
         go_simp
         clear ldc ufn
         refine hK.out _ _ ⟨hZ9.out.bH.cell 0 rfl, hZ9.out.bH.cell 1 rfl, hZ9.out.bH.cell 2 rfl, hZ9.out.bH.cell 3 rfl, hZ9.out.bH.cell 4 rfl, bQ9.out.cell 4 rfl, bQ9.out.cell 5 rfl, bQ9.out.cell 6 rfl, bQ9.out.cell 7 rfl, bQ9.out.cell 8 rfl⟩ (fun hHeld => ?_)
         clear hK K
         refine wpAnyH_done (by kernel_rfl) ?_ _
         clear hHeld
         obtain ⟨d0, d1, d2, d3, d4⟩ := fv5 hZ9.out.bH
         obtain ⟨z0, z1, z2, z3, z4⟩ := fv5 hZ9.out.bR
         have uz := hZ9.out.bR.unfrozen
         go_wp2_with fail
         have bF : Box (putCells (w8.setCell ⟨gN, i * 6 + 5, none⟩ (.slice (some ⟨gL, 0, none⟩) (X.vListeners.length + 1) cp)) (w.heap.size + 1 + 1) 0 (cHp x (some ⟨gN, 0, none⟩) kN aO kO aG kG)) (w.heap.size + 1 + 1) (cHp x (some ⟨gN, 0, none⟩) kN aO kO aG kG) 28 := Box.puts5 hZ9.out.bR
         obtain ⟨g0, g1, g2, g3, g4⟩ := fv5 bF
         exact bodyPost_ret (v := .tuple #[.agg (List.toArray (cHp x (some ⟨gN, 0, none⟩) kN aO kO aG kG)), .int .i64 0]) (by simp only [putCells] at g0 g1 g2 g3 g4; simp [results, Tryz.results124, go_sem, g0, g1, g2, g3, g4]) rfl ⟨(cHp x (some ⟨gN, 0, none⟩) kN aO kO aG kG), by rw [htdh.out], by rw [htdh.out]; exact hZ9.out.ret (cHp x (some ⟨gN, 0, none⟩) kN aO kO aG kG)⟩
end K12
end Go.Proofs.YtdnembnlomnceaaGreat
namespace Go.Proofs.YtdnembnlomnceaaGreat
open Go.RowKit Go.Deep
namespace A9
theorem HeapP.docI {w : World} {cs : List Value} {x : HeapD} {fs : List Nat} (h : HeapP w cs x fs) : InI x.vDoc := by
 obtain ⟨vN, vO, vG, bN, bO, cN, cO, fG, e, hN, _, _, _, i2, _⟩ := h
 exact i2
theorem gO_mem {w : World} {k0 k1 vN vG : Value} {g nl cap : Nat} {x : HeapD} {fs : List Nat} (h : HeapP w [k0, k1, vN, .slice (some ⟨g, 0, none⟩) nl cap, vG] x fs) {i : Nat} (hi : i < x.vObjs.length) : g ∈ fs := by
 obtain ⟨_, _, _, _, _, q, _⟩ := HeapP.obj h hi
 exact q
set_option maxRecDepth 100000 in
set_option maxHeartbeats 8000000 in
theorem l4Act9_any {w : World} {cs : List Value} {x : HeapD} {fs : List Nat} {o : OpD} (hp : HeapP w cs x fs) (hf : o.fits) (hst0 : InI o.vStop) (hs : specB x = true) (hk0 : o.vKind = 9 ∨ o.vKind = 11 ∨ o.vKind = 12) :
 Calls Tryz.prog 106 #[.agg cs.toArray, .agg o.cells.toArray] w fun e w' => ∃ cs', e = .returned (.tuple #[.agg cs'.toArray, .int .i64 (actD x o).2]) ∧ HR w fs w' cs' (actD x o).1 := by
 obtain ⟨aN, kN, aO, kO, aG, kG, rfl⟩ := hp.form
 have hR : Hid (RightH x) := right_of hs
 have hsh : Hid (specB x = true) := hs
 have hst : Hid (InI o.vStop) := hst0
 unfold OpD.cells
 obtain ⟨k, hk⟩ : ∃ k, o.vKind = k := ⟨_, rfl⟩
 have hZ0 : Hid (HX (cOp k o) 91 w fs w.heap.size (w.heap.size + 1 + 1) (w.heap.size + 1) (((w.alloc (.cells (cHp x aN kN aO kO aG kG).toArray 28)).alloc (.cells (cOp k o).toArray 91)).alloc (.cells cZp.toArray 28)) (cHp x aN kN aO kO aG kG) x fs) := HX.start hp
 rw [hk] at hk0 ⊢
 have hkh : Hid (o.vKind = k) := hk
 have hkc : Hid (k = 9 ∨ k = 11 ∨ k = 12) := hk0
 have hfh : Hid o.fits := hf
 have hgl : Hid (x.vGlobals.length ≤ 1000) := by show _ ≤ _; have := hR.out.nG; omega
 obtain ⟨mi, hmi0⟩ : ∃ mi, fieldR x.vGlobals o.vName = mi := ⟨_, rfl⟩
 obtain ⟨ot, hot⟩ : ∃ ot, fieldR x.vGlobals o.vOther = ot := ⟨_, rfl⟩
 obtain ⟨at_, hat⟩ : ∃ at_, idxO x mi = at_ := ⟨_, rfl⟩
 have hmh : Hid (fieldR x.vGlobals o.vName = mi) := hmi0
 have hoh : Hid (fieldR x.vGlobals o.vOther = ot) := hot
 have hath : Hid (idxO x mi = at_) := hat
 have hmt : Hid (mi = 0 ∨ 0 ≤ idxO x mi) := by show _ ∨ _; rw [← hmi0]; exact glob_there hR.out _
 have hotI : Hid (InI ot) := by show InI ot; rw [← hot]; exact fieldR_in hZ0.out.hb.hp.globs _
 clear hk hk0 hp hf hs hst0 hmi0 hot hat
 go_enter Tryz.func106, Tryz.ntmps106
 go_upto_region 1 with fail
 generalize (((w.alloc (.cells (cHp x aN kN aO kO aG kG).toArray 28)).alloc (.cells (cOp k o).toArray 91)).alloc (.cells cZp.toArray 28)) = w0 at hZ0 ⊢
 have d4 := hZ0.out.hb.bH.cell 4 rfl
 have o1 := hZ0.out.bq.cell 1 rfl
 go_wp2_with fail
 refine (l2Field_any hZ0.out.hb.hp.globs).mono ?_
 rintro e w' ⟨rfl, e9⟩
 have e10 := e9.symm
 clear e9
 subst e10
 rw [hmh.out]
 clear o1
 have o2 := hZ0.out.bq.cell 2 rfl
 go_wp2_with fail
 refine (l2Field_any hZ0.out.hb.hp.globs).mono ?_
 rintro e w' ⟨rfl, e9⟩
 have e10 := e9.symm
 clear e9
 subst e10
 rw [hoh.out]
 clear o2 d4
 obtain ⟨d0, d1, d2, d3, d4⟩ := fv5 hZ0.out.hb.bH
 go_wp2_with fail
 refine (l2Obj_any hZ0.out.hb.hp.at0).mono ?_
 rintro e w3 ⟨rfl, hb3⟩
 rw [hath.out]
 have hZ3 : Hid _ := hZ0.out.below hb3
 clear hb3 hZ0 d0 d1 d2 d3 d4
 obtain ⟨y, hy⟩ : ∃ y, (treeD x o).1 = y := ⟨_, rfl⟩
 have hyh : Hid ((treeD x o).1 = y) := hy
 obtain ⟨c, hc⟩ : ∃ c, (treeD x o).2 = c := ⟨_, rfl⟩
 have hch : Hid ((treeD x o).2 = c) := hc
 clear hy hc
 have hcall : Hid (Calls Tryz.prog 124 #[.agg (List.toArray (cHp x aN kN aO kO aG kG)), .agg (List.toArray (cOp k o))] w3 fun e w' => ∃ cs', e = .returned (.tuple #[.agg cs'.toArray, .int .i64 (treeD x o).2]) ∧ HR w3 fs w' cs' (treeD x o).1) := by
  have q : Calls Tryz.prog 124 #[.agg (List.toArray (cHp x aN kN aO kO aG kG)), .agg o.cells.toArray] w3 fun e w' => ∃ cs', e = .returned (.tuple #[.agg cs'.toArray, .int .i64 (treeD x o).2]) ∧ HR w3 fs w' cs' (treeD x o).1 := by
   rcases hkc.out with h | h | h
   · exact K9.l4Tree9_any hZ3.out.hb.hp hfh.out hsh.out (by rw [hkh.out]; exact h)
   · exact K11.l4Tree11_any hZ3.out.hb.hp hfh.out hsh.out (by rw [hkh.out]; exact h)
   · exact K12.l4Tree12_any hZ3.out.hb.hp hfh.out hsh.out (by rw [hkh.out]; exact h) hst.out
  unfold OpD.cells at q
  rw [hkh.out] at q
  exact q
 rcases hkc.out with rfl | rfl | rfl
 all_goals
  by_cases hm0 : mi = 0
  · have htd : Hid (actD x o = (x, 3)) := by show _ = _; unfold actD; rw [hmh.out, hoh.out]; unfold actOp; simp [hkh.out, hm0]
    have o0 := hZ3.out.bq.cell 0 rfl
    have hZf : Hid _ := hZ3.out.hb
    obtain ⟨d0, d1, d2, d3, d4⟩ := fv5 hZf.out.bH
    obtain ⟨z0, z1, z2, z3, z4⟩ := fv5 hZf.out.bR
    have uz := hZf.out.bR.unfrozen
    go_wp2_with fail
    have bF : Box (putCells w3 (w.heap.size + 1 + 1) 0 (cHp x aN kN aO kO aG kG)) (w.heap.size + 1 + 1) (cHp x aN kN aO kO aG kG) 28 := Box.puts5 hZf.out.bR
    obtain ⟨g0, g1, g2, g3, g4⟩ := fv5 bF
    exact bodyPost_ret (v := .tuple #[.agg (List.toArray (cHp x aN kN aO kO aG kG)), .int .i64 3]) (by simp only [putCells] at g0 g1 g2 g3 g4; simp [results, Tryz.results106, go_sem, g0, g1, g2, g3, g4]) rfl ⟨(cHp x aN kN aO kO aG kG), by rw [htd.out], by rw [htd.out]; exact hZf.out.ret (cHp x aN kN aO kO aG kG)⟩
  have hm0h : Hid (¬ mi = 0) := hm0
  have hmi : Hid (0 ≤ idxO x mi) := by rcases hmt.out with q | q; exact absurd q hm0; exact q
  have o0 := hZ3.out.bq.cell 0 rfl
  rcases Classical.em (ot = 0) with hot0 | hot0
  all_goals
   go_upto_region 11 with fail
   clear hot0 o0
   obtain ⟨d0, d1, d2, d3, d4⟩ := fv5 hZ3.out.hb.bH
   have o0 := hZ3.out.bq.cell 0 rfl
   have o1 := hZ3.out.bq.cell 1 rfl
   have o2 := hZ3.out.bq.cell 2 rfl
   have o3 := hZ3.out.bq.cell 3 rfl
   have o4 := hZ3.out.bq.cell 4 rfl
   have o5 := hZ3.out.bq.cell 5 rfl
   have o6 := hZ3.out.bq.cell 6 rfl
   have o7 := hZ3.out.bq.cell 7 rfl
   have o8 := hZ3.out.bq.cell 8 rfl
   go_wp2_with fail
   refine (hcall.out).mono ?_
   rintro e w6 ⟨cs6, rfl, hr6⟩
   have htd : Hid (actD x o = (y, c)) := by show _ = _; unfold actD; rw [hmh.out, hoh.out]; unfold actOp; rw [if_neg (by rw [hkh.out]; decide), if_neg (by rw [hkh.out]; have h1 := hm0h.out; omega), if_neg (by rw [hkh.out]; decide), if_neg (by rw [hkh.out]; decide), if_neg (by rw [hkh.out]; decide), ← hyh.out, ← hch.out]
   rw [hyh.out] at hr6
   rw [hch.out]
   obtain ⟨aN6, kN6, aO6, kO6, aG6, kG6, rfl⟩ := hr6.form
   obtain ⟨bR6, hR6⟩ := hZ3.out.hb.over hr6
   have bR6h : Hid (Box w6 (w.heap.size + 1 + 1) cZp 28) := bR6
   have hR6h : Hid _ := hR6
   clear hr6 bR6 hR6 d0 d1 d2 d3 d4 o0 o1 o2 o3 o4 o5 o6 o7 o8
   obtain ⟨z0, z1, z2, z3, z4⟩ := fv5 bR6h.out
   have uz := bR6h.out.unfrozen
   go_wp2_with fail
   have bF : Box (putCells w6 (w.heap.size + 1 + 1) 0 (cHp y aN6 kN6 aO6 kO6 aG6 kG6)) (w.heap.size + 1 + 1) (cHp y aN6 kN6 aO6 kO6 aG6 kG6) 28 := Box.puts5 bR6h.out
   obtain ⟨g0, g1, g2, g3, g4⟩ := fv5 bF
   exact bodyPost_ret (v := .tuple #[.agg (List.toArray (cHp y aN6 kN6 aO6 kO6 aG6 kG6)), .int .i64 c]) (by simp only [putCells] at g0 g1 g2 g3 g4; simp [results, Tryz.results106, go_sem, g0, g1, g2, g3, g4]) rfl ⟨(cHp y aN6 kN6 aO6 kO6 aG6 kG6), by rw [htd.out], by rw [htd.out]; exact hR6h.out⟩
end A9
end Go.Proofs.YtdnembnlomnceaaGreat
