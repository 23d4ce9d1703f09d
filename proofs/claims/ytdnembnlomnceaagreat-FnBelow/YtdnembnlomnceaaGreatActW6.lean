/- l4Act of the specification: walked, for the ops of kind 6. -/
import Derived.Test.YtdnembnlomnceaaGreatAbb
import Derived.Test.YtdnembnlomnceaaGreatRnAct
import Derived.Test.YtdnembnlomnceaaGreatMakeW
import Derived.Test.YtdnembnlomnceaaGreatHeldS
import Derived.Test.YtdnembnlomnceaaGreatTakeMore
namespace Go.Proofs.YtdnembnlomnceaaGreat
open Go.RowKit Go.Deep
namespace A1
theorem HeapP.docI {w : World} {cs : List Value} {x : HeapD} {fs : List Nat} (h : HeapP w cs x fs) : InI x.vDoc := by
 obtain ⟨vN, vO, vG, bN, bO, cN, cO, fG, e, hN, _, _, _, i2, _⟩ := h
 exact i2
theorem gO_mem {w : World} {k0 k1 vN vG : Value} {g nl cap : Nat} {x : HeapD} {fs : List Nat} (h : HeapP w [k0, k1, vN, .slice (some ⟨g, 0, none⟩) nl cap, vG] x fs) {i : Nat} (hi : i < x.vObjs.length) : g ∈ fs := by
 obtain ⟨_, _, _, _, _, q, _⟩ := HeapP.obj h hi
 exact q
set_option maxRecDepth 100000 in
set_option maxHeartbeats 8000000 in
theorem l4Act1_any {w : World} {cs : List Value} {x : HeapD} {fs : List Nat} {o : OpD} (hp : HeapP w cs x fs) (hf : o.fits) (hst0 : InI o.vStop) (hs : specB x = true) (hk0 : o.vKind = 1 ∨ o.vKind = 2 ∨ o.vKind = 10) :
 Calls Tryz.prog 106 #[.agg cs.toArray, .agg o.cells.toArray] w fun e w' => ∃ cs', e = .returned (.tuple #[.agg cs'.toArray, .int .i64 (actD x o).2]) ∧ HR w fs w' cs' (actD x o).1 := by
 obtain ⟨aN, kN, aO, kO, aG, kG, rfl⟩ := hp.form
 have hR : Hid (RightH x) := right_of hs
 have hsh : Hid (specB x = true) := hs
 have hst : Hid (InI o.vStop) := hst0
 unfold OpD.cells
 obtain ⟨k, hk⟩ : ∃ k, o.vKind = k := ⟨_, rfl⟩
 have hZ0 : Hid (HX (cOp k o) 91 w fs w.heap.size (w.heap.size + 1 + 1) (w.heap.size + 1) (((w.alloc (.cells (cHp x aN kN aO kO aG kG).toArray 28)).alloc (.cells (cOp k o).toArray 91)).alloc (.cells cZp.toArray 28)) (cHp x aN kN aO kO aG kG) x fs) := HX.start hp
 rw [hk] at hk0 ⊢
 have hkh : Hid (o.vKind = k) := hk
 have hkc : Hid (k = 1 ∨ k = 2 ∨ k = 10) := hk0
 have hfh : Hid o.fits := hf
 have hgl : Hid (x.vGlobals.length ≤ 1000) := by show _ ≤ _; have := hR.out.nG; omega
 obtain ⟨mi, hmi0⟩ : ∃ mi, fieldR x.vGlobals o.vName = mi := ⟨_, rfl⟩
 obtain ⟨ot, hot⟩ : ∃ ot, fieldR x.vGlobals o.vOther = ot := ⟨_, rfl⟩
 obtain ⟨at_, hat⟩ : ∃ at_, idxO x mi = at_ := ⟨_, rfl⟩
 have hmh : Hid (fieldR x.vGlobals o.vName = mi) := hmi0
 have hoh : Hid (fieldR x.vGlobals o.vOther = ot) := hot
 have hath : Hid (idxO x mi = at_) := hat
 have hmt : Hid (mi = 0 ∨ 0 ≤ idxO x mi) := by show _ ∨ _; rw [← hmi0]; exact glob_there hR.out _
 have hotI : Hid (InI ot) := by show InI ot; rw [← hot]; exact fieldR_in hZ0.out.hb.hp.globs _
 clear hk hk0 hp hf hs hst0 hmi0 hot hat
 go_enter Tryz.func106, Tryz.ntmps106
 go_upto_region 1 with fail
 generalize (((w.alloc (.cells (cHp x aN kN aO kO aG kG).toArray 28)).alloc (.cells (cOp k o).toArray 91)).alloc (.cells cZp.toArray 28)) = w0 at hZ0 ⊢
 have d4 := hZ0.out.hb.bH.cell 4 rfl
 have o1 := hZ0.out.bq.cell 1 rfl
 go_wp2_with fail
 refine (l2Field_any hZ0.out.hb.hp.globs).mono ?_
 rintro e w' ⟨rfl, e9⟩
 have e10 := e9.symm
 clear e9
 subst e10
 rw [hmh.out]
 clear o1
 have o2 := hZ0.out.bq.cell 2 rfl
 go_wp2_with fail
 refine (l2Field_any hZ0.out.hb.hp.globs).mono ?_
 rintro e w' ⟨rfl, e9⟩
 have e10 := e9.symm
 clear e9
 subst e10
 rw [hoh.out]
 clear o2 d4
 obtain ⟨d0, d1, d2, d3, d4⟩ := fv5 hZ0.out.hb.bH
 go_wp2_with fail
 refine (l2Obj_any hZ0.out.hb.hp.at0).mono ?_
 rintro e w3 ⟨rfl, hb3⟩
 rw [hath.out]
 have hZ3 : Hid _ := hZ0.out.below hb3
 clear hb3 hZ0 d0 d1 d2 d3 d4
 obtain ⟨y, hy⟩ : ∃ y, makeD x o = y := ⟨_, rfl⟩
 have hyh : Hid (makeD x o = y) := hy
 clear hy
 have hcall : Hid (Calls Tryz.prog 122 #[.agg (List.toArray (cHp x aN kN aO kO aG kG)), .agg (List.toArray (cOp k o))] w3 fun e w' => ∃ cs', e = .returned (.tuple #[.agg cs'.toArray, .int .i64 0]) ∧ HR w3 fs w' cs' (makeD x o)) := by
  have q := l4Make_any hZ3.out.hb.hp hfh.out (by have := hR.out.next; omega) (by have := hR.out.nO; omega) (by have := hR.out.nN; omega) (by have := hR.out.nG; omega) (HeapP.docI hZ3.out.hb.hp) (fun _ => hR.out.doc) (wrap_inI hZ3.out.hb.hp _) (by rw [hkh.out]; have := hkc.out; omega)
  unfold OpD.cells at q
  rw [hkh.out] at q
  exact q
 rcases hkc.out with rfl | rfl | rfl
 all_goals
  obtain ⟨d0, d1, d2, d3, d4⟩ := fv5 hZ3.out.hb.bH
  have o0 := hZ3.out.bq.cell 0 rfl
  have o1 := hZ3.out.bq.cell 1 rfl
  have o2 := hZ3.out.bq.cell 2 rfl
  have o3 := hZ3.out.bq.cell 3 rfl
  have o4 := hZ3.out.bq.cell 4 rfl
  have o5 := hZ3.out.bq.cell 5 rfl
  have o6 := hZ3.out.bq.cell 6 rfl
  have o7 := hZ3.out.bq.cell 7 rfl
  have o8 := hZ3.out.bq.cell 8 rfl
  go_wp2_with fail
  refine (hcall.out).mono ?_
  rintro e w6 ⟨cs6, rfl, hr6⟩
  have htd : Hid (actD x o = (y, 0)) := by show _ = _; unfold actD actOp; rw [if_pos (by rw [hkh.out]; decide), hyh.out]
  rw [hyh.out] at hr6
  skip
  obtain ⟨aN6, kN6, aO6, kO6, aG6, kG6, rfl⟩ := hr6.form
  obtain ⟨bR6, hR6⟩ := hZ3.out.hb.over hr6
  have bR6h : Hid (Box w6 (w.heap.size + 1 + 1) cZp 28) := bR6
  have hR6h : Hid _ := hR6
  clear hr6 bR6 hR6 d0 d1 d2 d3 d4 o0 o1 o2 o3 o4 o5 o6 o7 o8
  obtain ⟨z0, z1, z2, z3, z4⟩ := fv5 bR6h.out
  have uz := bR6h.out.unfrozen
  go_wp2_with fail
  have bF : Box (putCells w6 (w.heap.size + 1 + 1) 0 (cHp y aN6 kN6 aO6 kO6 aG6 kG6)) (w.heap.size + 1 + 1) (cHp y aN6 kN6 aO6 kO6 aG6 kG6) 28 := Box.puts5 bR6h.out
  obtain ⟨g0, g1, g2, g3, g4⟩ := fv5 bF
  exact bodyPost_ret (v := .tuple #[.agg (List.toArray (cHp y aN6 kN6 aO6 kO6 aG6 kG6)), .int .i64 0]) (by simp only [putCells] at g0 g1 g2 g3 g4; simp [results, Tryz.results106, go_sem, g0, g1, g2, g3, g4]) rfl ⟨(cHp y aN6 kN6 aO6 kO6 aG6 kG6), by rw [htd.out], by rw [htd.out]; exact hR6h.out⟩
end A1
end Go.Proofs.YtdnembnlomnceaaGreat
namespace Go.Proofs.YtdnembnlomnceaaGreat
open Go.RowKit Go.Deep
namespace A3
theorem HeapP.docI {w : World} {cs : List Value} {x : HeapD} {fs : List Nat} (h : HeapP w cs x fs) : InI x.vDoc := by
 obtain ⟨vN, vO, vG, bN, bO, cN, cO, fG, e, hN, _, _, _, i2, _⟩ := h
 exact i2
theorem gO_mem {w : World} {k0 k1 vN vG : Value} {g nl cap : Nat} {x : HeapD} {fs : List Nat} (h : HeapP w [k0, k1, vN, .slice (some ⟨g, 0, none⟩) nl cap, vG] x fs) {i : Nat} (hi : i < x.vObjs.length) : g ∈ fs := by
 obtain ⟨_, _, _, _, _, q, _⟩ := HeapP.obj h hi
 exact q
set_option maxRecDepth 100000 in
set_option maxHeartbeats 8000000 in
theorem l4Act3_any {w : World} {cs : List Value} {x : HeapD} {fs : List Nat} {o : OpD} (hp : HeapP w cs x fs) (hf : o.fits) (hst0 : InI o.vStop) (hs : specB x = true) (hk : o.vKind = 3) :
 Calls Tryz.prog 106 #[.agg cs.toArray, .agg o.cells.toArray] w fun e w' => ∃ cs', e = .returned (.tuple #[.agg cs'.toArray, .int .i64 (actD x o).2]) ∧ HR w fs w' cs' (actD x o).1 := by
 obtain ⟨aN, kN, aO, kO, aG, kG, rfl⟩ := hp.form
 have hR : Hid (RightH x) := right_of hs
 have hsh : Hid (specB x = true) := hs
 have hst : Hid (InI o.vStop) := hst0
 have hZ0 : Hid (HX (cOp 3 o) 91 w fs w.heap.size (w.heap.size + 1 + 1) (w.heap.size + 1) (((w.alloc (.cells (cHp x aN kN aO kO aG kG).toArray 28)).alloc (.cells (cOp 3 o).toArray 91)).alloc (.cells cZp.toArray 28)) (cHp x aN kN aO kO aG kG) x fs) := HX.start hp
 unfold OpD.cells
 rw [hk]
 have hkh : Hid (o.vKind = 3) := hk
 have hfh : Hid o.fits := hf
 have hgl : Hid (x.vGlobals.length ≤ 1000) := by show _ ≤ _; have := hR.out.nG; omega
 obtain ⟨mi, hmi0⟩ : ∃ mi, fieldR x.vGlobals o.vName = mi := ⟨_, rfl⟩
 obtain ⟨ot, hot⟩ : ∃ ot, fieldR x.vGlobals o.vOther = ot := ⟨_, rfl⟩
 obtain ⟨at_, hat⟩ : ∃ at_, idxO x mi = at_ := ⟨_, rfl⟩
 have hmh : Hid (fieldR x.vGlobals o.vName = mi) := hmi0
 have hoh : Hid (fieldR x.vGlobals o.vOther = ot) := hot
 have hath : Hid (idxO x mi = at_) := hat
 have hmt : Hid (mi = 0 ∨ 0 ≤ idxO x mi) := by show _ ∨ _; rw [← hmi0]; exact glob_there hR.out _
 have hotI : Hid (InI ot) := by show InI ot; rw [← hot]; exact fieldR_in hZ0.out.hb.hp.globs _
 clear hk hp hf hs hst0 hmi0 hot hat
 go_enter Tryz.func106, Tryz.ntmps106
 go_upto_region 1 with fail
 generalize (((w.alloc (.cells (cHp x aN kN aO kO aG kG).toArray 28)).alloc (.cells (cOp 3 o).toArray 91)).alloc (.cells cZp.toArray 28)) = w0 at hZ0 ⊢
 have d4 := hZ0.out.hb.bH.cell 4 rfl
 have o1 := hZ0.out.bq.cell 1 rfl
 go_wp2_with fail
 refine (l2Field_any hZ0.out.hb.hp.globs).mono ?_
 rintro e w' ⟨rfl, e9⟩
 have e10 := e9.symm
 clear e9
 subst e10
 rw [hmh.out]
 clear o1
 have o2 := hZ0.out.bq.cell 2 rfl
 go_wp2_with fail
 refine (l2Field_any hZ0.out.hb.hp.globs).mono ?_
 rintro e w' ⟨rfl, e9⟩
 have e10 := e9.symm
 clear e9
 subst e10
 rw [hoh.out]
 clear o2 d4
 obtain ⟨d0, d1, d2, d3, d4⟩ := fv5 hZ0.out.hb.bH
 go_wp2_with fail
 refine (l2Obj_any hZ0.out.hb.hp.at0).mono ?_
 rintro e w3 ⟨rfl, hb3⟩
 rw [hath.out]
 have hZ3 : Hid _ := hZ0.out.below hb3
 clear hb3 hZ0 d0 d1 d2 d3 d4
 by_cases hm0 : mi = 0
 · have htd : Hid (actD x o = (x, 3)) := by show _ = _; unfold actD; rw [hmh.out, hoh.out]; unfold actOp; simp [hkh.out, hm0]
   have o0 := hZ3.out.bq.cell 0 rfl
   have hZf : Hid _ := hZ3.out.hb
   obtain ⟨d0, d1, d2, d3, d4⟩ := fv5 hZf.out.bH
   obtain ⟨z0, z1, z2, z3, z4⟩ := fv5 hZf.out.bR
   have uz := hZf.out.bR.unfrozen
   go_wp2_with fail
   have bF : Box (putCells w3 (w.heap.size + 1 + 1) 0 (cHp x aN kN aO kO aG kG)) (w.heap.size + 1 + 1) (cHp x aN kN aO kO aG kG) 28 := Box.puts5 hZf.out.bR
   obtain ⟨g0, g1, g2, g3, g4⟩ := fv5 bF
   exact bodyPost_ret (v := .tuple #[.agg (List.toArray (cHp x aN kN aO kO aG kG)), .int .i64 3]) (by simp only [putCells] at g0 g1 g2 g3 g4; simp [results, Tryz.results106, go_sem, g0, g1, g2, g3, g4]) rfl ⟨(cHp x aN kN aO kO aG kG), by rw [htd.out], by rw [htd.out]; exact hZf.out.ret (cHp x aN kN aO kO aG kG)⟩
 have hm0h : Hid (¬ mi = 0) := hm0
 have hmi : Hid (0 ≤ idxO x mi) := by rcases hmt.out with q | q; exact absurd q hm0; exact q
 by_cases hot0 : ot = 0
 · have htd : Hid (actD x o = (x, 3)) := by show _ = _; unfold actD; rw [hmh.out, hoh.out]; unfold actOp; simp [hkh.out, hot0]
   have o0 := hZ3.out.bq.cell 0 rfl
   have hZf : Hid _ := hZ3.out.hb
   obtain ⟨d0, d1, d2, d3, d4⟩ := fv5 hZf.out.bH
   obtain ⟨z0, z1, z2, z3, z4⟩ := fv5 hZf.out.bR
   have uz := hZf.out.bR.unfrozen
   go_wp2_with fail
   have bF : Box (putCells w3 (w.heap.size + 1 + 1) 0 (cHp x aN kN aO kO aG kG)) (w.heap.size + 1 + 1) (cHp x aN kN aO kO aG kG) 28 := Box.puts5 hZf.out.bR
   obtain ⟨g0, g1, g2, g3, g4⟩ := fv5 bF
   exact bodyPost_ret (v := .tuple #[.agg (List.toArray (cHp x aN kN aO kO aG kG)), .int .i64 3]) (by simp only [putCells] at g0 g1 g2 g3 g4; simp [results, Tryz.results106, go_sem, g0, g1, g2, g3, g4]) rfl ⟨(cHp x aN kN aO kO aG kG), by rw [htd.out], by rw [htd.out]; exact hZf.out.ret (cHp x aN kN aO kO aG kG)⟩
 have hot0h : Hid (¬ ot = 0) := hot0
 obtain ⟨i, hi, hidx0, X, hX, hfld0⟩ : ∃ i, ∃ hi : i < x.vObjs.length, idxO x mi = (i : Int) ∧ ∃ X, x.vObjs[i] = X ∧ fldsOf x mi = X.vFields := by
  rcases idxO_is x mi with ⟨q, _⟩ | ⟨i, hi, q, _, q2⟩
  · have := hmi.out; omega
  · exact ⟨i, hi, q, _, rfl, by unfold fldsOf; rw [q2]⟩
 have hidx : Hid (idxO x mi = (i : Int)) := hidx0
 have hXe : Hid (x.vObjs[i] = X) := hX
 have hXm : Hid (X ∈ x.vObjs) := by show X ∈ x.vObjs; rw [← hX]; exact List.getElem_mem hi
 have hfld : Hid (fldsOf x mi = X.vFields) := hfld0
 have hFl : Hid (X.vFields.length ≤ 1000) := by show _ ≤ _; have := (hR.out.flds X hXm.out).1; omega
 obtain ⟨gO, rfl, _⟩ := hZ3.out.hb.hp.posO (show 0 < x.vObjs.length by omega)
 have hiI : (i : Int) < (x.vObjs.length : Int) := by omega
 have hi0 : (0 : Int) ≤ (i : Int) := by omega
 obtain rfl : at_ = (i : Int) := by rw [← hath.out]; exact hidx0
 clear hidx0 hX hfld0
 have htdh : Hid (actD x o = ({ x with vObjs := x.vObjs.set i { X with vFields := setD X.vFields o.vWord ot } }, 0)) := by show _ = _; unfold actD; rw [hmh.out, hoh.out]; unfold actOp; simp [hkh.out, hm0h.out, hot0h.out, hfld.out, setO, hidx.out, modify_set _ _ _ hi, hXe.out]
 have o0 := hZ3.out.bq.cell 0 rfl
 go_upto_region 14 with fail
 have hY0 : Hid (HX (cOp 3 o) 91 w fs w.heap.size (w.heap.size + 1 + 1) (w.heap.size + 1) w3.drew (cHp x aN kN (some ⟨gO, 0, none⟩) kO aG kG) x fs) := hZ3.out.below (Below.drew (Below.refl _ _))
 obtain ⟨CO, fi, hC, hcell, hfn, hfl, hset0⟩ := hY0.out.hb.obj hi
 rw [hXe.out] at hC
 have hC0 : Hid (ObjOwn w3.drew CO X fi) := hC
 have hset : Hid _ := hset0
 obtain ⟨k2, f2, rfl, h2, _⟩ := hC
 obtain ⟨n2, m2, rfl⟩ := h2.form
 have hl0 : Hid (w3.drew.cell? ⟨gO, i * 3 + 2, none⟩ = some (.slice n2 X.vFields.length m2)) := hcell 2 _ rfl
 have hF0 : Hid (SeqAt 2 FieldAt w3.drew 0 (.slice n2 X.vFields.length m2) X.vFields) := h2.at FieldOwn_at (fun _ _ => Nat.zero_le _)
 have hqO : Hid ((w.heap.size + 1) ≠ gO) := by
  obtain ⟨_, _, _, _, _, _⟩ := hY0.out.hb.obj hi
  exact fun e => hY0.out.nq _ (gO_mem hY0.out.hb.hp hi) e.symm
 clear hcell hfn hfl hset0 h2
 refine wp_region_held_drew (S := fun w' => w'.cell? ⟨w.heap.size, 0, none⟩ = some (.int .i64 x.vNext) ∧ w'.cell? ⟨w.heap.size, 1, none⟩ = some (.int .i64 x.vDoc) ∧ w'.cell? ⟨w.heap.size, 2, none⟩ = some (.slice aN x.vNodes.length kN) ∧ w'.cell? ⟨w.heap.size, 3, none⟩ = some (.slice (some ⟨gO, 0, none⟩) x.vObjs.length kO) ∧ w'.cell? ⟨w.heap.size, 4, none⟩ = some (.slice aG x.vGlobals.length kG) ∧ w'.cell? ⟨w.heap.size + 1, 3, none⟩ = some (.string o.vWord)) (by kernel_rfl) (fv5a hY0.out.hb.bH (hY0.out.bq.cell 3 rfl)) (fun hHeld => ?_)
 refine tk 0 ?_
 refine tk 1 ?_
 refine tk 2 ?_
 refine tk 3 ?_
 refine tk 4 ?_
 refine tk 5 ?_
 refine tk 6 ?_
 refine tk 7 ?_
 refine tk 9 ?_
 refine tk 10 ?_
 refine tk 11 ?_
 refine rd1 8 (fun K hK => ?_)
 have ldc := hl0.out
 go_simp
 clear ldc
 refine hK.out _ _ hHeld (fun hHeld => ?_)
 clear hK K
 refine rd1 12 (fun K hK => ?_)
 go_simp
 refine (l4Set_any hF0.out hFl.out hfh.out.2.2.1 hotI.out).mono ?_
 rintro e u6 ⟨⟨v9, f9, rfl, hs9, hn9, hl9⟩, hb9⟩
 obtain ⟨aF9, kF9, rfl⟩ := hs9.form
 have hY6 : Hid _ := hY0.out.below hb9
 obtain ⟨fs9, hz9⟩ := hset.out u6 2 (.slice aF9 (setD X.vFields o.vWord ot).length kF9) _ f9 (by decide) hb9 (hC0.out.flds hs9) hn9 (fun b hb => Or.inr (hl9 b hb))
 have hZ9 : Hid (HB w fs w.heap.size (w.heap.size + 1 + 1) (u6.setCell ⟨gO, i * 3 + 2, none⟩ (.slice aF9 (setD X.vFields o.vWord ot).length kF9)) (cHp x aN kN (some ⟨gO, 0, none⟩) kO aG kG) { x with vObjs := x.vObjs.set i { X with vFields := (setD X.vFields o.vWord ot) } } fs9) := hz9
 have hl6 : Hid _ := cell_on hb9 hl0.out
 clear hs9 hn9 hl9 hb9 hz9
 refine hK.out _ _ (fv5a hY6.out.hb.bH (hY6.out.bq.cell 3 rfl)) (fun hHeld => ?_)
 clear hK K
 refine tk 13 ?_
 refine tk 14 ?_
 refine rd1 15 (fun K hK => ?_)
 have ldc := hl6.out
 obtain ⟨_, eg, ufo⟩ := hY6.out.hb.hp.posO (show 0 < x.vObjs.length by omega)
 injection eg with eg
 injection eg with eg
 subst eg
 have bQ9 : Hid (Box (u6.setCell ⟨gO, i * 3 + 2, none⟩ (.slice aF9 (setD X.vFields o.vWord ot).length kF9)) (w.heap.size + 1) (cOp 3 o) 91) := hY6.out.bq.other hqO.out _
 go_simp
 clear ldc ufo
 refine hK.out _ _ (fv5a hZ9.out.bH (bQ9.out.cell 3 rfl)) (fun hHeld => ?_)
 clear hK K
 refine wpAnyH_done (by kernel_rfl) ?_ _
 clear hHeld hl6 hY6
 generalize (u6.setCell ⟨gO, i * 3 + 2, none⟩ (.slice aF9 (setD X.vFields o.vWord ot).length kF9)) = wz at hZ9 bQ9 ⊢
 have o0 := bQ9.out.cell 0 rfl
 have hZf : Hid _ := hZ9
 obtain ⟨d0, d1, d2, d3, d4⟩ := fv5 hZf.out.bH
 obtain ⟨z0, z1, z2, z3, z4⟩ := fv5 hZf.out.bR
 have uz := hZf.out.bR.unfrozen
 go_wp2_with fail
 have bF : Box (putCells wz (w.heap.size + 1 + 1) 0 (cHp x aN kN (some ⟨gO, 0, none⟩) kO aG kG)) (w.heap.size + 1 + 1) (cHp x aN kN (some ⟨gO, 0, none⟩) kO aG kG) 28 := Box.puts5 hZf.out.bR
 obtain ⟨g0, g1, g2, g3, g4⟩ := fv5 bF
 exact bodyPost_ret (v := .tuple #[.agg (List.toArray (cHp x aN kN (some ⟨gO, 0, none⟩) kO aG kG)), .int .i64 0]) (by simp only [putCells] at g0 g1 g2 g3 g4; simp [results, Tryz.results106, go_sem, g0, g1, g2, g3, g4]) rfl ⟨(cHp x aN kN (some ⟨gO, 0, none⟩) kO aG kG), by rw [htdh.out], by rw [htdh.out]; exact hZf.out.ret (cHp x aN kN (some ⟨gO, 0, none⟩) kO aG kG)⟩
end A3
end Go.Proofs.YtdnembnlomnceaaGreat
namespace Go.Proofs.YtdnembnlomnceaaGreat
open Go.RowKit Go.Deep
namespace A4
theorem HeapP.docI {w : World} {cs : List Value} {x : HeapD} {fs : List Nat} (h : HeapP w cs x fs) : InI x.vDoc := by
 obtain ⟨vN, vO, vG, bN, bO, cN, cO, fG, e, hN, _, _, _, i2, _⟩ := h
 exact i2
theorem gO_mem {w : World} {k0 k1 vN vG : Value} {g nl cap : Nat} {x : HeapD} {fs : List Nat} (h : HeapP w [k0, k1, vN, .slice (some ⟨g, 0, none⟩) nl cap, vG] x fs) {i : Nat} (hi : i < x.vObjs.length) : g ∈ fs := by
 obtain ⟨_, _, _, _, _, q, _⟩ := HeapP.obj h hi
 exact q
set_option maxRecDepth 100000 in
set_option maxHeartbeats 8000000 in
theorem l4Act4_any {w : World} {cs : List Value} {x : HeapD} {fs : List Nat} {o : OpD} (hp : HeapP w cs x fs) (hf : o.fits) (hst0 : InI o.vStop) (hs : specB x = true) (hk : o.vKind = 4) :
 Calls Tryz.prog 106 #[.agg cs.toArray, .agg o.cells.toArray] w fun e w' => ∃ cs', e = .returned (.tuple #[.agg cs'.toArray, .int .i64 (actD x o).2]) ∧ HR w fs w' cs' (actD x o).1 := by
 obtain ⟨aN, kN, aO, kO, aG, kG, rfl⟩ := hp.form
 have hR : Hid (RightH x) := right_of hs
 have hsh : Hid (specB x = true) := hs
 have hst : Hid (InI o.vStop) := hst0
 have hZ0 : Hid (HX (cOp 4 o) 91 w fs w.heap.size (w.heap.size + 1 + 1) (w.heap.size + 1) (((w.alloc (.cells (cHp x aN kN aO kO aG kG).toArray 28)).alloc (.cells (cOp 4 o).toArray 91)).alloc (.cells cZp.toArray 28)) (cHp x aN kN aO kO aG kG) x fs) := HX.start hp
 unfold OpD.cells
 rw [hk]
 have hkh : Hid (o.vKind = 4) := hk
 have hfh : Hid o.fits := hf
 have hgl : Hid (x.vGlobals.length ≤ 1000) := by show _ ≤ _; have := hR.out.nG; omega
 obtain ⟨mi, hmi0⟩ : ∃ mi, fieldR x.vGlobals o.vName = mi := ⟨_, rfl⟩
 obtain ⟨ot, hot⟩ : ∃ ot, fieldR x.vGlobals o.vOther = ot := ⟨_, rfl⟩
 obtain ⟨at_, hat⟩ : ∃ at_, idxO x mi = at_ := ⟨_, rfl⟩
 have hmh : Hid (fieldR x.vGlobals o.vName = mi) := hmi0
 have hoh : Hid (fieldR x.vGlobals o.vOther = ot) := hot
 have hath : Hid (idxO x mi = at_) := hat
 have hmt : Hid (mi = 0 ∨ 0 ≤ idxO x mi) := by show _ ∨ _; rw [← hmi0]; exact glob_there hR.out _
 have hotI : Hid (InI ot) := by show InI ot; rw [← hot]; exact fieldR_in hZ0.out.hb.hp.globs _
 clear hk hp hf hs hst0 hmi0 hot hat
 go_enter Tryz.func106, Tryz.ntmps106
 go_upto_region 1 with fail
 generalize (((w.alloc (.cells (cHp x aN kN aO kO aG kG).toArray 28)).alloc (.cells (cOp 4 o).toArray 91)).alloc (.cells cZp.toArray 28)) = w0 at hZ0 ⊢
 have d4 := hZ0.out.hb.bH.cell 4 rfl
 have o1 := hZ0.out.bq.cell 1 rfl
 go_wp2_with fail
 refine (l2Field_any hZ0.out.hb.hp.globs).mono ?_
 rintro e w' ⟨rfl, e9⟩
 have e10 := e9.symm
 clear e9
 subst e10
 rw [hmh.out]
 clear o1
 have o2 := hZ0.out.bq.cell 2 rfl
 go_wp2_with fail
 refine (l2Field_any hZ0.out.hb.hp.globs).mono ?_
 rintro e w' ⟨rfl, e9⟩
 have e10 := e9.symm
 clear e9
 subst e10
 rw [hoh.out]
 clear o2 d4
 obtain ⟨d0, d1, d2, d3, d4⟩ := fv5 hZ0.out.hb.bH
 go_wp2_with fail
 refine (l2Obj_any hZ0.out.hb.hp.at0).mono ?_
 rintro e w3 ⟨rfl, hb3⟩
 rw [hath.out]
 have hZ3 : Hid (HX (cOp 4 o) 91 w fs w.heap.size (w.heap.size + 1 + 1) (w.heap.size + 1) w3 (cHp x aN kN aO kO aG kG) x fs) := hZ0.out.below hb3
 clear hb3 hZ0 d0 d1 d2 d3 d4
 by_cases hm0 : mi = 0
 · have htd : Hid (actD x o = (x, 3)) := by show _ = _; unfold actD; rw [hmh.out, hoh.out]; unfold actOp; simp [hkh.out, hm0]
   have o0 := hZ3.out.bq.cell 0 rfl
   have hZf : Hid _ := hZ3.out.hb
   obtain ⟨d0, d1, d2, d3, d4⟩ := fv5 hZf.out.bH
   obtain ⟨z0, z1, z2, z3, z4⟩ := fv5 hZf.out.bR
   have uz := hZf.out.bR.unfrozen
   go_wp2_with fail
   have bF : Box (putCells w3 (w.heap.size + 1 + 1) 0 (cHp x aN kN aO kO aG kG)) (w.heap.size + 1 + 1) (cHp x aN kN aO kO aG kG) 28 := Box.puts5 hZf.out.bR
   obtain ⟨g0, g1, g2, g3, g4⟩ := fv5 bF
   exact bodyPost_ret (v := .tuple #[.agg (List.toArray (cHp x aN kN aO kO aG kG)), .int .i64 3]) (by simp only [putCells] at g0 g1 g2 g3 g4; simp [results, Tryz.results106, go_sem, g0, g1, g2, g3, g4]) rfl ⟨(cHp x aN kN aO kO aG kG), by rw [htd.out], by rw [htd.out]; exact hZf.out.ret (cHp x aN kN aO kO aG kG)⟩
 have hm0h : Hid (¬ mi = 0) := hm0
 have hmi : Hid (0 ≤ idxO x mi) := by rcases hmt.out with q | q; exact absurd q hm0; exact q
 have o0 := hZ3.out.bq.cell 0 rfl
 rcases Classical.em (ot = 0) with hot0 | hot0
 all_goals
  go_upto_region 11 with fail
  clear hot0 o0
  obtain ⟨i, hi, hidx0, X, hX, hfld0⟩ : ∃ i, ∃ hi : i < x.vObjs.length, idxO x mi = (i : Int) ∧ ∃ X, x.vObjs[i] = X ∧ fldsOf x mi = X.vFields := by
   rcases idxO_is x mi with ⟨q, _⟩ | ⟨i, hi, q, _, q2⟩
   · have := hmi.out; omega
   · exact ⟨i, hi, q, _, rfl, by unfold fldsOf; rw [q2]⟩
  have hidx : Hid (idxO x mi = (i : Int)) := hidx0
  have hXe : Hid (x.vObjs[i] = X) := hX
  have hXm : Hid (X ∈ x.vObjs) := by show X ∈ x.vObjs; rw [← hX]; exact List.getElem_mem hi
  have hfld : Hid (fldsOf x mi = X.vFields) := hfld0
  have hFl : Hid (X.vFields.length ≤ 1000) := by show _ ≤ _; have := (hR.out.flds X hXm.out).1; omega
  obtain ⟨gO, rfl, _⟩ := hZ3.out.hb.hp.posO (show 0 < x.vObjs.length by omega)
  have hiI : (i : Int) < (x.vObjs.length : Int) := by omega
  have hi0 : (0 : Int) ≤ (i : Int) := by omega
  obtain rfl : at_ = (i : Int) := by rw [← hath.out]; exact hidx0
  clear hidx0 hX hfld0
  obtain ⟨id, hid⟩ : ∃ id, fieldR X.vFields o.vWord = id := ⟨_, rfl⟩
  have hidh : Hid (fieldR X.vFields o.vWord = id) := hid
  clear hid
  have o0 := hZ3.out.bq.cell 0 rfl
  go_upto_region 17 with fail
  clear o0
  have hY0 : Hid (HX (cOp 4 o) 91 w fs w.heap.size (w.heap.size + 1 + 1) (w.heap.size + 1) w3.drew (cHp x aN kN (some ⟨gO, 0, none⟩) kO aG kG) x fs) := hZ3.out.below (Below.drew (Below.refl _ _))
  obtain ⟨CO, fi, hC, hcell, hfn, hfl, hset0⟩ := hY0.out.hb.obj hi
  rw [hXe.out] at hC
  obtain ⟨k2, f2, rfl, h2, _⟩ := hC
  obtain ⟨n2, m2, rfl⟩ := h2.form
  have hl0 : Hid (w3.drew.cell? ⟨gO, i * 3 + 2, none⟩ = some (.slice n2 X.vFields.length m2)) := hcell 2 _ rfl
  have hF0 : Hid (SeqAt 2 FieldAt w3.drew 0 (.slice n2 X.vFields.length m2) X.vFields) := h2.at FieldOwn_at (fun _ _ => Nat.zero_le _)
  have hidI : Hid (InI id) := by show InI id; rw [← hidh.out]; exact fieldR_in hF0.out _
  clear hcell hfn hfl hset0 h2
  refine wp_region_held_drew (S := fun w' => w'.cell? ⟨w.heap.size, 0, none⟩ = some (.int .i64 x.vNext) ∧ w'.cell? ⟨w.heap.size, 1, none⟩ = some (.int .i64 x.vDoc) ∧ w'.cell? ⟨w.heap.size, 2, none⟩ = some (.slice aN x.vNodes.length kN) ∧ w'.cell? ⟨w.heap.size, 3, none⟩ = some (.slice (some ⟨gO, 0, none⟩) x.vObjs.length kO) ∧ w'.cell? ⟨w.heap.size, 4, none⟩ = some (.slice aG x.vGlobals.length kG) ∧ w'.cell? ⟨w.heap.size + 1, 3, none⟩ = some (.string o.vWord) ∧ w'.cell? ⟨gO, i * 3 + 2, none⟩ = some (.slice n2 X.vFields.length m2)) (by kernel_rfl) (fv5a hY0.out.hb.bH ⟨hY0.out.bq.cell 3 rfl, hl0.out⟩) (fun hHeld => ?_)
  refine tk 0 ?_
  refine tk 1 ?_
  refine tk 2 ?_
  refine tk 3 ?_
  refine tk 4 ?_
  refine tk 5 ?_
  refine tk 6 ?_
  refine tk 7 ?_
  refine rd1 8 (fun K hK => ?_)
  go_simp
  refine (l2Field_any hF0.out).mono ?_
  rintro e u6 ⟨rfl, rfl⟩
  rw [hidh.out]
  refine hK.out _ _ hHeld (fun hHeld => ?_)
  clear hK K
  refine tk 9 ?_
  refine wpAnyH_done (by kernel_rfl) ?_ _
  clear hHeld hl0 hF0
  have hZ4 : Hid _ := hY0
  clear hY0
  generalize w3.drew = w4 at hZ4 ⊢
  by_cases hid0 : id = 0
  · have htd : Hid (actD x o = (x, 3)) := by show _ = _; unfold actD; rw [hmh.out, hoh.out]; unfold actOp; simp [hkh.out, hm0h.out, hfld.out, hidh.out, hid0]
    have hZf : Hid _ := hZ4.out.hb
    obtain ⟨d0, d1, d2, d3, d4⟩ := fv5 hZf.out.bH
    obtain ⟨z0, z1, z2, z3, z4⟩ := fv5 hZf.out.bR
    have uz := hZf.out.bR.unfrozen
    go_wp2_with fail
    have bF : Box (putCells w4 (w.heap.size + 1 + 1) 0 (cHp x aN kN (some ⟨gO, 0, none⟩) kO aG kG)) (w.heap.size + 1 + 1) (cHp x aN kN (some ⟨gO, 0, none⟩) kO aG kG) 28 := Box.puts5 hZf.out.bR
    obtain ⟨g0, g1, g2, g3, g4⟩ := fv5 bF
    exact bodyPost_ret (v := .tuple #[.agg (List.toArray (cHp x aN kN (some ⟨gO, 0, none⟩) kO aG kG)), .int .i64 3]) (by simp only [putCells] at g0 g1 g2 g3 g4; simp [results, Tryz.results106, go_sem, g0, g1, g2, g3, g4]) rfl ⟨(cHp x aN kN (some ⟨gO, 0, none⟩) kO aG kG), by rw [htd.out], by rw [htd.out]; exact hZf.out.ret (cHp x aN kN (some ⟨gO, 0, none⟩) kO aG kG)⟩
  have hid0h : Hid (¬ id = 0) := hid0
  have htdh : Hid (actD x o = ({ x with vGlobals := setD x.vGlobals o.vOther id }, 0)) := by show _ = _; unfold actD; rw [hmh.out, hoh.out]; unfold actOp; simp [hkh.out, hm0h.out, hfld.out, hidh.out, hid0h.out]
  have o0 := hZ4.out.bq.cell 0 rfl
  have d4 := hZ4.out.hb.bH.cell 4 rfl
  have o2 := hZ4.out.bq.cell 2 rfl
  go_wp2_with fail
  refine (l4Set_any hZ4.out.hb.hp.globs hgl.out hfh.out.2.1 hidI.out).mono ?_
  rintro e w9 ⟨⟨v9, f9, rfl, hs9, hn9, hl9⟩, hb9⟩
  obtain ⟨aG9, kG9, rfl⟩ := hs9.form
  obtain ⟨fs9, hp9, hsub9⟩ := hZ4.out.hb.hp.glob (w1 := w9) (fun b hb => hb9.block b (hZ4.out.hb.hp.lt b hb)) hs9 hn9 hl9
  have hZ9 : Hid (HX (cOp 4 o) 91 w fs w.heap.size (w.heap.size + 1 + 1) (w.heap.size + 1) (w9.setCell ⟨w.heap.size, 4, none⟩ (.slice aG9 (setD x.vGlobals o.vOther id).length kG9)) [.int .i64 x.vNext, .int .i64 x.vDoc, .slice aN x.vNodes.length kN, .slice (some ⟨gO, 0, none⟩) x.vObjs.length kO, .slice aG9 (setD x.vGlobals o.vOther id).length kG9] { x with vGlobals := setD x.vGlobals o.vOther id } fs9) := hZ4.out.store hp9 hsub9 (Out.of_below hb9) rfl
  have bg9 := (hZ4.out.hb.below hb9).bH.cell 4 rfl
  have uf9 := (hZ4.out.hb.below hb9).bH.unfrozen
  have o0 : w9.cell? ⟨w.heap.size + 1, 0, none⟩ = some (.int .i64 4) := (hZ4.out.below hb9).bq.cell 0 rfl
  clear d4 hs9 hn9 hl9 hb9 hp9 hsub9
  go_upto_region 25 with fail
  clear bg9 uf9 o0
  generalize (w9.setCell ⟨w.heap.size, 4, none⟩ (.slice aG9 (setD x.vGlobals o.vOther id).length kG9)) = wz at hZ9 ⊢
  have hZf : Hid _ := hZ9.out.hb
  obtain ⟨d0, d1, d2, d3, d4⟩ := fv5 hZf.out.bH
  obtain ⟨z0, z1, z2, z3, z4⟩ := fv5 hZf.out.bR
  have uz := hZf.out.bR.unfrozen
  go_wp2_with fail
  have bF : Box (putCells wz (w.heap.size + 1 + 1) 0 [.int .i64 x.vNext, .int .i64 x.vDoc, .slice aN x.vNodes.length kN, .slice (some ⟨gO, 0, none⟩) x.vObjs.length kO, .slice aG9 (setD x.vGlobals o.vOther id).length kG9]) (w.heap.size + 1 + 1) [.int .i64 x.vNext, .int .i64 x.vDoc, .slice aN x.vNodes.length kN, .slice (some ⟨gO, 0, none⟩) x.vObjs.length kO, .slice aG9 (setD x.vGlobals o.vOther id).length kG9] 28 := Box.puts5 hZf.out.bR
  obtain ⟨g0, g1, g2, g3, g4⟩ := fv5 bF
  exact bodyPost_ret (v := .tuple #[.agg (List.toArray [.int .i64 x.vNext, .int .i64 x.vDoc, .slice aN x.vNodes.length kN, .slice (some ⟨gO, 0, none⟩) x.vObjs.length kO, .slice aG9 (setD x.vGlobals o.vOther id).length kG9]), .int .i64 0]) (by simp only [putCells] at g0 g1 g2 g3 g4; simp [results, Tryz.results106, go_sem, g0, g1, g2, g3, g4]) rfl ⟨[.int .i64 x.vNext, .int .i64 x.vDoc, .slice aN x.vNodes.length kN, .slice (some ⟨gO, 0, none⟩) x.vObjs.length kO, .slice aG9 (setD x.vGlobals o.vOther id).length kG9], by rw [htdh.out], by rw [htdh.out]; exact hZf.out.ret [.int .i64 x.vNext, .int .i64 x.vDoc, .slice aN x.vNodes.length kN, .slice (some ⟨gO, 0, none⟩) x.vObjs.length kO, .slice aG9 (setD x.vGlobals o.vOther id).length kG9]⟩
end A4
end Go.Proofs.YtdnembnlomnceaaGreat
namespace Go.Proofs.YtdnembnlomnceaaGreat
open Go.RowKit Go.Deep
namespace A5
theorem HeapP.docI {w : World} {cs : List Value} {x : HeapD} {fs : List Nat} (h : HeapP w cs x fs) : InI x.vDoc := by
 obtain ⟨vN, vO, vG, bN, bO, cN, cO, fG, e, hN, _, _, _, i2, _⟩ := h
 exact i2
theorem gO_mem {w : World} {k0 k1 vN vG : Value} {g nl cap : Nat} {x : HeapD} {fs : List Nat} (h : HeapP w [k0, k1, vN, .slice (some ⟨g, 0, none⟩) nl cap, vG] x fs) {i : Nat} (hi : i < x.vObjs.length) : g ∈ fs := by
 obtain ⟨_, _, _, _, _, q, _⟩ := HeapP.obj h hi
 exact q
set_option maxRecDepth 100000 in
set_option maxHeartbeats 8000000 in
theorem l4Act5_any {w : World} {cs : List Value} {x : HeapD} {fs : List Nat} {o : OpD} (hp : HeapP w cs x fs) (hf : o.fits) (hst0 : InI o.vStop) (hs : specB x = true) (hk : o.vKind = 5) :
 Calls Tryz.prog 106 #[.agg cs.toArray, .agg o.cells.toArray] w fun e w' => ∃ cs', e = .returned (.tuple #[.agg cs'.toArray, .int .i64 (actD x o).2]) ∧ HR w fs w' cs' (actD x o).1 := by
 obtain ⟨aN, kN, aO, kO, aG, kG, rfl⟩ := hp.form
 have hR : Hid (RightH x) := right_of hs
 have hsh : Hid (specB x = true) := hs
 have hst : Hid (InI o.vStop) := hst0
 have hZ0 : Hid (HX (cOp 5 o) 91 w fs w.heap.size (w.heap.size + 1 + 1) (w.heap.size + 1) (((w.alloc (.cells (cHp x aN kN aO kO aG kG).toArray 28)).alloc (.cells (cOp 5 o).toArray 91)).alloc (.cells cZp.toArray 28)) (cHp x aN kN aO kO aG kG) x fs) := HX.start hp
 unfold OpD.cells
 rw [hk]
 have hkh : Hid (o.vKind = 5) := hk
 have hfh : Hid o.fits := hf
 have hgl : Hid (x.vGlobals.length ≤ 1000) := by show _ ≤ _; have := hR.out.nG; omega
 obtain ⟨mi, hmi0⟩ : ∃ mi, fieldR x.vGlobals o.vName = mi := ⟨_, rfl⟩
 obtain ⟨ot, hot⟩ : ∃ ot, fieldR x.vGlobals o.vOther = ot := ⟨_, rfl⟩
 obtain ⟨at_, hat⟩ : ∃ at_, idxO x mi = at_ := ⟨_, rfl⟩
 have hmh : Hid (fieldR x.vGlobals o.vName = mi) := hmi0
 have hoh : Hid (fieldR x.vGlobals o.vOther = ot) := hot
 have hath : Hid (idxO x mi = at_) := hat
 have hmt : Hid (mi = 0 ∨ 0 ≤ idxO x mi) := by show _ ∨ _; rw [← hmi0]; exact glob_there hR.out _
 have hotI : Hid (InI ot) := by show InI ot; rw [← hot]; exact fieldR_in hZ0.out.hb.hp.globs _
 clear hk hp hf hs hst0 hmi0 hot hat
 go_enter Tryz.func106, Tryz.ntmps106
 go_upto_region 1 with fail
 generalize (((w.alloc (.cells (cHp x aN kN aO kO aG kG).toArray 28)).alloc (.cells (cOp 5 o).toArray 91)).alloc (.cells cZp.toArray 28)) = w0 at hZ0 ⊢
 have d4 := hZ0.out.hb.bH.cell 4 rfl
 have o1 := hZ0.out.bq.cell 1 rfl
 go_wp2_with fail
 refine (l2Field_any hZ0.out.hb.hp.globs).mono ?_
 rintro e w' ⟨rfl, e9⟩
 have e10 := e9.symm
 clear e9
 subst e10
 rw [hmh.out]
 clear o1
 have o2 := hZ0.out.bq.cell 2 rfl
 go_wp2_with fail
 refine (l2Field_any hZ0.out.hb.hp.globs).mono ?_
 rintro e w' ⟨rfl, e9⟩
 have e10 := e9.symm
 clear e9
 subst e10
 rw [hoh.out]
 clear o2 d4
 obtain ⟨d0, d1, d2, d3, d4⟩ := fv5 hZ0.out.hb.bH
 go_wp2_with fail
 refine (l2Obj_any hZ0.out.hb.hp.at0).mono ?_
 rintro e w3 ⟨rfl, hb3⟩
 rw [hath.out]
 have hZ3 : Hid _ := hZ0.out.below hb3
 clear hb3 hZ0 d0 d1 d2 d3 d4
 by_cases hm0 : mi = 0
 · have htd : Hid (actD x o = (x, 3)) := by show _ = _; unfold actD; rw [hmh.out, hoh.out]; unfold actOp; simp [hkh.out, hm0]
   have o0 := hZ3.out.bq.cell 0 rfl
   have hZf : Hid _ := hZ3.out.hb
   obtain ⟨d0, d1, d2, d3, d4⟩ := fv5 hZf.out.bH
   obtain ⟨z0, z1, z2, z3, z4⟩ := fv5 hZf.out.bR
   have uz := hZf.out.bR.unfrozen
   go_wp2_with fail
   have bF : Box (putCells w3 (w.heap.size + 1 + 1) 0 (cHp x aN kN aO kO aG kG)) (w.heap.size + 1 + 1) (cHp x aN kN aO kO aG kG) 28 := Box.puts5 hZf.out.bR
   obtain ⟨g0, g1, g2, g3, g4⟩ := fv5 bF
   exact bodyPost_ret (v := .tuple #[.agg (List.toArray (cHp x aN kN aO kO aG kG)), .int .i64 3]) (by simp only [putCells] at g0 g1 g2 g3 g4; simp [results, Tryz.results106, go_sem, g0, g1, g2, g3, g4]) rfl ⟨(cHp x aN kN aO kO aG kG), by rw [htd.out], by rw [htd.out]; exact hZf.out.ret (cHp x aN kN aO kO aG kG)⟩
 have hm0h : Hid (¬ mi = 0) := hm0
 have hmi : Hid (0 ≤ idxO x mi) := by rcases hmt.out with q | q; exact absurd q hm0; exact q
 have o0 := hZ3.out.bq.cell 0 rfl
 rcases Classical.em (ot = 0) with hot0 | hot0
 all_goals
  go_upto_region 11 with fail
  clear hot0 o0
  obtain ⟨i, hi, hidx0, X, hX, hfld0⟩ : ∃ i, ∃ hi : i < x.vObjs.length, idxO x mi = (i : Int) ∧ ∃ X, x.vObjs[i] = X ∧ fldsOf x mi = X.vFields := by
   rcases idxO_is x mi with ⟨q, _⟩ | ⟨i, hi, q, _, q2⟩
   · have := hmi.out; omega
   · exact ⟨i, hi, q, _, rfl, by unfold fldsOf; rw [q2]⟩
  have hidx : Hid (idxO x mi = (i : Int)) := hidx0
  have hXe : Hid (x.vObjs[i] = X) := hX
  have hXm : Hid (X ∈ x.vObjs) := by show X ∈ x.vObjs; rw [← hX]; exact List.getElem_mem hi
  have hfld : Hid (fldsOf x mi = X.vFields) := hfld0
  have hFl : Hid (X.vFields.length ≤ 1000) := by show _ ≤ _; have := (hR.out.flds X hXm.out).1; omega
  obtain ⟨gO, rfl, _⟩ := hZ3.out.hb.hp.posO (show 0 < x.vObjs.length by omega)
  have hiI : (i : Int) < (x.vObjs.length : Int) := by omega
  have hi0 : (0 : Int) ≤ (i : Int) := by omega
  obtain rfl : at_ = (i : Int) := by rw [← hath.out]; exact hidx0
  clear hidx0 hX hfld0
  obtain ⟨id, hid⟩ : ∃ id, fieldR X.vFields o.vWord = id := ⟨_, rfl⟩
  have hidh : Hid (fieldR X.vFields o.vWord = id) := hid
  clear hid
  have o0 := hZ3.out.bq.cell 0 rfl
  go_upto_region 17 with fail
  clear o0
  have hY0 : Hid (HX (cOp 5 o) 91 w fs w.heap.size (w.heap.size + 1 + 1) (w.heap.size + 1) w3.drew (cHp x aN kN (some ⟨gO, 0, none⟩) kO aG kG) x fs) := hZ3.out.below (Below.drew (Below.refl _ _))
  obtain ⟨CO, fi, hC, hcell, hfn, hfl, hset0⟩ := hY0.out.hb.obj hi
  rw [hXe.out] at hC
  obtain ⟨k2, f2, rfl, h2, _⟩ := hC
  obtain ⟨n2, m2, rfl⟩ := h2.form
  have hl0 : Hid (w3.drew.cell? ⟨gO, i * 3 + 2, none⟩ = some (.slice n2 X.vFields.length m2)) := hcell 2 _ rfl
  have hF0 : Hid (SeqAt 2 FieldAt w3.drew 0 (.slice n2 X.vFields.length m2) X.vFields) := h2.at FieldOwn_at (fun _ _ => Nat.zero_le _)
  have hidI : Hid (InI id) := by show InI id; rw [← hidh.out]; exact fieldR_in hF0.out _
  clear hcell hfn hfl hset0 h2
  refine wp_region_held_drew (S := fun w' => w'.cell? ⟨w.heap.size, 0, none⟩ = some (.int .i64 x.vNext) ∧ w'.cell? ⟨w.heap.size, 1, none⟩ = some (.int .i64 x.vDoc) ∧ w'.cell? ⟨w.heap.size, 2, none⟩ = some (.slice aN x.vNodes.length kN) ∧ w'.cell? ⟨w.heap.size, 3, none⟩ = some (.slice (some ⟨gO, 0, none⟩) x.vObjs.length kO) ∧ w'.cell? ⟨w.heap.size, 4, none⟩ = some (.slice aG x.vGlobals.length kG) ∧ w'.cell? ⟨w.heap.size + 1, 3, none⟩ = some (.string o.vWord) ∧ w'.cell? ⟨gO, i * 3 + 2, none⟩ = some (.slice n2 X.vFields.length m2)) (by kernel_rfl) (fv5a hY0.out.hb.bH ⟨hY0.out.bq.cell 3 rfl, hl0.out⟩) (fun hHeld => ?_)
  refine tk 0 ?_
  refine tk 1 ?_
  refine tk 2 ?_
  refine tk 3 ?_
  refine tk 4 ?_
  refine tk 5 ?_
  refine tk 6 ?_
  refine tk 7 ?_
  refine rd1 8 (fun K hK => ?_)
  go_simp
  refine (l2Field_any hF0.out).mono ?_
  rintro e u6 ⟨rfl, rfl⟩
  rw [hidh.out]
  refine hK.out _ _ hHeld (fun hHeld => ?_)
  clear hK K
  refine tk 9 ?_
  refine wpAnyH_done (by kernel_rfl) ?_ _
  clear hHeld hl0 hF0
  have hZ4 : Hid _ := hY0
  clear hY0
  generalize w3.drew = w4 at hZ4 ⊢
  by_cases hid0 : id = 0
  · have htd : Hid (actD x o = (x, 3)) := by show _ = _; unfold actD; rw [hmh.out, hoh.out]; unfold actOp; simp [hkh.out, hm0h.out, hfld.out, hidh.out, hid0]
    have hZf : Hid _ := hZ4.out.hb
    obtain ⟨d0, d1, d2, d3, d4⟩ := fv5 hZf.out.bH
    obtain ⟨z0, z1, z2, z3, z4⟩ := fv5 hZf.out.bR
    have uz := hZf.out.bR.unfrozen
    go_wp2_with fail
    have bF : Box (putCells w4 (w.heap.size + 1 + 1) 0 (cHp x aN kN (some ⟨gO, 0, none⟩) kO aG kG)) (w.heap.size + 1 + 1) (cHp x aN kN (some ⟨gO, 0, none⟩) kO aG kG) 28 := Box.puts5 hZf.out.bR
    obtain ⟨g0, g1, g2, g3, g4⟩ := fv5 bF
    exact bodyPost_ret (v := .tuple #[.agg (List.toArray (cHp x aN kN (some ⟨gO, 0, none⟩) kO aG kG)), .int .i64 3]) (by simp only [putCells] at g0 g1 g2 g3 g4; simp [results, Tryz.results106, go_sem, g0, g1, g2, g3, g4]) rfl ⟨(cHp x aN kN (some ⟨gO, 0, none⟩) kO aG kG), by rw [htd.out], by rw [htd.out]; exact hZf.out.ret (cHp x aN kN (some ⟨gO, 0, none⟩) kO aG kG)⟩
  have hid0h : Hid (¬ id = 0) := hid0
  have htdh : Hid (actD x o = ({ x with vObjs := x.vObjs.set i { X with vFields := setD X.vFields o.vWord 0 } }, 0)) := by show _ = _; unfold actD; rw [hmh.out, hoh.out]; unfold actOp; simp [hkh.out, hm0h.out, hfld.out, hidh.out, hid0h.out, setO, hidx.out, modify_set _ _ _ hi, hXe.out]
  have o0 := hZ4.out.bq.cell 0 rfl
  go_upto_region 21 with fail
  have hY0 : Hid (HX (cOp 5 o) 91 w fs w.heap.size (w.heap.size + 1 + 1) (w.heap.size + 1) w4.drew (cHp x aN kN (some ⟨gO, 0, none⟩) kO aG kG) x fs) := hZ4.out.below (Below.drew (Below.refl _ _))
  obtain ⟨CO, fi, hC, hcell, hfn, hfl, hset0⟩ := hY0.out.hb.obj hi
  rw [hXe.out] at hC
  have hC0 : Hid (ObjOwn w4.drew CO X fi) := hC
  have hset : Hid _ := hset0
  obtain ⟨k2, f2, rfl, h2, _⟩ := hC
  obtain ⟨n2, m2, rfl⟩ := h2.form
  have hl0 : Hid (w4.drew.cell? ⟨gO, i * 3 + 2, none⟩ = some (.slice n2 X.vFields.length m2)) := hcell 2 _ rfl
  have hF0 : Hid (SeqAt 2 FieldAt w4.drew 0 (.slice n2 X.vFields.length m2) X.vFields) := h2.at FieldOwn_at (fun _ _ => Nat.zero_le _)
  have hqO : Hid ((w.heap.size + 1) ≠ gO) := by
   obtain ⟨_, _, _, _, _, _⟩ := hY0.out.hb.obj hi
   exact fun e => hY0.out.nq _ (gO_mem hY0.out.hb.hp hi) e.symm
  clear hcell hfn hfl hset0 h2
  refine wp_region_held_drew (S := fun w' => w'.cell? ⟨w.heap.size, 0, none⟩ = some (.int .i64 x.vNext) ∧ w'.cell? ⟨w.heap.size, 1, none⟩ = some (.int .i64 x.vDoc) ∧ w'.cell? ⟨w.heap.size, 2, none⟩ = some (.slice aN x.vNodes.length kN) ∧ w'.cell? ⟨w.heap.size, 3, none⟩ = some (.slice (some ⟨gO, 0, none⟩) x.vObjs.length kO) ∧ w'.cell? ⟨w.heap.size, 4, none⟩ = some (.slice aG x.vGlobals.length kG) ∧ w'.cell? ⟨w.heap.size + 1, 3, none⟩ = some (.string o.vWord)) (by kernel_rfl) (fv5a hY0.out.hb.bH (hY0.out.bq.cell 3 rfl)) (fun hHeld => ?_)
  refine tk 0 ?_
  refine tk 1 ?_
  refine tk 2 ?_
  refine tk 3 ?_
  refine tk 4 ?_
  refine tk 5 ?_
  refine tk 6 ?_
  refine tk 7 ?_
  refine tk 9 ?_
  refine tk 10 ?_
  refine rd1 8 (fun K hK => ?_)
  have ldc := hl0.out
  go_simp
  clear ldc
  refine hK.out _ _ hHeld (fun hHeld => ?_)
  clear hK K
  refine rd1 11 (fun K hK => ?_)
  go_simp
  refine (l4Set_any hF0.out hFl.out hfh.out.2.2.1 (by unfold InI; omega)).mono ?_
  rintro e u6 ⟨⟨v9, f9, rfl, hs9, hn9, hl9⟩, hb9⟩
  obtain ⟨aF9, kF9, rfl⟩ := hs9.form
  have hY6 : Hid _ := hY0.out.below hb9
  obtain ⟨fs9, hz9⟩ := hset.out u6 2 (.slice aF9 (setD X.vFields o.vWord 0).length kF9) _ f9 (by decide) hb9 (hC0.out.flds hs9) hn9 (fun b hb => Or.inr (hl9 b hb))
  have hZ9 : Hid (HB w fs w.heap.size (w.heap.size + 1 + 1) (u6.setCell ⟨gO, i * 3 + 2, none⟩ (.slice aF9 (setD X.vFields o.vWord 0).length kF9)) (cHp x aN kN (some ⟨gO, 0, none⟩) kO aG kG) { x with vObjs := x.vObjs.set i { X with vFields := (setD X.vFields o.vWord 0) } } fs9) := hz9
  have hl6 : Hid _ := cell_on hb9 hl0.out
  clear hs9 hn9 hl9 hb9 hz9
  refine hK.out _ _ (fv5a hY6.out.hb.bH (hY6.out.bq.cell 3 rfl)) (fun hHeld => ?_)
  clear hK K
  refine tk 12 ?_
  refine tk 13 ?_
  refine rd1 14 (fun K hK => ?_)
  have ldc := hl6.out
  obtain ⟨_, eg, ufo⟩ := hY6.out.hb.hp.posO (show 0 < x.vObjs.length by omega)
  injection eg with eg
  injection eg with eg
  subst eg
  have bQ9 : Hid (Box (u6.setCell ⟨gO, i * 3 + 2, none⟩ (.slice aF9 (setD X.vFields o.vWord 0).length kF9)) (w.heap.size + 1) (cOp 5 o) 91) := hY6.out.bq.other hqO.out _
  go_simp
  clear ldc ufo
  refine hK.out _ _ (fv5a hZ9.out.bH (bQ9.out.cell 3 rfl)) (fun hHeld => ?_)
  clear hK K
  refine wpAnyH_done (by kernel_rfl) ?_ _
  clear hHeld hl6 hY6
  generalize (u6.setCell ⟨gO, i * 3 + 2, none⟩ (.slice aF9 (setD X.vFields o.vWord 0).length kF9)) = wz at hZ9 bQ9 ⊢
  have o0 := bQ9.out.cell 0 rfl
  have hZf : Hid _ := hZ9
  obtain ⟨d0, d1, d2, d3, d4⟩ := fv5 hZf.out.bH
  obtain ⟨z0, z1, z2, z3, z4⟩ := fv5 hZf.out.bR
  have uz := hZf.out.bR.unfrozen
  go_wp2_with fail
  have bF : Box (putCells wz (w.heap.size + 1 + 1) 0 (cHp x aN kN (some ⟨gO, 0, none⟩) kO aG kG)) (w.heap.size + 1 + 1) (cHp x aN kN (some ⟨gO, 0, none⟩) kO aG kG) 28 := Box.puts5 hZf.out.bR
  obtain ⟨g0, g1, g2, g3, g4⟩ := fv5 bF
  exact bodyPost_ret (v := .tuple #[.agg (List.toArray (cHp x aN kN (some ⟨gO, 0, none⟩) kO aG kG)), .int .i64 0]) (by simp only [putCells] at g0 g1 g2 g3 g4; simp [results, Tryz.results106, go_sem, g0, g1, g2, g3, g4]) rfl ⟨(cHp x aN kN (some ⟨gO, 0, none⟩) kO aG kG), by rw [htdh.out], by rw [htdh.out]; exact hZf.out.ret (cHp x aN kN (some ⟨gO, 0, none⟩) kO aG kG)⟩
end A5
end Go.Proofs.YtdnembnlomnceaaGreat
namespace Go.Proofs.YtdnembnlomnceaaGreat
open Go.RowKit Go.Deep
namespace A6
theorem HeapP.docI {w : World} {cs : List Value} {x : HeapD} {fs : List Nat} (h : HeapP w cs x fs) : InI x.vDoc := by
 obtain ⟨vN, vO, vG, bN, bO, cN, cO, fG, e, hN, _, _, _, i2, _⟩ := h
 exact i2
theorem gO_mem {w : World} {k0 k1 vN vG : Value} {g nl cap : Nat} {x : HeapD} {fs : List Nat} (h : HeapP w [k0, k1, vN, .slice (some ⟨g, 0, none⟩) nl cap, vG] x fs) {i : Nat} (hi : i < x.vObjs.length) : g ∈ fs := by
 obtain ⟨_, _, _, _, _, q, _⟩ := HeapP.obj h hi
 exact q
set_option maxRecDepth 100000 in
set_option maxHeartbeats 8000000 in
theorem l4Act6_any {w : World} {cs : List Value} {x : HeapD} {fs : List Nat} {o : OpD} (hp : HeapP w cs x fs) (hf : o.fits) (hst0 : InI o.vStop) (hs : specB x = true) (hk : o.vKind = 6) :
 Calls Tryz.prog 106 #[.agg cs.toArray, .agg o.cells.toArray] w fun e w' => ∃ cs', e = .returned (.tuple #[.agg cs'.toArray, .int .i64 (actD x o).2]) ∧ HR w fs w' cs' (actD x o).1 := by
 obtain ⟨aN, kN, aO, kO, aG, kG, rfl⟩ := hp.form
 have hR : Hid (RightH x) := right_of hs
 have hsh : Hid (specB x = true) := hs
 have hst : Hid (InI o.vStop) := hst0
 have hZ0 : Hid (HX (cOp 6 o) 91 w fs w.heap.size (w.heap.size + 1 + 1) (w.heap.size + 1) (((w.alloc (.cells (cHp x aN kN aO kO aG kG).toArray 28)).alloc (.cells (cOp 6 o).toArray 91)).alloc (.cells cZp.toArray 28)) (cHp x aN kN aO kO aG kG) x fs) := HX.start hp
 unfold OpD.cells
 rw [hk]
 have hkh : Hid (o.vKind = 6) := hk
 have hfh : Hid o.fits := hf
 have hgl : Hid (x.vGlobals.length ≤ 1000) := by show _ ≤ _; have := hR.out.nG; omega
 obtain ⟨mi, hmi0⟩ : ∃ mi, fieldR x.vGlobals o.vName = mi := ⟨_, rfl⟩
 obtain ⟨ot, hot⟩ : ∃ ot, fieldR x.vGlobals o.vOther = ot := ⟨_, rfl⟩
 obtain ⟨at_, hat⟩ : ∃ at_, idxO x mi = at_ := ⟨_, rfl⟩
 have hmh : Hid (fieldR x.vGlobals o.vName = mi) := hmi0
 have hoh : Hid (fieldR x.vGlobals o.vOther = ot) := hot
 have hath : Hid (idxO x mi = at_) := hat
 have hmt : Hid (mi = 0 ∨ 0 ≤ idxO x mi) := by show _ ∨ _; rw [← hmi0]; exact glob_there hR.out _
 have hotI : Hid (InI ot) := by show InI ot; rw [← hot]; exact fieldR_in hZ0.out.hb.hp.globs _
 clear hk hp hf hs hst0 hmi0 hot hat
 go_enter Tryz.func106, Tryz.ntmps106
 go_upto_region 1 with fail
 generalize (((w.alloc (.cells (cHp x aN kN aO kO aG kG).toArray 28)).alloc (.cells (cOp 6 o).toArray 91)).alloc (.cells cZp.toArray 28)) = w0 at hZ0 ⊢
 have d4 := hZ0.out.hb.bH.cell 4 rfl
 have o1 := hZ0.out.bq.cell 1 rfl
 go_wp2_with fail
 refine (l2Field_any hZ0.out.hb.hp.globs).mono ?_
 rintro e w' ⟨rfl, e9⟩
 have e10 := e9.symm
 clear e9
 subst e10
 rw [hmh.out]
 clear o1
 have o2 := hZ0.out.bq.cell 2 rfl
 go_wp2_with fail
 refine (l2Field_any hZ0.out.hb.hp.globs).mono ?_
 rintro e w' ⟨rfl, e9⟩
 have e10 := e9.symm
 clear e9
 subst e10
 rw [hoh.out]
 clear o2 d4
 obtain ⟨d0, d1, d2, d3, d4⟩ := fv5 hZ0.out.hb.bH
 go_wp2_with fail
 refine (l2Obj_any hZ0.out.hb.hp.at0).mono ?_
 rintro e w3 ⟨rfl, hb3⟩
 rw [hath.out]
 have hZ3 : Hid (HX (cOp 6 o) 91 w fs w.heap.size (w.heap.size + 1 + 1) (w.heap.size + 1) w3 (cHp x aN kN aO kO aG kG) x fs) := hZ0.out.below hb3
 clear hb3 hZ0 d0 d1 d2 d3 d4
 by_cases hm0 : mi = 0
 · have htd : Hid (actD x o = (x, 3)) := by show _ = _; unfold actD; rw [hmh.out, hoh.out]; unfold actOp; simp [hkh.out, hm0]
   have o0 := hZ3.out.bq.cell 0 rfl
   have hZf : Hid _ := hZ3.out.hb
   obtain ⟨d0, d1, d2, d3, d4⟩ := fv5 hZf.out.bH
   obtain ⟨z0, z1, z2, z3, z4⟩ := fv5 hZf.out.bR
   have uz := hZf.out.bR.unfrozen
   go_wp2_with fail
   have bF : Box (putCells w3 (w.heap.size + 1 + 1) 0 (cHp x aN kN aO kO aG kG)) (w.heap.size + 1 + 1) (cHp x aN kN aO kO aG kG) 28 := Box.puts5 hZf.out.bR
   obtain ⟨g0, g1, g2, g3, g4⟩ := fv5 bF
   exact bodyPost_ret (v := .tuple #[.agg (List.toArray (cHp x aN kN aO kO aG kG)), .int .i64 3]) (by simp only [putCells] at g0 g1 g2 g3 g4; simp [results, Tryz.results106, go_sem, g0, g1, g2, g3, g4]) rfl ⟨(cHp x aN kN aO kO aG kG), by rw [htd.out], by rw [htd.out]; exact hZf.out.ret (cHp x aN kN aO kO aG kG)⟩
 have hm0h : Hid (¬ mi = 0) := hm0
 have hmi : Hid (0 ≤ idxO x mi) := by rcases hmt.out with q | q; exact absurd q hm0; exact q
 have o0 := hZ3.out.bq.cell 0 rfl
 rcases Classical.em (ot = 0) with hot0 | hot0
 all_goals
  go_upto_region 11 with fail
  clear hot0 o0
  have htdh : Hid (actD x o = ({ x with vGlobals := setD x.vGlobals o.vName 0 }, 0)) := by show _ = _; unfold actD; rw [hmh.out, hoh.out]; unfold actOp; simp [hkh.out, hm0h.out]
  have o0 := hZ3.out.bq.cell 0 rfl
  have d4 := hZ3.out.hb.bH.cell 4 rfl
  have o1 := hZ3.out.bq.cell 1 rfl
  go_wp2_with fail
  refine (l4Set_any hZ3.out.hb.hp.globs hgl.out hfh.out.1 (by unfold InI; omega)).mono ?_
  rintro e w9 ⟨⟨v9, f9, rfl, hs9, hn9, hl9⟩, hb9⟩
  obtain ⟨aG9, kG9, rfl⟩ := hs9.form
  obtain ⟨fs9, hp9, hsub9⟩ := hZ3.out.hb.hp.glob (w1 := w9) (fun b hb => hb9.block b (hZ3.out.hb.hp.lt b hb)) hs9 hn9 hl9
  have hZ9 : Hid (HX (cOp 6 o) 91 w fs w.heap.size (w.heap.size + 1 + 1) (w.heap.size + 1) (w9.setCell ⟨w.heap.size, 4, none⟩ (.slice aG9 (setD x.vGlobals o.vName 0).length kG9)) [.int .i64 x.vNext, .int .i64 x.vDoc, .slice aN x.vNodes.length kN, .slice aO x.vObjs.length kO, .slice aG9 (setD x.vGlobals o.vName 0).length kG9] { x with vGlobals := setD x.vGlobals o.vName 0 } fs9) := hZ3.out.store hp9 hsub9 (Out.of_below hb9) rfl
  have bg9 := (hZ3.out.hb.below hb9).bH.cell 4 rfl
  have uf9 := (hZ3.out.hb.below hb9).bH.unfrozen
  have o0 : w9.cell? ⟨w.heap.size + 1, 0, none⟩ = some (.int .i64 6) := (hZ3.out.below hb9).bq.cell 0 rfl
  clear d4 hs9 hn9 hl9 hb9 hp9 hsub9
  go_upto_region 25 with fail
  clear bg9 uf9 o0
  generalize (w9.setCell ⟨w.heap.size, 4, none⟩ (.slice aG9 (setD x.vGlobals o.vName 0).length kG9)) = wz at hZ9 ⊢
  have hZf : Hid _ := hZ9.out.hb
  obtain ⟨d0, d1, d2, d3, d4⟩ := fv5 hZf.out.bH
  obtain ⟨z0, z1, z2, z3, z4⟩ := fv5 hZf.out.bR
  have uz := hZf.out.bR.unfrozen
  go_wp2_with fail
  have bF : Box (putCells wz (w.heap.size + 1 + 1) 0 [.int .i64 x.vNext, .int .i64 x.vDoc, .slice aN x.vNodes.length kN, .slice aO x.vObjs.length kO, .slice aG9 (setD x.vGlobals o.vName 0).length kG9]) (w.heap.size + 1 + 1) [.int .i64 x.vNext, .int .i64 x.vDoc, .slice aN x.vNodes.length kN, .slice aO x.vObjs.length kO, .slice aG9 (setD x.vGlobals o.vName 0).length kG9] 28 := Box.puts5 hZf.out.bR
  obtain ⟨g0, g1, g2, g3, g4⟩ := fv5 bF
  exact bodyPost_ret (v := .tuple #[.agg (List.toArray [.int .i64 x.vNext, .int .i64 x.vDoc, .slice aN x.vNodes.length kN, .slice aO x.vObjs.length kO, .slice aG9 (setD x.vGlobals o.vName 0).length kG9]), .int .i64 0]) (by simp only [putCells] at g0 g1 g2 g3 g4; simp [results, Tryz.results106, go_sem, g0, g1, g2, g3, g4]) rfl ⟨[.int .i64 x.vNext, .int .i64 x.vDoc, .slice aN x.vNodes.length kN, .slice aO x.vObjs.length kO, .slice aG9 (setD x.vGlobals o.vName 0).length kG9], by rw [htdh.out], by rw [htdh.out]; exact hZf.out.ret [.int .i64 x.vNext, .int .i64 x.vDoc, .slice aN x.vNodes.length kN, .slice aO x.vObjs.length kO, .slice aG9 (setD x.vGlobals o.vName 0).length kG9]⟩
end A6
end Go.Proofs.YtdnembnlomnceaaGreat
