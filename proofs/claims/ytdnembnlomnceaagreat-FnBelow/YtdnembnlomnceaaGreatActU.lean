/- l4Act of the specification: walked, for the ops of kinds 7, 8. -/
import Derived.Test.YtdnembnlomnceaaGreatTakeMore
import Derived.Test.YtdnembnlomnceaaGreatHeapUp
import Derived.Test.YtdnembnlomnceaaGreatUpPlain
import Derived.Test.YtdnembnlomnceaaGreatAbb
import Derived.Test.YtdnembnlomnceaaGreatRnAct
import Derived.Test.YtdnembnlomnceaaGreatMakeW
import Derived.Test.YtdnembnlomnceaaGreatHeldS
namespace Go.Proofs.YtdnembnlomnceaaGreat
open Go.RowKit
set_option maxHeartbeats 2000000 in
theorem l2Up_full {w : World} {lo : Nat} {cs : List Value} {h : HeapD} {id : Int} (hh : HeapAt w lo cs h) (hN : h.vNodes.length ≤ 16) (h0 : nodeAt h 0 = none) (hP : ParsThere h) (hid : id ≠ 0 → (nodeAt h id).isSome = true) :
 Calls Tryz.prog 54 #[.agg cs.toArray, .int .i64 id] w fun e w' => ((upF h h.vNodes.length id = false ∧ e = .returned (.tuple #[.slice none 0 0, .bool false])) ∨ (∃ v, e = .returned (.tuple #[v, .bool true]) ∧ w'.ownsRow (w.heap.size + 1) 2 1 v (upL h h.vNodes.length id).length ((upL h h.vNodes.length id).map fun n => .int .i64 n))) ∧ Below w.heap.size w w' := by
 have hh' : Hid (HeapAt w lo cs h) := hh
 obtain ⟨k2, k3, k4, rfl, s2, s3, s4, rNext, rDoc, _⟩ := hh
 obtain ⟨a2, cap2, rfl, hm2, hx2⟩ := s2
 unfold maxLen at hm2
 have hx2' : Hid _ := hx2
 have hP' : Hid (ParsThere h) := hP
 have hid' : Hid _ := hid
 have h0' : Hid (nodeAt h 0 = none) := h0
 clear hx2 s3 s4 rNext rDoc hP hid h0
 obtain ⟨iI, hiI, heI⟩ := Option.map_eq_some_iff.1 infoI64
 simp only [Prod.mk.injEq] at heI
 have hI : Hid _ := hiI
 have hE : Hid _ := heI
 clear hiI heI
 have hb0 : Below w.heap.size w (w.alloc (.cells (List.toArray [.int .i64 h.vNext, .int .i64 h.vDoc, .slice a2 h.vNodes.length cap2, k3, k4]) 28)) := (Below.refl _ _).alloc (Nat.le_refl _) _
 go_enter Tryz.func54, Tryz.ntmps54
 go_wp2_with fail
 go_loopw [1, 6] (fun z v wr => ∃ (m : Nat) (i : Int) (ys : List Int), m ≤ h.vNodes.length ∧ z = .int .i64 i ∧ Hid (wr.ownsRow (w.heap.size + 1) 2 1 v m (ys.map fun n => .int .i64 n)) ∧ Hid (ys.length = m ∧ upL h h.vNodes.length id = ys ++ upL h (h.vNodes.length - m) i) ∧ Below (w.heap.size + 1) (w.alloc (.cells (List.toArray [.int .i64 h.vNext, .int .i64 h.vDoc, .slice a2 h.vNodes.length cap2, k3, k4]) 28)) wr ∧ Hid (upF h h.vNodes.length id = upF h (h.vNodes.length - m) i) ∧ Hid (i ≠ 0 → (nodeAt h i).isSome = true) ∧ Hid (∃ a cap, v = .slice a m cap)) (fun _ v _ => h.vNodes.length - lenOf v)
 case atStart => exact ⟨0, id, [], by omega, rfl, ⟨rfl, Or.inr ⟨_, _, #[], rfl, by omega, by have := (MapKept.heap_alloc (w.alloc (.cells (List.toArray [.int .i64 h.vNext, .int .i64 h.vDoc, .slice a2 h.vNodes.length cap2, k3, k4]) 28)) (.cells #[] 2)).1; simpa using this, Nat.le_refl _, Nat.zero_le _, rfl, rfl⟩⟩, ⟨rfl, rfl⟩, (Below.refl _ _).alloc (by simp) _, rfl, hid', ⟨_, _, rfl⟩⟩
 case round =>
  obtain ⟨m, i, ys, hm, rfl, hown, hys, hb, hrem, hi0, hform⟩ := hrel
  have hbw : Below w.heap.size w wr := hb0.trans (hb.mono (by omega))
  have bH := (Box.new w [.int .i64 h.vNext, .int .i64 h.vDoc, .slice a2 h.vNodes.length cap2, k3, k4] 28).below hb (by omega)
  obtain ⟨t0, t1, t2, t3, t4⟩ := fv5 bH
  have hz : w.heap.size + 1 ≤ wr.heap.size := bH.lt
  clear bH
  obtain ⟨av, capv, rfl⟩ := hform.out
  clear hform
  by_cases hi : i = 0
  · have hi' : (i != 0) = false := by simpa using hi
    have HY : Hid (upL h h.vNodes.length id = ys ∧ ys.length = m) := ⟨by rw [hys.out.2, hi, upL_none h0'.out, List.append_nil], hys.out.1⟩
    clear hi
    go_wp2_with fail
    go_ret2
    exact ⟨Or.inr ⟨.slice av m capv, rfl, by rw [HY.out.1, HY.out.2]; exact hown.out⟩, hbw⟩
  have hi' : (i != 0) = true := by simpa using hi
  by_cases hf : m = h.vNodes.length
  · have hf' : ((m : Int) == (h.vNodes.length : Int)) = true := by simp; omega
    have HF : Hid (upF h h.vNodes.length id = false) := by show _ = _; rw [hrem.out, hf, Nat.sub_self]; exact upF_full _ hi
    clear hi hf
    go_wp2_with fail
    go_ret2
    exact ⟨Or.inl ⟨HF.out, rfl⟩, hbw⟩
  have hf' : ((m : Int) == (h.vNodes.length : Int)) = false := by simp; omega
  have hsome := hi0.out hi
  rcases idxN_is h i with ⟨hidx, hat⟩ | ⟨i', hi1, hidx, _, hat⟩
  · rw [hat] at hsome; cases hsome
  have HS : Hid (upF h (h.vNodes.length - m) i = upF h (h.vNodes.length - (m + 1)) h.vNodes[i'].vParent) := by
   show _ = _
   rw [show h.vNodes.length - m = (h.vNodes.length - (m + 1)) + 1 by omega]
   exact upF_step h hi hat
  have hnext : Hid (h.vNodes[i'].vParent ≠ 0 → (nodeAt h h.vNodes[i'].vParent).isSome = true) := hP'.out i' hi1
  have hmlt : m < h.vNodes.length := by omega
  have HY2 : Hid (upL h h.vNodes.length id = (ys ++ [i]) ++ upL h (h.vNodes.length - (m + 1)) h.vNodes[i'].vParent) := by
   show _ = _
   rw [hys.out.2, show h.vNodes.length - m = (h.vNodes.length - (m + 1)) + 1 by omega, upL_some hat]; simp
  clear hsome hat hi hf
  go_wp2_with (at_builtin; refine wpList_append_own _ rfl _ _ 29 rfl (w.heap.size + 1) 2 iI (.int .i64 0) 1 8 Tryz.underlying29 hI.out hE.out.1 hE.out.2.2 hE.out.2.1 rfl (by decide) _ m (ys.map fun n => .int .i64 n) rfl (hown.out.alloc _) ⟨wr.heap.size, 0, none⟩ 1 1 [.int .i64 i] rfl rfl ?c1 ?c2 ?c3 ?c4 ?c5 ?_)
  case c1 =>
   intro j u hj
   match j, hj with
   | 0, hj => simp at hj; subst hj; simp [Addr.add]
  case c2 => intro u hu; simp at hu; subst hu; rfl
  case c3 => unfold maxLen; omega
  case c4 => omega
  case c5 => simp; omega
  intro v' w1 hown' hgrow _
  have hb2 : Below (w.heap.size + 1) (w.alloc (.cells (List.toArray [.int .i64 h.vNext, .int .i64 h.vDoc, .slice a2 h.vNodes.length cap2, k3, k4]) 28)) w1 := (hb.alloc hz _).grown hgrow (by simp; omega) (own_block hown.out)
  obtain ⟨av', capv', rfl⟩ := own_forms hown'
  have hown1 : Hid _ := hown'
  clear hown' hgrow t0 t1 t2 t3 t4
  have hbw2 : Below w.heap.size w w1 := hb0.trans (hb2.mono (by omega))
  have bH := (Box.new w [.int .i64 h.vNext, .int .i64 h.vDoc, .slice a2 h.vNodes.length cap2, k3, k4] 28).below hb2 (by omega)
  obtain ⟨bn, offn, rfl, hlon, hbwn, hcn⟩ := hx2'.out (by omega)
  obtain ⟨csn, hcln, lien, hrn⟩ := hcn i' hi1
  have lien1 := Lie.keep (lo := lo) (lo' := lo) lien (.of_below hbw2) hlon hbwn
  obtain ⟨t0, t1, t2, t3, t4⟩ := fv5 bH
  have hz2 : w.heap.size + 1 ≤ w1.heap.size := bH.lt
  clear bH
  generalize hP0 : h.vNodes[i'] = PN at hrn HS hnext HY2
  clear hP0
  obtain ⟨g3, g5, rfl, _⟩ := hrn
  have y2 := lie_at lien1 2 rfl
  have hin : (0 : Int) ≤ (i' : Int) := by omega
  have hin2 : (i' : Int) < (h.vNodes.length : Int) := by omega
  have hhd : Hid (HeapAt w1.drew lo _ h) := HeapAt_stays _ _ _ lo _ _ (.of_below hbw2.drew) hh'.out
  clear lien lien1 hcln hcn
  go_wp2_with fail
  refine wp_region_held_drew (S := fun w' => w'.cell? ⟨w.heap.size, 0, none⟩ = some (.int .i64 h.vNext) ∧ w'.cell? ⟨w.heap.size, 1, none⟩ = some (.int .i64 h.vDoc) ∧ w'.cell? ⟨w.heap.size, 2, none⟩ = some (.slice (some ⟨bn, offn, none⟩) h.vNodes.length cap2) ∧ w'.cell? ⟨w.heap.size, 3, none⟩ = some (k3) ∧ w'.cell? ⟨w.heap.size, 4, none⟩ = some (k4) ∧ w'.cell? ⟨bn, offn + i' * 6 + 2, none⟩ = some (.int .i64 PN.vParent)) (by kernel_rfl) (by refine ⟨?_, ?_, ?_, ?_, ?_, ?_⟩ <;> assumption) (fun hHeld => ?_)
  refine tk 0 ?_
  refine tk 1 ?_
  refine tk 2 ?_
  refine tk 3 ?_
  refine rd1 4 (fun K hK => ?_)
  go_simp
  refine (l2Node_any (by exact hhd.out)).mono ?_
  rintro e w2 ⟨rfl, hb1⟩
  have hb4 := hb1
  rw [hidx]
  dsimp only
  refine hK.out _ _ ⟨cell_on hb1 hHeld.1, cell_on hb1 hHeld.2.1, cell_on hb1 hHeld.2.2.1, cell_on hb1 hHeld.2.2.2.1, cell_on hb1 hHeld.2.2.2.2.1, cell_on hb1 hHeld.2.2.2.2.2⟩ (fun hHeld => ?_)
  clear hK K
  refine tk 5 ?_
  refine tk 6 ?_
  refine tk 7 ?_
  refine tk 8 ?_
  refine wpAnyH_done (by kernel_rfl) ?_ _
  have hb5 : Below (w.heap.size + 1) _ w2 := hb2.drew.trans (hb4.mono hz2)
  have hown2 : Hid (w2.ownsRow (w.heap.size + 1) 2 1 _ (m + 1) _) := own_below (w := w1.drew) hown1.out hb4
  go_wp2_with fail
  go_roundw
  case rel => exact ⟨m + 1, PN.vParent, ys ++ [i], by omega, rfl, (by show World.ownsRow _ _ _ _ _ _ _; have := hown2.out; simpa using this), ⟨by simp [hys.out.1], HY2.out⟩, hb5, by show _ = _; rw [hrem.out, HS.out], hnext, ⟨_, _, rfl⟩⟩
  case measure => simp [lenOf]; omega
end Go.Proofs.YtdnembnlomnceaaGreat
namespace Go.Proofs.YtdnembnlomnceaaGreat
open Go.RowKit
/-- a row of whole numbers that a call owns is a row of them -/
theorem seqAt_of_own {w : World} {base : Nat} {v : Value} {xs : List Int} (h : w.ownsRow base 2 1 v xs.length (xs.map fun n => .int .i64 n)) (hx : ∀ x ∈ xs, InI x) : SeqAt 1 IntAt w base v xs := by
 obtain ⟨_, ho⟩ := h
 rcases ho with ⟨rfl, hn⟩ | ⟨g, cap, cur, rfl, hg, hh, h1, h2, h3, h4⟩
 · exact ⟨none, 0, by rw [hn], ⟨by omega, by omega⟩, fun h0 => absurd h0 (by omega)⟩
 · refine ⟨_, _, rfl, ⟨Nat.le_trans h1 h2, h1⟩, fun _ => ⟨g, 0, rfl, hg, (Array.getElem?_eq_some_iff.1 hh).1, fun i hi => ⟨[.int .i64 xs[i]], rfl, fun m hm => ?_, rfl, hx _ (List.getElem_mem hi)⟩⟩⟩
   obtain rfl : m = 0 := by simp at hm; omega
   rw [blk_cell hh]
   have e : (cur.toList.take (xs.length * 1))[i]? = some (.int .i64 xs[i]) := by rw [h4]; simp [hi]
   rw [List.getElem?_take_of_lt (by omega)] at e
   simpa using e
theorem node_in {w : World} {lo : Nat} {cs : List Value} {h : HeapD} {id : Int} {x : NodeD} (hh : HeapAt w lo cs h) (hx : nodeAt h id = some x) : InI id := by
 obtain ⟨k2, k3, k4, _, s2, _⟩ := hh
 obtain ⟨hm, hid⟩ := get_mem _ _ hx
 obtain ⟨i, hi, rfl⟩ := List.getElem_of_mem hm
 obtain ⟨a, cap, _, _, hs⟩ := s2
 obtain ⟨b, off, _, _, _, hc⟩ := hs (by omega)
 obtain ⟨cs', _, _, k3', k5', _, _, _, hI, _⟩ := hc i hi
 rw [← hid]; exact hI
theorem upL_in {w : World} {lo : Nat} {cs : List Value} {h : HeapD} (hh : HeapAt w lo cs h) : ∀ {n : Nat} {id : Int}, ∀ x ∈ upL h n id, InI x := by
 intro n
 induction n with
 | zero => intro id x hx; simp [upL] at hx
 | succ n ih =>
  intro id x hx
  cases hq : nodeAt h id with
  | none => rw [upL_none hq] at hx; cases hx
  | some y =>
   rw [upL_some hq] at hx
   rcases List.mem_cons.1 hx with e | e
   · subst e; exact node_in hh hq
   · exact ih x e
set_option maxHeartbeats 1600000 in
theorem l3Contains_any {w : World} {lo : Nat} {cs : List Value} {h : HeapD} {a b : Int} (hh : HeapAt w lo cs h) (hs : specB h = true) (hb : (nodeAt h b).isSome = true) :
 Calls Tryz.prog 135 #[.agg cs.toArray, .int .i64 a, .int .i64 b] w fun e w' => e = .returned (.bool (hasB (upL h h.vNodes.length b) a)) ∧ Below w.heap.size w w' := by
 have hh' : Hid (HeapAt w lo cs h) := hh
 obtain ⟨k2, k3, k4, rfl, s2, s3, s4, _⟩ := hh
 obtain ⟨a2, cap2, rfl⟩ := s2.form
 obtain ⟨a3, cap3, rfl⟩ := s3.form
 obtain ⟨a4, cap4, rfl⟩ := s4.form
 clear s2 s3 s4
 have hb1 : Below w.heap.size w (w.alloc (.cells (List.toArray (cHp h a2 cap2 a3 cap3 a4 cap4)) 28)) := (Below.refl _ _).alloc (Nat.le_refl _) _
 have bH0 : Hid (Box (w.alloc (.cells (List.toArray (cHp h a2 cap2 a3 cap3 a4 cap4)) 28)) w.heap.size (cHp h a2 cap2 a3 cap3 a4 cap4) 28) := Box.new w (cHp h a2 cap2 a3 cap3 a4 cap4) 28
 have hI : Hid (∀ x ∈ upL h h.vNodes.length b, InI x) := upL_in hh'.out
 have hs' : Hid (specB h = true) := hs
 have hz : Hid (nodeAt h 0 = none) := node_zero (spec_impl h ▸ hs)
 have hN : Hid (h.vNodes.length ≤ 16) := (spec_parts hs).1
 have hP : Hid (ParsThere h) := parsThere_of (spec_parts hs).2.1
 have hU : Hid (upF h h.vNodes.length b = true) := by
  obtain ⟨x, hx⟩ := Option.isSome_iff_exists.1 hb
  exact up_ends hs hx
 have hb' : Hid (b ≠ 0 → (nodeAt h b).isSome = true) := fun _ => hb
 clear hs hb
 go_enter Tryz.func135, Tryz.ntmps135
 go_wp2_with fail
 refine (l2Up_full (HeapAt_stays _ _ _ lo _ _ (.of_below hb1) hh'.out) hN.out hz.out hP.out hb'.out).mono ?_
 rintro e w1 ⟨hres, hb2⟩
 have hB2 : Below w.heap.size w w1 := hb1.trans (hb2.mono hb1.size)
 rcases hres with ⟨hF, _⟩ | ⟨v, rfl, hown⟩
 · rw [hU.out] at hF; cases hF
 have hown' : Hid _ := seqAt_of_own hown hI.out
 obtain ⟨av, capv, rfl⟩ := own_forms hown
 clear hown
 go_wp2_with fail
 refine (l2Has_any hown'.out).mono ?_
 rintro e w2 ⟨rfl, rfl⟩
 go_wp2_with fail
 go_ret
 exact ⟨rfl, hB2⟩
end Go.Proofs.YtdnembnlomnceaaGreat
namespace Go.Proofs.YtdnembnlomnceaaGreat
open Go.RowKit Go.Deep
namespace K7
theorem HeapP.inI {w : World} {cs : List Value} {x : HeapD} {fs : List Nat} (h : HeapP w cs x fs) {id : Int} (e : 0 ≤ idxN x id) : InI id := by
 rcases idxN_is x id with ⟨q, _⟩ | ⟨i, hi, _, q, _⟩
 · omega
 · obtain ⟨vN, vO, vG, bN, bO, cN, cO, fG, e, hN, _⟩ := h
   obtain ⟨h1, h2, h3, h4, h5, h6, h7⟩ := hN
   obtain ⟨_, _, _, _, _, _, _, _, r, _⟩ := h5 i hi (by omega) (by omega)
   rw [← q]; exact r
theorem there_of {x : HeapD} {id : Int} (e : 0 ≤ idxN x id) : (nodeAt x id).isSome = true := by
 rcases idxN_is x id with ⟨q, _⟩ | ⟨i, hi, _, _, q⟩
 · omega
 · rw [q]; rfl
set_option maxRecDepth 100000 in
set_option maxHeartbeats 8000000 in
theorem l4Tree7_any {w : World} {cs : List Value} {x : HeapD} {fs : List Nat} {o : OpD} (hp : HeapP w cs x fs) (hf : o.fits) (hs : specB x = true) (hk : o.vKind = 7) :
 Calls Tryz.prog 124 #[.agg cs.toArray, .agg o.cells.toArray] w fun e w' => ∃ cs', e = .returned (.tuple #[.agg cs'.toArray, .int .i64 (treeD x o).2]) ∧ HR w fs w' cs' (treeD x o).1 := by
 obtain ⟨aN, kN, aO, kO, aG, kG, rfl⟩ := hp.form
 have hR : Hid (RightH x) := right_of hs
 have hsh : Hid (specB x = true) := hs
 have hZ0 : Hid (HX (cOp 7 o) 91 w fs w.heap.size (w.heap.size + 1 + 1) (w.heap.size + 1) (((w.alloc (.cells (cHp x aN kN aO kO aG kG).toArray 28)).alloc (.cells (cOp 7 o).toArray 91)).alloc (.cells cZp.toArray 28)) (cHp x aN kN aO kO aG kG) x fs) := HX.start hp
 unfold OpD.cells treeD
 rw [hk]
 have hkh : Hid (o.vKind = 7) := hk
 have hfh : Hid o.fits := hf
 obtain ⟨nd, hnd⟩ : ∃ nd, wrappedR x o.vName = nd := ⟨_, rfl⟩
 have hth : nd = 0 ∨ 0 ≤ idxN x nd := by rw [← hnd]; exact wrapped_there hR.out _
 obtain ⟨ot, hot⟩ : ∃ ot, wrappedR x o.vOther = ot := ⟨_, rfl⟩
 have hoh : Hid (ot = 0 ∨ 0 ≤ idxN x ot) := by rw [← hot]; exact wrapped_there hR.out _
 have hndh : Hid (wrappedR x o.vName = nd) := hnd
 have hoth : Hid (wrappedR x o.vOther = ot) := hot
 rw [hnd, hot]
 clear hnd hot
 clear hk hp hf hs
 obtain ⟨d0, d1, d2, d3, d4⟩ := fv5 hZ0.out.hb.bH
 have o1 := hZ0.out.bq.cell 1 rfl
 go_enter Tryz.func124, Tryz.ntmps124
 go_wp2_with fail
 refine (l2Wrapped_any hZ0.out.hb.hp.at0).mono ?_
 rintro e w1 ⟨rfl, hb1⟩
 rw [hndh.out]
 have hZ1 : Hid _ := hZ0.out.below hb1
 clear hb1 hZ0 d0 d1 d2 d3 d4 o1
 obtain ⟨d0, d1, d2, d3, d4⟩ := fv5 hZ1.out.hb.bH
 have o2 := hZ1.out.bq.cell 2 rfl
 go_wp2_with fail
 refine (l2Wrapped_any hZ1.out.hb.hp.at0).mono ?_
 rintro e w2 ⟨rfl, hb2⟩
 rw [hoth.out]
 have hZ2 : Hid _ := hZ1.out.below hb2
 clear hb2 hZ1 d0 d1 d2 d3 d4 o2
 have o0 := hZ2.out.bq.cell 0 rfl
 by_cases hn0 : nd = 0
 · have htd : Hid (treeOp x o nd ot = (x, 5)) := by show _ = _; unfold treeOp; rw [if_pos (Or.inl hn0)]
   clear hth
   have hZf : Hid _ := hZ2.out.hb
   obtain ⟨d0, d1, d2, d3, d4⟩ := fv5 hZf.out.bH
   obtain ⟨z0, z1, z2, z3, z4⟩ := fv5 hZf.out.bR
   have uz := hZf.out.bR.unfrozen
   go_wp2_with fail
   have bF : Box (putCells w2 (w.heap.size + 1 + 1) 0 (cHp x aN kN aO kO aG kG)) (w.heap.size + 1 + 1) (cHp x aN kN aO kO aG kG) 28 := Box.puts5 hZf.out.bR
   obtain ⟨g0, g1, g2, g3, g4⟩ := fv5 bF
   exact bodyPost_ret (v := .tuple #[.agg (List.toArray (cHp x aN kN aO kO aG kG)), .int .i64 5]) (by simp only [putCells] at g0 g1 g2 g3 g4; simp [results, Tryz.results124, go_sem, g0, g1, g2, g3, g4]) rfl ⟨(cHp x aN kN aO kO aG kG), by rw [htd.out], by rw [htd.out]; exact hZf.out.ret (cHp x aN kN aO kO aG kG)⟩
 · have hnd0 : Hid (0 ≤ idxN x nd) := by rcases hth with q | q; exact absurd q hn0; exact q
   obtain ⟨i, hi, hidx0, X, hX, hpar0, hlis0, hkid0⟩ : ∃ i, ∃ hi : i < x.vNodes.length, idxN x nd = (i : Int) ∧ ∃ X, x.vNodes[i] = X ∧ parOf x nd = X.vParent ∧ lisOf x nd = X.vListeners ∧ kidsOfN x nd = X.vKids := by
    rcases idxN_is x nd with ⟨q, _⟩ | ⟨i, hi, q, _, q2⟩
    · have := hnd0.out; omega
    · exact ⟨i, hi, q, _, rfl, by unfold parOf; rw [q2], by unfold lisOf; rw [q2], by unfold kidsOfN; rw [q2]⟩
   have hidx : Hid (idxN x nd = (i : Int)) := hidx0
   have hn0h : Hid (¬ nd = 0) := hn0
   have hXe : Hid (x.vNodes[i] = X) := hX
   have hXm : Hid (X ∈ x.vNodes) := by show X ∈ x.vNodes; rw [← hX]; exact List.getElem_mem hi
   have hpar : Hid (parOf x nd = X.vParent) := hpar0
   have hlis : Hid (lisOf x nd = X.vListeners) := hlis0
   have hkid : Hid (kidsOfN x nd = X.vKids) := hkid0
   obtain ⟨gN, rfl, _⟩ := hZ2.out.hb.hp.posN (show 0 < x.vNodes.length by omega)
   obtain ⟨C, fi, hC, hcell, _⟩ := hZ2.out.hb.node hi
   rw [hX] at hC
   obtain ⟨n3, m3, n5, m5, rfl⟩ := hC.len
   have n0 : Hid (w2.cell? ⟨gN, i * 6, none⟩ = some (.int .i64 X.vId)) := hcell 0 _ rfl
   have n1 : Hid (w2.cell? ⟨gN, i * 6 + 1, none⟩ = some (.string X.vTag)) := hcell 1 _ rfl
   have n2 : Hid (w2.cell? ⟨gN, i * 6 + 2, none⟩ = some (.int .i64 X.vParent)) := hcell 2 _ rfl
   have n3' : Hid (w2.cell? ⟨gN, i * 6 + 3, none⟩ = some (.slice n3 X.vKids.length m3)) := hcell 3 _ rfl
   have n4 : Hid (w2.cell? ⟨gN, i * 6 + 4, none⟩ = some (.int .i64 X.vWrapper)) := hcell 4 _ rfl
   have n5' : Hid (w2.cell? ⟨gN, i * 6 + 5, none⟩ = some (.slice n5 X.vListeners.length m5)) := hcell 5 _ rfl
   have hiI : (i : Int) < (x.vNodes.length : Int) := by omega
   have hi0 : (0 : Int) ≤ (i : Int) := by omega
   clear hth hidx0 hpar0 hlis0 hkid0 hC hcell hX
   by_cases hot0 : ot = 0
   · have htd : Hid (treeOp x o nd ot = (x, 5)) := by show _ = _; unfold treeOp; rw [if_pos (Or.inr ⟨hot0, by rw [hkh.out]; decide⟩)]
     have hZf : Hid _ := hZ2.out.hb
     obtain ⟨d0, d1, d2, d3, d4⟩ := fv5 hZf.out.bH
     obtain ⟨z0, z1, z2, z3, z4⟩ := fv5 hZf.out.bR
     have uz := hZf.out.bR.unfrozen
     go_wp2_with fail
     have bF : Box (putCells w2 (w.heap.size + 1 + 1) 0 (cHp x (some ⟨gN, 0, none⟩) kN aO kO aG kG)) (w.heap.size + 1 + 1) (cHp x (some ⟨gN, 0, none⟩) kN aO kO aG kG) 28 := Box.puts5 hZf.out.bR
     obtain ⟨g0, g1, g2, g3, g4⟩ := fv5 bF
     exact bodyPost_ret (v := .tuple #[.agg (List.toArray (cHp x (some ⟨gN, 0, none⟩) kN aO kO aG kG)), .int .i64 5]) (by simp only [putCells] at g0 g1 g2 g3 g4; simp [results, Tryz.results124, go_sem, g0, g1, g2, g3, g4]) rfl ⟨(cHp x (some ⟨gN, 0, none⟩) kN aO kO aG kG), by rw [htd.out], by rw [htd.out]; exact hZf.out.ret (cHp x (some ⟨gN, 0, none⟩) kN aO kO aG kG)⟩
   · have hot0h : Hid (¬ ot = 0) := hot0
     have hot1 : Hid (0 ≤ idxN x ot) := by rcases hoh.out with q | q; exact absurd q hot0; exact q
     go_upto_region 5 with fail
     clear o0 hot0
     go_cut [8] (fun s8 wx => ∃ (gx : Nat), s8 = .pointer (some ⟨gx, 0, none⟩) ∧ w2.heap.size ≤ gx ∧ Hid (Below (World.heap w2).size w2 wx) ∧ Hid (Box wx gx (cNd X n3 m3 n5 m5) 73))
     case first =>
      have hkd : Hid (Below (World.heap w2).size w2 (World.drew w2)) := Below.drew (Below.refl _ _)
      refine wp_region_held_drew (S := fun w' => w'.cell? ⟨w.heap.size, 0, none⟩ = some (.int .i64 x.vNext) ∧ w'.cell? ⟨w.heap.size, 1, none⟩ = some (.int .i64 x.vDoc) ∧ w'.cell? ⟨w.heap.size, 2, none⟩ = some (.slice (some ⟨gN, 0, none⟩) x.vNodes.length kN) ∧ w'.cell? ⟨w.heap.size, 3, none⟩ = some (.slice aO x.vObjs.length kO) ∧ w'.cell? ⟨w.heap.size, 4, none⟩ = some (.slice aG x.vGlobals.length kG) ∧ w'.cell? ⟨gN, i * 6, none⟩ = some (.int .i64 X.vId) ∧ w'.cell? ⟨gN, i * 6 + 1, none⟩ = some (.string X.vTag) ∧ w'.cell? ⟨gN, i * 6 + 2, none⟩ = some (.int .i64 X.vParent) ∧ w'.cell? ⟨gN, i * 6 + 3, none⟩ = some (.slice n3 X.vKids.length m3) ∧ w'.cell? ⟨gN, i * 6 + 4, none⟩ = some (.int .i64 X.vWrapper) ∧ w'.cell? ⟨gN, i * 6 + 5, none⟩ = some (.slice n5 X.vListeners.length m5)) (by kernel_rfl) (fv5a hZ2.out.hb.bH ⟨n0.out, n1.out, n2.out, n3'.out, n4.out, n5'.out⟩) (fun hHeld => ?_)
      refine tk 0 ?_
      refine tk 1 ?_
      refine tk 2 ?_
      refine tk 3 ?_
      refine rd2 4 7 (fun K hK => ?_) (fun K hK => ?_)
      · go_simp
        refine (l2Node_any (hZ2.out.below hkd.out).hb.hp.at0).mono ?_
        rintro e u6 ⟨rfl, hb6⟩
        rw [hidx.out]
        have hk1 : Hid (Below (World.heap w2).size w2 u6) := hkd.out.trans (Below.mono hb6 (Below.size hkd.out))
        have lu6 := hb6.size
        clear hb6
        refine hK.out _ _ (fv5a (hZ2.out.below hk1.out).hb.bH ⟨cell_on hk1.out n0.out, cell_on hk1.out n1.out, cell_on hk1.out n2.out, cell_on hk1.out n3'.out, cell_on hk1.out n4.out, cell_on hk1.out n5'.out⟩) (fun hHeld => ?_)
        clear hK K
        refine tk 5 ?_
        refine tk 6 ?_
        refine rd1 7 (fun K hK => ?_)
        go_simp
        have hk2 : Hid (Below (World.heap w2).size w2 (World.alloc u6 (.cells cZn.toArray 73))) := Below.alloc hk1.out (Below.size hk1.out) _
        obtain ⟨EE, hEE⟩ : ∃ EE, u6.heap.size = EE := ⟨_, rfl⟩
        have bX2 : Hid (Box (World.alloc u6 (.cells cZn.toArray 73)) EE cZn 73) := by rw [← hEE]; exact Box.new u6 _ _
        have lE : w2.heap.size ≤ EE := by rw [← hEE]; have := Below.size hk1.out; exact this
        have hEEh : Hid (u6.heap.size = EE) := hEE
        clear hEE
        refine hK.out _ _ (fv5a (hZ2.out.below hk2.out).hb.bH ⟨cell_on hk2.out n0.out, cell_on hk2.out n1.out, cell_on hk2.out n2.out, cell_on hk2.out n3'.out, cell_on hk2.out n4.out, cell_on hk2.out n5'.out⟩) (fun hHeld => ?_)
        clear hK K
        refine rd1 8 (fun K hK => ?_)
        go_simp
        have hkF : Hid (Below (World.heap w2).size w2 (World.alloc u6 (.cells (cNd X n3 m3 n5 m5).toArray 73))) := Below.alloc hk1.out (Below.size hk1.out) _
        refine hK.out _ _ (fv5a (hZ2.out.below hkF.out).hb.bH ⟨cell_on hkF.out n0.out, cell_on hkF.out n1.out, cell_on hkF.out n2.out, cell_on hkF.out n3'.out, cell_on hkF.out n4.out, cell_on hkF.out n5'.out⟩) (fun hHeld => ?_)
        clear hK K
        refine wpAnyH_done (by kernel_rfl) ?_ _
        have eEE := hEEh.out
        have bXF : Hid (Box (World.alloc u6 (.cells (cNd X n3 m3 n5 m5).toArray 73)) EE (cNd X n3 m3 n5 m5) 73) := by rw [← eEE]; exact Box.new u6 _ _
        go_wp2_with fail
        go_meet
        exact ⟨EE, by rw [eEE], lE, hkF, bXF⟩
      · go_simp
        have hk1 : Hid (Below (World.heap w2).size w2 (World.alloc w2.drew (.cells cZn.toArray 73))) := Below.alloc hkd.out (Below.size hkd.out) _
        obtain ⟨EE, hEE⟩ : ∃ EE, w2.heap.size = EE := ⟨_, rfl⟩
        have bX1 : Hid (Box (World.alloc w2.drew (.cells cZn.toArray 73)) EE cZn 73) := by rw [← hEE]; exact Box.new w2.drew _ _
        have lE : w2.heap.size ≤ EE := by rw [← hEE]; have := Below.size hkd.out; exact this
        have hEEh : Hid (w2.heap.size = EE) := hEE
        clear hEE
        refine hK.out _ _ (fv5a (hZ2.out.below hk1.out).hb.bH ⟨cell_on hk1.out n0.out, cell_on hk1.out n1.out, cell_on hk1.out n2.out, cell_on hk1.out n3'.out, cell_on hk1.out n4.out, cell_on hk1.out n5'.out⟩) (fun hHeld => ?_)
        clear hK K
        refine rd1 4 (fun K hK => ?_)
        go_simp
        refine (l2Node_any (hZ2.out.below hk1.out).hb.hp.at0).mono ?_
        rintro e u6 ⟨rfl, hb6⟩
        rw [hidx.out]
        have hk2 : Hid (Below (World.heap w2).size w2 u6) := hk1.out.trans (Below.mono hb6 (Below.size hk1.out))
        have bX2 : Hid (Box u6 EE cZn 73) := Box.below bX1.out hb6 (Box.lt bX1.out)
        have lu6 := hb6.size
        clear hb6
        refine hK.out _ _ (fv5a (hZ2.out.below hk2.out).hb.bH ⟨cell_on hk2.out n0.out, cell_on hk2.out n1.out, cell_on hk2.out n2.out, cell_on hk2.out n3'.out, cell_on hk2.out n4.out, cell_on hk2.out n5'.out⟩) (fun hHeld => ?_)
        clear hK K
        refine tk 5 ?_
        refine tk 6 ?_
        refine rd1 8 (fun K hK => ?_)
        have bE9 := bX2.out
        rw [← hEEh.out] at bE9
        have u0_ := bE9.cell 0 rfl
        have u1_ := bE9.cell 1 rfl
        have u2_ := bE9.cell 2 rfl
        have u3_ := bE9.cell 3 rfl
        have u4_ := bE9.cell 4 rfl
        have u5_ := bE9.cell 5 rfl
        have uf_ := bE9.unfrozen
        go_simp
        have hkF : Hid (Below (World.heap w2).size w2 (putCells u6 w2.heap.size 0 (cNd X n3 m3 n5 m5))) := putCells_below (cNd X n3 m3 n5 m5) _ _ _ _ _ (by have h_ := hEEh.out; omega) hk2.out
        refine hK.out _ _ (fv5a (hZ2.out.below hkF.out).hb.bH ⟨cell_on hkF.out n0.out, cell_on hkF.out n1.out, cell_on hkF.out n2.out, cell_on hkF.out n3'.out, cell_on hkF.out n4.out, cell_on hkF.out n5'.out⟩) (fun hHeld => ?_)
        clear hK K
        refine wpAnyH_done (by kernel_rfl) ?_ _
        have eEE := hEEh.out
        have bXF : Hid (Box (putCells u6 w2.heap.size 0 (cNd X n3 m3 n5 m5)) EE (cNd X n3 m3 n5 m5) 73) := by rw [eEE]; exact ((((((bX2.out.set (i := 0) _).set (i := 1) _).set (i := 2) _).set (i := 3) _).set (i := 4) _).set (i := 5) _)
        go_wp2_with fail
        go_meet
        exact ⟨EE, by rw [eEE], lE, hkF, bXF⟩
     case rest =>
      obtain ⟨gx, rfl, hgx, hbx, bX5⟩ := hcut
      generalize wc = w5 at hbx bX5 ⊢
      have hZ5 : Hid _ := hZ2.out.below (hbx.out)
      have o0 := hZ5.out.bq.cell 0 rfl
      by_cases hd : ot = x.vDoc
      · have htd : Hid (treeOp x o nd ot = (x, 6)) := by show _ = _; unfold treeOp; rw [if_neg (by rw [hkh.out]; have := hn0h.out; have := hot0h.out; omega), if_neg (by rw [hkh.out]; decide), if_neg (by rw [hkh.out]; decide), if_neg (by rw [hkh.out]; decide), if_neg (by rw [hkh.out]; decide), if_pos (Or.inl hd)]
        have hdd : Hid (ot = x.vDoc) := hd
        skip
        have hZf : Hid _ := hZ5.out.hb
        obtain ⟨d0, d1, d2, d3, d4⟩ := fv5 hZf.out.bH
        obtain ⟨z0, z1, z2, z3, z4⟩ := fv5 hZf.out.bR
        have uz := hZf.out.bR.unfrozen
        go_wp2_with fail
        have bF : Box (putCells w5 (w.heap.size + 1 + 1) 0 (cHp x (some ⟨gN, 0, none⟩) kN aO kO aG kG)) (w.heap.size + 1 + 1) (cHp x (some ⟨gN, 0, none⟩) kN aO kO aG kG) 28 := Box.puts5 hZf.out.bR
        obtain ⟨g0, g1, g2, g3, g4⟩ := fv5 bF
        exact bodyPost_ret (v := .tuple #[.agg (List.toArray (cHp x (some ⟨gN, 0, none⟩) kN aO kO aG kG)), .int .i64 6]) (by simp only [putCells] at g0 g1 g2 g3 g4; simp [results, Tryz.results124, go_sem, g0, g1, g2, g3, g4]) rfl ⟨(cHp x (some ⟨gN, 0, none⟩) kN aO kO aG kG), by rw [htd.out], by rw [htd.out]; exact hZf.out.ret (cHp x (some ⟨gN, 0, none⟩) kN aO kO aG kG)⟩
      · have hdh : Hid (¬ ot = x.vDoc) := hd
        obtain ⟨d0, d1, d2, d3, d4⟩ := fv5 hZ5.out.hb.bH
        go_wp2_with fail
        refine (l3Contains_any hZ5.out.hb.hp.at0 hsh.out (there_of hnd0.out)).mono ?_
        rintro e w6 ⟨rfl, hb6⟩
        have hZ6 : Hid _ := hZ5.out.below hb6
        have bX6 : Hid (Box w6 gx (cNd X n3 m3 n5 m5) 73) := bX5.out.below hb6 bX5.out.lt
        obtain ⟨hb, hbe⟩ : ∃ b, hasB (upL x x.vNodes.length nd) ot = b := ⟨_, rfl⟩
        have hbh : Hid (hasB (upL x x.vNodes.length nd) ot = hb) := hbe
        rw [hbe]
        clear hbe hb6 d0 d1 d2 d3 d4
        cases hb
        · have htd0 : Hid (treeOp x o nd ot = (insertD x nd ot 0, 0)) := by show _ = _; have e1 := hdh.out; have e2 := hbh.out; unfold treeOp; rw [if_neg (by rw [hkh.out]; have := hn0h.out; have := hot0h.out; omega), if_neg (by rw [hkh.out]; decide), if_neg (by rw [hkh.out]; decide), if_neg (by rw [hkh.out]; decide), if_neg (by rw [hkh.out]; decide), if_neg (by rw [e2]; simp [e1])]
          obtain ⟨d0, d1, d2, d3, d4⟩ := fv5 hZ6.out.hb.bH
          go_wp2_with fail
          refine (l4Insert_any hZ6.out.hb.hp (HeapP.inI hZ6.out.hb.hp hot1.out) (HeapP.inI hZ6.out.hb.hp hnd0.out) hot1.out hnd0.out (fun z q => Nat.le_trans (hR.out.kids z q).1 (by omega))).mono ?_
          rintro e w7 ⟨cs6, rfl, hr6⟩
          obtain ⟨y, hy⟩ : ∃ y, insertD x nd ot 0 = y := ⟨_, rfl⟩
          rw [hy] at hr6
          have htd : Hid (treeOp x o nd ot = (y, 0)) := by show _ = _; rw [htd0.out, hy]
          obtain ⟨aN6, kN6, aO6, kO6, aG6, kG6, rfl⟩ := hr6.form
          obtain ⟨bR6, hR6⟩ := hZ6.out.hb.over hr6
          have bR6h : Hid (Box w7 (w.heap.size + 1 + 1) cZp 28) := bR6
          have hR6h : Hid _ := hR6
          clear hr6 bR6 hR6 hy d0 d1 d2 d3 d4
          obtain ⟨z0, z1, z2, z3, z4⟩ := fv5 bR6h.out
          have uz := bR6h.out.unfrozen
          go_wp2_with fail
          have bF : Box (putCells w7 (w.heap.size + 1 + 1) 0 (cHp y aN6 kN6 aO6 kO6 aG6 kG6)) (w.heap.size + 1 + 1) (cHp y aN6 kN6 aO6 kO6 aG6 kG6) 28 := Box.puts5 bR6h.out
          obtain ⟨g0, g1, g2, g3, g4⟩ := fv5 bF
          exact bodyPost_ret (v := .tuple #[.agg (List.toArray (cHp y aN6 kN6 aO6 kO6 aG6 kG6)), .int .i64 0]) (by simp only [putCells] at g0 g1 g2 g3 g4; simp [results, Tryz.results124, go_sem, g0, g1, g2, g3, g4]) rfl ⟨(cHp y aN6 kN6 aO6 kO6 aG6 kG6), by rw [htd.out], by rw [htd.out]; exact hR6h.out⟩
        · have htd : Hid (treeOp x o nd ot = (x, 6)) := by show _ = _; unfold treeOp; rw [if_neg (by rw [hkh.out]; have := hn0h.out; have := hot0h.out; omega), if_neg (by rw [hkh.out]; decide), if_neg (by rw [hkh.out]; decide), if_neg (by rw [hkh.out]; decide), if_neg (by rw [hkh.out]; decide), if_pos (Or.inr hbh.out)]
          have hZf : Hid _ := hZ6.out.hb
          obtain ⟨d0, d1, d2, d3, d4⟩ := fv5 hZf.out.bH
          obtain ⟨z0, z1, z2, z3, z4⟩ := fv5 hZf.out.bR
          have uz := hZf.out.bR.unfrozen
          go_wp2_with fail
          have bF : Box (putCells w6 (w.heap.size + 1 + 1) 0 (cHp x (some ⟨gN, 0, none⟩) kN aO kO aG kG)) (w.heap.size + 1 + 1) (cHp x (some ⟨gN, 0, none⟩) kN aO kO aG kG) 28 := Box.puts5 hZf.out.bR
          obtain ⟨g0, g1, g2, g3, g4⟩ := fv5 bF
          exact bodyPost_ret (v := .tuple #[.agg (List.toArray (cHp x (some ⟨gN, 0, none⟩) kN aO kO aG kG)), .int .i64 6]) (by simp only [putCells] at g0 g1 g2 g3 g4; simp [results, Tryz.results124, go_sem, g0, g1, g2, g3, g4]) rfl ⟨(cHp x (some ⟨gN, 0, none⟩) kN aO kO aG kG), by rw [htd.out], by rw [htd.out]; exact hZf.out.ret (cHp x (some ⟨gN, 0, none⟩) kN aO kO aG kG)⟩
end K7
end Go.Proofs.YtdnembnlomnceaaGreat
namespace Go.Proofs.YtdnembnlomnceaaGreat
open Go.RowKit Go.Deep
namespace K8
theorem HeapP.inI {w : World} {cs : List Value} {x : HeapD} {fs : List Nat} (h : HeapP w cs x fs) {id : Int} (e : 0 ≤ idxN x id) : InI id := by
 rcases idxN_is x id with ⟨q, _⟩ | ⟨i, hi, _, q, _⟩
 · omega
 · obtain ⟨vN, vO, vG, bN, bO, cN, cO, fG, e, hN, _⟩ := h
   obtain ⟨h1, h2, h3, h4, h5, h6, h7⟩ := hN
   obtain ⟨_, _, _, _, _, _, _, _, r, _⟩ := h5 i hi (by omega) (by omega)
   rw [← q]; exact r
theorem there_of {x : HeapD} {id : Int} (e : 0 ≤ idxN x id) : (nodeAt x id).isSome = true := by
 rcases idxN_is x id with ⟨q, _⟩ | ⟨i, hi, _, _, q⟩
 · omega
 · rw [q]; rfl
set_option maxRecDepth 100000 in
set_option maxHeartbeats 8000000 in
theorem l4Tree8_any {w : World} {cs : List Value} {x : HeapD} {fs : List Nat} {o : OpD} (hp : HeapP w cs x fs) (hf : o.fits) (hs : specB x = true) (hk : o.vKind = 8) :
 Calls Tryz.prog 124 #[.agg cs.toArray, .agg o.cells.toArray] w fun e w' => ∃ cs', e = .returned (.tuple #[.agg cs'.toArray, .int .i64 (treeD x o).2]) ∧ HR w fs w' cs' (treeD x o).1 := by
 obtain ⟨aN, kN, aO, kO, aG, kG, rfl⟩ := hp.form
 have hR : Hid (RightH x) := right_of hs
 have hsh : Hid (specB x = true) := hs
 have hZ0 : Hid (HX (cOp 8 o) 91 w fs w.heap.size (w.heap.size + 1 + 1) (w.heap.size + 1) (((w.alloc (.cells (cHp x aN kN aO kO aG kG).toArray 28)).alloc (.cells (cOp 8 o).toArray 91)).alloc (.cells cZp.toArray 28)) (cHp x aN kN aO kO aG kG) x fs) := HX.start hp
 unfold OpD.cells treeD
 rw [hk]
 have hkh : Hid (o.vKind = 8) := hk
 have hfh : Hid o.fits := hf
 obtain ⟨nd, hnd⟩ : ∃ nd, wrappedR x o.vName = nd := ⟨_, rfl⟩
 have hth : nd = 0 ∨ 0 ≤ idxN x nd := by rw [← hnd]; exact wrapped_there hR.out _
 obtain ⟨ot, hot⟩ : ∃ ot, wrappedR x o.vOther = ot := ⟨_, rfl⟩
 have hoh : Hid (ot = 0 ∨ 0 ≤ idxN x ot) := by rw [← hot]; exact wrapped_there hR.out _
 have hndh : Hid (wrappedR x o.vName = nd) := hnd
 have hoth : Hid (wrappedR x o.vOther = ot) := hot
 rw [hnd, hot]
 clear hnd hot
 clear hk hp hf hs
 obtain ⟨d0, d1, d2, d3, d4⟩ := fv5 hZ0.out.hb.bH
 have o1 := hZ0.out.bq.cell 1 rfl
 go_enter Tryz.func124, Tryz.ntmps124
 go_wp2_with fail
 refine (l2Wrapped_any hZ0.out.hb.hp.at0).mono ?_
 rintro e w1 ⟨rfl, hb1⟩
 rw [hndh.out]
 have hZ1 : Hid _ := hZ0.out.below hb1
 clear hb1 hZ0 d0 d1 d2 d3 d4 o1
 obtain ⟨d0, d1, d2, d3, d4⟩ := fv5 hZ1.out.hb.bH
 have o2 := hZ1.out.bq.cell 2 rfl
 go_wp2_with fail
 refine (l2Wrapped_any hZ1.out.hb.hp.at0).mono ?_
 rintro e w2 ⟨rfl, hb2⟩
 rw [hoth.out]
 have hZ2 : Hid _ := hZ1.out.below hb2
 clear hb2 hZ1 d0 d1 d2 d3 d4 o2
 have o0 := hZ2.out.bq.cell 0 rfl
 by_cases hn0 : nd = 0
 · have htd : Hid (treeOp x o nd ot = (x, 5)) := by show _ = _; unfold treeOp; rw [if_pos (Or.inl hn0)]
   clear hth
   have hZf : Hid _ := hZ2.out.hb
   obtain ⟨d0, d1, d2, d3, d4⟩ := fv5 hZf.out.bH
   obtain ⟨z0, z1, z2, z3, z4⟩ := fv5 hZf.out.bR
   have uz := hZf.out.bR.unfrozen
   go_wp2_with fail
   have bF : Box (putCells w2 (w.heap.size + 1 + 1) 0 (cHp x aN kN aO kO aG kG)) (w.heap.size + 1 + 1) (cHp x aN kN aO kO aG kG) 28 := Box.puts5 hZf.out.bR
   obtain ⟨g0, g1, g2, g3, g4⟩ := fv5 bF
   exact bodyPost_ret (v := .tuple #[.agg (List.toArray (cHp x aN kN aO kO aG kG)), .int .i64 5]) (by simp only [putCells] at g0 g1 g2 g3 g4; simp [results, Tryz.results124, go_sem, g0, g1, g2, g3, g4]) rfl ⟨(cHp x aN kN aO kO aG kG), by rw [htd.out], by rw [htd.out]; exact hZf.out.ret (cHp x aN kN aO kO aG kG)⟩
 · have hnd0 : Hid (0 ≤ idxN x nd) := by rcases hth with q | q; exact absurd q hn0; exact q
   obtain ⟨i, hi, hidx0, X, hX, hpar0, hlis0, hkid0⟩ : ∃ i, ∃ hi : i < x.vNodes.length, idxN x nd = (i : Int) ∧ ∃ X, x.vNodes[i] = X ∧ parOf x nd = X.vParent ∧ lisOf x nd = X.vListeners ∧ kidsOfN x nd = X.vKids := by
    rcases idxN_is x nd with ⟨q, _⟩ | ⟨i, hi, q, _, q2⟩
    · have := hnd0.out; omega
    · exact ⟨i, hi, q, _, rfl, by unfold parOf; rw [q2], by unfold lisOf; rw [q2], by unfold kidsOfN; rw [q2]⟩
   have hidx : Hid (idxN x nd = (i : Int)) := hidx0
   have hn0h : Hid (¬ nd = 0) := hn0
   have hXe : Hid (x.vNodes[i] = X) := hX
   have hXm : Hid (X ∈ x.vNodes) := by show X ∈ x.vNodes; rw [← hX]; exact List.getElem_mem hi
   have hpar : Hid (parOf x nd = X.vParent) := hpar0
   have hlis : Hid (lisOf x nd = X.vListeners) := hlis0
   have hkid : Hid (kidsOfN x nd = X.vKids) := hkid0
   obtain ⟨gN, rfl, _⟩ := hZ2.out.hb.hp.posN (show 0 < x.vNodes.length by omega)
   obtain ⟨C, fi, hC, hcell, _⟩ := hZ2.out.hb.node hi
   rw [hX] at hC
   obtain ⟨n3, m3, n5, m5, rfl⟩ := hC.len
   have n0 : Hid (w2.cell? ⟨gN, i * 6, none⟩ = some (.int .i64 X.vId)) := hcell 0 _ rfl
   have n1 : Hid (w2.cell? ⟨gN, i * 6 + 1, none⟩ = some (.string X.vTag)) := hcell 1 _ rfl
   have n2 : Hid (w2.cell? ⟨gN, i * 6 + 2, none⟩ = some (.int .i64 X.vParent)) := hcell 2 _ rfl
   have n3' : Hid (w2.cell? ⟨gN, i * 6 + 3, none⟩ = some (.slice n3 X.vKids.length m3)) := hcell 3 _ rfl
   have n4 : Hid (w2.cell? ⟨gN, i * 6 + 4, none⟩ = some (.int .i64 X.vWrapper)) := hcell 4 _ rfl
   have n5' : Hid (w2.cell? ⟨gN, i * 6 + 5, none⟩ = some (.slice n5 X.vListeners.length m5)) := hcell 5 _ rfl
   have hiI : (i : Int) < (x.vNodes.length : Int) := by omega
   have hi0 : (0 : Int) ≤ (i : Int) := by omega
   clear hth hidx0 hpar0 hlis0 hkid0 hC hcell hX
   by_cases hot0 : ot = 0
   · have htd : Hid (treeOp x o nd ot = (x, 5)) := by show _ = _; unfold treeOp; rw [if_pos (Or.inr ⟨hot0, by rw [hkh.out]; decide⟩)]
     have hZf : Hid _ := hZ2.out.hb
     obtain ⟨d0, d1, d2, d3, d4⟩ := fv5 hZf.out.bH
     obtain ⟨z0, z1, z2, z3, z4⟩ := fv5 hZf.out.bR
     have uz := hZf.out.bR.unfrozen
     go_wp2_with fail
     have bF : Box (putCells w2 (w.heap.size + 1 + 1) 0 (cHp x (some ⟨gN, 0, none⟩) kN aO kO aG kG)) (w.heap.size + 1 + 1) (cHp x (some ⟨gN, 0, none⟩) kN aO kO aG kG) 28 := Box.puts5 hZf.out.bR
     obtain ⟨g0, g1, g2, g3, g4⟩ := fv5 bF
     exact bodyPost_ret (v := .tuple #[.agg (List.toArray (cHp x (some ⟨gN, 0, none⟩) kN aO kO aG kG)), .int .i64 5]) (by simp only [putCells] at g0 g1 g2 g3 g4; simp [results, Tryz.results124, go_sem, g0, g1, g2, g3, g4]) rfl ⟨(cHp x (some ⟨gN, 0, none⟩) kN aO kO aG kG), by rw [htd.out], by rw [htd.out]; exact hZf.out.ret (cHp x (some ⟨gN, 0, none⟩) kN aO kO aG kG)⟩
   · have hot0h : Hid (¬ ot = 0) := hot0
     have hot1 : Hid (0 ≤ idxN x ot) := by rcases hoh.out with q | q; exact absurd q hot0; exact q
     go_upto_region 5 with fail
     clear o0 hot0
     go_cut [8] (fun s8 wx => ∃ (gx : Nat), s8 = .pointer (some ⟨gx, 0, none⟩) ∧ w2.heap.size ≤ gx ∧ Hid (Below (World.heap w2).size w2 wx) ∧ Hid (Box wx gx (cNd X n3 m3 n5 m5) 73))
     case first =>
      have hkd : Hid (Below (World.heap w2).size w2 (World.drew w2)) := Below.drew (Below.refl _ _)
      refine wp_region_held_drew (S := fun w' => w'.cell? ⟨w.heap.size, 0, none⟩ = some (.int .i64 x.vNext) ∧ w'.cell? ⟨w.heap.size, 1, none⟩ = some (.int .i64 x.vDoc) ∧ w'.cell? ⟨w.heap.size, 2, none⟩ = some (.slice (some ⟨gN, 0, none⟩) x.vNodes.length kN) ∧ w'.cell? ⟨w.heap.size, 3, none⟩ = some (.slice aO x.vObjs.length kO) ∧ w'.cell? ⟨w.heap.size, 4, none⟩ = some (.slice aG x.vGlobals.length kG) ∧ w'.cell? ⟨gN, i * 6, none⟩ = some (.int .i64 X.vId) ∧ w'.cell? ⟨gN, i * 6 + 1, none⟩ = some (.string X.vTag) ∧ w'.cell? ⟨gN, i * 6 + 2, none⟩ = some (.int .i64 X.vParent) ∧ w'.cell? ⟨gN, i * 6 + 3, none⟩ = some (.slice n3 X.vKids.length m3) ∧ w'.cell? ⟨gN, i * 6 + 4, none⟩ = some (.int .i64 X.vWrapper) ∧ w'.cell? ⟨gN, i * 6 + 5, none⟩ = some (.slice n5 X.vListeners.length m5)) (by kernel_rfl) (fv5a hZ2.out.hb.bH ⟨n0.out, n1.out, n2.out, n3'.out, n4.out, n5'.out⟩) (fun hHeld => ?_)
      refine tk 0 ?_
      refine tk 1 ?_
      refine tk 2 ?_
      refine tk 3 ?_
      refine rd2 4 7 (fun K hK => ?_) (fun K hK => ?_)
      · go_simp
        refine (l2Node_any (hZ2.out.below hkd.out).hb.hp.at0).mono ?_
        rintro e u6 ⟨rfl, hb6⟩
        rw [hidx.out]
        have hk1 : Hid (Below (World.heap w2).size w2 u6) := hkd.out.trans (Below.mono hb6 (Below.size hkd.out))
        have lu6 := hb6.size
        clear hb6
        refine hK.out _ _ (fv5a (hZ2.out.below hk1.out).hb.bH ⟨cell_on hk1.out n0.out, cell_on hk1.out n1.out, cell_on hk1.out n2.out, cell_on hk1.out n3'.out, cell_on hk1.out n4.out, cell_on hk1.out n5'.out⟩) (fun hHeld => ?_)
        clear hK K
        refine tk 5 ?_
        refine tk 6 ?_
        refine rd1 7 (fun K hK => ?_)
        go_simp
        have hk2 : Hid (Below (World.heap w2).size w2 (World.alloc u6 (.cells cZn.toArray 73))) := Below.alloc hk1.out (Below.size hk1.out) _
        obtain ⟨EE, hEE⟩ : ∃ EE, u6.heap.size = EE := ⟨_, rfl⟩
        have bX2 : Hid (Box (World.alloc u6 (.cells cZn.toArray 73)) EE cZn 73) := by rw [← hEE]; exact Box.new u6 _ _
        have lE : w2.heap.size ≤ EE := by rw [← hEE]; have := Below.size hk1.out; exact this
        have hEEh : Hid (u6.heap.size = EE) := hEE
        clear hEE
        refine hK.out _ _ (fv5a (hZ2.out.below hk2.out).hb.bH ⟨cell_on hk2.out n0.out, cell_on hk2.out n1.out, cell_on hk2.out n2.out, cell_on hk2.out n3'.out, cell_on hk2.out n4.out, cell_on hk2.out n5'.out⟩) (fun hHeld => ?_)
        clear hK K
        refine rd1 8 (fun K hK => ?_)
        go_simp
        have hkF : Hid (Below (World.heap w2).size w2 (World.alloc u6 (.cells (cNd X n3 m3 n5 m5).toArray 73))) := Below.alloc hk1.out (Below.size hk1.out) _
        refine hK.out _ _ (fv5a (hZ2.out.below hkF.out).hb.bH ⟨cell_on hkF.out n0.out, cell_on hkF.out n1.out, cell_on hkF.out n2.out, cell_on hkF.out n3'.out, cell_on hkF.out n4.out, cell_on hkF.out n5'.out⟩) (fun hHeld => ?_)
        clear hK K
        refine wpAnyH_done (by kernel_rfl) ?_ _
        have eEE := hEEh.out
        have bXF : Hid (Box (World.alloc u6 (.cells (cNd X n3 m3 n5 m5).toArray 73)) EE (cNd X n3 m3 n5 m5) 73) := by rw [← eEE]; exact Box.new u6 _ _
        go_wp2_with fail
        go_meet
        exact ⟨EE, by rw [eEE], lE, hkF, bXF⟩
      · go_simp
        have hk1 : Hid (Below (World.heap w2).size w2 (World.alloc w2.drew (.cells cZn.toArray 73))) := Below.alloc hkd.out (Below.size hkd.out) _
        obtain ⟨EE, hEE⟩ : ∃ EE, w2.heap.size = EE := ⟨_, rfl⟩
        have bX1 : Hid (Box (World.alloc w2.drew (.cells cZn.toArray 73)) EE cZn 73) := by rw [← hEE]; exact Box.new w2.drew _ _
        have lE : w2.heap.size ≤ EE := by rw [← hEE]; have := Below.size hkd.out; exact this
        have hEEh : Hid (w2.heap.size = EE) := hEE
        clear hEE
        refine hK.out _ _ (fv5a (hZ2.out.below hk1.out).hb.bH ⟨cell_on hk1.out n0.out, cell_on hk1.out n1.out, cell_on hk1.out n2.out, cell_on hk1.out n3'.out, cell_on hk1.out n4.out, cell_on hk1.out n5'.out⟩) (fun hHeld => ?_)
        clear hK K
        refine rd1 4 (fun K hK => ?_)
        go_simp
        refine (l2Node_any (hZ2.out.below hk1.out).hb.hp.at0).mono ?_
        rintro e u6 ⟨rfl, hb6⟩
        rw [hidx.out]
        have hk2 : Hid (Below (World.heap w2).size w2 u6) := hk1.out.trans (Below.mono hb6 (Below.size hk1.out))
        have bX2 : Hid (Box u6 EE cZn 73) := Box.below bX1.out hb6 (Box.lt bX1.out)
        have lu6 := hb6.size
        clear hb6
        refine hK.out _ _ (fv5a (hZ2.out.below hk2.out).hb.bH ⟨cell_on hk2.out n0.out, cell_on hk2.out n1.out, cell_on hk2.out n2.out, cell_on hk2.out n3'.out, cell_on hk2.out n4.out, cell_on hk2.out n5'.out⟩) (fun hHeld => ?_)
        clear hK K
        refine tk 5 ?_
        refine tk 6 ?_
        refine rd1 8 (fun K hK => ?_)
        have bE9 := bX2.out
        rw [← hEEh.out] at bE9
        have u0_ := bE9.cell 0 rfl
        have u1_ := bE9.cell 1 rfl
        have u2_ := bE9.cell 2 rfl
        have u3_ := bE9.cell 3 rfl
        have u4_ := bE9.cell 4 rfl
        have u5_ := bE9.cell 5 rfl
        have uf_ := bE9.unfrozen
        go_simp
        have hkF : Hid (Below (World.heap w2).size w2 (putCells u6 w2.heap.size 0 (cNd X n3 m3 n5 m5))) := putCells_below (cNd X n3 m3 n5 m5) _ _ _ _ _ (by have h_ := hEEh.out; omega) hk2.out
        refine hK.out _ _ (fv5a (hZ2.out.below hkF.out).hb.bH ⟨cell_on hkF.out n0.out, cell_on hkF.out n1.out, cell_on hkF.out n2.out, cell_on hkF.out n3'.out, cell_on hkF.out n4.out, cell_on hkF.out n5'.out⟩) (fun hHeld => ?_)
        clear hK K
        refine wpAnyH_done (by kernel_rfl) ?_ _
        have eEE := hEEh.out
        have bXF : Hid (Box (putCells u6 w2.heap.size 0 (cNd X n3 m3 n5 m5)) EE (cNd X n3 m3 n5 m5) 73) := by rw [eEE]; exact ((((((bX2.out.set (i := 0) _).set (i := 1) _).set (i := 2) _).set (i := 3) _).set (i := 4) _).set (i := 5) _)
        go_wp2_with fail
        go_meet
        exact ⟨EE, by rw [eEE], lE, hkF, bXF⟩
     case rest =>
      obtain ⟨gx, rfl, hgx, hbx, bX5⟩ := hcut
      generalize wc = w5 at hbx bX5 ⊢
      have hZ5 : Hid _ := hZ2.out.below (hbx.out)
      have o0 := hZ5.out.bq.cell 0 rfl
      have hp5 := bX5.out.cell 2 rfl
      by_cases hz : X.vParent = 0
      · have htd : Hid (treeOp x o nd ot = (x, 3)) := by show _ = _; unfold treeOp; simp [hkh.out, hn0h.out, hot0h.out, hpar.out, hz]
        have hZf : Hid _ := hZ5.out.hb
        obtain ⟨d0, d1, d2, d3, d4⟩ := fv5 hZf.out.bH
        obtain ⟨z0, z1, z2, z3, z4⟩ := fv5 hZf.out.bR
        have uz := hZf.out.bR.unfrozen
        go_wp2_with fail
        have bF : Box (putCells w5 (w.heap.size + 1 + 1) 0 (cHp x (some ⟨gN, 0, none⟩) kN aO kO aG kG)) (w.heap.size + 1 + 1) (cHp x (some ⟨gN, 0, none⟩) kN aO kO aG kG) 28 := Box.puts5 hZf.out.bR
        obtain ⟨g0, g1, g2, g3, g4⟩ := fv5 bF
        exact bodyPost_ret (v := .tuple #[.agg (List.toArray (cHp x (some ⟨gN, 0, none⟩) kN aO kO aG kG)), .int .i64 3]) (by simp only [putCells] at g0 g1 g2 g3 g4; simp [results, Tryz.results124, go_sem, g0, g1, g2, g3, g4]) rfl ⟨(cHp x (some ⟨gN, 0, none⟩) kN aO kO aG kG), by rw [htd.out], by rw [htd.out]; exact hZf.out.ret (cHp x (some ⟨gN, 0, none⟩) kN aO kO aG kG)⟩
      have hzh : Hid (¬ X.vParent = 0) := hz
      have hp1 : Hid (0 ≤ idxN x X.vParent) := by rcases hR.out.par X hXm.out with q | q; exact absurd q hz; exact q
      by_cases hd : ot = x.vDoc
      · have htd : Hid (treeOp x o nd ot = (x, 6)) := by show _ = _; unfold treeOp; rw [if_neg (by rw [hkh.out]; have := hn0h.out; have := hot0h.out; omega), if_neg (by rw [hkh.out]; decide), if_neg (by rw [hkh.out]; decide), if_neg (by rw [hkh.out]; decide), if_pos hkh.out, hpar.out, if_neg hzh.out, if_pos (Or.inl hd)]
        have hdd : Hid (ot = x.vDoc) := hd
        skip
        have hZf : Hid _ := hZ5.out.hb
        obtain ⟨d0, d1, d2, d3, d4⟩ := fv5 hZf.out.bH
        obtain ⟨z0, z1, z2, z3, z4⟩ := fv5 hZf.out.bR
        have uz := hZf.out.bR.unfrozen
        go_wp2_with fail
        have bF : Box (putCells w5 (w.heap.size + 1 + 1) 0 (cHp x (some ⟨gN, 0, none⟩) kN aO kO aG kG)) (w.heap.size + 1 + 1) (cHp x (some ⟨gN, 0, none⟩) kN aO kO aG kG) 28 := Box.puts5 hZf.out.bR
        obtain ⟨g0, g1, g2, g3, g4⟩ := fv5 bF
        exact bodyPost_ret (v := .tuple #[.agg (List.toArray (cHp x (some ⟨gN, 0, none⟩) kN aO kO aG kG)), .int .i64 6]) (by simp only [putCells] at g0 g1 g2 g3 g4; simp [results, Tryz.results124, go_sem, g0, g1, g2, g3, g4]) rfl ⟨(cHp x (some ⟨gN, 0, none⟩) kN aO kO aG kG), by rw [htd.out], by rw [htd.out]; exact hZf.out.ret (cHp x (some ⟨gN, 0, none⟩) kN aO kO aG kG)⟩
      · have hdh : Hid (¬ ot = x.vDoc) := hd
        obtain ⟨d0, d1, d2, d3, d4⟩ := fv5 hZ5.out.hb.bH
        go_wp2_with fail
        refine (l3Contains_any hZ5.out.hb.hp.at0 hsh.out (there_of hp1.out)).mono ?_
        rintro e w6 ⟨rfl, hb6⟩
        have hZ6 : Hid _ := hZ5.out.below hb6
        have bX6 : Hid (Box w6 gx (cNd X n3 m3 n5 m5) 73) := bX5.out.below hb6 bX5.out.lt
        obtain ⟨hb, hbe⟩ : ∃ b, hasB (upL x x.vNodes.length X.vParent) ot = b := ⟨_, rfl⟩
        have hbh : Hid (hasB (upL x x.vNodes.length X.vParent) ot = hb) := hbe
        rw [hbe]
        clear hbe hb6 d0 d1 d2 d3 d4
        cases hb
        · skip
          have hp6 := bX6.out.cell 2 rfl
          by_cases hq : ot = nd
          · have htd : Hid (treeOp x o nd ot = (x, 0)) := by show _ = _; have e1 := hdh.out; have e2 := hbh.out; unfold treeOp; rw [if_neg (by rw [hkh.out]; have := hn0h.out; have := hot0h.out; omega), if_neg (by rw [hkh.out]; decide), if_neg (by rw [hkh.out]; decide), if_neg (by rw [hkh.out]; decide), if_pos hkh.out, hpar.out, if_neg hzh.out, if_neg (by rw [e2]; simp [e1]), if_pos hq]
            have hZf : Hid _ := hZ6.out.hb
            obtain ⟨d0, d1, d2, d3, d4⟩ := fv5 hZf.out.bH
            obtain ⟨z0, z1, z2, z3, z4⟩ := fv5 hZf.out.bR
            have uz := hZf.out.bR.unfrozen
            go_wp2_with fail
            have bF : Box (putCells w6 (w.heap.size + 1 + 1) 0 (cHp x (some ⟨gN, 0, none⟩) kN aO kO aG kG)) (w.heap.size + 1 + 1) (cHp x (some ⟨gN, 0, none⟩) kN aO kO aG kG) 28 := Box.puts5 hZf.out.bR
            obtain ⟨g0, g1, g2, g3, g4⟩ := fv5 bF
            exact bodyPost_ret (v := .tuple #[.agg (List.toArray (cHp x (some ⟨gN, 0, none⟩) kN aO kO aG kG)), .int .i64 0]) (by simp only [putCells] at g0 g1 g2 g3 g4; simp [results, Tryz.results124, go_sem, g0, g1, g2, g3, g4]) rfl ⟨(cHp x (some ⟨gN, 0, none⟩) kN aO kO aG kG), by rw [htd.out], by rw [htd.out]; exact hZf.out.ret (cHp x (some ⟨gN, 0, none⟩) kN aO kO aG kG)⟩
          · have htd0 : Hid (treeOp x o nd ot = (insertD x X.vParent ot nd, 0)) := by show _ = _; have e1 := hdh.out; have e2 := hbh.out; unfold treeOp; rw [if_neg (by rw [hkh.out]; have := hn0h.out; have := hot0h.out; omega), if_neg (by rw [hkh.out]; decide), if_neg (by rw [hkh.out]; decide), if_neg (by rw [hkh.out]; decide), if_pos hkh.out, hpar.out, if_neg hzh.out, if_neg (by rw [e2]; simp [e1]), if_neg hq]
            obtain ⟨d0, d1, d2, d3, d4⟩ := fv5 hZ6.out.hb.bH
            go_wp2_with fail
            refine (l4Insert_any hZ6.out.hb.hp (HeapP.inI hZ6.out.hb.hp hot1.out) (HeapP.inI hZ6.out.hb.hp hp1.out) hot1.out hp1.out (fun z q => Nat.le_trans (hR.out.kids z q).1 (by omega))).mono ?_
            rintro e w7 ⟨cs6, rfl, hr6⟩
            obtain ⟨y, hy⟩ : ∃ y, insertD x X.vParent ot nd = y := ⟨_, rfl⟩
            rw [hy] at hr6
            have htd : Hid (treeOp x o nd ot = (y, 0)) := by show _ = _; rw [htd0.out, hy]
            obtain ⟨aN6, kN6, aO6, kO6, aG6, kG6, rfl⟩ := hr6.form
            obtain ⟨bR6, hR6⟩ := hZ6.out.hb.over hr6
            have bR6h : Hid (Box w7 (w.heap.size + 1 + 1) cZp 28) := bR6
            have hR6h : Hid _ := hR6
            clear hr6 bR6 hR6 hy d0 d1 d2 d3 d4
            obtain ⟨z0, z1, z2, z3, z4⟩ := fv5 bR6h.out
            have uz := bR6h.out.unfrozen
            go_wp2_with fail
            have bF : Box (putCells w7 (w.heap.size + 1 + 1) 0 (cHp y aN6 kN6 aO6 kO6 aG6 kG6)) (w.heap.size + 1 + 1) (cHp y aN6 kN6 aO6 kO6 aG6 kG6) 28 := Box.puts5 bR6h.out
            obtain ⟨g0, g1, g2, g3, g4⟩ := fv5 bF
            exact bodyPost_ret (v := .tuple #[.agg (List.toArray (cHp y aN6 kN6 aO6 kO6 aG6 kG6)), .int .i64 0]) (by simp only [putCells] at g0 g1 g2 g3 g4; simp [results, Tryz.results124, go_sem, g0, g1, g2, g3, g4]) rfl ⟨(cHp y aN6 kN6 aO6 kO6 aG6 kG6), by rw [htd.out], by rw [htd.out]; exact hR6h.out⟩
        · have htd : Hid (treeOp x o nd ot = (x, 6)) := by show _ = _; unfold treeOp; rw [if_neg (by rw [hkh.out]; have := hn0h.out; have := hot0h.out; omega), if_neg (by rw [hkh.out]; decide), if_neg (by rw [hkh.out]; decide), if_neg (by rw [hkh.out]; decide), if_pos hkh.out, hpar.out, if_neg hzh.out, if_pos (Or.inr hbh.out)]
          have hZf : Hid _ := hZ6.out.hb
          obtain ⟨d0, d1, d2, d3, d4⟩ := fv5 hZf.out.bH
          obtain ⟨z0, z1, z2, z3, z4⟩ := fv5 hZf.out.bR
          have uz := hZf.out.bR.unfrozen
          go_wp2_with fail
          have bF : Box (putCells w6 (w.heap.size + 1 + 1) 0 (cHp x (some ⟨gN, 0, none⟩) kN aO kO aG kG)) (w.heap.size + 1 + 1) (cHp x (some ⟨gN, 0, none⟩) kN aO kO aG kG) 28 := Box.puts5 hZf.out.bR
          obtain ⟨g0, g1, g2, g3, g4⟩ := fv5 bF
          exact bodyPost_ret (v := .tuple #[.agg (List.toArray (cHp x (some ⟨gN, 0, none⟩) kN aO kO aG kG)), .int .i64 6]) (by simp only [putCells] at g0 g1 g2 g3 g4; simp [results, Tryz.results124, go_sem, g0, g1, g2, g3, g4]) rfl ⟨(cHp x (some ⟨gN, 0, none⟩) kN aO kO aG kG), by rw [htd.out], by rw [htd.out]; exact hZf.out.ret (cHp x (some ⟨gN, 0, none⟩) kN aO kO aG kG)⟩
end K8
end Go.Proofs.YtdnembnlomnceaaGreat
namespace Go.Proofs.YtdnembnlomnceaaGreat
open Go.RowKit Go.Deep
namespace A7
theorem HeapP.docI {w : World} {cs : List Value} {x : HeapD} {fs : List Nat} (h : HeapP w cs x fs) : InI x.vDoc := by
 obtain ⟨vN, vO, vG, bN, bO, cN, cO, fG, e, hN, _, _, _, i2, _⟩ := h
 exact i2
theorem gO_mem {w : World} {k0 k1 vN vG : Value} {g nl cap : Nat} {x : HeapD} {fs : List Nat} (h : HeapP w [k0, k1, vN, .slice (some ⟨g, 0, none⟩) nl cap, vG] x fs) {i : Nat} (hi : i < x.vObjs.length) : g ∈ fs := by
 obtain ⟨_, _, _, _, _, q, _⟩ := HeapP.obj h hi
 exact q
set_option maxRecDepth 100000 in
set_option maxHeartbeats 8000000 in
theorem l4Act7_any {w : World} {cs : List Value} {x : HeapD} {fs : List Nat} {o : OpD} (hp : HeapP w cs x fs) (hf : o.fits) (hst0 : InI o.vStop) (hs : specB x = true) (hk0 : o.vKind = 7 ∨ o.vKind = 8) :
 Calls Tryz.prog 106 #[.agg cs.toArray, .agg o.cells.toArray] w fun e w' => ∃ cs', e = .returned (.tuple #[.agg cs'.toArray, .int .i64 (actD x o).2]) ∧ HR w fs w' cs' (actD x o).1 := by
 obtain ⟨aN, kN, aO, kO, aG, kG, rfl⟩ := hp.form
 have hR : Hid (RightH x) := right_of hs
 have hsh : Hid (specB x = true) := hs
 have hst : Hid (InI o.vStop) := hst0
 unfold OpD.cells
 obtain ⟨k, hk⟩ : ∃ k, o.vKind = k := ⟨_, rfl⟩
 have hZ0 : Hid (HX (cOp k o) 91 w fs w.heap.size (w.heap.size + 1 + 1) (w.heap.size + 1) (((w.alloc (.cells (cHp x aN kN aO kO aG kG).toArray 28)).alloc (.cells (cOp k o).toArray 91)).alloc (.cells cZp.toArray 28)) (cHp x aN kN aO kO aG kG) x fs) := HX.start hp
 rw [hk] at hk0 ⊢
 have hkh : Hid (o.vKind = k) := hk
 have hkc : Hid (k = 7 ∨ k = 8) := hk0
 have hfh : Hid o.fits := hf
 have hgl : Hid (x.vGlobals.length ≤ 1000) := by show _ ≤ _; have := hR.out.nG; omega
 obtain ⟨mi, hmi0⟩ : ∃ mi, fieldR x.vGlobals o.vName = mi := ⟨_, rfl⟩
 obtain ⟨ot, hot⟩ : ∃ ot, fieldR x.vGlobals o.vOther = ot := ⟨_, rfl⟩
 obtain ⟨at_, hat⟩ : ∃ at_, idxO x mi = at_ := ⟨_, rfl⟩
 have hmh : Hid (fieldR x.vGlobals o.vName = mi) := hmi0
 have hoh : Hid (fieldR x.vGlobals o.vOther = ot) := hot
 have hath : Hid (idxO x mi = at_) := hat
 have hmt : Hid (mi = 0 ∨ 0 ≤ idxO x mi) := by show _ ∨ _; rw [← hmi0]; exact glob_there hR.out _
 have hotI : Hid (InI ot) := by show InI ot; rw [← hot]; exact fieldR_in hZ0.out.hb.hp.globs _
 clear hk hk0 hp hf hs hst0 hmi0 hot hat
 go_enter Tryz.func106, Tryz.ntmps106
 go_upto_region 1 with fail
 generalize (((w.alloc (.cells (cHp x aN kN aO kO aG kG).toArray 28)).alloc (.cells (cOp k o).toArray 91)).alloc (.cells cZp.toArray 28)) = w0 at hZ0 ⊢
 have d4 := hZ0.out.hb.bH.cell 4 rfl
 have o1 := hZ0.out.bq.cell 1 rfl
 go_wp2_with fail
 refine (l2Field_any hZ0.out.hb.hp.globs).mono ?_
 rintro e w' ⟨rfl, e9⟩
 have e10 := e9.symm
 clear e9
 subst e10
 rw [hmh.out]
 clear o1
 have o2 := hZ0.out.bq.cell 2 rfl
 go_wp2_with fail
 refine (l2Field_any hZ0.out.hb.hp.globs).mono ?_
 rintro e w' ⟨rfl, e9⟩
 have e10 := e9.symm
 clear e9
 subst e10
 rw [hoh.out]
 clear o2 d4
 obtain ⟨d0, d1, d2, d3, d4⟩ := fv5 hZ0.out.hb.bH
 go_wp2_with fail
 refine (l2Obj_any hZ0.out.hb.hp.at0).mono ?_
 rintro e w3 ⟨rfl, hb3⟩
 rw [hath.out]
 have hZ3 : Hid _ := hZ0.out.below hb3
 clear hb3 hZ0 d0 d1 d2 d3 d4
 obtain ⟨y, hy⟩ : ∃ y, (treeD x o).1 = y := ⟨_, rfl⟩
 have hyh : Hid ((treeD x o).1 = y) := hy
 obtain ⟨c, hc⟩ : ∃ c, (treeD x o).2 = c := ⟨_, rfl⟩
 have hch : Hid ((treeD x o).2 = c) := hc
 clear hy hc
 have hcall : Hid (Calls Tryz.prog 124 #[.agg (List.toArray (cHp x aN kN aO kO aG kG)), .agg (List.toArray (cOp k o))] w3 fun e w' => ∃ cs', e = .returned (.tuple #[.agg cs'.toArray, .int .i64 (treeD x o).2]) ∧ HR w3 fs w' cs' (treeD x o).1) := by
  have q : Calls Tryz.prog 124 #[.agg (List.toArray (cHp x aN kN aO kO aG kG)), .agg o.cells.toArray] w3 fun e w' => ∃ cs', e = .returned (.tuple #[.agg cs'.toArray, .int .i64 (treeD x o).2]) ∧ HR w3 fs w' cs' (treeD x o).1 := by
   rcases hkc.out with h | h
   · exact K7.l4Tree7_any hZ3.out.hb.hp hfh.out hsh.out (by rw [hkh.out]; exact h)
   · exact K8.l4Tree8_any hZ3.out.hb.hp hfh.out hsh.out (by rw [hkh.out]; exact h)
  unfold OpD.cells at q
  rw [hkh.out] at q
  exact q
 rcases hkc.out with rfl | rfl
 all_goals
  by_cases hm0 : mi = 0
  · have htd : Hid (actD x o = (x, 3)) := by show _ = _; unfold actD; rw [hmh.out, hoh.out]; unfold actOp; simp [hkh.out, hm0]
    have o0 := hZ3.out.bq.cell 0 rfl
    have hZf : Hid _ := hZ3.out.hb
    obtain ⟨d0, d1, d2, d3, d4⟩ := fv5 hZf.out.bH
    obtain ⟨z0, z1, z2, z3, z4⟩ := fv5 hZf.out.bR
    have uz := hZf.out.bR.unfrozen
    go_wp2_with fail
    have bF : Box (putCells w3 (w.heap.size + 1 + 1) 0 (cHp x aN kN aO kO aG kG)) (w.heap.size + 1 + 1) (cHp x aN kN aO kO aG kG) 28 := Box.puts5 hZf.out.bR
    obtain ⟨g0, g1, g2, g3, g4⟩ := fv5 bF
    exact bodyPost_ret (v := .tuple #[.agg (List.toArray (cHp x aN kN aO kO aG kG)), .int .i64 3]) (by simp only [putCells] at g0 g1 g2 g3 g4; simp [results, Tryz.results106, go_sem, g0, g1, g2, g3, g4]) rfl ⟨(cHp x aN kN aO kO aG kG), by rw [htd.out], by rw [htd.out]; exact hZf.out.ret (cHp x aN kN aO kO aG kG)⟩
  have hm0h : Hid (¬ mi = 0) := hm0
  have hmi : Hid (0 ≤ idxO x mi) := by rcases hmt.out with q | q; exact absurd q hm0; exact q
  by_cases hot0 : ot = 0
  · have htd : Hid (actD x o = (x, 3)) := by show _ = _; unfold actD; rw [hmh.out, hoh.out]; unfold actOp; simp [hkh.out, hot0]
    have o0 := hZ3.out.bq.cell 0 rfl
    have hZf : Hid _ := hZ3.out.hb
    obtain ⟨d0, d1, d2, d3, d4⟩ := fv5 hZf.out.bH
    obtain ⟨z0, z1, z2, z3, z4⟩ := fv5 hZf.out.bR
    have uz := hZf.out.bR.unfrozen
    go_wp2_with fail
    have bF : Box (putCells w3 (w.heap.size + 1 + 1) 0 (cHp x aN kN aO kO aG kG)) (w.heap.size + 1 + 1) (cHp x aN kN aO kO aG kG) 28 := Box.puts5 hZf.out.bR
    obtain ⟨g0, g1, g2, g3, g4⟩ := fv5 bF
    exact bodyPost_ret (v := .tuple #[.agg (List.toArray (cHp x aN kN aO kO aG kG)), .int .i64 3]) (by simp only [putCells] at g0 g1 g2 g3 g4; simp [results, Tryz.results106, go_sem, g0, g1, g2, g3, g4]) rfl ⟨(cHp x aN kN aO kO aG kG), by rw [htd.out], by rw [htd.out]; exact hZf.out.ret (cHp x aN kN aO kO aG kG)⟩
  have hot0h : Hid (¬ ot = 0) := hot0
  obtain ⟨d0, d1, d2, d3, d4⟩ := fv5 hZ3.out.hb.bH
  have o0 := hZ3.out.bq.cell 0 rfl
  have o1 := hZ3.out.bq.cell 1 rfl
  have o2 := hZ3.out.bq.cell 2 rfl
  have o3 := hZ3.out.bq.cell 3 rfl
  have o4 := hZ3.out.bq.cell 4 rfl
  have o5 := hZ3.out.bq.cell 5 rfl
  have o6 := hZ3.out.bq.cell 6 rfl
  have o7 := hZ3.out.bq.cell 7 rfl
  have o8 := hZ3.out.bq.cell 8 rfl
  go_wp2_with fail
  refine (hcall.out).mono ?_
  rintro e w6 ⟨cs6, rfl, hr6⟩
  have htd : Hid (actD x o = (y, c)) := by show _ = _; unfold actD; rw [hmh.out, hoh.out]; unfold actOp; rw [if_neg (by rw [hkh.out]; decide), if_neg (by rw [hkh.out]; have h1 := hm0h.out; have h2 := hot0h.out; omega), if_neg (by rw [hkh.out]; decide), if_neg (by rw [hkh.out]; decide), if_neg (by rw [hkh.out]; decide), ← hyh.out, ← hch.out]
  rw [hyh.out] at hr6
  rw [hch.out]
  obtain ⟨aN6, kN6, aO6, kO6, aG6, kG6, rfl⟩ := hr6.form
  obtain ⟨bR6, hR6⟩ := hZ3.out.hb.over hr6
  have bR6h : Hid (Box w6 (w.heap.size + 1 + 1) cZp 28) := bR6
  have hR6h : Hid _ := hR6
  clear hr6 bR6 hR6 d0 d1 d2 d3 d4 o0 o1 o2 o3 o4 o5 o6 o7 o8
  obtain ⟨z0, z1, z2, z3, z4⟩ := fv5 bR6h.out
  have uz := bR6h.out.unfrozen
  go_wp2_with fail
  have bF : Box (putCells w6 (w.heap.size + 1 + 1) 0 (cHp y aN6 kN6 aO6 kO6 aG6 kG6)) (w.heap.size + 1 + 1) (cHp y aN6 kN6 aO6 kO6 aG6 kG6) 28 := Box.puts5 bR6h.out
  obtain ⟨g0, g1, g2, g3, g4⟩ := fv5 bF
  exact bodyPost_ret (v := .tuple #[.agg (List.toArray (cHp y aN6 kN6 aO6 kO6 aG6 kG6)), .int .i64 c]) (by simp only [putCells] at g0 g1 g2 g3 g4; simp [results, Tryz.results106, go_sem, g0, g1, g2, g3, g4]) rfl ⟨(cHp y aN6 kN6 aO6 kO6 aG6 kG6), by rw [htd.out], by rw [htd.out]; exact hR6h.out⟩
end A7
end Go.Proofs.YtdnembnlomnceaaGreat
