/- The program's HeapOk, walked. -/
import Derived.Test.YtnonfehmbabfhaaGreatImplIdx
import Derived.Test.YtnonfehmbabfhaaGreatImplTwo
namespace Go.Proofs.YtnonfehmbabfhaaGreat
open Go.RowKit
def nodesI (h : HeapD) : List NodeD → Bool
  | [] => true
  | x :: xs => nodeI h x && nodesI h xs
def objsI (h : HeapD) : List ObjD → Bool
  | [] => true
  | x :: xs => objI h x && objsI h xs
/-- a right heap, as the program asks it -/
def implB (h : HeapD) : Bool := idxB h && nodesI h h.vNodes && objsI h h.vObjs && fieldsI h h.vGlobals 8 && rootB h h.vDoc
theorem nodesI_step {h : HeapD} {xs : List NodeD} {j : Nat} (hj : j < xs.length) : nodesI h (xs.drop j) = (nodeI h xs[j] && nodesI h (xs.drop (j + 1))) := by
  rw [drop_cons xs j hj]; rfl
theorem nodesI_end {h : HeapD} {xs : List NodeD} {j : Nat} (hj : ¬ j < xs.length) : nodesI h (xs.drop j) = true := by
  rw [List.drop_of_length_le (by omega)]; rfl
theorem objsI_step {h : HeapD} {xs : List ObjD} {j : Nat} (hj : j < xs.length) : objsI h (xs.drop j) = (objI h xs[j] && objsI h (xs.drop (j + 1))) := by
  rw [drop_cons xs j hj]; rfl
theorem objsI_end {h : HeapD} {xs : List ObjD} {j : Nat} (hj : ¬ j < xs.length) : objsI h (xs.drop j) = true := by
  rw [List.drop_of_length_le (by omega)]; rfl
set_option maxRecDepth 100000 in
set_option maxHeartbeats 3200000 in
theorem rightIndex_any {w0 w : World} {lo : Nat} {cs : List Value} {h : HeapD} (hh : HeapAt w0 lo cs h) (h00 : Below w0.heap.size w0 w) :
    Calls Tryz.prog 92 #[.agg cs.toArray] w fun e w' => ((implB h = false ∧ e = .returned (.tuple #[.agg #[.map none, .map none], .bool false])) ∨ (implB h = true ∧ ∃ bn bo, e = .returned (.tuple #[.agg #[.map (some bn), .map (some bo)], .bool true]) ∧ IdxIn w0 w' lo bn bo h)) ∧ Below w.heap.size w w' := by
  have hh' : Hid (HeapAt w0 lo cs h) := hh
  obtain ⟨k2, k3, k4, rfl, s2, s3, s4, rNext, rDoc, _⟩ := hh
  have s4' : Hid (SeqAt 2 FieldAt w0 lo k4 h.vGlobals) := s4
  obtain ⟨a4, cap4, rfl⟩ := s4.form
  obtain ⟨a2, cap2, rfl, hm2, hx2⟩ := s2
  obtain ⟨a3, cap3, rfl, hm3, hx3⟩ := s3
  unfold maxLen at hm2 hm3
  have hx2' : Hid _ := hx2
  have hx3' : Hid _ := hx3
  have hlen : Hid (h.vNodes.length ≤ 9223372036854775807) := by show _ ≤ _; omega
  clear hx2 hx3 s4 rNext rDoc
  have hb1 : Below w.heap.size w ((w.alloc (.cells #[.int .i64 h.vNext, .int .i64 h.vDoc, .slice a2 h.vNodes.length cap2, .slice a3 h.vObjs.length cap3, .slice a4 h.vGlobals.length cap4] 32)).alloc (.cells #[.map none, .map none] 133)) := ((Below.refl _ _).alloc (Nat.le_refl _) _).alloc (by simp) _
  have bH0 : Hid (Box ((w.alloc (.cells #[.int .i64 h.vNext, .int .i64 h.vDoc, .slice a2 h.vNodes.length cap2, .slice a3 h.vObjs.length cap3, .slice a4 h.vGlobals.length cap4] 32)).alloc (.cells #[.map none, .map none] 133)) w.heap.size [.int .i64 h.vNext, .int .i64 h.vDoc, .slice a2 h.vNodes.length cap2, .slice a3 h.vObjs.length cap3, .slice a4 h.vGlobals.length cap4] 32) := (Box.new w [.int .i64 h.vNext, .int .i64 h.vDoc, .slice a2 h.vNodes.length cap2, .slice a3 h.vObjs.length cap3, .slice a4 h.vGlobals.length cap4] 32).alloc _
  have bR0 : Hid (Box ((w.alloc (.cells #[.int .i64 h.vNext, .int .i64 h.vDoc, .slice a2 h.vNodes.length cap2, .slice a3 h.vObjs.length cap3, .slice a4 h.vGlobals.length cap4] 32)).alloc (.cells #[.map none, .map none] 133)) (w.heap.size + 1) [.map none, .map none] 133) := by have hb := Box.new (w.alloc (.cells #[.int .i64 h.vNext, .int .i64 h.vDoc, .slice a2 h.vNodes.length cap2, .slice a3 h.vObjs.length cap3, .slice a4 h.vGlobals.length cap4] 32)) [.map none, .map none] 133; rwa [show ((w.alloc (.cells #[.int .i64 h.vNext, .int .i64 h.vDoc, .slice a2 h.vNodes.length cap2, .slice a3 h.vObjs.length cap3, .slice a4 h.vGlobals.length cap4] 32))).heap.size = w.heap.size + 1 by simp] at hb
  go_enter Tryz.func92, Tryz.ntmps92
  go_wp2_with fail
  refine (indexOf_any hh'.out (h00.trans (hb1.mono h00.size))).mono ?_
  rintro e w1 ⟨hres, hbi⟩
  have hbw1 : Below w.heap.size w w1 := hb1.trans (hbi.mono hb1.size)
  have hsz1 : w.heap.size + 2 ≤ w1.heap.size := by have := hbi.size; simpa using this
  rcases hres with ⟨hidx, rfl⟩ | ⟨hidx, bn, bo, rfl, hix0⟩
  · have HF : Hid (implB h = false) := by show _ = _; simp [implB, hidx]
    have bR3 := (bR0.out.below hbi (by simp)).alloc (.cells #[.map none, .map none] 133)
    have r0 := bR3.cell 0 rfl
    have r1 := bR3.cell 1 rfl
    have rf := bR3.unfrozen
    have bR3' : Hid (Box (w1.alloc (.cells #[.map none, .map none] 133)) (w.heap.size + 1) [.map none, .map none] 133) := bR3
    clear hidx bR3
    go_wp2_with fail
    have e0 := (Box.set (i := 0) bR3'.out (.map none)).cell 0 rfl
    have e1 := (Box.set (i := 1) (Box.set (i := 0) bR3'.out (.map none)) (.map none)).cell 1 rfl
    refine bodyPost_ret (v := .tuple #[.agg #[.map none, .map none], .bool false]) (by simp [results, Tryz.results92, go_sem, e0, e1]) rfl ?_
    exact ⟨Or.inl ⟨HF.out, rfl⟩, ((hbw1.alloc hbw1.size _).setCell (by simp) _).setCell (by simp) _⟩
  have hix : Hid (IdxIn w0 w1 lo bn bo h) := hix0
  have HI : Hid (implB h = (nodesI h h.vNodes && objsI h h.vObjs && fieldsI h h.vGlobals 8 && rootB h h.vDoc)) := by show _ = _; simp [implB, hidx]
  clear hidx hix0
  have hbW1 : Below w1.heap.size w1 (w1.alloc (.cells #[.map (some bn), .map (some bo)] 133)) := (Below.refl _ _).alloc (Nat.le_refl _) _
  have hbW : Below w.heap.size w (w1.alloc (.cells #[.map (some bn), .map (some bo)] 133)) := hbw1.trans (hbW1.mono hbw1.size)
  have bH : Hid (Box (w1.alloc (.cells #[.map (some bn), .map (some bo)] 133)) w.heap.size [.int .i64 h.vNext, .int .i64 h.vDoc, .slice a2 h.vNodes.length cap2, .slice a3 h.vObjs.length cap3, .slice a4 h.vGlobals.length cap4] 32) := (bH0.out.below hbi (by simp; omega)).below hbW1 (by omega)
  have bR : Hid (Box (w1.alloc (.cells #[.map (some bn), .map (some bo)] 133)) (w.heap.size + 1) [.map none, .map none] 133) := (bR0.out.below hbi (by simp)).below hbW1 (by omega)
  have bX : Hid (Box (w1.alloc (.cells #[.map (some bn), .map (some bo)] 133)) w1.heap.size [.map (some bn), .map (some bo)] 133) := Box.new w1 _ _
  have hc2 := bH.out.cell 2 rfl
  go_wp2_with fail
  clear hc2
  go_loopw [21] (fun i wr => ∃ (j : Nat), j ≤ h.vNodes.length ∧ i = .int .i64 j ∧ Hid (Below (w1.heap.size + 1) (w1.alloc (.cells #[.map (some bn), .map (some bo)] 133)) wr) ∧ Hid (nodesI h h.vNodes = nodesI h (h.vNodes.drop j))) (fun i _ => h.vNodes.length - (intOf i).toNat)
  case atStart => exact ⟨0, by omega, rfl, Below.refl _ _, rfl⟩
  case round =>
    obtain ⟨j, hj, rfl, hbr, hrem⟩ := hrel
    have hbw : Below w.heap.size w wr := hbW.trans (hbr.out.mono (by omega))
    have hbx : Below w1.heap.size w1 wr := hbW1.trans (hbr.out.mono (by omega))
    have bH1 := bH.out.below hbr.out (by omega)
    have bR1 := bR.out.below hbr.out (by omega)
    have bX1 := bX.out.below hbr.out (by omega)
    by_cases hlt : j < h.vNodes.length
    · obtain ⟨b, off, rfl, hlo, hbw2, hc⟩ := hx2'.out (by omega)
      obtain ⟨cs, hcl, lie, hr⟩ := hc j hlt
      have lie1 := Lie.keep (lo := lo) (lo' := lo) lie (.of_below (h00.trans (hbw.mono h00.size))) hlo hbw2
      have hstep : Hid _ := nodesI_step (h := h) hlt
      generalize hQ0 : h.vNodes[j] = Q at hr hstep
      have hr3 : Hid (NodeAt w0 lo cs Q) := hr
      obtain ⟨g3, g5, rfl, v3, v5, _⟩ := hr
      obtain ⟨p3, d3, rfl⟩ := v3.form
      obtain ⟨p5, d5, rfl⟩ := v5.form
      clear v3 v5
      have z0 := lie_at lie1 0 rfl
      have z1 := lie_at lie1 1 rfl
      have z2 := lie_at lie1 2 rfl
      have z3 := lie_at lie1 3 rfl
      have z4 := lie_at lie1 4 rfl
      have z5 := lie_at lie1 5 rfl
      simp only [Nat.add_zero] at z0
      have hbk : Below wr.heap.size wr (wr.alloc (.cells #[.int .i64 Q.vId, .string Q.vTag, .int .i64 Q.vParent, (.slice p3 Q.vKids.length d3), .int .i64 Q.vWrapper, (.slice p5 Q.vListeners.length d5)] 91)) := (Below.refl _ _).alloc (Nat.le_refl _) _
      have hbwk : Below w.heap.size w (wr.alloc (.cells #[.int .i64 Q.vId, .string Q.vTag, .int .i64 Q.vParent, (.slice p3 Q.vKids.length d3), .int .i64 Q.vWrapper, (.slice p5 Q.vListeners.length d5)] 91)) := hbw.alloc hbw.size _
      have hbxk : Below w1.heap.size w1 (wr.alloc (.cells #[.int .i64 Q.vId, .string Q.vTag, .int .i64 Q.vParent, (.slice p3 Q.vKids.length d3), .int .i64 Q.vWrapper, (.slice p5 Q.vListeners.length d5)] 91)) := hbx.alloc hbx.size _
      have x0 := cell_on hbk (bX1.cell 0 rfl)
      have x1 := cell_on hbk (bX1.cell 1 rfl)
      have bR2 : Hid (Box (wr.alloc (.cells #[.int .i64 Q.vId, .string Q.vTag, .int .i64 Q.vParent, (.slice p3 Q.vKids.length d3), .int .i64 Q.vWrapper, (.slice p5 Q.vListeners.length d5)] 91)) (w.heap.size + 1) [.map none, .map none] 133) := bR1.alloc _
      clear lie lie1 hcl hc hQ0 bH1 bR1 bX1
      go_wp2_with fail
      refine (nodeOk_any hlen.out ((hix.out.on hbxk).here (h00.trans (hbwk.mono h00.size))) (NodeAt_stays _ _ _ lo _ _ (.of_below (h00.trans (hbwk.mono h00.size))) hr3.out)).mono ?_
      rintro e w2 ⟨rfl, hb2⟩
      have hbw2 : Below w.heap.size w w2 := hbwk.trans (hb2.mono hbwk.size)
      cases hq : nodeI h Q
      · have HF : Hid (implB h = false) := by show _ = _; rw [HI.out, hrem.out, hstep.out, hq]; simp
        have bR3 : Box w2 (w.heap.size + 1) [.map none, .map none] 133 := bR2.out.below hb2 bR2.out.lt
        have r0 := bR3.cell 0 rfl
        have r1 := bR3.cell 1 rfl
        have rf := bR3.unfrozen
        have bR3' : Hid (Box w2 (w.heap.size + 1) [.map none, .map none] 133) := bR3
        clear hq bR3
        go_wp2_with fail
        have e0 := (Box.set (i := 0) bR3'.out (.map none)).cell 0 rfl
        have e1 := (Box.set (i := 1) (Box.set (i := 0) bR3'.out (.map none)) (.map none)).cell 1 rfl
        refine bodyPost_ret (v := .tuple #[.agg #[.map none, .map none], .bool false]) (by simp [results, Tryz.results92, go_sem, e0, e1]) rfl ?_
        exact ⟨Or.inl ⟨HF.out, rfl⟩, (hbw2.setCell (by simp) _).setCell (by simp) _⟩
      · have HO : Hid (nodesI h h.vNodes = nodesI h (h.vNodes.drop (j + 1))) := by show _ = _; rw [hrem.out, hstep.out, hq]; rfl
        have hbo : Below (w1.heap.size + 1) (w1.alloc (.cells #[.map (some bn), .map (some bo)] 133)) w2 := (hbr.out.alloc (by have := hbr.out.size; simp at this; omega) _).trans (hb2.mono (by have := hbr.out.size; simp at this ⊢; omega))
        clear hq
        go_wp2_with fail
        go_roundw
        case rel => exact ⟨j + 1, by omega, by go_num, hbo, HO⟩
        case measure => simp [intOf]; omega
    have HI2 : Hid (implB h = (objsI h h.vObjs && fieldsI h h.vGlobals 8 && rootB h h.vDoc)) := by show _ = _; rw [HI.out, hrem.out, nodesI_end hlt]; rfl
    have hc3 := bH1.cell 3 rfl
    have hbr0 := hbr
    clear hrem HI bH1 bR1 bX1 hbw hbx hbr hx2'
    have HI := HI2
    clear HI2
    go_wp2_with fail
    clear hc3
    go_loopw [34] (fun i wr => ∃ (j : Nat), j ≤ h.vObjs.length ∧ i = .int .i64 j ∧ Hid (Below (w1.heap.size + 1) (w1.alloc (.cells #[.map (some bn), .map (some bo)] 133)) wr) ∧ Hid (objsI h h.vObjs = objsI h (h.vObjs.drop j))) (fun i _ => h.vObjs.length - (intOf i).toNat)
    case atStart => exact ⟨0, by omega, rfl, hbr0, rfl⟩
    case round =>
      obtain ⟨j, hj, rfl, hbr, hrem⟩ := hrel
      have hbw : Below w.heap.size w wr := hbW.trans (hbr.out.mono (by omega))
      have hbx : Below w1.heap.size w1 wr := hbW1.trans (hbr.out.mono (by omega))
      have bH1 := bH.out.below hbr.out (by omega)
      have bR1 := bR.out.below hbr.out (by omega)
      have bX1 := bX.out.below hbr.out (by omega)
      by_cases hlt : j < h.vObjs.length
      · obtain ⟨b, off, rfl, hlo, hbw2, hc⟩ := hx3'.out (by omega)
        obtain ⟨cs, hcl, lie, hr⟩ := hc j hlt
        have lie1 := Lie.keep (lo := lo) (lo' := lo) lie (.of_below (h00.trans (hbw.mono h00.size))) hlo hbw2
        have hstep : Hid _ := objsI_step (h := h) hlt
        generalize hQ0 : h.vObjs[j] = Q at hr hstep
        have hr3 : Hid (ObjAt w0 lo cs Q) := hr
        obtain ⟨g2, rfl, v2, _⟩ := hr
        obtain ⟨p2, d2, rfl⟩ := v2.form
        clear v2
        have z0 := lie_at lie1 0 rfl
        have z1 := lie_at lie1 1 rfl
        have z2 := lie_at lie1 2 rfl
        simp only [Nat.add_zero] at z0
        have hbk : Below wr.heap.size wr (wr.alloc (.cells #[.int .i64 Q.vId, .int .i64 Q.vNode, (.slice p2 Q.vFields.length d2)] 95)) := (Below.refl _ _).alloc (Nat.le_refl _) _
        have hbwk : Below w.heap.size w (wr.alloc (.cells #[.int .i64 Q.vId, .int .i64 Q.vNode, (.slice p2 Q.vFields.length d2)] 95)) := hbw.alloc hbw.size _
        have hbxk : Below w1.heap.size w1 (wr.alloc (.cells #[.int .i64 Q.vId, .int .i64 Q.vNode, (.slice p2 Q.vFields.length d2)] 95)) := hbx.alloc hbx.size _
        have x0 := cell_on hbk (bX1.cell 0 rfl)
        have x1 := cell_on hbk (bX1.cell 1 rfl)
        have bR2 : Hid (Box (wr.alloc (.cells #[.int .i64 Q.vId, .int .i64 Q.vNode, (.slice p2 Q.vFields.length d2)] 95)) (w.heap.size + 1) [.map none, .map none] 133) := bR1.alloc _
        clear lie lie1 hcl hc hQ0 bH1 bR1 bX1
        go_wp2_with fail
        refine (objOk_any ((hix.out.on hbxk).here (h00.trans (hbwk.mono h00.size))) (ObjAt_stays _ _ _ lo _ _ (.of_below (h00.trans (hbwk.mono h00.size))) hr3.out)).mono ?_
        rintro e w2 ⟨rfl, hb2⟩
        have hbw2 : Below w.heap.size w w2 := hbwk.trans (hb2.mono hbwk.size)
        cases hq : objI h Q
        · have HF : Hid (implB h = false) := by show _ = _; rw [HI.out, hrem.out, hstep.out, hq]; simp
          have bR3 : Box w2 (w.heap.size + 1) [.map none, .map none] 133 := bR2.out.below hb2 bR2.out.lt
          have r0 := bR3.cell 0 rfl
          have r1 := bR3.cell 1 rfl
          have rf := bR3.unfrozen
          have bR3' : Hid (Box w2 (w.heap.size + 1) [.map none, .map none] 133) := bR3
          clear hq bR3
          go_wp2_with fail
          have e0 := (Box.set (i := 0) bR3'.out (.map none)).cell 0 rfl
          have e1 := (Box.set (i := 1) (Box.set (i := 0) bR3'.out (.map none)) (.map none)).cell 1 rfl
          refine bodyPost_ret (v := .tuple #[.agg #[.map none, .map none], .bool false]) (by simp [results, Tryz.results92, go_sem, e0, e1]) rfl ?_
          exact ⟨Or.inl ⟨HF.out, rfl⟩, (hbw2.setCell (by simp) _).setCell (by simp) _⟩
        · have HO : Hid (objsI h h.vObjs = objsI h (h.vObjs.drop (j + 1))) := by show _ = _; rw [hrem.out, hstep.out, hq]; rfl
          have hbo : Below (w1.heap.size + 1) (w1.alloc (.cells #[.map (some bn), .map (some bo)] 133)) w2 := (hbr.out.alloc (by have := hbr.out.size; simp at this; omega) _).trans (hb2.mono (by have := hbr.out.size; simp at this ⊢; omega))
          clear hq
          go_wp2_with fail
          go_roundw
          case rel => exact ⟨j + 1, by omega, by go_num, hbo, HO⟩
          case measure => simp [intOf]; omega
      have HI2 : Hid (implB h = (fieldsI h h.vGlobals 8 && rootB h h.vDoc)) := by show _ = _; rw [HI.out, hrem.out, objsI_end hlt]; rfl
      have hc4 := bH1.cell 4 rfl
      have x0 := bX1.cell 0 rfl
      have x1 := bX1.cell 1 rfl
      clear hrem HI bH1 bR1 bX1 hx3'
      go_wp2_with fail
      refine (fieldsOk_any ((hix.out.on hbx).here (h00.trans (hbw.mono h00.size))) (s4'.out.below FieldAt_stays (h00.trans (hbw.mono h00.size)))).mono ?_
      rintro e v1 ⟨rfl, hq1⟩
      have hbr1 : Hid (Below (w1.heap.size + 1) (w1.alloc (.cells #[.map (some bn), .map (some bo)] 133)) v1) := hbr.out.trans (hq1.mono (by have := hbr.out.size; simpa using this))
      have hbw1' : Below w.heap.size w v1 := hbw.trans (hq1.mono hbw.size)
      have hbx1' : Below w1.heap.size w1 v1 := hbx.trans (hq1.mono hbx.size)
      clear hc4 x0 x1
      have bR3 : Box v1 (w.heap.size + 1) [.map none, .map none] 133 := bR.out.below hbr1.out (by omega)
      have bR3' : Hid (Box v1 (w.heap.size + 1) [.map none, .map none] 133) := bR3
      cases hq : fieldsI h h.vGlobals 8
      · have HF : Hid (implB h = false) := by show _ = _; rw [HI2.out, hq]; rfl
        have r0 := bR3.cell 0 rfl
        have r1 := bR3.cell 1 rfl
        have rf := bR3.unfrozen
        clear hq bR3
        go_wp2_with fail
        have e0 := (Box.set (i := 0) bR3'.out (.map none)).cell 0 rfl
        have e1 := (Box.set (i := 1) (Box.set (i := 0) bR3'.out (.map none)) (.map none)).cell 1 rfl
        refine bodyPost_ret (v := .tuple #[.agg #[.map none, .map none], .bool false]) (by simp [results, Tryz.results92, go_sem, e0, e1]) rfl ?_
        exact ⟨Or.inl ⟨HF.out, rfl⟩, (hbw1'.setCell (by simp) _).setCell (by simp) _⟩
      have HI3 : Hid (implB h = rootB h h.vDoc) := by show _ = _; rw [HI2.out, hq]; rfl
      have hc1 := (bH.out.below hbr1.out (by omega)).cell 1 rfl
      have x0 := (bX.out.below hbr1.out (by omega)).cell 0 rfl
      have x1 := (bX.out.below hbr1.out (by omega)).cell 1 rfl
      clear hq HI2 bR3
      go_wp2_with fail
      refine (rootOk_any ((hix.out.on hbx1').here (h00.trans (hbw1'.mono h00.size)))).mono ?_
      rintro e v2 ⟨rfl, hq2⟩
      have hbr2 : Hid (Below (w1.heap.size + 1) (w1.alloc (.cells #[.map (some bn), .map (some bo)] 133)) v2) := hbr1.out.trans (hq2.mono (by have := hbr1.out.size; simpa using this))
      have hbw2 : Below w.heap.size w v2 := hbw1'.trans (hq2.mono hbw1'.size)
      have hbx2 : Below w1.heap.size w1 v2 := hbx1'.trans (hq2.mono hbx1'.size)
      clear hc1 x0 x1
      have bR4 : Box v2 (w.heap.size + 1) [.map none, .map none] 133 := bR.out.below hbr2.out (by omega)
      have bR4' : Hid (Box v2 (w.heap.size + 1) [.map none, .map none] 133) := bR4
      have r0 := bR4.cell 0 rfl
      have r1 := bR4.cell 1 rfl
      have rf := bR4.unfrozen
      clear bR4
      cases hq : rootB h h.vDoc
      · have HF : Hid (implB h = false) := by show _ = _; rw [HI3.out, hq]
        clear hq
        go_wp2_with fail
        have e0 := (Box.set (i := 0) bR4'.out (.map none)).cell 0 rfl
        have e1 := (Box.set (i := 1) (Box.set (i := 0) bR4'.out (.map none)) (.map none)).cell 1 rfl
        refine bodyPost_ret (v := .tuple #[.agg #[.map none, .map none], .bool false]) (by simp [results, Tryz.results92, go_sem, e0, e1]) rfl ?_
        exact ⟨Or.inl ⟨HF.out, rfl⟩, (hbw2.setCell (by simp) _).setCell (by simp) _⟩
      have HT : Hid (implB h = true) := by show _ = _; rw [HI3.out, hq]
      have x0 := (bX.out.below hbr2.out (by omega)).cell 0 rfl
      have x1 := (bX.out.below hbr2.out (by omega)).cell 1 rfl
      clear hq HI3
      go_wp2_with fail
      have e0 := (Box.set (i := 0) bR4'.out (.map (some bn))).cell 0 rfl
      have e1 := (Box.set (i := 1) (Box.set (i := 0) bR4'.out (.map (some bn))) (.map (some bo))).cell 1 rfl
      refine bodyPost_ret (v := .tuple #[.agg #[.map (some bn), .map (some bo)], .bool true]) (by simp [results, Tryz.results92, go_sem, e0, e1]) rfl ?_
      have hbe : Below w.heap.size w ((v2.setCell ⟨w.heap.size + 1, 0, none⟩ (.map (some bn))).setCell ⟨w.heap.size + 1, 1, none⟩ (.map (some bo))) := (hbw2.setCell (by simp) _).setCell (by simp) _
      exact ⟨Or.inr ⟨HT.out, bn, bo, rfl, ((hix.out.on hbx2).set bR4'.out _).set (bR4'.out.set _) _⟩, hbe⟩
set_option maxRecDepth 100000 in
set_option maxHeartbeats 800000 in
theorem implHeapOk_any {w : World} {lo : Nat} {cs : List Value} {h : HeapD} (hh : HeapAt w lo cs h) :
    Calls Tryz.prog 62 #[.agg cs.toArray] w fun e w' => e = .returned (.bool (implB h)) ∧ Below w.heap.size w w' := by
  have hh' : Hid (HeapAt w lo cs h) := hh
  obtain ⟨k2, k3, k4, rfl, s2, s3, s4, _⟩ := hh
  obtain ⟨a2, cap2, rfl⟩ := s2.form
  obtain ⟨a3, cap3, rfl⟩ := s3.form
  obtain ⟨a4, cap4, rfl⟩ := s4.form
  clear s2 s3 s4
  have hb1 : Below w.heap.size w (w.alloc (.cells #[.int .i64 h.vNext, .int .i64 h.vDoc, .slice a2 h.vNodes.length cap2, .slice a3 h.vObjs.length cap3, .slice a4 h.vGlobals.length cap4] 32)) := (Below.refl _ _).alloc (Nat.le_refl _) _
  go_enter Tryz.func62, Tryz.ntmps62
  go_wp2_with fail
  refine (rightIndex_any hh'.out hb1).mono ?_
  rintro e w1 ⟨hres, hbi⟩
  have hbw1 : Below w.heap.size w w1 := hb1.trans (hbi.mono hb1.size)
  rcases hres with ⟨hidx, rfl⟩ | ⟨hidx, bn, bo, rfl, hix0⟩
  · have HF : Hid _ := hidx
    clear hidx
    go_wp2_with fail
    go_ret
    exact ⟨ret_bool HF.out.symm, hbw1.alloc hbw1.size _⟩
  · have HF : Hid _ := hidx
    clear hidx hix0
    go_wp2_with fail
    go_ret
    exact ⟨ret_bool HF.out.symm, hbw1.alloc hbw1.size _⟩
end Go.Proofs.YtnonfehmbabfhaaGreat
namespace Go.Proofs.YtnonfehmbabfhaaGreat
theorem less_total : ∀ a b : List UInt8, (Op.bytesLess a b || a == b) = !Op.bytesLess b a := by
  intro a
  induction a with
  | nil => intro b; cases b <;> simp [Op.bytesLess]
  | cons x a ih =>
    intro b
    cases b with
    | nil => simp [Op.bytesLess]
    | cons y b =>
      have h := ih b
      have tri : x < y ∨ x = y ∨ y < x := by
        rcases Nat.lt_trichotomy x.toNat y.toNat with e | e | e
        · exact Or.inl (UInt8.lt_iff_toNat_lt.2 e)
        · exact Or.inr (Or.inl (UInt8.toNat_inj.1 e))
        · exact Or.inr (Or.inr (UInt8.lt_iff_toNat_lt.2 e))
      rcases tri with e | e | e
      · have h1 : ¬ y < x := UInt8.lt_asymm e
        have h2 : ¬ x = y := UInt8.ne_of_lt e
        have h3 : ¬ y = x := fun q => h2 q.symm
        simp [Op.bytesLess, e, h1, h3]
      · subst e
        have h1 : ¬ x < x := UInt8.lt_irrefl x
        simp only [Op.bytesLess, h1, decide_false, Bool.false_or, beq_self_eq_true, Bool.true_and]
        rw [← h]
        simp
      · have h1 : ¬ x < y := UInt8.lt_asymm e
        have h2 : ¬ y = x := UInt8.ne_of_lt e
        have h3 : ¬ x = y := fun q => h2 q.symm
        simp [Op.bytesLess, e, h1, h3]
theorem leS_eq (a b : ByteArray) : leS a b = !ltS b a := less_total _ _
theorem toList_data (a : ByteArray) : a.toList = a.data.toList := by
  exact ByteArray.toList_eq a
theorem leS_empty {a : ByteArray} (h : nmB a = true) : leS a ⟨#[]⟩ = false := by
  have h1 : (⟨#[]⟩ : ByteArray).toList = [] := (toList_data _).trans rfl
  unfold leS
  rw [h1, toList_data]
  unfold nmB nameB at h
  cases hl : a.data.toList with
  | nil => rw [hl] at h; cases h
  | cons x xs => rfl
theorem flds_some (h : HeapD) : ∀ (xs : List FieldD) (q : ByteArray), fldsB h (some q) xs = fldsI h q xs := by
  intro xs
  induction xs with
  | nil => intro q; rfl
  | cons x xs ih =>
    intro q
    simp only [fldsB, fldsI, Option.all_some, leS_eq, Bool.not_not, ih]
    generalize nmB x.vName = A
    generalize ltS q x.vName = B
    generalize (objAt h x.vObj).isSome = C
    cases A <;> cases B <;> cases C <;> rfl
theorem flds_none (h : HeapD) (xs : List FieldD) : fldsB h none xs = fldsI h ⟨#[]⟩ xs := by
  cases xs with
  | nil => rfl
  | cons x xs =>
    simp only [fldsB, fldsI, Option.all_none, flds_some]
    cases hn : nmB x.vName
    · simp
    · rw [leS_empty hn]; simp
theorem fields_eq (h : HeapD) (xs : List FieldD) (m : Int) : fieldsB h xs m = fieldsI h xs m := by
  unfold fieldsB fieldsI
  rw [flds_none, Bool.and_comm]
def rsB {α : Type} (f : α → Int) (next : Int) : Int → List α → Bool
  | _, [] => true
  | l, x :: xs => decide (l < f x) && decide (f x < next) && rsB f next (f x) xs
theorem idxN_rs (h : HeapD) : ∀ (xs : List NodeD) (l : Int), idxNB h l xs = rsB NodeD.vId h.vNext l xs := by
  intro xs
  induction xs with
  | nil => intro l; rfl
  | cons x xs ih => intro l; simp only [idxNB, rsB, ih]
theorem idxO_rs (h : HeapD) : ∀ (xs : List ObjD) (l : Int), idxOB h l xs = (rsB ObjD.vId h.vNext l xs && xs.all fun x => (nodeAt h x.vId).isNone) := by
  intro xs
  induction xs with
  | nil => intro l; rfl
  | cons x xs ih =>
    intro l
    simp only [idxOB, rsB, ih, List.all_cons]
    generalize (nodeAt h x.vId).isNone = A
    generalize decide (l < x.vId) = B
    generalize decide (x.vId < h.vNext) = C
    generalize rsB ObjD.vId h.vNext x.vId xs = D
    cases A <;> cases B <;> cases C <;> cases D <;> rfl
theorem rise_test {p : Option Int} {l id next : Int} (hp : (p = none ∧ l = 0) ∨ (p = some l ∧ 0 ≤ l)) : (inB id 1 (next - 1) && riseB p id) = (decide (l < id) && decide (id < next)) := by
  rcases hp with ⟨rfl, rfl⟩ | ⟨rfl, hl⟩
  · rw [Bool.eq_iff_iff]; simp [inB, riseB]; omega
  · rw [Bool.eq_iff_iff]; simp [inB, riseB]; omega
theorem nodesF_eq (h : HeapD) : ∀ (xs : List NodeD) (p : Option Int) (l : Int), ((p = none ∧ l = 0) ∨ (p = some l ∧ 0 ≤ l)) → nodesF h p xs = (rsB NodeD.vId h.vNext l xs && (xs.all fun x => (objAt h x.vId).isNone) && xs.all fun x => nodeB h x) := by
  intro xs
  induction xs with
  | nil => intro p l _; rfl
  | cons x xs ih =>
    intro p l hp
    simp only [nodesF, rsB, List.all_cons, rise_test hp]
    by_cases h1 : l < x.vId
    · have h0 : 0 ≤ x.vId := by rcases hp with ⟨_, e⟩ | ⟨_, e⟩ <;> omega
      rw [ih (some x.vId) x.vId (Or.inr ⟨rfl, h0⟩)]
      generalize (objAt h x.vId).isNone = A
      generalize nodeB h x = B
      generalize decide (l < x.vId) = C
      generalize decide (x.vId < h.vNext) = D
      generalize rsB NodeD.vId h.vNext x.vId xs = E
      generalize (xs.all fun x => (objAt h x.vId).isNone) = F
      cases A <;> cases B <;> cases C <;> cases D <;> cases E <;> cases F <;> rfl
    · simp [h1]
theorem objsF_eq (h : HeapD) : ∀ (xs : List ObjD) (p : Option Int) (l : Int), ((p = none ∧ l = 0) ∨ (p = some l ∧ 0 ≤ l)) → objsF h p xs = (rsB ObjD.vId h.vNext l xs && xs.all fun x => objI h x) := by
  intro xs
  induction xs with
  | nil => intro p l _; rfl
  | cons x xs ih =>
    intro p l hp
    simp only [objsF, rsB, List.all_cons, rise_test hp, fields_eq, objI]
    by_cases h1 : l < x.vId
    · have h0 : 0 ≤ x.vId := by rcases hp with ⟨_, e⟩ | ⟨_, e⟩ <;> omega
      rw [ih (some x.vId) x.vId (Or.inr ⟨rfl, h0⟩)]
      simp only [objI]
      generalize oNodeB h x = A
      generalize fieldsI h x.vFields 5 = B
      generalize decide (l < x.vId) = C
      generalize decide (x.vId < h.vNext) = D
      generalize rsB ObjD.vId h.vNext x.vId xs = E
      cases A <;> cases B <;> cases C <;> cases D <;> cases E <;> rfl
    · simp [h1]
theorem nodesI_all (h : HeapD) (xs : List NodeD) : nodesI h xs = xs.all fun x => nodeI h x := by
  induction xs with
  | nil => rfl
  | cons x xs ih => simp only [nodesI, List.all_cons, ih]
theorem objsI_all (h : HeapD) (xs : List ObjD) : objsI h xs = xs.all fun x => objI h x := by
  induction xs with
  | nil => rfl
  | cons x xs ih => simp only [objsI, List.all_cons, ih]
theorem upsF_all (h : HeapD) (xs : List NodeD) : upsF h xs = xs.all fun x => upF h h.vNodes.length x.vId := by
  induction xs with
  | nil => rfl
  | cons x xs ih => simp only [upsF, List.all_cons, ih]
theorem rs_lt {α : Type} {f : α → Int} {next : Int} : ∀ (xs : List α) (l : Int), rsB f next l xs = true → ∀ x ∈ xs, l < f x := by
  intro xs
  induction xs with
  | nil => intro l _ x hx; cases hx
  | cons y xs ih =>
    intro l h x hx
    simp only [rsB, Bool.and_eq_true, decide_eq_true_eq] at h
    rcases List.mem_cons.1 hx with rfl | hx
    · exact h.1.1
    · have := ih _ h.2 x hx; omega
theorem rs_get {α : Type} {f : α → Int} {next : Int} : ∀ (xs : List α) (l : Int), rsB f next l xs = true → ∀ x ∈ xs, getI f xs (f x) = some x := by
  intro xs
  induction xs with
  | nil => intro l _ x hx; cases hx
  | cons y xs ih =>
    intro l h x hx
    simp only [rsB, Bool.and_eq_true, decide_eq_true_eq] at h
    rcases List.mem_cons.1 hx with rfl | hx
    · simp [getI]
    · have h1 := rs_lt xs _ h.2 x hx
      have h2 : ¬ f y = f x := by omega
      simp only [getI, if_neg h2]
      exact ih _ h.2 x hx
theorem get_mem {α : Type} {f : α → Int} {id : Int} : ∀ (xs : List α) (x : α), getI f xs id = some x → x ∈ xs ∧ f x = id := by
  intro xs
  induction xs with
  | nil => intro x h; cases h
  | cons y xs ih =>
    intro x h
    unfold getI at h
    split at h
    · rename_i e; injection h with h; subst h; exact ⟨List.mem_cons_self, e⟩
    · have := ih x h; exact ⟨List.mem_cons_of_mem _ this.1, this.2⟩
theorem mem_get {α : Type} {f : α → Int} : ∀ (xs : List α) (x : α), x ∈ xs → getI f xs (f x) ≠ none := by
  intro xs
  induction xs with
  | nil => intro x h; cases h
  | cons y xs ih =>
    intro x h
    unfold getI
    split
    · simp
    · rcases List.mem_cons.1 h with rfl | h
      · rename_i e; exact absurd rfl e
      · exact ih x h
theorem apart (h : HeapD) : (h.vNodes.all fun x => (objAt h x.vId).isNone) = (h.vObjs.all fun x => (nodeAt h x.vId).isNone) := by
  rw [Bool.eq_iff_iff]
  simp only [List.all_eq_true, Option.isNone_iff_eq_none]
  constructor
  · intro H o ho
    cases hn : nodeAt h o.vId with
    | none => rfl
    | some n =>
      obtain ⟨h1, h2⟩ := get_mem _ _ hn
      have := H n h1
      rw [h2] at this
      exact absurd this (mem_get _ o ho)
  · intro H n hn
    cases ho : objAt h n.vId with
    | none => rfl
    | some o =>
      obtain ⟨h1, h2⟩ := get_mem _ _ ho
      have := H o h1
      rw [h2] at this
      exact absurd this (mem_get _ n hn)
theorem end_up (h : HeapD) : ∀ (k : Nat) (x : NodeD), endF h (k + 1) x = upF h k x.vParent := by
  intro k
  induction k with
  | zero =>
    intro x
    by_cases e : x.vParent = 0
    · simp [endF, upF, e]
    · simp only [endF, upF, if_neg e]
      cases nodeAt h x.vParent <;> simp [e]
  | succ k ih =>
    intro x
    by_cases e : x.vParent = 0
    · simp [endF, upF, e]
    · rw [endF, upF, if_neg e, if_neg e]
      cases nodeAt h x.vParent with
      | none => rfl
      | some p => exact ih p
theorem all_congr {α : Type} {p q : α → Bool} : ∀ (xs : List α), (∀ x ∈ xs, p x = q x) → xs.all p = xs.all q := by
  intro xs
  induction xs with
  | nil => intro _; rfl
  | cons x xs ih => intro H; simp only [List.all_cons]; rw [H x List.mem_cons_self, ih fun y hy => H y (List.mem_cons_of_mem _ hy)]
theorem ups_ends (h : HeapD) (hr : rsB NodeD.vId h.vNext 0 h.vNodes = true) : upsF h h.vNodes = h.vNodes.all fun x => endF h h.vNodes.length x := by
  rw [upsF_all]
  refine all_congr _ fun x hx => ?_
  have h1 := rs_get _ _ hr x hx
  have h2 := rs_lt _ _ hr x hx
  have h3 : 0 < h.vNodes.length := List.length_pos_of_mem hx
  obtain ⟨k, hk⟩ : ∃ k, h.vNodes.length = k + 1 := ⟨h.vNodes.length - 1, by omega⟩
  rw [hk, end_up]
  exact upF_step h (by omega) h1
theorem all_and {α : Type} {p q : α → Bool} (xs : List α) : (xs.all fun x => p x && q x) = (xs.all p && xs.all q) := by
  induction xs with
  | nil => rfl
  | cons x xs ih =>
    simp only [List.all_cons, ih]
    cases p x <;> cases q x <;> cases xs.all p <;> cases xs.all q <;> rfl
theorem nodeI_eq (h : HeapD) (x : NodeD) : nodeI h x = (nodeB h x && endF h h.vNodes.length x) := by
  unfold nodeI nodeB
  generalize nmB x.vTag = A
  generalize kidsB h x = B
  generalize parB h x = C
  generalize endF h h.vNodes.length x = D
  generalize wrapB h x = E
  generalize decide (x.vListeners.length ≤ 4) = F
  generalize lissB x.vListeners = G
  cases A <;> cases B <;> cases C <;> cases D <;> cases E <;> cases F <;> cases G <;> rfl
theorem spec_impl (h : HeapD) : specB h = implB h := by
  have e1 := nodesF_eq h h.vNodes none 0 (Or.inl ⟨rfl, rfl⟩)
  have e2 := objsF_eq h h.vObjs none 0 (Or.inl ⟨rfl, rfl⟩)
  unfold specB implB idxB
  rw [e1, e2, idxN_rs, idxO_rs, nodesI_all, objsI_all, fields_eq, apart, show docB h = rootB h h.vDoc from rfl]
  have e3 : (h.vNodes.all fun x => nodeI h x) = ((h.vNodes.all fun x => nodeB h x) && (h.vNodes.all fun x => endF h h.vNodes.length x)) := by
    rw [← all_and]; exact all_congr _ fun x _ => nodeI_eq h x
  rw [e3]
  cases hr : rsB NodeD.vId h.vNext 0 h.vNodes
  · simp
  · rw [ups_ends h hr]
    unfold inB
    generalize decide (1 ≤ h.vNext) = A
    generalize decide (h.vNext ≤ 1000000000) = B
    generalize decide (h.vNodes.length ≤ 16) = C
    generalize decide (h.vObjs.length ≤ 16) = D
    generalize fieldsI h h.vGlobals 8 = E
    generalize (h.vObjs.all fun x => (nodeAt h x.vId).isNone) = F
    generalize (h.vNodes.all fun x => nodeB h x) = G
    generalize rsB ObjD.vId h.vNext 0 h.vObjs = I
    generalize (h.vObjs.all fun x => objI h x) = J
    generalize (h.vNodes.all fun x => endF h h.vNodes.length x) = K
    generalize rootB h h.vDoc = L
    cases A <;> cases B <;> cases C <;> cases D <;> simp only [Bool.and_true, Bool.true_and, Bool.and_false, Bool.false_and] <;> cases E <;> cases F <;> cases G <;> cases I <;> cases J <;> cases K <;> cases L <;> rfl
end Go.Proofs.YtnonfehmbabfhaaGreat
