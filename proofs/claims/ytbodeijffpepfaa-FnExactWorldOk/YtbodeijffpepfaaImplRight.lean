/- The program's HeapOk, walked. -/
import Derived.Test.YtbodeijffpepfaaImplIdx
namespace Go.Proofs.Ytbodeijffpepfaa
open Go.RowKit
def nodesI (h : HeapD) : List NodeD → Bool
  | [] => true
  | x :: xs => nodeI h x && nodesI h xs
def objsI (h : HeapD) : List ObjD → Bool
  | [] => true
  | x :: xs => objI h x && objsI h xs
/-- a right heap, as the program asks it -/
def implB (h : HeapD) : Bool := idxB h && nodesI h h.vNodes && objsI h h.vObjs && fieldsI h h.vGlobals 8 && rootB h h.vDoc
theorem nodesI_step {h : HeapD} {xs : List NodeD} {j : Nat} (hj : j < xs.length) : nodesI h (xs.drop j) = (nodeI h xs[j] && nodesI h (xs.drop (j + 1))) := by
  rw [drop_cons xs j hj]; rfl
theorem nodesI_end {h : HeapD} {xs : List NodeD} {j : Nat} (hj : ¬ j < xs.length) : nodesI h (xs.drop j) = true := by
  rw [List.drop_of_length_le (by omega)]; rfl
theorem objsI_step {h : HeapD} {xs : List ObjD} {j : Nat} (hj : j < xs.length) : objsI h (xs.drop j) = (objI h xs[j] && objsI h (xs.drop (j + 1))) := by
  rw [drop_cons xs j hj]; rfl
theorem objsI_end {h : HeapD} {xs : List ObjD} {j : Nat} (hj : ¬ j < xs.length) : objsI h (xs.drop j) = true := by
  rw [List.drop_of_length_le (by omega)]; rfl
set_option maxRecDepth 100000 in
set_option maxHeartbeats 3200000 in
theorem rightIndex_any {w0 w : World} {lo : Nat} {cs : List Value} {h : HeapD} (hh : HeapAt w0 lo cs h) (h00 : Below w0.heap.size w0 w) :
    Calls Try.prog 32 #[.agg cs.toArray] w fun e w' => ((implB h = false ∧ e = .returned (.tuple #[.agg #[.map none, .map none], .bool false])) ∨ (implB h = true ∧ ∃ bn bo, e = .returned (.tuple #[.agg #[.map (some bn), .map (some bo)], .bool true]) ∧ IdxIn w0 w' lo bn bo h)) ∧ Below w.heap.size w w' := by
  have hh' : Hid (HeapAt w0 lo cs h) := hh
  obtain ⟨k2, k3, k4, rfl, s2, s3, s4, rNext, rDoc, _⟩ := hh
  have s4' : Hid (SeqAt 2 FieldAt w0 lo k4 h.vGlobals) := s4
  obtain ⟨a4, cap4, rfl⟩ := s4.form
  obtain ⟨a2, cap2, rfl, hm2, hx2⟩ := s2
  obtain ⟨a3, cap3, rfl, hm3, hx3⟩ := s3
  unfold maxLen at hm2 hm3
  have hx2' : Hid _ := hx2
  have hx3' : Hid _ := hx3
  have hlen : Hid (h.vNodes.length ≤ 9223372036854775807) := by show _ ≤ _; omega
  clear hx2 hx3 s4 rNext rDoc
  have hb1 : Below w.heap.size w ((w.alloc (.cells (List.toArray [.int .i64 h.vNext, .int .i64 h.vDoc, .slice a2 h.vNodes.length cap2, .slice a3 h.vObjs.length cap3, .slice a4 h.vGlobals.length cap4]) 43)).alloc (.cells (List.toArray [.map none, .map none]) 86)) := ((Below.refl _ _).alloc (Nat.le_refl _) _).alloc (by simp) _
  have bH0 : Hid (Box ((w.alloc (.cells (List.toArray [.int .i64 h.vNext, .int .i64 h.vDoc, .slice a2 h.vNodes.length cap2, .slice a3 h.vObjs.length cap3, .slice a4 h.vGlobals.length cap4]) 43)).alloc (.cells (List.toArray [.map none, .map none]) 86)) w.heap.size [.int .i64 h.vNext, .int .i64 h.vDoc, .slice a2 h.vNodes.length cap2, .slice a3 h.vObjs.length cap3, .slice a4 h.vGlobals.length cap4] 43) := (Box.new w [.int .i64 h.vNext, .int .i64 h.vDoc, .slice a2 h.vNodes.length cap2, .slice a3 h.vObjs.length cap3, .slice a4 h.vGlobals.length cap4] 43).alloc _
  have bR0 : Hid (Box ((w.alloc (.cells (List.toArray [.int .i64 h.vNext, .int .i64 h.vDoc, .slice a2 h.vNodes.length cap2, .slice a3 h.vObjs.length cap3, .slice a4 h.vGlobals.length cap4]) 43)).alloc (.cells (List.toArray [.map none, .map none]) 86)) (w.heap.size + 1) [.map none, .map none] 86) := by have hb := Box.new (w.alloc (.cells (List.toArray [.int .i64 h.vNext, .int .i64 h.vDoc, .slice a2 h.vNodes.length cap2, .slice a3 h.vObjs.length cap3, .slice a4 h.vGlobals.length cap4]) 43)) [.map none, .map none] 86; rwa [show ((w.alloc (.cells (List.toArray [.int .i64 h.vNext, .int .i64 h.vDoc, .slice a2 h.vNodes.length cap2, .slice a3 h.vObjs.length cap3, .slice a4 h.vGlobals.length cap4]) 43))).heap.size = w.heap.size + 1 by simp] at hb
  go_enter Try.func32, Try.ntmps32
  go_wp2_with fail
  refine (indexOf_any hh'.out (h00.trans (hb1.mono h00.size))).mono ?_
  rintro e w1 ⟨hres, hbi⟩
  have hbw1 : Below w.heap.size w w1 := hb1.trans (hbi.mono hb1.size)
  have hsz1 : w.heap.size + 2 ≤ w1.heap.size := by have := hbi.size; simpa using this
  rcases hres with ⟨hidx, rfl⟩ | ⟨hidx, bn, bo, rfl, hix0⟩
  · have HF : Hid (implB h = false) := by show _ = _; simp [implB, hidx]
    have bR3 := (bR0.out.below hbi (by simp)).alloc (.cells (List.toArray [.map none, .map none]) 86)
    have r0 := bR3.cell 0 rfl
    have r1 := bR3.cell 1 rfl
    have rf := bR3.unfrozen
    have bR3' : Hid (Box (w1.alloc (.cells (List.toArray [.map none, .map none]) 86)) (w.heap.size + 1) [.map none, .map none] 86) := bR3
    clear hidx bR3
    go_wp2_with fail
    have e0 := (Box.set (i := 0) bR3'.out (.map none)).cell 0 rfl
    have e1 := (Box.set (i := 1) (Box.set (i := 0) bR3'.out (.map none)) (.map none)).cell 1 rfl
    refine bodyPost_ret (v := .tuple #[.agg #[.map none, .map none], .bool false]) (by simp [results, Try.results32, go_sem, e0, e1]) rfl ?_
    exact ⟨Or.inl ⟨HF.out, rfl⟩, ((hbw1.alloc hbw1.size _).setCell (by simp) _).setCell (by simp) _⟩
  have hix : Hid (IdxIn w0 w1 lo bn bo h) := hix0
  have HI : Hid (implB h = (nodesI h h.vNodes && objsI h h.vObjs && fieldsI h h.vGlobals 8 && rootB h h.vDoc)) := by show _ = _; simp [implB, hidx]
  clear hidx hix0
  have hbW1 : Below w1.heap.size w1 (w1.alloc (.cells (List.toArray [.map (some bn), .map (some bo)]) 86)) := (Below.refl _ _).alloc (Nat.le_refl _) _
  have hbW : Below w.heap.size w (w1.alloc (.cells (List.toArray [.map (some bn), .map (some bo)]) 86)) := hbw1.trans (hbW1.mono hbw1.size)
  have bH : Hid (Box (w1.alloc (.cells (List.toArray [.map (some bn), .map (some bo)]) 86)) w.heap.size [.int .i64 h.vNext, .int .i64 h.vDoc, .slice a2 h.vNodes.length cap2, .slice a3 h.vObjs.length cap3, .slice a4 h.vGlobals.length cap4] 43) := (bH0.out.below hbi (by simp; omega)).below hbW1 (by omega)
  have bR : Hid (Box (w1.alloc (.cells (List.toArray [.map (some bn), .map (some bo)]) 86)) (w.heap.size + 1) [.map none, .map none] 86) := (bR0.out.below hbi (by simp)).below hbW1 (by omega)
  have bX : Hid (Box (w1.alloc (.cells (List.toArray [.map (some bn), .map (some bo)]) 86)) w1.heap.size [.map (some bn), .map (some bo)] 86) := Box.new w1 _ _
  have hc2 := bH.out.cell 2 rfl
  go_wp2_with fail
  clear hc2
  go_loopw [21] (fun i wr => ∃ (j : Nat), j ≤ h.vNodes.length ∧ i = .int .i64 j ∧ Hid (Below (w1.heap.size + 1) (w1.alloc (.cells (List.toArray [.map (some bn), .map (some bo)]) 86)) wr) ∧ Hid (nodesI h h.vNodes = nodesI h (h.vNodes.drop j))) (fun i _ => h.vNodes.length - (intOf i).toNat)
  case atStart => exact ⟨0, by omega, rfl, Below.refl _ _, rfl⟩
  case round =>
    obtain ⟨j, hj, rfl, hbr, hrem⟩ := hrel
    have hbw : Below w.heap.size w wr := hbW.trans (hbr.out.mono (by omega))
    have hbx : Below w1.heap.size w1 wr := hbW1.trans (hbr.out.mono (by omega))
    have bH1 := bH.out.below hbr.out (by omega)
    have bR1 := bR.out.below hbr.out (by omega)
    have bX1 := bX.out.below hbr.out (by omega)
    by_cases hlt : j < h.vNodes.length
    · obtain ⟨b, off, rfl, hlo, hbw2, hc⟩ := hx2'.out (by omega)
      obtain ⟨cs, hcl, lie, hr⟩ := hc j hlt
      have lie1 := Lie.keep (lo := lo) (lo' := lo) lie (.of_below (h00.trans (hbw.mono h00.size))) hlo hbw2
      have hstep : Hid _ := nodesI_step (h := h) hlt
      generalize hQ0 : h.vNodes[j] = Q at hr hstep
      have hr3 : Hid (NodeAt w0 lo cs Q) := hr
      obtain ⟨g3, g5, rfl, v3, v5, _⟩ := hr
      obtain ⟨p3, d3, rfl⟩ := v3.form
      obtain ⟨p5, d5, rfl⟩ := v5.form
      clear v3 v5
      have z0 := lie_at lie1 0 rfl
      have z1 := lie_at lie1 1 rfl
      have z2 := lie_at lie1 2 rfl
      have z3 := lie_at lie1 3 rfl
      have z4 := lie_at lie1 4 rfl
      have z5 := lie_at lie1 5 rfl
      simp only [Nat.add_zero] at z0
      have hbk : Below wr.heap.size wr (wr.alloc (.cells (List.toArray [.int .i64 Q.vId, .string Q.vTag, .int .i64 Q.vParent, (.slice p3 Q.vKids.length d3), .int .i64 Q.vWrapper, (.slice p5 Q.vListeners.length d5)]) 69)) := (Below.refl _ _).alloc (Nat.le_refl _) _
      have hbwk : Below w.heap.size w (wr.alloc (.cells (List.toArray [.int .i64 Q.vId, .string Q.vTag, .int .i64 Q.vParent, (.slice p3 Q.vKids.length d3), .int .i64 Q.vWrapper, (.slice p5 Q.vListeners.length d5)]) 69)) := hbw.alloc hbw.size _
      have hbxk : Below w1.heap.size w1 (wr.alloc (.cells (List.toArray [.int .i64 Q.vId, .string Q.vTag, .int .i64 Q.vParent, (.slice p3 Q.vKids.length d3), .int .i64 Q.vWrapper, (.slice p5 Q.vListeners.length d5)]) 69)) := hbx.alloc hbx.size _
      have x0 := cell_on hbk (bX1.cell 0 rfl)
      have x1 := cell_on hbk (bX1.cell 1 rfl)
      have bR2 : Hid (Box (wr.alloc (.cells (List.toArray [.int .i64 Q.vId, .string Q.vTag, .int .i64 Q.vParent, (.slice p3 Q.vKids.length d3), .int .i64 Q.vWrapper, (.slice p5 Q.vListeners.length d5)]) 69)) (w.heap.size + 1) [.map none, .map none] 86) := bR1.alloc _
      clear lie lie1 hcl hc hQ0 bH1 bR1 bX1
      go_wp2_with fail
      refine (nodeOk_any hlen.out ((hix.out.on hbxk).here (h00.trans (hbwk.mono h00.size))) (NodeAt_stays _ _ _ lo _ _ (.of_below (h00.trans (hbwk.mono h00.size))) hr3.out)).mono ?_
      rintro e w2 ⟨rfl, hb2⟩
      have hbw2 : Below w.heap.size w w2 := hbwk.trans (hb2.mono hbwk.size)
      cases hq : nodeI h Q
      · have HF : Hid (implB h = false) := by show _ = _; rw [HI.out, hrem.out, hstep.out, hq]; simp
        have bR3 : Box w2 (w.heap.size + 1) [.map none, .map none] 86 := bR2.out.below hb2 bR2.out.lt
        have r0 := bR3.cell 0 rfl
        have r1 := bR3.cell 1 rfl
        have rf := bR3.unfrozen
        have bR3' : Hid (Box w2 (w.heap.size + 1) [.map none, .map none] 86) := bR3
        clear hq bR3
        go_wp2_with fail
        have e0 := (Box.set (i := 0) bR3'.out (.map none)).cell 0 rfl
        have e1 := (Box.set (i := 1) (Box.set (i := 0) bR3'.out (.map none)) (.map none)).cell 1 rfl
        refine bodyPost_ret (v := .tuple #[.agg #[.map none, .map none], .bool false]) (by simp [results, Try.results32, go_sem, e0, e1]) rfl ?_
        exact ⟨Or.inl ⟨HF.out, rfl⟩, (hbw2.setCell (by simp) _).setCell (by simp) _⟩
      · have HO : Hid (nodesI h h.vNodes = nodesI h (h.vNodes.drop (j + 1))) := by show _ = _; rw [hrem.out, hstep.out, hq]; rfl
        have hbo : Below (w1.heap.size + 1) (w1.alloc (.cells (List.toArray [.map (some bn), .map (some bo)]) 86)) w2 := (hbr.out.alloc (by have := hbr.out.size; simp at this; omega) _).trans (hb2.mono (by have := hbr.out.size; simp at this ⊢; omega))
        clear hq
        go_wp2_with fail
        go_roundw
        case rel => exact ⟨j + 1, by omega, by go_num, hbo, HO⟩
        case measure => simp [intOf]; omega
    have HI2 : Hid (implB h = (objsI h h.vObjs && fieldsI h h.vGlobals 8 && rootB h h.vDoc)) := by show _ = _; rw [HI.out, hrem.out, nodesI_end hlt]; rfl
    have hc3 := bH1.cell 3 rfl
    have hbr0 := hbr
    clear hrem HI bH1 bR1 bX1 hbw hbx hbr hx2'
    have HI := HI2
    clear HI2
    go_wp2_with fail
    clear hc3
    go_loopw [34] (fun i wr => ∃ (j : Nat), j ≤ h.vObjs.length ∧ i = .int .i64 j ∧ Hid (Below (w1.heap.size + 1) (w1.alloc (.cells (List.toArray [.map (some bn), .map (some bo)]) 86)) wr) ∧ Hid (objsI h h.vObjs = objsI h (h.vObjs.drop j))) (fun i _ => h.vObjs.length - (intOf i).toNat)
    case atStart => exact ⟨0, by omega, rfl, hbr0, rfl⟩
    case round =>
      obtain ⟨j, hj, rfl, hbr, hrem⟩ := hrel
      have hbw : Below w.heap.size w wr := hbW.trans (hbr.out.mono (by omega))
      have hbx : Below w1.heap.size w1 wr := hbW1.trans (hbr.out.mono (by omega))
      have bH1 := bH.out.below hbr.out (by omega)
      have bR1 := bR.out.below hbr.out (by omega)
      have bX1 := bX.out.below hbr.out (by omega)
      by_cases hlt : j < h.vObjs.length
      · obtain ⟨b, off, rfl, hlo, hbw2, hc⟩ := hx3'.out (by omega)
        obtain ⟨cs, hcl, lie, hr⟩ := hc j hlt
        have lie1 := Lie.keep (lo := lo) (lo' := lo) lie (.of_below (h00.trans (hbw.mono h00.size))) hlo hbw2
        have hstep : Hid _ := objsI_step (h := h) hlt
        generalize hQ0 : h.vObjs[j] = Q at hr hstep
        have hr3 : Hid (ObjAt w0 lo cs Q) := hr
        obtain ⟨g2, rfl, v2, _⟩ := hr
        obtain ⟨p2, d2, rfl⟩ := v2.form
        clear v2
        have z0 := lie_at lie1 0 rfl
        have z1 := lie_at lie1 1 rfl
        have z2 := lie_at lie1 2 rfl
        simp only [Nat.add_zero] at z0
        have hbk : Below wr.heap.size wr (wr.alloc (.cells (List.toArray [.int .i64 Q.vId, .int .i64 Q.vNode, (.slice p2 Q.vFields.length d2)]) 73)) := (Below.refl _ _).alloc (Nat.le_refl _) _
        have hbwk : Below w.heap.size w (wr.alloc (.cells (List.toArray [.int .i64 Q.vId, .int .i64 Q.vNode, (.slice p2 Q.vFields.length d2)]) 73)) := hbw.alloc hbw.size _
        have hbxk : Below w1.heap.size w1 (wr.alloc (.cells (List.toArray [.int .i64 Q.vId, .int .i64 Q.vNode, (.slice p2 Q.vFields.length d2)]) 73)) := hbx.alloc hbx.size _
        have x0 := cell_on hbk (bX1.cell 0 rfl)
        have x1 := cell_on hbk (bX1.cell 1 rfl)
        have bR2 : Hid (Box (wr.alloc (.cells (List.toArray [.int .i64 Q.vId, .int .i64 Q.vNode, (.slice p2 Q.vFields.length d2)]) 73)) (w.heap.size + 1) [.map none, .map none] 86) := bR1.alloc _
        clear lie lie1 hcl hc hQ0 bH1 bR1 bX1
        go_wp2_with fail
        refine (objOk_any ((hix.out.on hbxk).here (h00.trans (hbwk.mono h00.size))) (ObjAt_stays _ _ _ lo _ _ (.of_below (h00.trans (hbwk.mono h00.size))) hr3.out)).mono ?_
        rintro e w2 ⟨rfl, hb2⟩
        have hbw2 : Below w.heap.size w w2 := hbwk.trans (hb2.mono hbwk.size)
        cases hq : objI h Q
        · have HF : Hid (implB h = false) := by show _ = _; rw [HI.out, hrem.out, hstep.out, hq]; simp
          have bR3 : Box w2 (w.heap.size + 1) [.map none, .map none] 86 := bR2.out.below hb2 bR2.out.lt
          have r0 := bR3.cell 0 rfl
          have r1 := bR3.cell 1 rfl
          have rf := bR3.unfrozen
          have bR3' : Hid (Box w2 (w.heap.size + 1) [.map none, .map none] 86) := bR3
          clear hq bR3
          go_wp2_with fail
          have e0 := (Box.set (i := 0) bR3'.out (.map none)).cell 0 rfl
          have e1 := (Box.set (i := 1) (Box.set (i := 0) bR3'.out (.map none)) (.map none)).cell 1 rfl
          refine bodyPost_ret (v := .tuple #[.agg #[.map none, .map none], .bool false]) (by simp [results, Try.results32, go_sem, e0, e1]) rfl ?_
          exact ⟨Or.inl ⟨HF.out, rfl⟩, (hbw2.setCell (by simp) _).setCell (by simp) _⟩
        · have HO : Hid (objsI h h.vObjs = objsI h (h.vObjs.drop (j + 1))) := by show _ = _; rw [hrem.out, hstep.out, hq]; rfl
          have hbo : Below (w1.heap.size + 1) (w1.alloc (.cells (List.toArray [.map (some bn), .map (some bo)]) 86)) w2 := (hbr.out.alloc (by have := hbr.out.size; simp at this; omega) _).trans (hb2.mono (by have := hbr.out.size; simp at this ⊢; omega))
          clear hq
          go_wp2_with fail
          go_roundw
          case rel => exact ⟨j + 1, by omega, by go_num, hbo, HO⟩
          case measure => simp [intOf]; omega
      have HI2 : Hid (implB h = (fieldsI h h.vGlobals 8 && rootB h h.vDoc)) := by show _ = _; rw [HI.out, hrem.out, objsI_end hlt]; rfl
      have hc4 := bH1.cell 4 rfl
      have x0 := bX1.cell 0 rfl
      have x1 := bX1.cell 1 rfl
      clear hrem HI bH1 bR1 bX1 hx3'
      go_wp2_with fail
      refine (fieldsOk_any ((hix.out.on hbx).here (h00.trans (hbw.mono h00.size))) (s4'.out.below FieldAt_stays (h00.trans (hbw.mono h00.size)))).mono ?_
      rintro e v1 ⟨rfl, hq1⟩
      have hbr1 : Hid (Below (w1.heap.size + 1) (w1.alloc (.cells (List.toArray [.map (some bn), .map (some bo)]) 86)) v1) := hbr.out.trans (hq1.mono (by have := hbr.out.size; simpa using this))
      have hbw1' : Below w.heap.size w v1 := hbw.trans (hq1.mono hbw.size)
      have hbx1' : Below w1.heap.size w1 v1 := hbx.trans (hq1.mono hbx.size)
      clear hc4 x0 x1
      have bR3 : Box v1 (w.heap.size + 1) [.map none, .map none] 86 := bR.out.below hbr1.out (by omega)
      have bR3' : Hid (Box v1 (w.heap.size + 1) [.map none, .map none] 86) := bR3
      cases hq : fieldsI h h.vGlobals 8
      · have HF : Hid (implB h = false) := by show _ = _; rw [HI2.out, hq]; rfl
        have r0 := bR3.cell 0 rfl
        have r1 := bR3.cell 1 rfl
        have rf := bR3.unfrozen
        clear hq bR3
        go_wp2_with fail
        have e0 := (Box.set (i := 0) bR3'.out (.map none)).cell 0 rfl
        have e1 := (Box.set (i := 1) (Box.set (i := 0) bR3'.out (.map none)) (.map none)).cell 1 rfl
        refine bodyPost_ret (v := .tuple #[.agg #[.map none, .map none], .bool false]) (by simp [results, Try.results32, go_sem, e0, e1]) rfl ?_
        exact ⟨Or.inl ⟨HF.out, rfl⟩, (hbw1'.setCell (by simp) _).setCell (by simp) _⟩
      have HI3 : Hid (implB h = rootB h h.vDoc) := by show _ = _; rw [HI2.out, hq]; rfl
      have hc1 := (bH.out.below hbr1.out (by omega)).cell 1 rfl
      have x0 := (bX.out.below hbr1.out (by omega)).cell 0 rfl
      have x1 := (bX.out.below hbr1.out (by omega)).cell 1 rfl
      clear hq HI2 bR3
      go_wp2_with fail
      refine (rootOk_any ((hix.out.on hbx1').here (h00.trans (hbw1'.mono h00.size)))).mono ?_
      rintro e v2 ⟨rfl, hq2⟩
      have hbr2 : Hid (Below (w1.heap.size + 1) (w1.alloc (.cells (List.toArray [.map (some bn), .map (some bo)]) 86)) v2) := hbr1.out.trans (hq2.mono (by have := hbr1.out.size; simpa using this))
      have hbw2 : Below w.heap.size w v2 := hbw1'.trans (hq2.mono hbw1'.size)
      have hbx2 : Below w1.heap.size w1 v2 := hbx1'.trans (hq2.mono hbx1'.size)
      clear hc1 x0 x1
      have bR4 : Box v2 (w.heap.size + 1) [.map none, .map none] 86 := bR.out.below hbr2.out (by omega)
      have bR4' : Hid (Box v2 (w.heap.size + 1) [.map none, .map none] 86) := bR4
      have r0 := bR4.cell 0 rfl
      have r1 := bR4.cell 1 rfl
      have rf := bR4.unfrozen
      clear bR4
      cases hq : rootB h h.vDoc
      · have HF : Hid (implB h = false) := by show _ = _; rw [HI3.out, hq]
        clear hq
        go_wp2_with fail
        have e0 := (Box.set (i := 0) bR4'.out (.map none)).cell 0 rfl
        have e1 := (Box.set (i := 1) (Box.set (i := 0) bR4'.out (.map none)) (.map none)).cell 1 rfl
        refine bodyPost_ret (v := .tuple #[.agg #[.map none, .map none], .bool false]) (by simp [results, Try.results32, go_sem, e0, e1]) rfl ?_
        exact ⟨Or.inl ⟨HF.out, rfl⟩, (hbw2.setCell (by simp) _).setCell (by simp) _⟩
      have HT : Hid (implB h = true) := by show _ = _; rw [HI3.out, hq]
      have x0 := (bX.out.below hbr2.out (by omega)).cell 0 rfl
      have x1 := (bX.out.below hbr2.out (by omega)).cell 1 rfl
      clear hq HI3
      go_wp2_with fail
      have e0 := (Box.set (i := 0) bR4'.out (.map (some bn))).cell 0 rfl
      have e1 := (Box.set (i := 1) (Box.set (i := 0) bR4'.out (.map (some bn))) (.map (some bo))).cell 1 rfl
      refine bodyPost_ret (v := .tuple #[.agg #[.map (some bn), .map (some bo)], .bool true]) (by simp [results, Try.results32, go_sem, e0, e1]) rfl ?_
      have hbe : Below w.heap.size w ((v2.setCell ⟨w.heap.size + 1, 0, none⟩ (.map (some bn))).setCell ⟨w.heap.size + 1, 1, none⟩ (.map (some bo))) := (hbw2.setCell (by simp) _).setCell (by simp) _
      exact ⟨Or.inr ⟨HT.out, bn, bo, rfl, ((hix.out.on hbx2).set bR4'.out _).set (bR4'.out.set _) _⟩, hbe⟩
set_option maxRecDepth 100000 in
set_option maxHeartbeats 800000 in
theorem implHeapOk_any {w : World} {lo : Nat} {cs : List Value} {h : HeapD} (hh : HeapAt w lo cs h) :
    Calls Try.prog 17 #[.agg cs.toArray] w fun e w' => e = .returned (.bool (implB h)) ∧ Below w.heap.size w w' := by
  have hh' : Hid (HeapAt w lo cs h) := hh
  obtain ⟨k2, k3, k4, rfl, s2, s3, s4, _⟩ := hh
  obtain ⟨a2, cap2, rfl⟩ := s2.form
  obtain ⟨a3, cap3, rfl⟩ := s3.form
  obtain ⟨a4, cap4, rfl⟩ := s4.form
  clear s2 s3 s4
  have hb1 : Below w.heap.size w (w.alloc (.cells (List.toArray [.int .i64 h.vNext, .int .i64 h.vDoc, .slice a2 h.vNodes.length cap2, .slice a3 h.vObjs.length cap3, .slice a4 h.vGlobals.length cap4]) 43)) := (Below.refl _ _).alloc (Nat.le_refl _) _
  go_enter Try.func17, Try.ntmps17
  go_wp2_with fail
  refine (rightIndex_any hh'.out hb1).mono ?_
  rintro e w1 ⟨hres, hbi⟩
  have hbw1 : Below w.heap.size w w1 := hb1.trans (hbi.mono hb1.size)
  rcases hres with ⟨hidx, rfl⟩ | ⟨hidx, bn, bo, rfl, hix0⟩
  · have HF : Hid _ := hidx
    clear hidx
    go_wp2_with fail
    go_ret
    exact ⟨ret_bool HF.out.symm, hbw1.alloc hbw1.size _⟩
  · have HF : Hid _ := hidx
    clear hidx hix0
    go_wp2_with fail
    go_ret
    exact ⟨ret_bool HF.out.symm, hbw1.alloc hbw1.size _⟩
end Go.Proofs.Ytbodeijffpepfaa
