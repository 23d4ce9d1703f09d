/- Contains, of the specification and of the program: walked. -/
import Derived.Test.YtdnembnlomnceaaActU
import Derived.Test.YtdnembnlomnceaaHeapSpec
import Derived.Test.YtdnembnlomnceaaAboveWalks
namespace Go.Proofs.Ytdnembnlomnceaa
open Go.RowKit
set_option maxHeartbeats 1600000 in
theorem specContains_any {w : World} {lo : Nat} {cs : List Value} {h : HeapD} {a b : Int} (hh : HeapAt w lo cs h) :
 Calls Try.prog 19 #[.agg cs.toArray, .int .i64 a, .int .i64 b] w fun e w' => e = .returned (.bool (containsS h a b)) ∧ Below w.heap.size w w' := by
 have hh' : Hid (HeapAt w lo cs h) := hh
 obtain ⟨k2, k3, k4, rfl, s2, s3, s4, _⟩ := hh
 obtain ⟨a2, cap2, rfl⟩ := s2.form
 obtain ⟨a3, cap3, rfl⟩ := s3.form
 obtain ⟨a4, cap4, rfl⟩ := s4.form
 clear s2 s3 s4
 have hb1 : Below w.heap.size w (w.alloc (.cells (List.toArray [.int .i64 h.vNext, .int .i64 h.vDoc, .slice a2 h.vNodes.length cap2, .slice a3 h.vObjs.length cap3, .slice a4 h.vGlobals.length cap4]) 28)) := (Below.refl _ _).alloc (Nat.le_refl _) _
 have bH0 : Hid (Box (w.alloc (.cells (List.toArray [.int .i64 h.vNext, .int .i64 h.vDoc, .slice a2 h.vNodes.length cap2, .slice a3 h.vObjs.length cap3, .slice a4 h.vGlobals.length cap4]) 28)) w.heap.size [.int .i64 h.vNext, .int .i64 h.vDoc, .slice a2 h.vNodes.length cap2, .slice a3 h.vObjs.length cap3, .slice a4 h.vGlobals.length cap4] 28) := Box.new w [.int .i64 h.vNext, .int .i64 h.vDoc, .slice a2 h.vNodes.length cap2, .slice a3 h.vObjs.length cap3, .slice a4 h.vGlobals.length cap4] 28
 go_enter Try.func19, Try.ntmps19
 go_wp2_with fail
 refine (specHeapOk_any (HeapAt_stays _ _ _ lo _ _ (.of_below hb1) hh'.out)).mono ?_
 rintro e w1 ⟨rfl, hb2⟩
 have hB2 : Below w.heap.size w w1 := hb1.trans (hb2.mono hb1.size)
 have bH2 := bH0.out.below hb2 bH0.out.lt
 have bH2' : Hid (Box w1 w.heap.size [.int .i64 h.vNext, .int .i64 h.vDoc, .slice a2 h.vNodes.length cap2, .slice a3 h.vObjs.length cap3, .slice a4 h.vGlobals.length cap4] 28) := bH2
 have c0 := bH2.cell 0 rfl
 have c1 := bH2.cell 1 rfl
 have c2 := bH2.cell 2 rfl
 have c3 := bH2.cell 3 rfl
 have c4 := bH2.cell 4 rfl
 clear bH2
 cases hs : specB h
 · have HF : Hid (containsS h a b = false) := by show _ = _; simp [containsS, hs]
   clear hs
   go_wp2_with fail
   go_ret
   exact ⟨ret_bool HF.out.symm, hB2⟩
 have hs' : Hid (specB h = true) := hs
 clear hs
 go_wp2_with fail
 refine (l2Node_any (HeapAt_stays _ _ _ lo _ _ (.of_below hB2) hh'.out)).mono ?_
 rintro e w2 ⟨rfl, hb3⟩
 have hB3 : Below w.heap.size w w2 := hB2.trans (hb3.mono hB2.size)
 have bH3 := bH2'.out.below hb3 bH2'.out.lt
 have bH3' : Hid (Box w2 w.heap.size [.int .i64 h.vNext, .int .i64 h.vDoc, .slice a2 h.vNodes.length cap2, .slice a3 h.vObjs.length cap3, .slice a4 h.vGlobals.length cap4] 28) := bH3
 clear c0 c1 c2 c3 c4
 have c0 := bH3.cell 0 rfl
 have c1 := bH3.cell 1 rfl
 have c2 := bH3.cell 2 rfl
 have c3 := bH3.cell 3 rfl
 have c4 := bH3.cell 4 rfl
 clear bH3 bH2'
 by_cases ha : 0 ≤ idxN h a
 rotate_left
 · have HF : Hid (containsS h a b = false) := by
    show _ = _
    have : (nodeAt h a).isSome = false := by unfold nodeAt; rw [some_of_idx]; exact decide_eq_false ha
    simp [containsS, this]
   have ha' : decide (0 ≤ idxN h a) = false := by simpa using ha
   clear ha
   go_wp2_with fail
   go_ret
   exact ⟨ret_bool HF.out.symm, hB3⟩
 have Ha : Hid ((nodeAt h a).isSome = true) := by show _ = _; unfold nodeAt; rw [some_of_idx]; exact decide_eq_true ha
 have ha' : decide (0 ≤ idxN h a) = true := by simpa using ha
 go_wp2_with fail
 refine (l2Node_any (HeapAt_stays _ _ _ lo _ _ (.of_below hB3) hh'.out)).mono ?_
 rintro e w3 ⟨rfl, hb4⟩
 have hB4 : Below w.heap.size w w3 := hB3.trans (hb4.mono hB3.size)
 have bH4 := bH3'.out.below hb4 bH3'.out.lt
 clear c0 c1 c2 c3 c4
 have c0 := bH4.cell 0 rfl
 have c1 := bH4.cell 1 rfl
 have c2 := bH4.cell 2 rfl
 have c3 := bH4.cell 3 rfl
 have c4 := bH4.cell 4 rfl
 clear bH4 bH3'
 by_cases hq : 0 ≤ idxN h b
 rotate_left
 · have HF : Hid (containsS h a b = false) := by
    show _ = _
    have : (nodeAt h b).isSome = false := by unfold nodeAt; rw [some_of_idx]; exact decide_eq_false hq
    simp [containsS, this]
   have hq' : decide (0 ≤ idxN h b) = false := by simpa using hq
   clear hq
   go_wp2_with fail
   go_ret
   exact ⟨ret_bool HF.out.symm, hB4⟩
 have Hb : Hid ((nodeAt h b).isSome = true) := by show _ = _; unfold nodeAt; rw [some_of_idx]; exact decide_eq_true hq
 have hq' : decide (0 ≤ idxN h b) = true := by simpa using hq
 have HF : Hid (containsS h a b = hasB (upL h h.vNodes.length b) a) := by show _ = _; simp [containsS, hs'.out, Ha.out, Hb.out]
 go_wp2_with fail
 refine (l3Contains_any (HeapAt_stays _ _ _ lo _ _ (.of_below hB4) hh'.out) hs'.out Hb.out).mono ?_
 rintro e w4 ⟨rfl, hb5⟩
 go_wp2_with fail
 go_ret
 exact ⟨ret_bool HF.out.symm, hB4.trans (hb5.mono hB4.size)⟩
set_option maxHeartbeats 1600000 in
theorem implContains_any {w : World} {lo : Nat} {cs : List Value} {h : HeapD} {a b : Int} (hh : HeapAt w lo cs h) :
 Calls Try.prog 18 #[.agg cs.toArray, .int .i64 a, .int .i64 b] w fun e w' => e = .returned (.bool (containsI h a b)) ∧ Below w.heap.size w w' := by
 have hh' : Hid (HeapAt w lo cs h) := hh
 obtain ⟨k2, k3, k4, rfl, s2, s3, s4, _⟩ := hh
 obtain ⟨a2, cap2, rfl⟩ := s2.form
 obtain ⟨a3, cap3, rfl⟩ := s3.form
 obtain ⟨a4, cap4, rfl⟩ := s4.form
 clear s2 s3 s4
 have hb1 : Below w.heap.size w (w.alloc (.cells (List.toArray [.int .i64 h.vNext, .int .i64 h.vDoc, .slice a2 h.vNodes.length cap2, .slice a3 h.vObjs.length cap3, .slice a4 h.vGlobals.length cap4]) 28)) := (Below.refl _ _).alloc (Nat.le_refl _) _
 have bH0 : Hid (Box (w.alloc (.cells (List.toArray [.int .i64 h.vNext, .int .i64 h.vDoc, .slice a2 h.vNodes.length cap2, .slice a3 h.vObjs.length cap3, .slice a4 h.vGlobals.length cap4]) 28)) w.heap.size [.int .i64 h.vNext, .int .i64 h.vDoc, .slice a2 h.vNodes.length cap2, .slice a3 h.vObjs.length cap3, .slice a4 h.vGlobals.length cap4] 28) := Box.new w [.int .i64 h.vNext, .int .i64 h.vDoc, .slice a2 h.vNodes.length cap2, .slice a3 h.vObjs.length cap3, .slice a4 h.vGlobals.length cap4] 28
 go_enter Try.func18, Try.ntmps18
 go_wp2_with fail
 refine (rightIndex_any hh'.out hb1).mono ?_
 rintro e w1 ⟨hres, hb2⟩
 have hB2 : Below w.heap.size w w1 := hb1.trans (hb2.mono hb1.size)
 rcases hres with ⟨hi, rfl⟩ | ⟨hi, bn, bo, rfl, hix⟩
 · have HF : Hid (containsI h a b = false) := by show _ = _; simp [containsI, hi]
   clear hi
   go_wp2_with fail
   go_ret
   exact ⟨ret_bool HF.out.symm, hB2.alloc hB2.size _⟩
 have HF : Hid (containsI h a b = hasB (upL h h.vNodes.length b) a) := by show _ = _; simp [containsI, hi]
 have hz : Hid (nodeAt h 0 = none) := node_zero hi
 have hU : Hid (∀ i x, nodeAt h i = some x → upF h h.vNodes.length i = true) := fun i x hx => up_ends (spec_impl h ▸ hi) hx
 have hix' : Hid (MapIn w w1 lo bn h) := hix.1
 clear hi hix
 have hb3 : Below w1.heap.size w1 (w1.alloc (.cells #[.map (some bn), .map (some bo)] 77)) := (Below.refl _ _).alloc (Nat.le_refl _) _
 have hB3 : Below w.heap.size w (w1.alloc (.cells #[.map (some bn), .map (some bo)] 77)) := hB2.alloc hB2.size _
 have hlt : Hid (bn < w1.heap.size) := by obtain ⟨es, c, q, _⟩ := hix'.out; exact (Array.getElem?_eq_some_iff.1 q).1
 go_wp2_with fail
 refine ((callsIn_wide (n := 3)).1 (contains_in Fence.wide 3 trivial trivial trivial rfl (by omega) bn bo lo w _ h a b hz.out hU.out (hix'.out.below hb3 hlt.out))).mono ?_
 rintro e w2 ⟨rfl, hb4⟩
 go_wp2_with fail
 go_ret
 exact ⟨ret_bool HF.out.symm, hB3.trans (hb4.mono hB3.size)⟩
end Go.Proofs.Ytdnembnlomnceaa
