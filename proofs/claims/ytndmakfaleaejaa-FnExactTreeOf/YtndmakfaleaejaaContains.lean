/- Contains, of the specification and of the program: walked. -/
import Derived.Test.YtndmakfaleaejaaHeapUp2
import Derived.Test.YtndmakfaleaejaaHeapSpec
import Derived.Test.YtndmakfaleaejaaAboveWalks
namespace Go.Proofs.Ytndmakfaleaejaa
open Go.RowKit
/-- a row of whole numbers that a call owns is a row of them -/
theorem seqAt_of_own {w : World} {base : Nat} {v : Value} {xs : List Int} (h : w.ownsRow base 2 1 v xs.length (xs.map fun n => .int .i64 n)) (hx : ∀ x ∈ xs, InI x) : SeqAt 1 IntAt w base v xs := by
  obtain ⟨_, ho⟩ := h
  rcases ho with ⟨rfl, hn⟩ | ⟨g, cap, cur, rfl, hg, hh, h1, h2, h3, h4⟩
  · exact ⟨none, 0, by rw [hn], ⟨by omega, by omega⟩, fun h0 => absurd h0 (by omega)⟩
  · refine ⟨_, _, rfl, ⟨Nat.le_trans h1 h2, h1⟩, fun _ => ⟨g, 0, rfl, hg, (Array.getElem?_eq_some_iff.1 hh).1, fun i hi => ⟨[.int .i64 xs[i]], rfl, fun m hm => ?_, rfl, hx _ (List.getElem_mem hi)⟩⟩⟩
    obtain rfl : m = 0 := by simp at hm; omega
    rw [blk_cell hh]
    have e : (cur.toList.take (xs.length * 1))[i]? = some (.int .i64 xs[i]) := by rw [h4]; simp [hi]
    rw [List.getElem?_take_of_lt (by omega)] at e
    simpa using e
theorem node_in {w : World} {lo : Nat} {cs : List Value} {h : HeapD} {id : Int} {x : NodeD} (hh : HeapAt w lo cs h) (hx : nodeAt h id = some x) : InI id := by
  obtain ⟨k2, k3, k4, _, s2, _⟩ := hh
  obtain ⟨hm, hid⟩ := get_mem _ _ hx
  obtain ⟨i, hi, rfl⟩ := List.getElem_of_mem hm
  obtain ⟨a, cap, _, _, hs⟩ := s2
  obtain ⟨b, off, _, _, _, hc⟩ := hs (by omega)
  obtain ⟨cs', _, _, k3', k5', _, _, _, hI, _⟩ := hc i hi
  rw [← hid]; exact hI
theorem upL_in {w : World} {lo : Nat} {cs : List Value} {h : HeapD} (hh : HeapAt w lo cs h) : ∀ {n : Nat} {id : Int}, ∀ x ∈ upL h n id, InI x := by
  intro n
  induction n with
  | zero => intro id x hx; simp [upL] at hx
  | succ n ih =>
    intro id x hx
    cases hq : nodeAt h id with
    | none => rw [upL_none hq] at hx; cases hx
    | some y =>
      rw [upL_some hq] at hx
      rcases List.mem_cons.1 hx with e | e
      · subst e; exact node_in hh hq
      · exact ih x e
set_option maxHeartbeats 1600000 in
theorem l3Contains_any {w : World} {lo : Nat} {cs : List Value} {h : HeapD} {a b : Int} (hh : HeapAt w lo cs h) (hs : specB h = true) (hb : (nodeAt h b).isSome = true) :
    Calls Try.prog 45 #[.agg cs.toArray, .int .i64 a, .int .i64 b] w fun e w' => e = .returned (.bool (hasB (upL h h.vNodes.length b) a)) ∧ Below w.heap.size w w' := by
  have hh' : Hid (HeapAt w lo cs h) := hh
  obtain ⟨k2, k3, k4, rfl, s2, s3, s4, _⟩ := hh
  obtain ⟨a2, cap2, rfl⟩ := s2.form
  obtain ⟨a3, cap3, rfl⟩ := s3.form
  obtain ⟨a4, cap4, rfl⟩ := s4.form
  clear s2 s3 s4
  have hb1 : Below w.heap.size w (w.alloc (.cells (List.toArray [.int .i64 h.vNext, .int .i64 h.vDoc, .slice a2 h.vNodes.length cap2, .slice a3 h.vObjs.length cap3, .slice a4 h.vGlobals.length cap4]) 34)) := (Below.refl _ _).alloc (Nat.le_refl _) _
  have bH0 : Hid (Box (w.alloc (.cells (List.toArray [.int .i64 h.vNext, .int .i64 h.vDoc, .slice a2 h.vNodes.length cap2, .slice a3 h.vObjs.length cap3, .slice a4 h.vGlobals.length cap4]) 34)) w.heap.size [.int .i64 h.vNext, .int .i64 h.vDoc, .slice a2 h.vNodes.length cap2, .slice a3 h.vObjs.length cap3, .slice a4 h.vGlobals.length cap4] 34) := Box.new w [.int .i64 h.vNext, .int .i64 h.vDoc, .slice a2 h.vNodes.length cap2, .slice a3 h.vObjs.length cap3, .slice a4 h.vGlobals.length cap4] 34
  have hI : Hid (∀ x ∈ upL h h.vNodes.length b, InI x) := upL_in hh'.out
  have hs' : Hid (specB h = true) := hs
  have hz : Hid (nodeAt h 0 = none) := node_zero (spec_impl h ▸ hs)
  have hN : Hid (h.vNodes.length ≤ 16) := (spec_parts hs).1
  have hP : Hid (ParsThere h) := parsThere_of (spec_parts hs).2.1
  have hU : Hid (upF h h.vNodes.length b = true) := by
    obtain ⟨x, hx⟩ := Option.isSome_iff_exists.1 hb
    exact up_ends hs hx
  have hb' : Hid (b ≠ 0 → (nodeAt h b).isSome = true) := fun _ => hb
  clear hs hb
  go_enter Try.func45, Try.ntmps45
  go_wp2_with fail
  refine (l2Up_full (HeapAt_stays _ _ _ lo _ _ (.of_below hb1) hh'.out) hN.out hz.out hP.out hb'.out).mono ?_
  rintro e w1 ⟨hres, hb2⟩
  have hB2 : Below w.heap.size w w1 := hb1.trans (hb2.mono hb1.size)
  rcases hres with ⟨hF, _⟩ | ⟨v, rfl, hown⟩
  · rw [hU.out] at hF; cases hF
  have hown' : Hid _ := seqAt_of_own hown hI.out
  obtain ⟨av, capv, rfl⟩ := own_forms hown
  clear hown
  go_wp2_with fail
  refine (l2Has_any hown'.out).mono ?_
  rintro e w2 ⟨rfl, rfl⟩
  go_wp2_with fail
  go_ret
  exact ⟨rfl, hB2⟩
set_option maxHeartbeats 1600000 in
theorem specContains_any {w : World} {lo : Nat} {cs : List Value} {h : HeapD} {a b : Int} (hh : HeapAt w lo cs h) :
    Calls Try.prog 18 #[.agg cs.toArray, .int .i64 a, .int .i64 b] w fun e w' => e = .returned (.bool (containsS h a b)) ∧ Below w.heap.size w w' := by
  have hh' : Hid (HeapAt w lo cs h) := hh
  obtain ⟨k2, k3, k4, rfl, s2, s3, s4, _⟩ := hh
  obtain ⟨a2, cap2, rfl⟩ := s2.form
  obtain ⟨a3, cap3, rfl⟩ := s3.form
  obtain ⟨a4, cap4, rfl⟩ := s4.form
  clear s2 s3 s4
  have hb1 : Below w.heap.size w (w.alloc (.cells (List.toArray [.int .i64 h.vNext, .int .i64 h.vDoc, .slice a2 h.vNodes.length cap2, .slice a3 h.vObjs.length cap3, .slice a4 h.vGlobals.length cap4]) 34)) := (Below.refl _ _).alloc (Nat.le_refl _) _
  have bH0 : Hid (Box (w.alloc (.cells (List.toArray [.int .i64 h.vNext, .int .i64 h.vDoc, .slice a2 h.vNodes.length cap2, .slice a3 h.vObjs.length cap3, .slice a4 h.vGlobals.length cap4]) 34)) w.heap.size [.int .i64 h.vNext, .int .i64 h.vDoc, .slice a2 h.vNodes.length cap2, .slice a3 h.vObjs.length cap3, .slice a4 h.vGlobals.length cap4] 34) := Box.new w [.int .i64 h.vNext, .int .i64 h.vDoc, .slice a2 h.vNodes.length cap2, .slice a3 h.vObjs.length cap3, .slice a4 h.vGlobals.length cap4] 34
  go_enter Try.func18, Try.ntmps18
  go_wp2_with fail
  refine (specHeapOk_any (HeapAt_stays _ _ _ lo _ _ (.of_below hb1) hh'.out)).mono ?_
  rintro e w1 ⟨rfl, hb2⟩
  have hB2 : Below w.heap.size w w1 := hb1.trans (hb2.mono hb1.size)
  have bH2 := bH0.out.below hb2 bH0.out.lt
  have bH2' : Hid (Box w1 w.heap.size [.int .i64 h.vNext, .int .i64 h.vDoc, .slice a2 h.vNodes.length cap2, .slice a3 h.vObjs.length cap3, .slice a4 h.vGlobals.length cap4] 34) := bH2
  have c0 := bH2.cell 0 rfl
  have c1 := bH2.cell 1 rfl
  have c2 := bH2.cell 2 rfl
  have c3 := bH2.cell 3 rfl
  have c4 := bH2.cell 4 rfl
  clear bH2
  cases hs : specB h
  · have HF : Hid (containsS h a b = false) := by show _ = _; simp [containsS, hs]
    clear hs
    go_wp2_with fail
    go_ret
    exact ⟨ret_bool HF.out.symm, hB2⟩
  have hs' : Hid (specB h = true) := hs
  clear hs
  go_wp2_with fail
  refine (l2Node_any (HeapAt_stays _ _ _ lo _ _ (.of_below hB2) hh'.out)).mono ?_
  rintro e w2 ⟨rfl, hb3⟩
  have hB3 : Below w.heap.size w w2 := hB2.trans (hb3.mono hB2.size)
  have bH3 := bH2'.out.below hb3 bH2'.out.lt
  have bH3' : Hid (Box w2 w.heap.size [.int .i64 h.vNext, .int .i64 h.vDoc, .slice a2 h.vNodes.length cap2, .slice a3 h.vObjs.length cap3, .slice a4 h.vGlobals.length cap4] 34) := bH3
  clear c0 c1 c2 c3 c4
  have c0 := bH3.cell 0 rfl
  have c1 := bH3.cell 1 rfl
  have c2 := bH3.cell 2 rfl
  have c3 := bH3.cell 3 rfl
  have c4 := bH3.cell 4 rfl
  clear bH3 bH2'
  by_cases ha : 0 ≤ idxN h a
  rotate_left
  · have HF : Hid (containsS h a b = false) := by
      show _ = _
      have : (nodeAt h a).isSome = false := by unfold nodeAt; rw [some_of_idx]; exact decide_eq_false ha
      simp [containsS, this]
    have ha' : decide (0 ≤ idxN h a) = false := by simpa using ha
    clear ha
    go_wp2_with fail
    go_ret
    exact ⟨ret_bool HF.out.symm, hB3⟩
  have Ha : Hid ((nodeAt h a).isSome = true) := by show _ = _; unfold nodeAt; rw [some_of_idx]; exact decide_eq_true ha
  have ha' : decide (0 ≤ idxN h a) = true := by simpa using ha
  go_wp2_with fail
  refine (l2Node_any (HeapAt_stays _ _ _ lo _ _ (.of_below hB3) hh'.out)).mono ?_
  rintro e w3 ⟨rfl, hb4⟩
  have hB4 : Below w.heap.size w w3 := hB3.trans (hb4.mono hB3.size)
  have bH4 := bH3'.out.below hb4 bH3'.out.lt
  clear c0 c1 c2 c3 c4
  have c0 := bH4.cell 0 rfl
  have c1 := bH4.cell 1 rfl
  have c2 := bH4.cell 2 rfl
  have c3 := bH4.cell 3 rfl
  have c4 := bH4.cell 4 rfl
  clear bH4 bH3'
  by_cases hq : 0 ≤ idxN h b
  rotate_left
  · have HF : Hid (containsS h a b = false) := by
      show _ = _
      have : (nodeAt h b).isSome = false := by unfold nodeAt; rw [some_of_idx]; exact decide_eq_false hq
      simp [containsS, this]
    have hq' : decide (0 ≤ idxN h b) = false := by simpa using hq
    clear hq
    go_wp2_with fail
    go_ret
    exact ⟨ret_bool HF.out.symm, hB4⟩
  have Hb : Hid ((nodeAt h b).isSome = true) := by show _ = _; unfold nodeAt; rw [some_of_idx]; exact decide_eq_true hq
  have hq' : decide (0 ≤ idxN h b) = true := by simpa using hq
  have HF : Hid (containsS h a b = hasB (upL h h.vNodes.length b) a) := by show _ = _; simp [containsS, hs'.out, Ha.out, Hb.out]
  go_wp2_with fail
  refine (l3Contains_any (HeapAt_stays _ _ _ lo _ _ (.of_below hB4) hh'.out) hs'.out Hb.out).mono ?_
  rintro e w4 ⟨rfl, hb5⟩
  go_wp2_with fail
  go_ret
  exact ⟨ret_bool HF.out.symm, hB4.trans (hb5.mono hB4.size)⟩
set_option maxHeartbeats 1600000 in
theorem implContains_any {w : World} {lo : Nat} {cs : List Value} {h : HeapD} {a b : Int} (hh : HeapAt w lo cs h) :
    Calls Try.prog 19 #[.agg cs.toArray, .int .i64 a, .int .i64 b] w fun e w' => e = .returned (.bool (containsI h a b)) ∧ Below w.heap.size w w' := by
  have hh' : Hid (HeapAt w lo cs h) := hh
  obtain ⟨k2, k3, k4, rfl, s2, s3, s4, _⟩ := hh
  obtain ⟨a2, cap2, rfl⟩ := s2.form
  obtain ⟨a3, cap3, rfl⟩ := s3.form
  obtain ⟨a4, cap4, rfl⟩ := s4.form
  clear s2 s3 s4
  have hb1 : Below w.heap.size w (w.alloc (.cells (List.toArray [.int .i64 h.vNext, .int .i64 h.vDoc, .slice a2 h.vNodes.length cap2, .slice a3 h.vObjs.length cap3, .slice a4 h.vGlobals.length cap4]) 34)) := (Below.refl _ _).alloc (Nat.le_refl _) _
  have bH0 : Hid (Box (w.alloc (.cells (List.toArray [.int .i64 h.vNext, .int .i64 h.vDoc, .slice a2 h.vNodes.length cap2, .slice a3 h.vObjs.length cap3, .slice a4 h.vGlobals.length cap4]) 34)) w.heap.size [.int .i64 h.vNext, .int .i64 h.vDoc, .slice a2 h.vNodes.length cap2, .slice a3 h.vObjs.length cap3, .slice a4 h.vGlobals.length cap4] 34) := Box.new w [.int .i64 h.vNext, .int .i64 h.vDoc, .slice a2 h.vNodes.length cap2, .slice a3 h.vObjs.length cap3, .slice a4 h.vGlobals.length cap4] 34
  go_enter Try.func19, Try.ntmps19
  go_wp2_with fail
  refine (rightIndex_any hh'.out hb1).mono ?_
  rintro e w1 ⟨hres, hb2⟩
  have hB2 : Below w.heap.size w w1 := hb1.trans (hb2.mono hb1.size)
  rcases hres with ⟨hi, rfl⟩ | ⟨hi, bn, bo, rfl, hix⟩
  · have HF : Hid (containsI h a b = false) := by show _ = _; simp [containsI, hi]
    clear hi
    go_wp2_with fail
    go_ret
    exact ⟨ret_bool HF.out.symm, hB2.alloc hB2.size _⟩
  have HF : Hid (containsI h a b = hasB (upL h h.vNodes.length b) a) := by show _ = _; simp [containsI, hi]
  have hz : Hid (nodeAt h 0 = none) := node_zero hi
  have hU : Hid (∀ i x, nodeAt h i = some x → upF h h.vNodes.length i = true) := fun i x hx => up_ends (spec_impl h ▸ hi) hx
  have hix' : Hid (MapIn w w1 lo bn h) := hix.1
  clear hi hix
  have hb3 : Below w1.heap.size w1 (w1.alloc (.cells #[.map (some bn), .map (some bo)] 63)) := (Below.refl _ _).alloc (Nat.le_refl _) _
  have hB3 : Below w.heap.size w (w1.alloc (.cells #[.map (some bn), .map (some bo)] 63)) := hB2.alloc hB2.size _
  have hlt : Hid (bn < w1.heap.size) := by obtain ⟨es, c, q, _⟩ := hix'.out; exact (Array.getElem?_eq_some_iff.1 q).1
  go_wp2_with fail
  refine ((callsIn_wide (n := 3)).1 (contains_in Fence.wide 3 trivial trivial trivial rfl (by omega) bn bo lo w _ h a b hz.out hU.out (hix'.out.below hb3 hlt.out))).mono ?_
  rintro e w2 ⟨rfl, hb4⟩
  go_wp2_with fail
  go_ret
  exact ⟨ret_bool HF.out.symm, hB3.trans (hb4.mono hB3.size)⟩
end Go.Proofs.Ytndmakfaleaejaa
