/- Above, of the specification and of the program: walked. -/
import Derived.Test.YtndmakfaleaejaaContains
import Derived.Test.YtndmakfaleaejaaIdsWalks
import Derived.Test.YtndmakfaleaejaaOwnFill
namespace Go.Proofs.Ytndmakfaleaejaa
open Go.RowKit
/-- a row of whole numbers that a call has made owns its block -/
theorem seqOwn_of_row {w : World} {base : Nat} {v : Value} {xs : List Int} (h : w.ownsRow base 2 1 v xs.length (xs.map fun n => .int .i64 n)) (hx : ∀ x ∈ xs, InI x) : ∃ fs, SeqOwn 1 IntOwn w v xs fs ∧ ∀ b ∈ fs, base ≤ b := by
  obtain ⟨_, ho⟩ := h
  rcases ho with ⟨rfl, hn⟩ | ⟨g, cap, cur, rfl, hg, hh, h1, h2, h3, h4⟩
  · exact ⟨[], ⟨none, 0, by rw [hn], ⟨by omega, by omega⟩, Or.inl ⟨hn, rfl⟩⟩, by simp⟩
  · refine ⟨[g], ⟨_, _, rfl, ⟨Nat.le_trans h1 h2, h1⟩, Or.inr ⟨g, 0, rfl, cur, 2, xs.map fun _ => [], hh, by omega, by simp, by simp, by simp, fun i hi hi' => ⟨[.int .i64 xs[i]], rfl, fun m hm => ?_, rfl, hx _ (List.getElem_mem hi), by simp⟩⟩⟩, by simpa using hg⟩
    obtain rfl : m = 0 := by omega
    have e : (cur.toList.take (xs.length * 1))[i]? = some (.int .i64 xs[i]) := by rw [h4]; simp [hi]
    rw [List.getElem?_take_of_lt (by omega)] at e
    simpa using e
theorem aboveS_len {h : HeapD} (hs : h.small) (b : Int) : (aboveS h b).length ≤ 1048576 := by
  unfold aboveS
  split
  · have := upL_length h h.vNodes.length b; have := hs.1.1; omega
  · simp
theorem seqOwn_none (w : World) : SeqOwn 1 IntOwn w (.slice none 0 0) [] [] := ⟨none, 0, rfl, ⟨by simp, by simp⟩, Or.inl ⟨rfl, rfl⟩⟩
theorem seqOwn_empty (w : World) (T : TypeId) : SeqOwn 1 IntOwn (w.alloc (.cells #[] T)) (.slice (some ⟨w.heap.size, 0, none⟩) 0 0) [] [w.heap.size] :=
  ⟨_, _, rfl, ⟨by simp, by simp⟩, Or.inr ⟨_, _, rfl, #[], T, [], (MapKept.heap_alloc w _).1, by simp, rfl, rfl, by simp, fun i hi => absurd hi (by simp)⟩⟩
set_option maxHeartbeats 1600000 in
theorem specAbove_any {w : World} {lo : Nat} {cs : List Value} {h : HeapD} {b : Int} (hh : HeapAt w lo cs h) :
    Calls Try.prog 8 #[.agg cs.toArray, .int .i64 b] w fun e w' => (∃ v fs, e = .returned v ∧ SeqOwn 1 IntOwn w' v (aboveS h b) fs ∧ ∀ b ∈ fs, w.heap.size ≤ b) ∧ Below w.heap.size w w' := by
  have hh' : Hid (HeapAt w lo cs h) := hh
  obtain ⟨k2, k3, k4, rfl, s2, s3, s4, _⟩ := hh
  obtain ⟨a2, cap2, rfl⟩ := s2.form
  obtain ⟨a3, cap3, rfl⟩ := s3.form
  obtain ⟨a4, cap4, rfl⟩ := s4.form
  clear s2 s3 s4
  have hb1 : Below w.heap.size w (w.alloc (.cells (List.toArray [.int .i64 h.vNext, .int .i64 h.vDoc, .slice a2 h.vNodes.length cap2, .slice a3 h.vObjs.length cap3, .slice a4 h.vGlobals.length cap4]) 34)) := (Below.refl _ _).alloc (Nat.le_refl _) _
  have bH0 : Hid (Box (w.alloc (.cells (List.toArray [.int .i64 h.vNext, .int .i64 h.vDoc, .slice a2 h.vNodes.length cap2, .slice a3 h.vObjs.length cap3, .slice a4 h.vGlobals.length cap4]) 34)) w.heap.size [.int .i64 h.vNext, .int .i64 h.vDoc, .slice a2 h.vNodes.length cap2, .slice a3 h.vObjs.length cap3, .slice a4 h.vGlobals.length cap4] 34) := Box.new w [.int .i64 h.vNext, .int .i64 h.vDoc, .slice a2 h.vNodes.length cap2, .slice a3 h.vObjs.length cap3, .slice a4 h.vGlobals.length cap4] 34
  go_enter Try.func8, Try.ntmps8
  go_wp2_with fail
  refine (specHeapOk_any (HeapAt_stays _ _ _ lo _ _ (.of_below hb1) hh'.out)).mono ?_
  rintro e w1 ⟨rfl, hb2⟩
  have hB2 : Below w.heap.size w w1 := hb1.trans (hb2.mono hb1.size)
  have bH2 := bH0.out.below hb2 bH0.out.lt
  have bH2' : Hid (Box w1 w.heap.size [.int .i64 h.vNext, .int .i64 h.vDoc, .slice a2 h.vNodes.length cap2, .slice a3 h.vObjs.length cap3, .slice a4 h.vGlobals.length cap4] 34) := bH2
  have c0 := bH2.cell 0 rfl
  have c1 := bH2.cell 1 rfl
  have c2 := bH2.cell 2 rfl
  have c3 := bH2.cell 3 rfl
  have c4 := bH2.cell 4 rfl
  clear bH2
  cases hs : specB h
  · have HF : Hid (aboveS h b = []) := by show _ = _; simp [aboveS, hs]
    clear hs
    go_wp2_with fail
    go_ret
    exact ⟨⟨_, _, rfl, by rw [HF.out]; exact seqOwn_empty _ _, fun b q => by simp at q; have := hB2.size; omega⟩, hB2.alloc hB2.size _⟩
  have hs' : Hid (specB h = true) := hs
  clear hs
  go_wp2_with fail
  refine (l2Node_any (HeapAt_stays _ _ _ lo _ _ (.of_below hB2) hh'.out)).mono ?_
  rintro e w2 ⟨rfl, hb3⟩
  have hB3 : Below w.heap.size w w2 := hB2.trans (hb3.mono hB2.size)
  have bH3 := bH2'.out.below hb3 bH2'.out.lt
  clear c0 c1 c2 c3 c4
  have c0 := bH3.cell 0 rfl
  have c1 := bH3.cell 1 rfl
  have c2 := bH3.cell 2 rfl
  have c3 := bH3.cell 3 rfl
  have c4 := bH3.cell 4 rfl
  clear bH3 bH2'
  by_cases ha : idxN h b < 0
  · have HF : Hid (aboveS h b = []) := by
      show _ = _
      have : nodeAt h b = none := by
        have q : (nodeAt h b).isSome = false := by unfold nodeAt; rw [some_of_idx]; exact decide_eq_false (by have : findI NodeD.vId h.vNodes b 0 < 0 := ha; omega)
        simpa using q
      simp [aboveS, upL_none this]
    have ha' : decide (idxN h b < 0) = true := by simpa using ha
    clear ha
    go_wp2_with fail
    go_ret
    exact ⟨⟨_, _, rfl, by rw [HF.out]; exact seqOwn_empty _ _, fun b q => by simp at q; have := hB3.size; omega⟩, hB3.alloc hB3.size _⟩
  have Hb : Hid ((nodeAt h b).isSome = true) := by show _ = _; unfold nodeAt; rw [some_of_idx]; exact decide_eq_true (by have : ¬ findI NodeD.vId h.vNodes b 0 < 0 := ha; omega)
  have ha' : decide (idxN h b < 0) = false := by simpa using ha
  have hI : Hid (∀ x ∈ upL h h.vNodes.length b, InI x) := upL_in hh'.out
  have hz : Hid (nodeAt h 0 = none) := node_zero (spec_impl h ▸ hs'.out)
  have hN : Hid (h.vNodes.length ≤ 16) := (spec_parts hs'.out).1
  have hP : Hid (ParsThere h) := parsThere_of (spec_parts hs'.out).2.1
  have hU : Hid (upF h h.vNodes.length b = true) := by
    obtain ⟨x, hx⟩ := Option.isSome_iff_exists.1 Hb.out
    exact up_ends hs'.out hx
  have HF : Hid (aboveS h b = upL h h.vNodes.length b) := by show _ = _; simp [aboveS, hs'.out]
  clear ha
  go_wp2_with fail
  refine (l2Up_full (HeapAt_stays _ _ _ lo _ _ (.of_below hB3) hh'.out) hN.out hz.out hP.out (fun _ => Hb.out)).mono ?_
  rintro e w3 ⟨hres, hb4⟩
  have hB4 : Below w.heap.size w w3 := hB3.trans (hb4.mono hB3.size)
  rcases hres with ⟨hF, _⟩ | ⟨v, rfl, hown⟩
  · rw [hU.out] at hF; cases hF
  obtain ⟨fs, ho, hl⟩ := seqOwn_of_row hown hI.out
  have hs3 := hB3.size
  have ho' : Hid (SeqOwn 1 IntOwn w3 v (aboveS h b) fs) := by rw [HF.out]; exact ho
  have hl' : Hid (∀ b ∈ fs, w.heap.size ≤ b) := fun b q => by have := hl b q; omega
  obtain ⟨av, capv, rfl⟩ := own_forms hown
  clear hown ho hl
  go_wp2_with fail
  go_ret
  exact ⟨⟨_, fs, rfl, ho'.out, hl'.out⟩, hB4⟩
set_option maxHeartbeats 1600000 in
theorem implAbove_any {w : World} {lo : Nat} {cs : List Value} {h : HeapD} {b : Int} (hh : HeapAt w lo cs h) :
    Calls Try.prog 10 #[.agg cs.toArray, .int .i64 b] w fun e w' => (∃ v fs, e = .returned v ∧ SeqOwn 1 IntOwn w' v (aboveS h b) fs ∧ ∀ b ∈ fs, w.heap.size ≤ b) ∧ Below w.heap.size w w' := by
  have hh' : Hid (HeapAt w lo cs h) := hh
  obtain ⟨k2, k3, k4, rfl, s2, s3, s4, _⟩ := hh
  obtain ⟨a2, cap2, rfl⟩ := s2.form
  obtain ⟨a3, cap3, rfl⟩ := s3.form
  obtain ⟨a4, cap4, rfl⟩ := s4.form
  clear s2 s3 s4
  have hb1 : Below w.heap.size w (w.alloc (.cells (List.toArray [.int .i64 h.vNext, .int .i64 h.vDoc, .slice a2 h.vNodes.length cap2, .slice a3 h.vObjs.length cap3, .slice a4 h.vGlobals.length cap4]) 34)) := (Below.refl _ _).alloc (Nat.le_refl _) _
  have bH0 : Hid (Box (w.alloc (.cells (List.toArray [.int .i64 h.vNext, .int .i64 h.vDoc, .slice a2 h.vNodes.length cap2, .slice a3 h.vObjs.length cap3, .slice a4 h.vGlobals.length cap4]) 34)) w.heap.size [.int .i64 h.vNext, .int .i64 h.vDoc, .slice a2 h.vNodes.length cap2, .slice a3 h.vObjs.length cap3, .slice a4 h.vGlobals.length cap4] 34) := Box.new w [.int .i64 h.vNext, .int .i64 h.vDoc, .slice a2 h.vNodes.length cap2, .slice a3 h.vObjs.length cap3, .slice a4 h.vGlobals.length cap4] 34
  have hI : Hid (∀ x ∈ upL h h.vNodes.length b, InI x) := upL_in hh'.out
  go_enter Try.func10, Try.ntmps10
  go_wp2_with fail
  refine (rightIndex_any hh'.out hb1).mono ?_
  rintro e w1 ⟨hres, hb2⟩
  have hB2 : Below w.heap.size w w1 := hb1.trans (hb2.mono hb1.size)
  rcases hres with ⟨hi, rfl⟩ | ⟨hi, bn, bo, rfl, hix⟩
  · have HF : Hid (aboveS h b = []) := by show _ = _; simp [aboveS, spec_impl, hi]
    clear hi
    go_wp2_with fail
    go_ret
    exact ⟨⟨_, [], rfl, by rw [HF.out]; exact seqOwn_none _, by simp⟩, hB2.alloc hB2.size _⟩
  have HF : Hid (aboveS h b = upL h h.vNodes.length b) := by show _ = _; simp [aboveS, spec_impl, hi]
  have hz : Hid (nodeAt h 0 = none) := node_zero hi
  have hU : Hid (∀ i x, nodeAt h i = some x → upF h h.vNodes.length i = true) := fun i x hx => up_ends (spec_impl h ▸ hi) hx
  have hN : Hid (h.vNodes.length ≤ 16) := (spec_parts (spec_impl h ▸ hi)).1
  have hix' : Hid (MapIn w w1 lo bn h) := hix.1
  have hlt : Hid (bn < w1.heap.size) := by obtain ⟨es, c, q, _⟩ := hix'.out; exact (Array.getElem?_eq_some_iff.1 q).1
  clear hi hix
  have hb3 : Below w1.heap.size w1 (w1.alloc (.cells #[.map (some bn), .map (some bo)] 63)) := (Below.refl _ _).alloc (Nat.le_refl _) _
  have hB3 : Below w.heap.size w (w1.alloc (.cells #[.map (some bn), .map (some bo)] 63)) := hB2.alloc hB2.size _
  go_wp2_with fail
  refine ((callsIn_wide (n := 3)).1 (above_in Fence.wide 3 trivial rfl bn bo b _)).mono ?_
  rintro e w2 ⟨rfl, rfl⟩
  have hM : Hid (MapIn w (((w1.alloc (.cells #[.map (some bn), .map (some bo)] 63)).alloc (.cells #[.map (some bn), .map (some bo)] 63)).alloc (.cells #[.int .i64 b] 2)) lo bn h) := hix'.out.below (((hb3.alloc (by simp) _).alloc (by simp; omega) _)) hlt.out
  have bX : Hid (Box (((w1.alloc (.cells #[.map (some bn), .map (some bo)] 63)).alloc (.cells #[.map (some bn), .map (some bo)] 63)).alloc (.cells #[.int .i64 b] 2)) (w1.heap.size + 1) [.map (some bn), .map (some bo)] 63) := by
    have q := (Box.new (w1.alloc (.cells #[.map (some bn), .map (some bo)] 63)) [.map (some bn), .map (some bo)] 63).alloc (.cells #[.int .i64 b] 2)
    simpa only [World.size_alloc, Hid] using q
  have bI : Hid (Box (((w1.alloc (.cells #[.map (some bn), .map (some bo)] 63)).alloc (.cells #[.map (some bn), .map (some bo)] 63)).alloc (.cells #[.int .i64 b] 2)) (w1.heap.size + 1 + 1) [.int .i64 b] 2) := by
    have q := Box.new ((w1.alloc (.cells #[.map (some bn), .map (some bo)] 63)).alloc (.cells #[.map (some bn), .map (some bo)] 63)) [.int .i64 b] 2
    simpa only [World.size_alloc, Hid] using q
  have hB4 : Below w.heap.size w (((w1.alloc (.cells #[.map (some bn), .map (some bo)] 63)).alloc (.cells #[.map (some bn), .map (some bo)] 63)).alloc (.cells #[.int .i64 b] 2)) := (hB3.alloc (by have := hB2.size; simp; omega) _).alloc (by have := hB2.size; simp; omega) _
  have hU2 : Hid ((upL h h.vNodes.length b).length ≤ 1048576) := by show _ ≤ _; have := upL_length h h.vNodes.length b; have := hN.out; omega
  have hlt2 := hlt.out
  have hs2 := hB4.size
  simp only [World.size_alloc] at hs2
  go_wp2_with fail
  refine ((callsIn_wide (n := 4)).1 (idsOf_in Fence.wide 4 trivial rfl (by omega) 67 _ trivial (enters_of Try.func67 (by kernel_rfl) rfl) _ _ _ hU2.out _ (above_stops Fence.wide 3 trivial rfl (by omega) (w1.heap.size + 1) (w1.heap.size + 1 + 1) _ bn bo lo w _ h b hz.out hU.out bX.out bI.out hM.out (by simp) (by simp; omega) (Nat.le_refl _)))).mono ?_
  rintro e w3 ⟨⟨v, ys, rfl, hS, hown⟩, hb5⟩
  have hB5 : Below w.heap.size w w3 := hB4.trans (hb5.mono hB4.size)
  have hmap : (ys.map fun x => Value.int .i64 x.id) = (aboveS h b).map fun n => .int .i64 n := by rw [HF.out, ← hS]; simp
  have hlen : ys.length = (aboveS h b).length := by rw [HF.out, ← hS]; simp
  rw [hmap, hlen] at hown
  obtain ⟨fs, ho, hl⟩ := seqOwn_of_row hown (by rw [HF.out]; exact hI.out)
  have ho' : Hid (SeqOwn 1 IntOwn w3 v (aboveS h b) fs) := ho
  have hl' : Hid (∀ b ∈ fs, w.heap.size ≤ b) := fun b q => by have := hl b q; simp at this; omega
  obtain ⟨av, capv, rfl⟩ := own_forms hown
  clear hown ho hl hmap hlen hS
  go_wp2_with fail
  go_ret
  exact ⟨⟨_, fs, rfl, ho'.out, hl'.out⟩, hB5⟩
end Go.Proofs.Ytndmakfaleaejaa
