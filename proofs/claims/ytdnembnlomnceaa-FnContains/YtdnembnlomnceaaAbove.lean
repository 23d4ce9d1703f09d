/- Above, of the specification and of the program: walked. -/
import Derived.Test.YtdnembnlomnceaaContains
import Derived.Test.YtdnembnlomnceaaIdsWalks
import Derived.Test.YtdnembnlomnceaaOwnRows
namespace Go.Proofs.Ytdnembnlomnceaa
open Go.RowKit
set_option maxHeartbeats 1600000 in
theorem implAbove_any {w : World} {lo : Nat} {cs : List Value} {h : HeapD} {b : Int} (hh : HeapAt w lo cs h) :
 Calls Try.prog 21 #[.agg cs.toArray, .int .i64 b] w fun e w' => (∃ v fs, e = .returned v ∧ SeqOwn 1 IntOwn w' v (aboveS h b) fs ∧ ∀ b ∈ fs, w.heap.size ≤ b) ∧ Below w.heap.size w w' := by
 have hh' : Hid (HeapAt w lo cs h) := hh
 obtain ⟨k2, k3, k4, rfl, s2, s3, s4, _⟩ := hh
 obtain ⟨a2, cap2, rfl⟩ := s2.form
 obtain ⟨a3, cap3, rfl⟩ := s3.form
 obtain ⟨a4, cap4, rfl⟩ := s4.form
 clear s2 s3 s4
 have hb1 : Below w.heap.size w (w.alloc (.cells (List.toArray [.int .i64 h.vNext, .int .i64 h.vDoc, .slice a2 h.vNodes.length cap2, .slice a3 h.vObjs.length cap3, .slice a4 h.vGlobals.length cap4]) 28)) := (Below.refl _ _).alloc (Nat.le_refl _) _
 have bH0 : Hid (Box (w.alloc (.cells (List.toArray [.int .i64 h.vNext, .int .i64 h.vDoc, .slice a2 h.vNodes.length cap2, .slice a3 h.vObjs.length cap3, .slice a4 h.vGlobals.length cap4]) 28)) w.heap.size [.int .i64 h.vNext, .int .i64 h.vDoc, .slice a2 h.vNodes.length cap2, .slice a3 h.vObjs.length cap3, .slice a4 h.vGlobals.length cap4] 28) := Box.new w [.int .i64 h.vNext, .int .i64 h.vDoc, .slice a2 h.vNodes.length cap2, .slice a3 h.vObjs.length cap3, .slice a4 h.vGlobals.length cap4] 28
 have hI : Hid (∀ x ∈ upL h h.vNodes.length b, InI x) := upL_in hh'.out
 go_enter Try.func21, Try.ntmps21
 go_wp2_with fail
 refine (rightIndex_any hh'.out hb1).mono ?_
 rintro e w1 ⟨hres, hb2⟩
 have hB2 : Below w.heap.size w w1 := hb1.trans (hb2.mono hb1.size)
 rcases hres with ⟨hi, rfl⟩ | ⟨hi, bn, bo, rfl, hix⟩
 · have HF : Hid (aboveS h b = []) := by show _ = _; simp [aboveS, spec_impl, hi]
   clear hi
   go_wp2_with fail
   go_ret
   exact ⟨⟨_, [], rfl, by rw [HF.out]; exact seqOwn_none _, by simp⟩, hB2.alloc hB2.size _⟩
 have HF : Hid (aboveS h b = upL h h.vNodes.length b) := by show _ = _; simp [aboveS, spec_impl, hi]
 have hz : Hid (nodeAt h 0 = none) := node_zero hi
 have hU : Hid (∀ i x, nodeAt h i = some x → upF h h.vNodes.length i = true) := fun i x hx => up_ends (spec_impl h ▸ hi) hx
 have hN : Hid (h.vNodes.length ≤ 16) := (spec_parts (spec_impl h ▸ hi)).1
 have hix' : Hid (MapIn w w1 lo bn h) := hix.1
 have hlt : Hid (bn < w1.heap.size) := by obtain ⟨es, c, q, _⟩ := hix'.out; exact (Array.getElem?_eq_some_iff.1 q).1
 clear hi hix
 have hb3 : Below w1.heap.size w1 (w1.alloc (.cells #[.map (some bn), .map (some bo)] 77)) := (Below.refl _ _).alloc (Nat.le_refl _) _
 have hB3 : Below w.heap.size w (w1.alloc (.cells #[.map (some bn), .map (some bo)] 77)) := hB2.alloc hB2.size _
 go_wp2_with fail
 refine ((callsIn_wide (n := 3)).1 (above_in Fence.wide 3 trivial rfl bn bo b _)).mono ?_
 rintro e w2 ⟨rfl, rfl⟩
 have hM : Hid (MapIn w (((w1.alloc (.cells #[.map (some bn), .map (some bo)] 77)).alloc (.cells #[.map (some bn), .map (some bo)] 77)).alloc (.cells #[.int .i64 b] 2)) lo bn h) := hix'.out.below (((hb3.alloc (by simp) _).alloc (by simp; omega) _)) hlt.out
 have bX : Hid (Box (((w1.alloc (.cells #[.map (some bn), .map (some bo)] 77)).alloc (.cells #[.map (some bn), .map (some bo)] 77)).alloc (.cells #[.int .i64 b] 2)) (w1.heap.size + 1) [.map (some bn), .map (some bo)] 77) := by
  have q := (Box.new (w1.alloc (.cells #[.map (some bn), .map (some bo)] 77)) [.map (some bn), .map (some bo)] 77).alloc (.cells #[.int .i64 b] 2)
  simpa only [World.size_alloc, Hid] using q
 have bI : Hid (Box (((w1.alloc (.cells #[.map (some bn), .map (some bo)] 77)).alloc (.cells #[.map (some bn), .map (some bo)] 77)).alloc (.cells #[.int .i64 b] 2)) (w1.heap.size + 1 + 1) [.int .i64 b] 2) := by
  have q := Box.new ((w1.alloc (.cells #[.map (some bn), .map (some bo)] 77)).alloc (.cells #[.map (some bn), .map (some bo)] 77)) [.int .i64 b] 2
  simpa only [World.size_alloc, Hid] using q
 have hB4 : Below w.heap.size w (((w1.alloc (.cells #[.map (some bn), .map (some bo)] 77)).alloc (.cells #[.map (some bn), .map (some bo)] 77)).alloc (.cells #[.int .i64 b] 2)) := (hB3.alloc (by have := hB2.size; simp; omega) _).alloc (by have := hB2.size; simp; omega) _
 have hU2 : Hid ((upL h h.vNodes.length b).length ≤ 1048576) := by show _ ≤ _; have := upL_length h h.vNodes.length b; have := hN.out; omega
 have hlt2 := hlt.out
 have hs2 := hB4.size
 simp only [World.size_alloc] at hs2
 go_wp2_with fail
 refine ((callsIn_wide (n := 4)).1 (idsOf_in Fence.wide 4 trivial rfl (by omega) 75 _ trivial (enters_of Try.func75 (by kernel_rfl) rfl) _ _ _ hU2.out _ (above_stops Fence.wide 3 trivial rfl (by omega) (w1.heap.size + 1) (w1.heap.size + 1 + 1) _ bn bo lo w _ h b hz.out hU.out bX.out bI.out hM.out (by simp) (by simp; omega) (Nat.le_refl _)))).mono ?_
 rintro e w3 ⟨⟨v, ys, rfl, hS, hown⟩, hb5⟩
 have hB5 : Below w.heap.size w w3 := hB4.trans (hb5.mono hB4.size)
 have hmap : (ys.map fun x => Value.int .i64 x.id) = (aboveS h b).map fun n => .int .i64 n := by rw [HF.out, ← hS]; simp
 have hlen : ys.length = (aboveS h b).length := by rw [HF.out, ← hS]; simp
 rw [hmap, hlen] at hown
 obtain ⟨fs, ho, hl⟩ := seqOwn_of_row hown (by rw [HF.out]; exact hI.out)
 have ho' : Hid (SeqOwn 1 IntOwn w3 v (aboveS h b) fs) := ho
 have hl' : Hid (∀ b ∈ fs, w.heap.size ≤ b) := fun b q => by have := hl b q; simp at this; omega
 obtain ⟨av, capv, rfl⟩ := own_forms hown
 clear hown ho hl hmap hlen hS
 go_wp2_with fail
 go_ret
 exact ⟨⟨_, fs, rfl, ho'.out, hl'.out⟩, hB5⟩
end Go.Proofs.Ytdnembnlomnceaa
