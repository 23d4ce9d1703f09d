/- EdgesOf, of the specification and of the program: walked. -/
import Derived.Test.YtdnembnlomnceaaAbb
import Derived.Test.YtdnembnlomnceaaEdges
import Derived.Test.YtdnembnlomnceaaEdgesPlain
import Derived.Test.YtdnembnlomnceaaHeapSpec
import Derived.Test.YtdnembnlomnceaaOwnRows
namespace Go.Proofs.Ytdnembnlomnceaa
open Go.RowKit
set_option maxHeartbeats 1600000 in
theorem implEdgesOf_any {w : World} {lo : Nat} {cs : List Value} {h : HeapD} {b : Int} (hh : HeapAt w lo cs h) (hs : h.small) :
 Calls Try.prog 27 #[.agg cs.toArray, .int .i64 b] w fun e w' => (∃ v fs, e = .returned v ∧ SeqOwn 1 IntOwn w' v (edgesD h b) fs ∧ ∀ b ∈ fs, w.heap.size ≤ b) ∧ Below w.heap.size w w' := by
 have hh' : Hid (HeapAt w lo cs h) := hh
 have hs' : Hid h.small := hs
 obtain ⟨k2, k3, k4, rfl, s2, s3, s4, _⟩ := hh
 obtain ⟨a2, cap2, rfl⟩ := s2.form
 obtain ⟨a3, cap3, rfl⟩ := s3.form
 obtain ⟨a4, cap4, rfl⟩ := s4.form
 clear s2 s3 s4 hs
 have hb1 : Below w.heap.size w (w.alloc (.cells (List.toArray (cHp h a2 cap2 a3 cap3 a4 cap4)) 28)) := (Below.refl _ _).alloc (Nat.le_refl _) _
 have bH0 : Hid (Box (w.alloc (.cells (List.toArray (cHp h a2 cap2 a3 cap3 a4 cap4)) 28)) w.heap.size (cHp h a2 cap2 a3 cap3 a4 cap4) 28) := Box.new w (cHp h a2 cap2 a3 cap3 a4 cap4) 28
 have hI : Hid (∀ x ∈ edgesS h b, InI x) := edges_in hh'.out
 have hEl : Hid _ := edges_len hs'.out b
 go_enter Try.func27, Try.ntmps27
 go_wp2_with fail
 refine (rightGraph_any hh'.out hb1 hs'.out).mono ?_
 rintro e w1 ⟨hres, hb2⟩
 have hB2 : Below w.heap.size w w1 := hb1.trans (hb2.mono hb1.size)
 have hz1 : w.heap.size + 1 ≤ w1.heap.size := by have := hb2.size; simpa using this
 rcases hres with ⟨hp, rfl⟩ | ⟨hp, o, Ts, bm, g, cap, rfl, hg⟩
 · have HF : Hid (edgesD h b = []) := by show _ = _; simp [edgesD, hp]
   clear hp
   go_wp2_with fail
   go_ret
   exact ⟨⟨_, [], rfl, by rw [HF.out]; exact seqOwn_none _, by simp⟩, hB2.alloc hB2.size _⟩
 obtain ⟨ho0, ⟨hids, hpl⟩, hap, hG, hM, hrow, hbm⟩ := hg
 have HF : Hid (edgesD h b = edgesS h b) := by show _ = _; simp [edgesD, hp]
 have hp' : Hid (specB h = true) := hp
 have hT : Hid (∀ k, (getI ThD.id Ts k).isSome = isT h k) := things_there hids
 have hb3 : Below w1.heap.size w1 (w1.alloc (.cells #[.slice (some ⟨g, 0, none⟩) (idsD h).length cap, .map (some bm), .pointer (some ⟨o.blk, 0, none⟩)] 95)) := (Below.refl _ _).alloc (Nat.le_refl _) _
 have hB3 : Below w.heap.size w (w1.alloc (.cells #[.slice (some ⟨g, 0, none⟩) (idsD h).length cap, .map (some bm), .pointer (some ⟨o.blk, 0, none⟩)] 95)) := hB2.alloc hB2.size _
 have bG := Box.new w1 (Array.toList #[.slice (some ⟨g, 0, none⟩) (idsD h).length cap, .map (some bm), .pointer (some ⟨o.blk, 0, none⟩)]) 95
 have c1 : (w1.alloc (.cells #[.slice (some ⟨g, 0, none⟩) (idsD h).length cap, .map (some bm), .pointer (some ⟨o.blk, 0, none⟩)] 95)).cell? ⟨w1.heap.size, 1, none⟩ = some (.map (some bm)) := bG.cell 1 rfl
 have hG' : Hid _ := hG.below hb3
 have hap' : Hid (Apart (o :: Ts)) := hap
 clear bG hp hap hpl hrow ho0 hids
 rcases run_lookP (hM.keep (hb3.block bm hM.lt)) Try.underlying92 zeroPtr b with ⟨hq, hlook⟩ | ⟨t, hq, hlook⟩
 · have HF2 : Hid (edgesD h b = []) := by
    show _ = _
    have q := (hT.out b).symm
    rw [hq] at q
    simp only [isT, Option.isSome_none, Bool.or_eq_false_iff] at q
    have q1 : nodeAt h b = none := by simpa using q.1
    have q2 : objAt h b = none := by simpa using q.2
    rw [HF.out, edgesS, q1, q2]
   clear hq hM hG
   go_wp2_with fail
   go_ret
   exact ⟨⟨_, [], rfl, by rw [HF2.out]; exact seqOwn_none _, by simp⟩, hB3⟩
 obtain ⟨htm, htid⟩ := get_mem Ts t hq
 have hb0 : b ≠ 0 := fun q => by
  have q1 := hT.out b
  rw [hq, q, isT_zero (spec_impl h ▸ hp'.out)] at q1
  cases q1
 have hE : Hid (holdsC (accG h) t.id = edgesS h b) := by show _ = _; rw [htid]; exact holds_edges (spec_impl h ▸ hp'.out) hb0
 obtain ⟨S, hS⟩ := hG'.out
 obtain ⟨hp1, hp2, _⟩ := hS.1 t (List.mem_cons_of_mem _ htm)
 have c2 := hp1.cell 2 rfl
 obtain ⟨aS, capS, hform⟩ := own_forms hp2
 have hks : ∀ k ∈ holdsC (accG h) t.id, (getI ThD.id Ts k).isSome = true := fun k hk => (hT.out k).trans (holdsC_there hp'.out hk)
 obtain ⟨m1, m2⟩ := things_map hks
 have hrow2 : Hid ((w1.alloc (.cells #[.slice (some ⟨g, 0, none⟩) (idsD h).length cap, .map (some bm), .pointer (some ⟨o.blk, 0, none⟩)] 95)).ownsRow (w.alloc (.cells (List.toArray (cHp h a2 cap2 a3 cap3 a4 cap4)) 28)).heap.size 93 1 (S t.id) ((holdsC (accG h) t.id).map (thOf Ts)).length (((holdsC (accG h) t.id).map (thOf Ts)).map fun t => .pointer (some ⟨t.blk, 0, none⟩))) := by rw [← m1, List.length_map]; exact hp2
 have hbox : Hid (∀ u ∈ (holdsC (accG h) t.id).map (thOf Ts), (w1.alloc (.cells #[.slice (some ⟨g, 0, none⟩) (idsD h).length cap, .map (some bm), .pointer (some ⟨o.blk, 0, none⟩)] 95)).cell? ⟨u.blk, 0, none⟩ = some (.int .i64 u.id)) := fun u hu => by
  obtain ⟨k, hk, rfl⟩ := List.mem_map.1 hu
  exact (hS.1 _ (List.mem_cons_of_mem _ (thOf_is (hks k hk)).1)).1.cell 0 rfl
 have hm2 : Hid (((holdsC (accG h) t.id).map (thOf Ts)).map (fun t => Value.int .i64 t.id) = (edgesS h b).map fun n => Value.int .i64 n) := by show _ = _; rw [m2, hE.out]
 have hlen : Hid (((holdsC (accG h) t.id).map (thOf Ts)).length = (edgesS h b).length) := by show _ = _; rw [List.length_map, hE.out]
 rw [hform] at c2
 have hform' : Hid (S t.id = .slice aS (holdsC (accG h) t.id).length capS) := hform
 clear hq hM hG hp1 hp2 hform hks m1 m2 htm htid hS hb0
 go_wp2_with fail
 rw [← hform'.out]
 refine (thingIds_any hrow2.out hbox.out (by rw [hlen.out, ← HF.out]; have := hEl.out; omega)).mono ?_
 rintro e w3 ⟨⟨v, rfl, hown⟩, hb4⟩
 have hB4 : Below w.heap.size w w3 := hB3.trans (hb4.mono hB3.size)
 rw [hm2.out, hlen.out] at hown
 obtain ⟨fs, ho, hl⟩ := seqOwn_of_row hown hI.out
 have hs3 := hB3.size
 have ho' : Hid (SeqOwn 1 IntOwn w3 v (edgesD h b) fs) := by rw [HF.out]; exact ho
 have hl' : Hid (∀ b ∈ fs, w.heap.size ≤ b) := fun b q => by have := hl b q; omega
 obtain ⟨av, capv, rfl⟩ := own_forms hown
 clear hown ho hl
 go_wp2_with fail
 go_ret
 exact ⟨⟨_, fs, rfl, ho'.out, hl'.out⟩, hB4⟩
end Go.Proofs.Ytdnembnlomnceaa
