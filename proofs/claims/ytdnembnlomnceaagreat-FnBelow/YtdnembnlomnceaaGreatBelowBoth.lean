/- Below, of the specification: walked. -/
import Derived.Test.YtdnembnlomnceaaGreatAbb
import Derived.Test.YtdnembnlomnceaaGreatBelowImpl
import Derived.Test.YtdnembnlomnceaaGreatHeapSpec
namespace Go.Proofs.YtdnembnlomnceaaGreat
open Go.RowKit
set_option maxRecDepth 100000 in
set_option maxHeartbeats 3200000 in
theorem specBelow_any {w : World} {lo : Nat} {cs : List Value} {h : HeapD} {k : Value} {ids : List Int} (hh : HeapAt w lo cs h) (hs : h.small) (hk : SeqAt 1 IntAt w lo k ids) (hl : ids.length ≤ 1048576) :
 Calls Tryz.prog 9 #[.agg cs.toArray, k] w fun e w' => (∃ v fs, e = .returned v ∧ SeqOwn 1 IntOwn w' v (belowA h ids) fs ∧ ∀ b ∈ fs, w.heap.size ≤ b) ∧ Below w.heap.size w w' := by
 have hs' : Hid h.small := hs
 have hk' : Hid (SeqAt 1 IntAt w lo k ids) := hk
 clear hs
 have hh' : Hid (HeapAt w lo cs h) := hh
 obtain ⟨k2, k3, k4, rfl, s2, s3, s4, _⟩ := hh
 obtain ⟨a2, cap2, rfl⟩ := s2.form
 obtain ⟨a3, cap3, rfl⟩ := s3.form
 obtain ⟨a4, cap4, rfl⟩ := s4.form
 clear s2 s3 s4
 have hb1 : Below w.heap.size w (w.alloc (.cells (List.toArray (cHp h a2 cap2 a3 cap3 a4 cap4)) 28)) := (Below.refl _ _).alloc (Nat.le_refl _) _
 have bH0 : Hid (Box (w.alloc (.cells (List.toArray (cHp h a2 cap2 a3 cap3 a4 cap4)) 28)) w.heap.size (cHp h a2 cap2 a3 cap3 a4 cap4) 28) := Box.new w (cHp h a2 cap2 a3 cap3 a4 cap4) 28
 obtain ⟨ak, ck, rfl⟩ := hk.form
 clear hk
 go_enter Tryz.func9, Tryz.ntmps9
 go_wp2_with fail
 refine (specHeapOk_any (HeapAt_stays _ _ _ lo _ _ (.of_below hb1) hh'.out)).mono ?_
 rintro e w1 ⟨rfl, hb2⟩
 have hB2 : Below w.heap.size w w1 := hb1.trans (hb2.mono hb1.size)
 have bH2 := bH0.out.below hb2 bH0.out.lt
 have bH2' : Hid (Box w1 w.heap.size (cHp h a2 cap2 a3 cap3 a4 cap4) 28) := bH2
 obtain ⟨c0, c1, c2, c3, c4⟩ := fv5 bH2
 clear bH2
 cases hp : specB h
 · have HF : Hid (belowA h ids = []) := by show _ = _; simp [belowA, hp]
   clear hp
   go_wp2_with fail
   go_ret
   exact ⟨⟨_, _, rfl, by rw [HF.out]; exact seqOwn_empty _ _, fun b q => by simp at q; have := hB2.size; omega⟩, hB2.alloc hB2.size _⟩
 have hp' : Hid (specB h = true) := hp
 clear hp
 go_wp2_with fail
 refine (l6There_any (HeapAt_stays _ _ _ lo _ _ (.of_below hB2) hh'.out) (SeqAt.keep intAt_stays hk'.out (.of_below hB2)) hl).mono ?_
 rintro e w2 ⟨rfl, hb3⟩
 have hB3 : Below w.heap.size w w2 := hB2.trans (hb3.mono hB2.size)
 have bH3 := bH2'.out.below hb3 bH2'.out.lt
 clear c0 c1 c2 c3 c4
 obtain ⟨c0, c1, c2, c3, c4⟩ := fv5 bH3
 clear bH3 bH2'
 cases ht : thereB h ids
 · have HF : Hid (belowA h ids = []) := by show _ = _; simp [belowA, ht]
   clear ht
   go_wp2_with fail
   go_ret
   exact ⟨⟨_, _, rfl, by rw [HF.out]; exact seqOwn_empty _ _, fun b q => by simp at q; have := hB3.size; omega⟩, hB3.alloc hB3.size _⟩
 have hpt : (specB h && thereB h ids) = true := by rw [hp'.out, ht]; rfl
 have HF : Hid (belowA h ids = belD h ids) := by show _ = _; unfold belowA; rw [if_pos hpt]
 obtain ⟨e1, e2, e3⟩ := there_ids hpt
 have e2' : Hid (∀ x ∈ ids, x ∈ idsD h) := e2
 have hI : Hid (∀ x ∈ belD h ids, InI x) := fun x hx => (reached_in hh'.out e1 hs'.out e2 x hx).1
 clear ht hpt e1 e2 e3
 go_wp2_with fail
 refine (l5Below_any (HeapAt_stays _ _ _ lo _ _ (.of_below hB3) hh'.out) hs'.out hp'.out (SeqAt.keep intAt_stays hk'.out (.of_below hB3)) e2'.out (by omega)).mono ?_
 rintro e w4 ⟨⟨v4, rfl, hown4⟩, hb4⟩
 have hB4 : Below w.heap.size w w4 := hB3.trans (hb4.mono hB3.size)
 obtain ⟨fs, ho, hl2⟩ := seqOwn_of_row hown4 hI.out
 have hs3 := hB3.size
 have ho' : Hid (SeqOwn 1 IntOwn w4 v4 (belowA h ids) fs) := by rw [HF.out]; exact ho
 have hl' : Hid (∀ b ∈ fs, w.heap.size ≤ b) := fun b q => by have := hl2 b q; omega
 obtain ⟨a4', c4', rfl⟩ := own_forms hown4
 clear hown4 ho hl2
 go_wp2_with fail
 go_ret
 exact ⟨⟨_, fs, rfl, ho'.out, hl'.out⟩, hB4⟩
end Go.Proofs.YtdnembnlomnceaaGreat
