/- Below, of the program: walked. -/
import Derived.Test.YtoifcfllboeblaaGreatRightBelow
import Derived.Test.YtoifcfllboeblaaGreatOwnRows
namespace Go.Proofs.YtoifcfllboeblaaGreat
open Go.RowKit
def belowA (h : HeapD) (ids : List Int) : List Int := if (specB h && thereB h ids) = true then belD h ids else []
theorem there_ids {h : HeapD} {ids : List Int} (e : (specB h && thereB h ids) = true) : specB h = true ∧ (∀ x ∈ ids, x ∈ idsD h) ∧ ids.length ≤ 100 := by
  simp only [thereB, Bool.and_eq_true, List.all_eq_true, decide_eq_true_eq] at e
  exact ⟨e.1, fun x hx => mem_idsD.2 (mem_idsU.2 (e.2.1 x hx)), e.2.2⟩
theorem belowA_len {h : HeapD} (hs : h.small) (ids : List Int) : (belowA h ids).length ≤ 1048576 := by
  unfold belowA
  split
  · rename_i e
    obtain ⟨e1, e2, _⟩ := there_ids e
    have := belD_len e1 hs e2
    omega
  · simp
set_option maxRecDepth 100000 in
set_option maxHeartbeats 3200000 in
theorem implBelow_any {w : World} {lo : Nat} {cs : List Value} {h : HeapD} {k : Value} {ids : List Int} (hh : HeapAt w lo cs h) (hs : h.small) (hk : SeqAt 1 IntAt w lo k ids) (hl : ids.length ≤ 1048576) :
    Calls Tryz.prog 27 #[.agg cs.toArray, k] w fun e w' => (∃ v fs, e = .returned v ∧ SeqOwn 1 IntOwn w' v (belowA h ids) fs ∧ ∀ b ∈ fs, w.heap.size ≤ b) ∧ Below w.heap.size w w' := by
  have hs' : Hid h.small := hs
  have hk' : Hid (SeqAt 1 IntAt w lo k ids) := hk
  clear hs
  have hh' : Hid (HeapAt w lo cs h) := hh
  obtain ⟨k2, k3, k4, rfl, s2, s3, s4, _⟩ := hh
  obtain ⟨a2, cap2, rfl⟩ := s2.form
  obtain ⟨a3, cap3, rfl⟩ := s3.form
  obtain ⟨a4, cap4, rfl⟩ := s4.form
  clear s2 s3 s4
  have hb1 : Below w.heap.size w (w.alloc (.cells (List.toArray [.int .i64 h.vNext, .int .i64 h.vDoc, .slice a2 h.vNodes.length cap2, .slice a3 h.vObjs.length cap3, .slice a4 h.vGlobals.length cap4]) 34)) := (Below.refl _ _).alloc (Nat.le_refl _) _
  have bH0 : Hid (Box (w.alloc (.cells (List.toArray [.int .i64 h.vNext, .int .i64 h.vDoc, .slice a2 h.vNodes.length cap2, .slice a3 h.vObjs.length cap3, .slice a4 h.vGlobals.length cap4]) 34)) w.heap.size [.int .i64 h.vNext, .int .i64 h.vDoc, .slice a2 h.vNodes.length cap2, .slice a3 h.vObjs.length cap3, .slice a4 h.vGlobals.length cap4] 34) := Box.new w [.int .i64 h.vNext, .int .i64 h.vDoc, .slice a2 h.vNodes.length cap2, .slice a3 h.vObjs.length cap3, .slice a4 h.vGlobals.length cap4] 34
  obtain ⟨ak, ck, rfl⟩ := hk.form
  clear hk
  go_enter Tryz.func27, Tryz.ntmps27
  go_wp2_with fail
  refine (rightBelow_any (HeapAt_stays _ _ _ lo _ _ (.of_below hb1) hh'.out) hs'.out (SeqAt.keep intAt_stays hk'.out (.of_below hb1)) hl).mono ?_
  rintro e w1 ⟨hres, hb2⟩
  have hB2 : Below w.heap.size w w1 := hb1.trans (hb2.mono hb1.size)
  rcases hres with ⟨hp, rfl⟩ | ⟨hp, v, all, o, Ts, rfl, hBA⟩
  · have HF : Hid (belowA h ids = []) := by show _ = _; simp only [belowA, hp]; rfl
    clear hp
    go_wp2_with fail
    go_ret
    exact ⟨⟨_, [], rfl, by rw [HF.out]; exact seqOwn_none _, by simp⟩, hB2⟩
  have HF : Hid (belowA h ids = belD h ids) := by show _ = _; unfold belowA; rw [if_pos hp]
  obtain ⟨e1, e2, _⟩ := there_ids hp
  obtain ⟨_, _, _, ⟨K, base', hG⟩, hown2, hsub2, hnd2, hfrom2⟩ := hBA
  have heq : Hid (sortI (all.map ThD.id) = belD h ids) := held_below e1 hs'.out e2 hnd2 hfrom2
  have hI : Hid (∀ x ∈ belD h ids, InI x) := fun x hx => (reached_in hh'.out e1 hs'.out e2 x hx).1
  have hall : Hid (all.length ≤ 1048576) := by
    show _ ≤ _
    have q := sortI_len (all.map ThD.id)
    rw [heq.out, List.length_map] at q
    have := belD_len e1 hs'.out e2
    omega
  have hbox : Hid (∀ u ∈ all, w1.cell? ⟨u.blk, 0, none⟩ = some (.int .i64 u.id)) := fun u hu => by
    obtain ⟨S2, hS2⟩ := hG
    exact (hS2.1 u (List.mem_cons_of_mem _ (hsub2 u hu))).1.cell 0 rfl
  have hown2' : Hid (w1.ownsRow (w.alloc (.cells (List.toArray [.int .i64 h.vNext, .int .i64 h.vDoc, .slice a2 h.vNodes.length cap2, .slice a3 h.vObjs.length cap3, .slice a4 h.vGlobals.length cap4]) 34)).heap.size 61 1 v all.length (all.map fun t => Value.pointer (some ⟨t.blk, 0, none⟩))) := hown2
  obtain ⟨av2, cv2, rfl⟩ := own_forms hown2
  clear hown2 hsub2 hnd2 hfrom2 hG hp e1 e2
  go_wp2_with fail
  refine (risingIds_any hown2'.out hbox.out (by have := hall.out; omega)).mono ?_
  rintro e w3 ⟨⟨v, rfl, hown⟩, hb5⟩
  have hB5 : Below w.heap.size w w3 := hB2.trans (hb5.mono hB2.size)
  rw [heq.out] at hown
  obtain ⟨fs, ho, hl2⟩ := seqOwn_of_row hown hI.out
  have hs3 := hB2.size
  have ho' : Hid (SeqOwn 1 IntOwn w3 v (belowA h ids) fs) := by rw [HF.out]; exact ho
  have hl' : Hid (∀ b ∈ fs, w.heap.size ≤ b) := fun b q => by have := hl2 b q; omega
  obtain ⟨av, capv, rfl⟩ := own_forms hown
  clear hown ho hl2
  go_wp2_with fail
  go_ret
  exact ⟨⟨_, fs, rfl, ho'.out, hl'.out⟩, hB5⟩
end Go.Proofs.YtoifcfllboeblaaGreat
