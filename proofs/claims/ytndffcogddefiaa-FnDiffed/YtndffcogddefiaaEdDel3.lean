/- slices.Delete of the kids of a tree that owns its memory. -/
import Derived.Test.YtndffcogddefiaaEdDel2
namespace Go.Proofs.Ytndffcogddefiaa
open Go.RowKit Go.Deep
/-- the kids that are left, and the one that is gone -/
def KidsDel (n : Nat) (w w' : World) (g off cap i : Nat) (kids : List TD) (fs : List Nat) (e : Ending) : Prop :=
  e = .returned (.slice (some ⟨g, off, none⟩) (kids.eraseIdx i).length cap) ∧ Out [g] w w' ∧ ∃ (fs' : List Nat) (cs : List Value) (fi : List Nat), SeqOwn 2 (TreeO n) w' (.slice (some ⟨g, off, none⟩) (kids.eraseIdx i).length cap) (kids.eraseIdx i) fs' ∧ (∀ b ∈ fs', b ∈ fs) ∧ fs'.Nodup ∧
    cs.length = 2 ∧ (∀ m, m < 2 → w.cell? ⟨g, off + i * 2 + m, none⟩ = cs[m]?) ∧ (∃ h : i < kids.length, TreeO n w' cs kids[i] fi) ∧ fi.Nodup ∧ (∀ b ∈ fi, b ∈ fs) ∧ ∀ b ∈ fi, b ∉ fs'
theorem kids_delete {n : Nat} {w : World} {g off cap i : Nat} {kids : List TD} {fs : List Nat} (h : SeqOwn 2 (TreeO n) w (.slice (some ⟨g, off, none⟩) kids.length cap) kids fs) (hi : i < kids.length) :
    Calls Try.prog 76 #[.slice (some ⟨g, off, none⟩) kids.length cap, .int .i64 (i : Int), .int .i64 ((i : Int) + 1)] w fun e w' => KidsDel n w w' g off cap i kids fs e := by
  obtain ⟨a, cap', e, ⟨hm, hcap⟩, hx⟩ := h
  injection e with e1 _ e3
  subst e1 e3
  rcases hx with ⟨h0, _⟩ | ⟨b, o, e, hrow⟩
  · omega
  injection e with e
  injection e with e1 e2
  subst e1 e2
  obtain ⟨T, C, es, hit⟩ := hrow.items
  have hel : es.length = kids.length := by rw [← hit.1, List.length_map]
  have hone : ∀ e ∈ es, ∀ u ∈ e.1, u.oneCell' = true := fun e he u hu => by
    obtain ⟨j, hj, rfl⟩ := List.getElem_of_mem he
    obtain ⟨_, _, q⟩ := hit.2.2.2.2.2 j hj
    obtain ⟨k1, e1, hs, _⟩ := q.opened
    obtain ⟨a2, c2, rfl⟩ := hs.form
    rw [e1] at hu
    simp at hu
    rcases hu with rfl | rfl <;> rfl
  obtain ⟨m, hmm⟩ : ∃ m, kids.length = m + 1 := ⟨kids.length - 1, by omega⟩
  have hd : m = (kids.eraseIdx i).length := by rw [List.length_eraseIdx, if_pos hi]; omega
  refine (delete_any (i := i) hit hone hel hmm hi hcap).mono ?_
  rintro e w' ⟨rfl, vs, hv, rfl⟩
  have hitd : Items 2 (TreeO n) w.drew g off T C es kids fs := by
    obtain ⟨q1, q2, q3, q4, q5, q6⟩ := hit
    exact ⟨q1, q2, q3, q4, q5, fun i hi => ⟨(q6 i hi).1, (q6 i hi).2.1, TreeO_stays n w w.drew _ _ _ (fun x _ => (rfl : w.drew.heap[x]? = w.heap[x]?)) (q6 i hi).2.2⟩⟩
  have hO : Out [g] w.drew (putCells (putCells w.drew g (off + i * 2) ((es.drop (i + 1)).map (·.1)).flatten) g (off + (es.length - 1) * 2) vs) := out_put.trans out_put
  have hi' : i < es.length := by omega
  obtain ⟨C2, c1, c2, c3⟩ := hitd.cut (i := i) hi' hv
  obtain ⟨s1, s2⟩ := hitd.sub (TreeO_stays n) (TreeO_lt n) hm hcap (List.eraseIdx_sublist es i) hO c1 c2 c3
  obtain ⟨g1, g2, g3, g4, g5⟩ := hitd.gone (TreeO_stays n) (TreeO_lt n) hO hi'
  have hmap : (es.eraseIdx i).map (·.2.1) = kids.eraseIdx i := by rw [erase_map, hit.1]
  have hlen : (es.eraseIdx i).length = (kids.eraseIdx i).length := by rw [← hmap, List.length_map]
  have hki : kids[i] = es[i].2.1 := by
    have := hit.1
    subst this
    simp
  rw [hmap, hlen] at s1
  refine ⟨by rw [hd], (Out.of_below (Below.drew (Below.refl _ _))).trans hO, _, es[i].1, es[i].2.2, s1, s2, ?_, g1, fun m hm2 => ?_, ⟨hi, by rw [hki]; exact g2⟩, g3, g4, g5⟩
  · have q := hit.2.2.2.2.1
    have q4 := hit.2.2.2.1
    rw [q4] at q
    rw [List.nodup_cons] at q ⊢
    have hfl : ((es.eraseIdx i).map (·.2.2)).flatten.Sublist (es.map (·.2.2)).flatten := sub_flat ((List.eraseIdx_sublist es i).map _)
    exact ⟨fun z => q.1 (hfl.subset z), hfl.nodup q.2⟩
  · rw [blk_cell hit.2.1]
    exact (hit.2.2.2.2.2 i hi').2.1 m hm2
end Go.Proofs.Ytndffcogddefiaa
