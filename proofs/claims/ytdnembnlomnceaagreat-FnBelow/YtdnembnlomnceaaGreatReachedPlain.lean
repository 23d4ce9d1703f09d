/- What is reached: plain. -/
import Derived.Test.YtdnembnlomnceaaGreatHeldFrom
namespace Go.Proofs.YtdnembnlomnceaaGreat
open Go.RowKit
theorem sortI_rises {xs : List Int} (hn : xs.Nodup) : Rises (sortI xs) ∧ ∀ k, k ∈ sortI xs ↔ k ∈ xs := by
 have hp : (sortI xs).Perm xs := List.mergeSort_perm _ _
 refine ⟨?_, fun k => hp.mem_iff⟩
 have h1 : (sortI xs).Pairwise (fun a b => decide (a ≤ b) = true) := List.pairwise_mergeSort (by intro a b c; simp; omega) (by intro a b; simp; omega) xs
 have h2 : (sortI xs).Nodup := hp.nodup_iff.2 hn
 have p1 := List.pairwise_iff_getElem.1 h1
 have p2 := List.pairwise_iff_getElem.1 h2
 refine List.pairwise_iff_getElem.2 fun i j hi hj hij => ?_
 have q1 := p1 i j hi hj hij
 have q2 := p2 i j hi hj hij
 simp at q1
 omega
theorem from_congr {E E' : Int → List Int} {ids fs : List Int} (h : ∀ x ∈ ids, E x = E' x) (hc : ∀ x ∈ ids, ∀ y ∈ E x, y ∈ ids) (hf : ∀ x ∈ fs, x ∈ ids) {z : Int} : From E fs z → From E' fs z := by
 rintro ⟨x, hx, n, hn⟩
 refine ⟨x, hx, n, ?_⟩
 have hxi := hf x hx
 clear hx
 induction n generalizing x with
 | zero => exact hn
 | succ n ih =>
  obtain ⟨y, q1, q2⟩ := hn
  exact ⟨y, by rw [← h x hxi]; exact q1, ih y q2 (hc x hxi y q1)⟩
theorem accG_len {h : HeapD} (e : specB h = true) (hs : h.small) : (accG h).length ≤ 1099511627 := by
 have h1 := accN_len hs (spec_parts e).1 h.vNodes.length
 have h2 := accO_len hs (objs_most e) h.vObjs.length
 have h3 : h.vGlobals.length ≤ 1048576 := hs.2.2.1.1
 rw [List.take_length] at h1 h2
 simp only [accG, List.length_append, List.length_map, rootsD, List.length_cons]
 omega
/-- who is held from some, as the program tells it, is what is below them -/
theorem held_below {h : HeapD} (e : specB h = true) (hs : h.small) {fs xs : List Int} (hf : ∀ x ∈ fs, x ∈ idsD h) (hn : xs.Nodup) (hx : ∀ k, k ∈ xs ↔ From (holdsC (accG h)) fs k) : sortI xs = belD h fs := by
 obtain ⟨r1, r2⟩ := sortI_rises hn
 obtain ⟨b1, b2⟩ := belD_is e hs hf
 have hE : ∀ x ∈ idsD h, holdsC (accG h) x = edgesS h x := fun x hx => holds_edges (spec_impl h ▸ e) (ids_ne_zero (spec_impl h ▸ e) x hx)
 refine rises_same _ _ r1 b1 fun k => ?_
 rw [r2, hx, b2]
 constructor
 · exact from_congr hE (fun x hx y hy => by rw [hE x hx] at hy; exact edges_there e hx y hy) hf
 · exact from_congr (fun x hx => (hE x hx).symm) (fun x hx => edges_there e hx) hf
theorem reached_in {w : World} {lo : Nat} {cs : List Value} {h : HeapD} (hh : HeapAt w lo cs h) (e : specB h = true) (hs : h.small) {fs : List Int} (hf : ∀ x ∈ fs, x ∈ idsD h) : ∀ x ∈ belD h fs, InI x ∧ x ∈ idsD h := fun x hx => by
 have hx' := (belD_is e hs hf).2 x |>.1 hx
 have : x ∈ idsD h := from_closed (E := edgesS h) (fs := fs) hf (fun y hy => edges_there e hy) x hx'
 exact ⟨idsD_in hh x this, this⟩
theorem belD_len {h : HeapD} (e : specB h = true) (hs : h.small) {fs : List Int} (hf : ∀ x ∈ fs, x ∈ idsD h) : (belD h fs).length ≤ 32 := by
 have h1 := belD_is e hs hf
 have := nodup_len (belD h fs) (idsD h) (lt_nodup h1.1) fun x hx => from_closed (E := edgesS h) (fs := fs) hf (fun y hy => edges_there e hy) x ((h1.2 x).1 hx)
 have := idsD_most e
 omega
end Go.Proofs.YtdnembnlomnceaaGreat
