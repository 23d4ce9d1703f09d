/- The specification's roots, and what is below some: walked. -/
import Derived.Test.YtdfomaclnopfeaaBelowWalks
import Derived.Test.YtdfomaclnopfeaaEdges
namespace Go.Proofs.Ytdfomaclnopfeaa
open Go.RowKit
theorem row_seq {w : World} {base n : Nat} {v : Value} {xs : List Int} (h : w.ownsRow base 2 1 v n (xs.map fun n => .int .i64 n)) (hI : ∀ x ∈ xs, InI x) : SeqAt 1 IntAt w 0 v xs := by
  have hn : n = xs.length := by have := h.1; simp at this; omega
  subst hn
  rcases h.2 with ⟨rfl, e⟩ | ⟨g, cap, cur, rfl, hg, hh, h1, h2, h3, h4⟩
  · exact ⟨none, 0, by rw [e], ⟨by omega, by omega⟩, fun q => by omega⟩
  · refine ⟨_, _, rfl, ⟨Nat.le_trans h1 h2, h1⟩, fun _ => ⟨g, 0, rfl, Nat.zero_le _, (Array.getElem?_eq_some_iff.1 hh).1, fun i hi => ⟨[.int .i64 xs[i]], rfl, fun m hm => ?_, rfl, hI _ (List.getElem_mem hi)⟩⟩⟩
    obtain rfl : m = 0 := by simpa using hm
    have e : (cur.toList.take (xs.length * 1))[i]? = some (.int .i64 xs[i]) := by rw [h4]; simp [hi]
    rw [List.getElem?_take_of_lt (by omega)] at e
    rw [blk_cell hh]
    simpa using e
def belD (h : HeapD) (fs : List Int) : List Int := bel (edgesS h) (room (idsD h).length 1048578 [] fs) [] fs
theorem belD_def (h : HeapD) (fs : List Int) : belD h fs = bel (edgesS h) (room (idsD h).length 1048578 [] fs) [] fs := by unfold belD; exact Eq.refl _
theorem fuel_ok (h : HeapD) (fs : List Int) (hN : (idsD h).length ≤ 32) (hl : fs.length ≤ 2097152) : ∃ F, belD h fs = bel (edgesS h) F [] fs ∧ room (idsD h).length 1048578 [] fs ≤ F ∧ F ≤ 36700226 := by
  refine ⟨room (idsD h).length 1048578 [] fs, belD_def h fs, Nat.le_refl _, ?_⟩
  unfold room
  simp only [List.length_nil, Nat.sub_zero, Nat.reduceAdd]
  omega
theorem edges_there {h : HeapD} (e : specB h = true) {x : Int} (hx : x ∈ idsD h) : ∀ y ∈ edgesS h x, y ∈ idsD h := fun y hy => by
  rw [← holds_edges (spec_impl h ▸ e) (ids_ne_zero (spec_impl h ▸ e) x hx)] at hy
  exact mem_idsD.2 (mem_idsU.2 (holdsC_there e hy))
theorem edges_most {h : HeapD} (e : specB h = true) (hs : h.small) (x : Int) : (edgesS h x).length ≤ 1048578 := by
  have := edges_len hs x
  unfold edgesD at this
  rwa [if_pos e] at this
theorem idsD_in {w : World} {lo : Nat} {cs : List Value} {h : HeapD} (hh : HeapAt w lo cs h) : ∀ x ∈ idsD h, InI x := by
  obtain ⟨k2, k3, k4, _, s2, s3, _⟩ := hh
  intro x hx
  have hx := mem_idsD.1 hx
  unfold idsU at hx
  rcases List.mem_append.1 hx with q | q
  · obtain ⟨y, hy, rfl⟩ := List.mem_map.1 q
    obtain ⟨cy, g3, g5, _, _, _, rI, _⟩ := seq_recs s2 hy
    exact rI
  · obtain ⟨y, hy, rfl⟩ := List.mem_map.1 q
    obtain ⟨cy, g2, _, _, rI, _⟩ := seq_recs s3 hy
    exact rI
theorem roots_there {h : HeapD} (e : specB h = true) : ∀ x ∈ rootsD h, x ∈ idsD h := fun x hx => by
  have h1 : (0, x) ∈ accG h := by
    unfold accG
    exact List.mem_append_right _ (List.mem_map_of_mem hx)
  exact mem_idsD.2 (mem_idsU.2 (accG_there e _ h1))
theorem idsD_most {h : HeapD} (e : specB h = true) : (idsD h).length ≤ 32 := by
  rw [idsD_len]
  have h1 := (spec_parts e).1
  have h2 := objs_most e
  simp only [idsU, List.length_append, List.length_map]
  omega
/-- what it is: all that is reached, rising -/
theorem belD_is {h : HeapD} (e : specB h = true) (hs : h.small) {fs : List Int} (hf : ∀ x ∈ fs, x ∈ idsD h) : Rises (belD h fs) ∧ ∀ k, k ∈ belD h fs ↔ From (edgesS h) fs k :=
  by rw [belD_def]; exact bel_is (fun _ hx => edges_there e hx) (fun x _ => edges_most e hs x) _ _ _ (Nat.le_refl _) (BelInv.start hf)
end Go.Proofs.Ytdfomaclnopfeaa
