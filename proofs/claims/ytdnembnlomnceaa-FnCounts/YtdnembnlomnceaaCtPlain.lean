/- All counts together are all that is held; what is reached is held: plain. -/
import Derived.Test.YtdnembnlomnceaaCountWalks
namespace Go.Proofs.Ytdnembnlomnceaa
theorem heldC_pos {p k : Int} : ∀ (acc : List (Int × Int)), k ∈ holdsC acc p → 0 < heldC acc k := by
 intro acc
 induction acc with
 | nil => intro h; simp [holdsC] at h
 | cons a acc ih =>
  intro h
  rw [holdsC_cons] at h
  rw [heldC_cons]
  have h0 := (heldC_le acc k).1
  rcases List.mem_append.1 h with q | q
  · by_cases e : a.1 = p
    · rw [if_pos e] at q
      rw [if_pos (List.mem_singleton.1 q).symm]
      omega
    · rw [if_neg e] at q; cases q
  · have := ih q
    split <;> omega
theorem from_lastC {E : Int → List Int} {fs : List Int} {x : Int} (h : From E fs x) : x ∈ fs ∨ ∃ k, From E fs k ∧ x ∈ E k := by
 obtain ⟨r, hr, n, hn⟩ := h
 have key : ∀ (n : Nat) (r : Int), From E fs r → RTn E n r x → x = r ∨ ∃ k, From E fs k ∧ x ∈ E k := by
  intro n
  induction n with
  | zero => intro r _ h; exact Or.inl h.symm
  | succ n ih =>
   rintro r ⟨u, hu, hU⟩ ⟨y, hy, h⟩
   rcases ih y ⟨u, hu, hU.snoc hy⟩ h with e | e
   · exact Or.inr ⟨r, ⟨u, hu, hU⟩, e ▸ hy⟩
   · exact Or.inr e
 rcases key n r ⟨r, hr, RT.refl E r⟩ hn with e | e
 · exact Or.inl (e ▸ hr)
 · exact Or.inr e
theorem reach_held {h : HeapD} (e : specB h = true) (hs : h.small) {k : Int} (hk : hasB (reachedD h) k = true) : heldC (accG h) k ≠ 0 := by
 have e2 : implB h = true := spec_impl h ▸ e
 have hk' := (hasB_iff _ _).1 hk
 unfold reachedD at hk'
 rw [if_pos e] at hk'
 have key : ∃ p, k ∈ holdsC (accG h) p := by
  rcases from_lastC (((belD_is e hs (roots_there e)).2 k).1 hk') with q | ⟨p, h1, h2⟩
  · exact ⟨0, by rw [holds_roots e2]; exact q⟩
  · have hp : p ∈ idsD h := from_closed (E := edgesS h) (fs := rootsD h) (roots_there e) (fun y hy => edges_there e hy) p h1
    exact ⟨p, by rw [holds_edges e2 (ids_ne_zero e2 p hp)]; exact h2⟩
 obtain ⟨p, hp⟩ := key
 have := heldC_pos _ hp
 omega
theorem sum_zero {α : Type} {f : α → Int} : ∀ (l : List α), (∀ x ∈ l, f x = 0) → (l.map f).sum = 0 := by
 intro l
 induction l with
 | nil => intro _; rfl
 | cons x l ih => intro h; rw [List.map_cons, List.sum_cons, h x List.mem_cons_self, ih fun y hy => h y (List.mem_cons_of_mem _ hy)]; rfl
theorem sum_plus {α : Type} {f g : α → Int} : ∀ (l : List α), (l.map fun x => f x + g x).sum = (l.map f).sum + (l.map g).sum := by
 intro l
 induction l with
 | nil => rfl
 | cons x l ih => rw [List.map_cons, List.sum_cons, ih, List.map_cons, List.sum_cons, List.map_cons, List.sum_cons]; omega
theorem sum_one {a : Int} : ∀ (l : List Int), l.Nodup → a ∈ l → (l.map fun k => if a = k then (1 : Int) else 0).sum = 1 := by
 intro l
 induction l with
 | nil => intro _ h; cases h
 | cons x l ih =>
  intro hn ha
  obtain ⟨h1, h2⟩ := List.nodup_cons.1 hn
  rw [List.map_cons, List.sum_cons]
  by_cases e : a = x
  · subst e
    rw [if_pos rfl, sum_zero l fun y hy => if_neg fun q : a = y => h1 (by rw [q]; exact hy)]
    rfl
  · rw [if_neg e, ih h2 ((List.mem_cons.1 ha).resolve_left e)]
    rfl
theorem cnt_sum {ids : List Int} (hn : ids.Nodup) : ∀ (L : List Int), (∀ x ∈ L, x ∈ ids) → (ids.map fun k => ((cntE L k : Nat) : Int)).sum = (L.length : Int) := by
 intro L
 induction L with
 | nil => intro _; exact sum_zero _ fun _ _ => rfl
 | cons a L ih =>
  intro h
  have e1 : (fun k => ((cntE (a :: L) k : Nat) : Int)) = fun k => (if a = k then (1 : Int) else 0) + ((cntE L k : Nat) : Int) := by
   funext k
   have := cntE_append [a] L k
   rw [cntE_one] at this
   have e2 : [a] ++ L = a :: L := rfl
   rw [e2] at this
   rw [this]
   split <;> simp
  rw [e1, sum_plus, sum_one _ hn (h a List.mem_cons_self), ih fun x hx => h x (List.mem_cons_of_mem _ hx), List.length_cons]
  omega
theorem flat_sum {f : Int → List Int} : ∀ (l : List Int), ((l.flatMap f).length : Int) = (l.map fun x => ((f x).length : Int)).sum := by
 intro l
 induction l with
 | nil => rfl
 | cons x l ih => rw [List.flatMap_cons, List.length_append, List.map_cons, List.sum_cons, ← ih]; omega
/-- the sums on their way -/
def sumN (D : List CountD) (j : Nat) : Int := ((D.take j).map CountD.vN).sum
def sumE (h : HeapD) (D : List CountD) (j : Nat) : Int := 1 + (h.vGlobals.length : Int) + ((D.take j).map fun c => ((edgesD h c.vId).length : Int)).sum
theorem sumN_zero (D : List CountD) : sumN D 0 = 0 := by simp [sumN]
theorem sumE_zero (h : HeapD) (D : List CountD) : sumE h D 0 = 1 + (h.vGlobals.length : Int) := by simp [sumE]
theorem sumN_succ {D : List CountD} {j : Nat} (hj : j < D.length) : sumN D (j + 1) = sumN D j + D[j].vN := by
 unfold sumN; rw [List.take_succ_eq_append_getElem hj, List.map_append, List.sum_append]; simp
theorem sumE_succ {h : HeapD} {D : List CountD} {j : Nat} (hj : j < D.length) : sumE h D (j + 1) = sumE h D j + ((edgesD h D[j].vId).length : Int) := by
 unfold sumE; rw [List.take_succ_eq_append_getElem hj, List.map_append, List.sum_append]; simp; omega
theorem sum_total {h : HeapD} (e : specB h = true) : sumN (countsD h) (countsD h).length = sumE h (countsD h) (countsD h).length := by
 have ec : countsD h = countD h := by unfold countsD; rw [if_pos e]
 have e2 : implB h = true := spec_impl h ▸ e
 rw [ec]
 unfold sumN sumE
 rw [List.take_length]
 have h1 : ((countD h).map CountD.vN).sum = ((idsD h).map fun k => ((cntE (heldL h (idsD h).length) k : Nat) : Int)).sum := by
  unfold countD
  rw [List.map_map]
  congr 1
  exact List.map_congr_left fun k _ => (heldL_full e k).symm
 have h2 : ((countD h).map fun c => ((edgesD h c.vId).length : Int)).sum = (((idsD h).flatMap (edgesS h)).length : Int) := by
  unfold countD
  rw [List.map_map, flat_sum]
  congr 1
  exact List.map_congr_left fun k _ => by show (((edgesD h k).length : Nat) : Int) = _; unfold edgesD; rw [if_pos e]
 rw [h1, h2, cnt_sum (idsD_nodup (impl_idx e2)) _ (heldL_in e _)]
 unfold heldL
 rw [List.take_length, List.length_append]
 simp only [rootsD, List.length_cons, List.length_map]
 omega
theorem sum_le {α : Type} {f : α → Int} {B : Int} : ∀ (l : List α), (∀ x ∈ l, 0 ≤ f x ∧ f x ≤ B) → 0 ≤ (l.map f).sum ∧ (l.map f).sum ≤ (l.length : Int) * B := by
 intro l
 induction l with
 | nil => intro _; simp
 | cons x l ih =>
  intro h
  obtain ⟨a, b⟩ := h x List.mem_cons_self
  obtain ⟨c, d⟩ := ih fun y hy => h y (List.mem_cons_of_mem _ hy)
  rw [List.map_cons, List.sum_cons, List.length_cons]
  have : (((l.length + 1 : Nat)) : Int) * B = (l.length : Int) * B + B := by push_cast; rw [Int.add_mul, Int.one_mul]
  omega
theorem counts_len {h : HeapD} : (countsD h).length ≤ 32 := by
 unfold countsD
 split
 · rename_i e
   have := idsD_most e
   simpa [countD] using this
 · simp
theorem counts_is {h : HeapD} {x : CountD} (hx : x ∈ countsD h) : specB h = true ∧ x.vN = heldC (accG h) x.vId := by
 unfold countsD at hx
 split at hx
 · rename_i e
   obtain ⟨k, _, rfl⟩ := List.mem_map.1 hx
   exact ⟨e, rfl⟩
 · cases hx
theorem sumN_le {h : HeapD} (hs : h.small) (j : Nat) : 0 ≤ sumN (countsD h) j ∧ sumN (countsD h) j ≤ 35184372064 := by
 have h1 := sum_le (f := CountD.vN) (B := 1099511627) ((countsD h).take j) fun x hx => by
  obtain ⟨e, q⟩ := counts_is (List.mem_of_mem_take hx)
  rw [q]
  have h1 := heldC_le (accG h) x.vId
  have h2 := accG_len e hs
  exact ⟨h1.1, by have := h1.2; omega⟩
 have h2 : ((countsD h).take j).length ≤ 32 := by have := counts_len (h := h); rw [List.length_take]; omega
 unfold sumN
 omega
theorem sumE_le {h : HeapD} (hs : h.small) (j : Nat) : 0 ≤ sumE h (countsD h) j ∧ sumE h (countsD h) j ≤ 35184372064 := by
 have h1 := sum_le (f := fun c : CountD => ((edgesD h c.vId).length : Int)) (B := 1048578) ((countsD h).take j) fun x hx => by
  obtain ⟨e, q⟩ := counts_is (List.mem_of_mem_take hx)
  have h2 := edges_most e hs x.vId
  have e2 : edgesD h x.vId = edgesS h x.vId := by unfold edgesD; rw [if_pos e]
  rw [e2]
  exact ⟨by omega, by omega⟩
 have h2 : ((countsD h).take j).length ≤ 32 := by have := counts_len (h := h); rw [List.length_take]; omega
 have h3 : h.vGlobals.length ≤ 1048576 := hs.2.2.1.1
 unfold sumE
 omega
theorem counts_held {h : HeapD} (hs : h.small) {i : Nat} (hi : i < (countsD h).length) (hk : hasB (reachedD h) (countsD h)[i].vId = true) : (countsD h)[i].vN ≠ 0 := by
 obtain ⟨e, q⟩ := counts_is (List.getElem_mem hi)
 rw [q]
 exact reach_held e hs hk
end Go.Proofs.Ytdnembnlomnceaa
