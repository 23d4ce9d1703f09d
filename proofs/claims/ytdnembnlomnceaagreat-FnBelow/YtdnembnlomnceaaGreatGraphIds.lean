/- All Ids of a right heap: no two are one, and who is there. -/
import Derived.Test.YtdnembnlomnceaaGreatThingsNew
import Derived.Test.YtdnembnlomnceaaGreatUpPlain
namespace Go.Proofs.YtdnembnlomnceaaGreat
theorem rs_pair {α : Type} {f : α → Int} {next : Int} : ∀ (xs : List α) (l : Int), rsB f next l xs = true → (xs.map f).Pairwise (fun a b => a < b) := by
 intro xs
 induction xs with
 | nil => intro l _; exact List.Pairwise.nil
 | cons x xs ih =>
  intro l e
  have e' := e
  simp only [rsB, Bool.and_eq_true] at e'
  rw [List.map_cons, List.pairwise_cons]
  refine ⟨fun b hb => ?_, ih _ e'.2⟩
  obtain ⟨y, hy, rfl⟩ := List.mem_map.1 hb
  exact rs_lt xs _ e'.2 y hy
theorem lt_nodup {xs : List Int} (h : xs.Pairwise (fun a b => a < b)) : xs.Nodup := by
 have hp := List.pairwise_iff_getElem.1 h
 refine List.pairwise_iff_getElem.2 fun i j hi hj hij e => ?_
 have := hp i j hi hj hij
 omega
theorem idx_rs {h : HeapD} (e : idxB h = true) : rsB NodeD.vId h.vNext 0 h.vNodes = true ∧ rsB ObjD.vId h.vNext 0 h.vObjs = true ∧ ∀ x ∈ h.vObjs, nodeAt h x.vId = none := by
 simp only [idxB, Bool.and_eq_true] at e
 have e1 := e.1.2
 have e2 := e.2
 rw [idxN_rs] at e1
 rw [idxO_rs, Bool.and_eq_true, List.all_eq_true] at e2
 refine ⟨e1, e2.1, fun x hx => ?_⟩
 have := e2.2 x hx
 simpa using this
theorem idsU_nodup {h : HeapD} (e : idxB h = true) : (idsU h).Nodup := by
 obtain ⟨e1, e2, e3⟩ := idx_rs e
 unfold idsU
 rw [List.nodup_append]
 refine ⟨lt_nodup (rs_pair _ _ e1), lt_nodup (rs_pair _ _ e2), fun a ha b hb hab => ?_⟩
 obtain ⟨x, hx, rfl⟩ := List.mem_map.1 ha
 obtain ⟨y, hy, rfl⟩ := List.mem_map.1 hb
 have q := e3 y hy
 unfold nodeAt at q
 rw [← hab] at q
 exact mem_get _ x hx q
theorem idsD_nodup {h : HeapD} (e : idxB h = true) : (idsD h).Nodup := (List.mergeSort_perm _ _).nodup_iff.2 (idsU_nodup e)
theorem mem_idsD {h : HeapD} {k : Int} : k ∈ idsD h ↔ k ∈ idsU h := (List.mergeSort_perm _ _).mem_iff
theorem mem_idsU {h : HeapD} {k : Int} : k ∈ idsU h ↔ isT h k = true := by
 unfold idsU isT
 rw [List.mem_append, Bool.or_eq_true]
 have one : ∀ {α : Type} (f : α → Int) (xs : List α), k ∈ xs.map f ↔ (getI f xs k).isSome = true := fun f xs => by
  constructor
  · intro q
    obtain ⟨x, hx, rfl⟩ := List.mem_map.1 q
    cases hq : getI f xs (f x) with
    | none => exact absurd hq (mem_get xs x hx)
    | some y => rfl
  · intro q
    obtain ⟨x, hx⟩ := Option.isSome_iff_exists.1 q
    obtain ⟨h1, h2⟩ := get_mem xs x hx
    exact h2 ▸ List.mem_map_of_mem h1
 exact or_congr (one NodeD.vId h.vNodes) (one ObjD.vId h.vObjs)
theorem nodup_inj {α : Type} {xs : List α} (h : xs.Nodup) : ∀ a b, (ha : a < xs.length) → (hb : b < xs.length) → xs[a] = xs[b] → a = b := by
 intro a b ha hb e
 have hp := List.pairwise_iff_getElem.1 h
 rcases Nat.lt_trichotomy a b with q | q | q
 · exact absurd e (hp a b ha hb q)
 · exact q
 · exact absurd e.symm (hp b a hb ha q)
theorem ids_ne_zero {h : HeapD} (e : implB h = true) : ∀ x ∈ idsD h, x ≠ 0 := by
 intro x hx q
 subst q
 have := mem_idsU.1 (mem_idsD.1 hx)
 rw [isT_zero e] at this
 cases this
theorem things_there {h : HeapD} {Ts : List ThD} (hT : Ts.map ThD.id = idsD h) (k : Int) : (getI ThD.id Ts k).isSome = isT h k := by
 cases hq : isT h k with
 | true =>
  have hm : k ∈ Ts.map ThD.id := by rw [hT]; exact mem_idsD.2 (mem_idsU.2 hq)
  obtain ⟨t, ht, rfl⟩ := List.mem_map.1 hm
  cases hr : getI ThD.id Ts t.id with
  | none => exact absurd hr (mem_get Ts t ht)
  | some u => rfl
 | false =>
  cases hr : getI ThD.id Ts k with
  | none => rfl
  | some u =>
   obtain ⟨h1, h2⟩ := get_mem Ts u hr
   have hm : k ∈ idsD h := by rw [← hT, ← h2]; exact List.mem_map_of_mem h1
   have := mem_idsU.1 (mem_idsD.1 hm)
   rw [hq] at this
   cases this
theorem nodes_pos {h : HeapD} (e : specB h = true) : 0 < h.vNodes.length := by
 have := doc_there e
 unfold nodeAt at this
 cases hx : h.vNodes with
 | nil => rw [hx] at this; simp [getI] at this
 | cons a l => simp
theorem objs_most {h : HeapD} (e : specB h = true) : h.vObjs.length ≤ 16 := by
 simp only [specB, Bool.and_eq_true, decide_eq_true_eq] at e
 omega
theorem flat_lenG {α β : Type} {f : α → List β} {B : Nat} : ∀ (xs : List α), (∀ x ∈ xs, (f x).length ≤ B) → (xs.flatMap f).length ≤ xs.length * B := by
 intro xs
 induction xs with
 | nil => intro _; simp
 | cons x xs ih =>
  intro hx
  rw [List.flatMap_cons, List.length_append, List.length_cons, Nat.add_mul, Nat.one_mul]
  have h1 := hx x List.mem_cons_self
  have h2 := ih (fun y hy => hx y (List.mem_cons_of_mem _ hy))
  omega
theorem nzI_len (n : Int) : (nzI n).length ≤ 1 := by unfold nzI; split <;> simp
theorem accN_len {h : HeapD} (hs : h.small) (hN : h.vNodes.length ≤ 16) (j : Nat) : (accN (h.vNodes.take j)).length ≤ 33554432 := by
 have h1 : (accN (h.vNodes.take j)).length ≤ (h.vNodes.take j).length * 1048578 := flat_lenG _ fun x hx => by
  obtain ⟨i, hi, rfl⟩ := List.getElem_of_mem (List.mem_of_mem_take hx)
  obtain ⟨_, hk, _⟩ := hs.1.2 i hi
  have hk' : h.vNodes[i].vKids.length ≤ 1048576 := hk
  have n1 := nzI_len h.vNodes[i].vParent
  have n2 := nzI_len h.vNodes[i].vWrapper
  simp only [List.length_map, edgeN, List.length_append]
  omega
 have h2 : (h.vNodes.take j).length ≤ 16 := by simp; omega
 have := Nat.mul_le_mul_right 1048578 h2
 omega
theorem accO_len {h : HeapD} (hs : h.small) (hN : h.vObjs.length ≤ 16) (j : Nat) : (accO (h.vObjs.take j)).length ≤ 33554432 := by
 have h1 : (accO (h.vObjs.take j)).length ≤ (h.vObjs.take j).length * 1048578 := flat_lenG _ fun x hx => by
  obtain ⟨i, hi, rfl⟩ := List.getElem_of_mem (List.mem_of_mem_take hx)
  obtain ⟨hf, _⟩ := hs.2.1.2 i hi
  have hf' := hf.1
  have n1 := nzI_len h.vObjs[i].vNode
  simp only [List.length_map, edgeO, List.length_append]
  omega
 have h2 : (h.vObjs.take j).length ≤ 16 := by simp; omega
 have := Nat.mul_le_mul_right 1048578 h2
 omega
end Go.Proofs.YtdnembnlomnceaaGreat
