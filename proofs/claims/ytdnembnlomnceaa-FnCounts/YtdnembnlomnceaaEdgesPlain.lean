/- What one holds: both tellings are one; the numbers of a heap fit. -/
import Derived.Test.YtdnembnlomnceaaRightGraph
namespace Go.Proofs.Ytdnembnlomnceaa
open Go.RowKit
theorem pair_inj {α : Type} {f : α → Int} {xs : List α} (h : (xs.map f).Nodup) : ∀ i j, (hi : i < xs.length) → (hj : j < xs.length) → f xs[i] = f xs[j] → i = j := by
 intro i j hi hj e
 exact nodup_inj h i j (by simpa using hi) (by simpa using hj) (by simpa using e)
theorem nodes_inj {h : HeapD} (e : idxB h = true) : ∀ i j, (hi : i < h.vNodes.length) → (hj : j < h.vNodes.length) → h.vNodes[i].vId = h.vNodes[j].vId → i = j := pair_inj (lt_nodup (rs_pair _ _ (idx_rs e).1))
theorem objs_inj {h : HeapD} (e : idxB h = true) : ∀ i j, (hi : i < h.vObjs.length) → (hj : j < h.vObjs.length) → h.vObjs[i].vId = h.vObjs[j].vId → i = j := pair_inj (lt_nodup (rs_pair _ _ (idx_rs e).2.1))
theorem holds_edges {h : HeapD} (e : implB h = true) {id : Int} (h0 : id ≠ 0) : holdsC (accG h) id = edgesS h id := by
 have hi := impl_idx e
 unfold accG
 rw [holdsC_append, holdsC_append, holdsC_other _ (fun q => h0 q.symm), List.append_nil]
 have e1 : holdsC (accN h.vNodes) id = (nodeAt h id).elim [] edgeN := holdsC_flat NodeD.vId edgeN id h.vNodes (nodes_inj hi)
 have e2 : holdsC (accO h.vObjs) id = (objAt h id).elim [] edgeO := holdsC_flat ObjD.vId edgeO id h.vObjs (objs_inj hi)
 rw [e1, e2]
 unfold edgesS
 cases hn : nodeAt h id with
 | none => cases ho : objAt h id with
  | none => rfl
  | some y => rfl
 | some x =>
  cases ho : objAt h id with
  | none => simp
  | some y =>
   obtain ⟨_, q2, q3⟩ := ids_pos hi ho
   have := (idx_rs hi).2.2 y q3
   rw [q2, hn] at this
   cases this
theorem linkA_there {h : HeapD} {p : Int} {ks : List Int} : ∀ a ∈ linkA h p ks, isT h a.2 = true := fun a ha => by
 unfold linkA at ha
 obtain ⟨k, hk, rfl⟩ := List.mem_map.1 ha
 exact (List.mem_filter.1 hk).2
theorem accG_there {h : HeapD} (e : specB h = true) : ∀ a ∈ accG h, isT h a.2 = true := fun a ha => by
 unfold accG accN accO at ha
 rw [List.mem_append, List.mem_append, List.mem_flatMap, List.mem_flatMap] at ha
 rcases ha with (⟨x, hx, ha⟩ | ⟨x, hx, ha⟩) | ha
 · rw [← linkA_node e hx, List.mem_append, List.mem_append] at ha
   rcases ha with (ha | ha) | ha <;> exact linkA_there a ha
 · rw [← linkA_obj e hx, List.mem_append] at ha
   rcases ha with ha | ha <;> exact linkA_there a ha
 · rw [← linkA_root e, List.mem_append] at ha
   rcases ha with ha | ha <;> exact linkA_there a ha
theorem holdsC_there {h : HeapD} (e : specB h = true) {id k : Int} (hk : k ∈ holdsC (accG h) id) : isT h k = true := by
 unfold holdsC at hk
 obtain ⟨a, ha, rfl⟩ := List.mem_map.1 hk
 exact accG_there e a (List.mem_filter.1 ha).1
def thOf (Ts : List ThD) (k : Int) : ThD := (getI ThD.id Ts k).getD ⟨0, 0, 0⟩
theorem thOf_is {Ts : List ThD} {k : Int} (h : (getI ThD.id Ts k).isSome = true) : thOf Ts k ∈ Ts ∧ (thOf Ts k).id = k ∧ ptrOf Ts k = .pointer (some ⟨(thOf Ts k).blk, 0, none⟩) := by
 obtain ⟨t, ht⟩ := Option.isSome_iff_exists.1 h
 obtain ⟨h1, h2⟩ := get_mem Ts t ht
 simp only [thOf, ptrOf, ht, Option.getD_some]
 exact ⟨h1, h2, trivial⟩
theorem things_map {Ts : List ThD} {ks : List Int} (h : ∀ k ∈ ks, (getI ThD.id Ts k).isSome = true) : ks.map (ptrOf Ts) = (ks.map (thOf Ts)).map (fun t => Value.pointer (some ⟨t.blk, 0, none⟩)) ∧ (ks.map (thOf Ts)).map (fun t => Value.int .i64 t.id) = ks.map fun n => Value.int .i64 n := by
 constructor
 · rw [List.map_map]
   exact List.map_congr_left fun k hk => (thOf_is (h k hk)).2.2
 · rw [List.map_map]
   exact List.map_congr_left fun k hk => by show Value.int .i64 (thOf Ts k).id = _; rw [(thOf_is (h k hk)).2.1]
theorem seq_in {w : World} {lo : Nat} {k : Value} {xs : List Int} (h : SeqAt 1 IntAt w lo k xs) : ∀ x ∈ xs, InI x := fun x hx => by
 obtain ⟨i, hi, rfl⟩ := List.getElem_of_mem hx
 obtain ⟨a, cap, _, _, hc⟩ := h
 obtain ⟨b, off, _, _, _, hcc⟩ := hc (by omega)
 obtain ⟨cs, _, _, r⟩ := hcc i hi
 exact r.2
theorem seq_recs {α : Type} {c : Nat} {R : World → Nat → List Value → α → Prop} {w : World} {lo : Nat} {k : Value} {xs : List α} (h : SeqAt c R w lo k xs) {x : α} (hx : x ∈ xs) : ∃ cs, R w lo cs x := by
 obtain ⟨i, hi, rfl⟩ := List.getElem_of_mem hx
 obtain ⟨a, cap, _, _, hc⟩ := h
 obtain ⟨b, off, _, _, _, hcc⟩ := hc (by omega)
 obtain ⟨cs, _, _, r⟩ := hcc i hi
 exact ⟨cs, r⟩
theorem flds_in {w : World} {lo : Nat} {k : Value} {xs : List FieldD} (h : SeqAt 2 FieldAt w lo k xs) : ∀ x ∈ xs.map FieldD.vObj, InI x := fun x hx => by
 obtain ⟨y, hy, rfl⟩ := List.mem_map.1 hx
 obtain ⟨cs, r⟩ := seq_recs h hy
 exact r.2.2.1
theorem nzI_in {n : Int} (h : InI n) : ∀ x ∈ nzI n, InI x := fun x hx => by
 unfold nzI at hx
 split at hx
 · cases hx
 · simp at hx; subst hx; exact h
theorem edges_in {w : World} {lo : Nat} {cs : List Value} {h : HeapD} {id : Int} (hh : HeapAt w lo cs h) : ∀ x ∈ edgesS h id, InI x := by
 obtain ⟨k2, k3, k4, _, s2, s3, s4, _⟩ := hh
 intro x hx
 unfold edgesS at hx
 cases hn : nodeAt h id with
 | some y =>
  rw [hn] at hx
  obtain ⟨cy, g3, g5, _, v3, _, _, _, rP, rW, _⟩ := seq_recs s2 (get_mem _ _ hn).1
  simp only [edgeN, List.mem_append] at hx
  rcases hx with (hx | hx) | hx
  · exact nzI_in rP x hx
  · exact seq_in v3 x hx
  · exact nzI_in rW x hx
 | none =>
  rw [hn] at hx
  cases ho : objAt h id with
  | none => rw [ho] at hx; cases hx
  | some y =>
   rw [ho] at hx
   obtain ⟨cy, g2, _, v2, _, rN, _⟩ := seq_recs s3 (get_mem _ _ ho).1
   simp only [edgeO, List.mem_append] at hx
   rcases hx with hx | hx
   · exact nzI_in rN x hx
   · exact flds_in v2 x hx
theorem edges_len {h : HeapD} (hs : h.small) (id : Int) : (edgesD h id).length ≤ 1048578 := by
 unfold edgesD
 split
 · unfold edgesS
   cases hn : nodeAt h id with
   | some y =>
    obtain ⟨i, hi, rfl⟩ := List.getElem_of_mem (get_mem _ _ hn).1
    obtain ⟨_, hk, _⟩ := hs.1.2 i hi
    have hk' : h.vNodes[i].vKids.length ≤ 1048576 := hk
    have n1 := nzI_len h.vNodes[i].vParent
    have n2 := nzI_len h.vNodes[i].vWrapper
    simp only [edgeN, List.length_append]
    omega
   | none =>
    cases ho : objAt h id with
    | none => simp
    | some y =>
     obtain ⟨i, hi, rfl⟩ := List.getElem_of_mem (get_mem _ _ ho).1
     obtain ⟨hf, _⟩ := hs.2.1.2 i hi
     have hf' := hf.1
     have n1 := nzI_len h.vObjs[i].vNode
     simp only [edgeO, List.length_append, List.length_map]
     omega
 · simp
end Go.Proofs.Ytdnembnlomnceaa
