/- What the things of a heap hold: plain facts, no memory. -/
import Derived.Test.YtdfomaclnopfeaaHeapEq
import Derived.Test.YtdfomaclnopfeaaHeapHeld
import Derived.Test.YtdfomaclnopfeaaUpPlain
namespace Go.Proofs.Ytdfomaclnopfeaa
def nzI (n : Int) : List Int := if n = 0 then [] else [n]
def edgeN (x : NodeD) : List Int := nzI x.vParent ++ x.vKids ++ nzI x.vWrapper
def edgeO (x : ObjD) : List Int := nzI x.vNode ++ x.vFields.map FieldD.vObj
def edgesS (h : HeapD) (id : Int) : List Int :=
  match nodeAt h id with
  | some x => edgeN x
  | none => match objAt h id with
    | some o => edgeO o
    | none => []
/-- what EdgesOf tells -/
def edgesD (h : HeapD) (id : Int) : List Int := if specB h then edgesS h id else []
def rootsD (h : HeapD) : List Int := h.vDoc :: h.vGlobals.map FieldD.vObj
/-- is it one of the heap's? -/
def isT (h : HeapD) (id : Int) : Bool := (nodeAt h id).isSome || (objAt h id).isSome
theorem isT_zero {h : HeapD} (e : implB h = true) : isT h 0 = false := by
  simp [isT, node_zero e, obj_zero (impl_idx e)]
theorem nz_filter {h : HeapD} (e : implB h = true) {n : Int} (hn : n ≠ 0 → isT h n = true) : [n].filter (isT h) = nzI n := by
  by_cases q : n = 0
  · subst q; simp [isT_zero e, nzI]
  · simp [hn q, nzI, q]
theorem kidsF_in {h : HeapD} {id : Int} : ∀ (ks pre : List Int), kidsF h id pre ks = true → ∀ k ∈ ks, (nodeAt h k).isSome = true := by
  intro ks
  induction ks with
  | nil => intro pre _ k hk; cases hk
  | cons a ks ih =>
    intro pre e k hk
    simp only [kidsF, Bool.and_eq_true] at e
    rcases List.mem_cons.1 hk with rfl | hk
    · have := e.1
      unfold kidB at this
      cases hq : nodeAt h k with
      | none => rw [hq] at this; cases this
      | some n => rfl
    · exact ih _ e.2 k hk
theorem nodes_right {h : HeapD} (e : specB h = true) {x : NodeD} (hx : x ∈ h.vNodes) : nodeB h x = true := by
  obtain ⟨i, hi, rfl⟩ := List.getElem_of_mem hx
  exact nodesF_all (spec_parts e).2.1 i hi
theorem node_kids {h : HeapD} (e : specB h = true) {x : NodeD} (hx : x ∈ h.vNodes) : x.vKids.filter (isT h) = x.vKids := by
  have hn := nodes_right e hx
  simp only [nodeB, Bool.and_eq_true] at hn
  refine List.filter_eq_self.2 fun k hk => ?_
  simp [isT, kidsF_in _ _ hn.1.1.2 k hk]
theorem node_par {h : HeapD} (e : specB h = true) {x : NodeD} (hx : x ∈ h.vNodes) : [x.vParent].filter (isT h) = nzI x.vParent := by
  refine nz_filter (spec_impl h ▸ e) fun hne => ?_
  have hn := nodes_right e hx
  simp only [nodeB, Bool.and_eq_true] at hn
  have hp := hn.1.2
  unfold parB at hp
  rw [if_neg hne] at hp
  cases hq : nodeAt h x.vParent with
  | none => rw [hq] at hp; cases hp
  | some n => simp [isT, hq]
theorem node_wrap {h : HeapD} (e : specB h = true) {x : NodeD} (hx : x ∈ h.vNodes) : [x.vWrapper].filter (isT h) = nzI x.vWrapper := by
  refine nz_filter (spec_impl h ▸ e) fun hne => ?_
  have hn := nodes_right e hx
  simp only [nodeB, Bool.and_eq_true] at hn
  have hp := hn.2
  unfold wrapB at hp
  rw [if_neg hne] at hp
  cases hq : objAt h x.vWrapper with
  | none => rw [hq] at hp; cases hp
  | some n => simp [isT, hq]
theorem objs_right {h : HeapD} (e : specB h = true) {x : ObjD} (hx : x ∈ h.vObjs) : objI h x = true := by
  have q := (impl_parts (spec_impl h ▸ e)).2.1
  rw [objsI_all, List.all_eq_true] at q
  exact q x hx
theorem obj_node {h : HeapD} (e : specB h = true) {x : ObjD} (hx : x ∈ h.vObjs) : [x.vNode].filter (isT h) = nzI x.vNode := by
  refine nz_filter (spec_impl h ▸ e) fun hne => ?_
  have hn := objs_right e hx
  simp only [objI, Bool.and_eq_true] at hn
  have hp := hn.1
  unfold oNodeB at hp
  rw [if_neg hne] at hp
  cases hq : nodeAt h x.vNode with
  | none => rw [hq] at hp; cases hp
  | some n => simp [isT, hq]
theorem fldsI_in {h : HeapD} : ∀ (xs : List FieldD) (l : ByteArray), fldsI h l xs = true → ∀ x ∈ xs, (objAt h x.vObj).isSome = true := by
  intro xs
  induction xs with
  | nil => intro l _ x hx; cases hx
  | cons a xs ih =>
    intro l e x hx
    simp only [fldsI, Bool.and_eq_true] at e
    rcases List.mem_cons.1 hx with rfl | hx
    · exact e.1.1.1
    · exact ih _ e.2 x hx
theorem obj_flds {h : HeapD} (e : specB h = true) {x : ObjD} (hx : x ∈ h.vObjs) : ∀ y ∈ x.vFields, isT h y.vObj = true := by
  have hn := objs_right e hx
  simp only [objI, fieldsI, Bool.and_eq_true] at hn
  intro y hy
  simp [isT, fldsI_in _ _ hn.2.2 y hy]
theorem glob_flds {h : HeapD} (e : specB h = true) : ∀ y ∈ h.vGlobals, isT h y.vObj = true := by
  have hn := (impl_parts (spec_impl h ▸ e)).2.2
  simp only [fieldsI, Bool.and_eq_true] at hn
  intro y hy
  simp [isT, fldsI_in _ _ hn.2 y hy]
theorem doc_there {h : HeapD} (e : specB h = true) : (nodeAt h h.vDoc).isSome = true := by
  simp only [specB, Bool.and_eq_true] at e
  have hd := e.2
  unfold docB at hd
  cases hq : nodeAt h h.vDoc with
  | none => rw [hq] at hd; cases hd
  | some n => rfl
/-! ### who holds whom, one by one -/
def holdsC (acc : List (Int × Int)) (p : Int) : List Int := (acc.filter fun a => decide (a.1 = p)).map Prod.snd
def heldC (acc : List (Int × Int)) (k : Int) : Int := ((acc.filter fun a => decide (a.2 = k)).length : Nat)
theorem holdsC_snoc (acc : List (Int × Int)) (p k q : Int) : holdsC (acc ++ [(p, k)]) q = if p = q then holdsC acc q ++ [k] else holdsC acc q := by
  unfold holdsC
  by_cases e : p = q <;> simp [List.filter_append, e]
theorem heldC_snoc (acc : List (Int × Int)) (p k q : Int) : heldC (acc ++ [(p, k)]) q = if k = q then heldC acc q + 1 else heldC acc q := by
  unfold heldC
  by_cases e : k = q <;> simp [List.filter_append, e]
theorem holdsC_len (acc : List (Int × Int)) (p : Int) : (holdsC acc p).length ≤ acc.length := by
  unfold holdsC; rw [List.length_map]; exact List.length_filter_le _ _
theorem heldC_le (acc : List (Int × Int)) (k : Int) : 0 ≤ heldC acc k ∧ heldC acc k ≤ (acc.length : Int) := by
  unfold heldC
  have := List.length_filter_le (fun a : Int × Int => decide (a.2 = k)) acc
  omega
/-- one holds these, in their order -/
def linkA (h : HeapD) (p : Int) (ks : List Int) : List (Int × Int) := (ks.filter (isT h)).map fun k => (p, k)
theorem linkA_step (h : HeapD) (p : Int) (ks : List Int) (j : Nat) (hj : j < ks.length) : linkA h p (ks.take (j + 1)) = linkA h p (ks.take j) ++ if isT h ks[j] = true then [(p, ks[j])] else [] := by
  rw [List.take_succ_eq_append_getElem hj]
  unfold linkA
  rw [List.filter_append, List.map_append]
  congr 1
  by_cases e : isT h ks[j] = true <;> simp [e]
theorem linkA_len (h : HeapD) (p : Int) (ks : List Int) : (linkA h p ks).length ≤ ks.length := by
  unfold linkA; rw [List.length_map]; exact List.length_filter_le _ _
/-- what has been told when all nodes, all objects, and what is outside are linked -/
def accN (xs : List NodeD) : List (Int × Int) := xs.flatMap fun x => (edgeN x).map fun k => (x.vId, k)
def accO (xs : List ObjD) : List (Int × Int) := xs.flatMap fun x => (edgeO x).map fun k => (x.vId, k)
def accG (h : HeapD) : List (Int × Int) := accN h.vNodes ++ accO h.vObjs ++ (rootsD h).map fun k => (0, k)
theorem linkA_node {h : HeapD} (e : specB h = true) {x : NodeD} (hx : x ∈ h.vNodes) : linkA h x.vId [x.vParent] ++ linkA h x.vId x.vKids ++ linkA h x.vId [x.vWrapper] = (edgeN x).map fun k => (x.vId, k) := by
  unfold linkA edgeN
  rw [node_par e hx, node_kids e hx, node_wrap e hx]; simp
theorem linkA_flds {h : HeapD} {xs : List FieldD} (hx : ∀ y ∈ xs, isT h y.vObj = true) (p : Int) : linkA h p (xs.map FieldD.vObj) = (xs.map FieldD.vObj).map fun k => (p, k) := by
  unfold linkA
  rw [List.filter_eq_self.2]
  intro k hk
  obtain ⟨y, hy, rfl⟩ := List.mem_map.1 hk
  exact hx y hy
theorem linkA_obj {h : HeapD} (e : specB h = true) {x : ObjD} (hx : x ∈ h.vObjs) : linkA h x.vId [x.vNode] ++ linkA h x.vId (x.vFields.map FieldD.vObj) = (edgeO x).map fun k => (x.vId, k) := by
  rw [linkA_flds (obj_flds e hx)]
  unfold linkA edgeO
  rw [obj_node e hx]; simp
theorem linkA_root {h : HeapD} (e : specB h = true) : linkA h 0 [h.vDoc] ++ linkA h 0 (h.vGlobals.map FieldD.vObj) = (rootsD h).map fun k => (0, k) := by
  rw [linkA_flds (glob_flds e)]
  have : isT h h.vDoc = true := by simp [isT, doc_there e]
  simp [linkA, this, rootsD]
theorem accN_step {xs : List NodeD} {j : Nat} (hj : j < xs.length) : accN (xs.take (j + 1)) = accN (xs.take j) ++ (edgeN xs[j]).map fun k => (xs[j].vId, k) := by
  rw [List.take_succ_eq_append_getElem hj]
  unfold accN
  rw [List.flatMap_append]
  congr 1
  simp
theorem accO_step {xs : List ObjD} {j : Nat} (hj : j < xs.length) : accO (xs.take (j + 1)) = accO (xs.take j) ++ (edgeO xs[j]).map fun k => (xs[j].vId, k) := by
  rw [List.take_succ_eq_append_getElem hj]
  unfold accO
  rw [List.flatMap_append]
  congr 1
  simp
/-! ### what one of them holds -/
theorem holdsC_append (a b : List (Int × Int)) (p : Int) : holdsC (a ++ b) p = holdsC a p ++ holdsC b p := by simp [holdsC, List.filter_append]
theorem holdsC_same (ks : List Int) (p : Int) : holdsC (ks.map fun k => (p, k)) p = ks := by
  induction ks with
  | nil => rfl
  | cons k ks ih => simp only [List.map_cons, holdsC] at ih ⊢; simp [ih]
theorem holdsC_other (ks : List Int) {p q : Int} (hne : p ≠ q) : holdsC (ks.map fun k => (p, k)) q = [] := by
  induction ks with
  | nil => rfl
  | cons k ks ih => simp only [List.map_cons, holdsC] at ih ⊢; simp [hne, ih]
theorem holdsC_flat {α : Type} (f : α → Int) (g : α → List Int) (q : Int) : ∀ (xs : List α), (∀ i j, (hi : i < xs.length) → (hj : j < xs.length) → f xs[i] = f xs[j] → i = j) →
    holdsC (xs.flatMap fun x => (g x).map fun k => (f x, k)) q = (getI f xs q).elim [] g := by
  intro xs
  induction xs with
  | nil => intro _; rfl
  | cons x xs ih =>
    intro hd
    rw [List.flatMap_cons, holdsC_append]
    have hd' : ∀ i j, (hi : i < xs.length) → (hj : j < xs.length) → f xs[i] = f xs[j] → i = j := fun i j hi hj e => by
      have := hd (i + 1) (j + 1) (by simpa using hi) (by simpa using hj) (by simpa using e)
      omega
    by_cases e : f x = q
    · subst e
      rw [holdsC_same, ih hd']
      have : getI f xs (f x) = none := getI_none fun i hi he => by
        have := hd (i + 1) 0 (by simpa using hi) (by simp) (by simpa using he)
        omega
      simp [this, getI]
    · rw [holdsC_other _ e, ih hd']; simp [getI, e]
end Go.Proofs.Ytdfomaclnopfeaa
