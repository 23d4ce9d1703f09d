/- What an op makes of a heap: plain. -/
import Derived.Test.YtdnembnlomnceaaGreatUpPlain
import Derived.Test.YtdnembnlomnceaaGreatRnMake
namespace Go.Proofs.YtdnembnlomnceaaGreat
open Go.RowKit
theorem few_of_nodup : ∀ (l m : List Int), l.Nodup → (∀ x ∈ l, x ∈ m) → l.length ≤ m.length := by
 intro l
 induction l with
 | nil => intro m _ _; exact Nat.zero_le _
 | cons x l ih =>
  intro m hn hs
  have hx := hs x (by simp)
  have hn' := List.nodup_cons.1 hn
  have h1 := ih (m.erase x) hn'.2 (fun y hy => (List.mem_erase_of_ne (fun e => hn'.1 (by rw [← e]; exact hy))).2 (hs y (by simp [hy])))
  rw [List.length_erase_of_mem hx] at h1
  have := List.length_pos_of_mem hx
  rw [List.length_cons]; omega
theorem hasB_memP : ∀ (l : List Int) (k : Int), hasB l k = true ↔ k ∈ l := by
 intro l k
 induction l with
 | nil => simp [hasB]
 | cons x l ih =>
  by_cases e : x = k
  · simp [hasB, e]
  · have e' : ¬ k = x := fun q => e q.symm
    simp [hasB, e, e', ih]
theorem kids_all {h : HeapD} {id : Int} : ∀ (ks pre : List Int), kidsF h id pre ks = true → ks.Nodup ∧ ∀ k ∈ ks, k ∉ pre ∧ (nodeAt h k).isSome = true := by
 intro ks
 induction ks with
 | nil => intro pre _; simp
 | cons k ks ih =>
  intro pre e
  simp only [kidsF, Bool.and_eq_true] at e
  obtain ⟨h1, h2⟩ := ih _ e.2
  have hk : (nodeAt h k).isSome = true ∧ k ∉ pre := by
   have := e.1
   unfold kidB at this
   cases q : nodeAt h k with
   | none => rw [q] at this; cases this
   | some n =>
    rw [q] at this
    simp only [Bool.and_eq_true, Bool.not_eq_true'] at this
    exact ⟨rfl, fun r => by have := (hasB_memP pre k).2 r; simp_all⟩
  refine ⟨List.nodup_cons.2 ⟨fun q => (h2 k q).1 (by simp), h1⟩, fun z hz => ?_⟩
  rcases List.mem_cons.1 hz with rfl | q
  · exact ⟨hk.2, hk.1⟩
  · exact ⟨fun r => (h2 z q).1 (by simp [r]), (h2 z q).2⟩
theorem idxN_of {h : HeapD} {k : Int} (e : (nodeAt h k).isSome = true) : 0 ≤ idxN h k := by
 have := some_of_idx (f := NodeD.vId) (xs := h.vNodes) (id := k)
 have e' : (getI NodeD.vId h.vNodes k).isSome = true := e
 rw [e'] at this
 exact of_decide_eq_true this.symm
theorem idxO_of {h : HeapD} {k : Int} (e : (objAt h k).isSome = true) : 0 ≤ idxO h k := by
 have := some_of_idx (f := ObjD.vId) (xs := h.vObjs) (id := k)
 have e' : (getI ObjD.vId h.vObjs k).isSome = true := e
 rw [e'] at this
 exact of_decide_eq_true this.symm
theorem nodeAt_mem {h : HeapD} {k : Int} (e : (nodeAt h k).isSome = true) : k ∈ h.vNodes.map NodeD.vId := by
 cases q : nodeAt h k with
 | none => rw [q] at e; cases e
 | some n =>
  have := get_mem _ _ q
  exact List.mem_map.2 ⟨n, this.1, this.2⟩
theorem objs_all {h : HeapD} {p : Option Int} {xs : List ObjD} (e : objsF h p xs = true) : ∀ x ∈ xs, fieldsB h x.vFields 5 = true ∧ oNodeB h x = true := by
 induction xs generalizing p with
 | nil => simp
 | cons x xs ih =>
  simp only [objsF, Bool.and_eq_true] at e
  intro z hz
  rcases List.mem_cons.1 hz with rfl | q
  · exact ⟨e.1.1.2, e.1.2⟩
  · exact ih e.2 z q
theorem flds_all {h : HeapD} : ∀ (xs : List FieldD) (p : Option ByteArray), fldsB h p xs = true → ∀ f ∈ xs, nmB f.vName = true ∧ (objAt h f.vObj).isSome = true := by
 intro xs
 induction xs with
 | nil => intro p _; simp
 | cons x xs ih =>
  intro p e
  simp only [fldsB, Bool.and_eq_true] at e
  intro f hf
  rcases List.mem_cons.1 hf with rfl | q
  · exact ⟨e.1.1.1, e.1.2⟩
  · exact ih _ e.2 f q
theorem liss_all : ∀ (xs : List ListenerD), lissB xs = true → ∀ x ∈ xs, lisB x = true := by
 intro xs
 induction xs with
 | nil => intro _; simp
 | cons x xs ih =>
  intro e z hz
  simp only [lissB, Bool.and_eq_true] at e
  rcases List.mem_cons.1 hz with rfl | q
  · exact e.1
  · exact ih e.2 z q
theorem nm_size {s : ByteArray} (e : nmB s = true) : s.size ≤ 6 := by
 unfold nmB nameB at e
 simp only [Bool.and_eq_true, decide_eq_true_eq] at e
 have : s.data.toList.length = s.size := by rw [Array.length_toList]; rfl
 omega
structure RightH (h : HeapD) : Prop where
 next : 1 ≤ h.vNext ∧ h.vNext ≤ 1000000000
 nN : h.vNodes.length ≤ 16
 nO : h.vObjs.length ≤ 16
 nG : h.vGlobals.length ≤ 8
 doc : 0 ≤ idxN h h.vDoc
 kids : ∀ x ∈ h.vNodes, x.vKids.length ≤ 16 ∧ ∀ k ∈ x.vKids, 0 ≤ idxN h k
 lis : ∀ x ∈ h.vNodes, x.vListeners.length ≤ 4
 par : ∀ x ∈ h.vNodes, x.vParent = 0 ∨ 0 ≤ idxN h x.vParent
 flds : ∀ o ∈ h.vObjs, o.vFields.length ≤ 5 ∧ ∀ f ∈ o.vFields, 0 ≤ idxO h f.vObj
 onode : ∀ o ∈ h.vObjs, o.vNode = 0 ∨ 0 ≤ idxN h o.vNode
 glob : ∀ f ∈ h.vGlobals, 0 ≤ idxO h f.vObj
 small : h.small
theorem right_of {h : HeapD} (e : specB h = true) : RightH h := by
 have hn := (spec_parts e).1
 have hnf := (spec_parts e).2.1
 simp only [specB, Bool.and_eq_true, decide_eq_true_eq] at e
 obtain ⟨⟨⟨⟨⟨⟨⟨e1, e2⟩, e3⟩, e4⟩, e5⟩, e6⟩, e7⟩, e8⟩ := e
 have hnode : ∀ x ∈ h.vNodes, nodeB h x = true := fun x hx => by
  obtain ⟨i, hi, rfl⟩ := List.getElem_of_mem hx
  exact nodesF_all hnf i hi
 have hparts : ∀ x ∈ h.vNodes, nmB x.vTag = true ∧ x.vListeners.length ≤ 4 ∧ lissB x.vListeners = true ∧ kidsB h x = true ∧ parB h x = true := fun x hx => by
  have := hnode x hx
  simp only [nodeB, Bool.and_eq_true, decide_eq_true_eq] at this
  exact ⟨this.1.1.1.1.1, this.1.1.1.1.2, this.1.1.1.2, this.1.1.2, this.1.2⟩
 have hob := objs_all e6
 have hg : h.vGlobals.length ≤ 8 ∧ ∀ f ∈ h.vGlobals, nmB f.vName = true ∧ (objAt h f.vObj).isSome = true := by
  simp only [fieldsB, Bool.and_eq_true, decide_eq_true_eq] at e4
  exact ⟨by omega, flds_all _ _ e4.1⟩
 have hf : ∀ o ∈ h.vObjs, o.vFields.length ≤ 5 ∧ ∀ f ∈ o.vFields, nmB f.vName = true ∧ (objAt h f.vObj).isSome = true := fun o ho => by
  have := (hob o ho).1
  simp only [fieldsB, Bool.and_eq_true, decide_eq_true_eq] at this
  exact ⟨by omega, flds_all _ _ this.1⟩
 have hk : ∀ x ∈ h.vNodes, x.vKids.length ≤ 16 ∧ ∀ k ∈ x.vKids, 0 ≤ idxN h k := fun x hx => by
  obtain ⟨q1, q2⟩ := kids_all _ _ (hparts x hx).2.2.2.1
  refine ⟨Nat.le_trans (few_of_nodup _ (h.vNodes.map NodeD.vId) q1 fun k hk => nodeAt_mem (q2 k hk).2) (by rw [List.length_map]; exact hn), fun k hk => idxN_of (q2 k hk).2⟩
 refine ⟨by simpa [inB] using e1, hn, e3, hg.1, ?_, hk, fun x hx => (hparts x hx).2.1, fun x hx => ?_, fun o ho => ⟨(hf o ho).1, fun f q => idxO_of ((hf o ho).2 f q).2⟩, fun o ho => ?_, fun f q => idxO_of (hg.2 f q).2, ?_⟩
 · refine idxN_of ?_
   unfold docB at e8
   cases q : nodeAt h h.vDoc with
   | none => rw [q] at e8; cases e8
   | some _ => rfl
 · have := (hparts x hx).2.2.2.2
   unfold parB at this
   by_cases h0 : x.vParent = 0
   · exact Or.inl h0
   · rw [if_neg h0] at this
     cases q : nodeAt h x.vParent with
     | none => rw [q] at this; cases this
     | some _ => exact Or.inr (idxN_of (by rw [q]; rfl))
 · have := (hob o ho).2
   unfold oNodeB at this
   by_cases h0 : o.vNode = 0
   · exact Or.inl h0
   · rw [if_neg h0] at this
     cases q : nodeAt h o.vNode with
     | none => rw [q] at this; cases this
     | some _ => exact Or.inr (idxN_of (by rw [q]; rfl))
 · have hfs : ∀ (xs : List FieldD) (m : Nat), xs.length ≤ m → m ≤ 1048576 → (∀ f ∈ xs, nmB f.vName = true ∧ (objAt h f.vObj).isSome = true) → AllS FieldD.small xs := fun xs m q1 q2 q3 => ⟨by omega, fun i hi => ⟨by have := nm_size (q3 _ (List.getElem_mem hi)).1; omega, trivial⟩⟩
   refine ⟨⟨by omega, fun i hi => ?_⟩, ⟨by omega, fun i hi => ⟨hfs _ 5 (hf _ (List.getElem_mem hi)).1 (by omega) (hf _ (List.getElem_mem hi)).2, trivial⟩⟩, hfs _ 8 hg.1 (by omega) hg.2, trivial⟩
   have hm := List.getElem_mem hi
   have hp := hparts _ hm
   refine ⟨by have := nm_size hp.1; omega, by have := (hk _ hm).1; omega, ⟨by have := hp.2.1; omega, fun j hj => ?_⟩, trivial⟩
   have hl := liss_all _ hp.2.2.1 _ (List.getElem_mem hj)
   unfold lisB at hl
   simp only [Bool.and_eq_true] at hl
   exact ⟨by have := nm_size hl.1.1; omega, by have := nm_size hl.1.2; omega, trivial⟩
/-- a node that a name leads to is there -/
theorem wrapped_there {h : HeapD} (r : RightH h) (n : ByteArray) : wrappedR h n = 0 ∨ 0 ≤ idxN h (wrappedR h n) := by
 unfold wrappedR
 cases q : objAt h (fieldR h.vGlobals n) with
 | none => exact Or.inl rfl
 | some o => exact r.onode o (get_mem _ _ q).1
end Go.Proofs.YtdnembnlomnceaaGreat
namespace Go.Proofs.YtdnembnlomnceaaGreat
open Go.RowKit
def lisD (o : OpD) : ListenerD := ⟨o.vType, o.vCapture, o.vOnce, o.vStop, o.vLname⟩
def lisOf (h : HeapD) (nd : Int) : List ListenerD := match nodeAt h nd with
 | some x => x.vListeners
 | none => []
def kidsOfN (h : HeapD) (nd : Int) : List Int := match nodeAt h nd with
 | some x => x.vKids
 | none => []
/-- what an op on nodes makes of a heap, and its code -/
def treeOp (h : HeapD) (o : OpD) (nd ot : Int) : HeapD × Int :=
 if nd = 0 ∨ (ot = 0 ∧ (o.vKind = 7 ∨ o.vKind = 8)) then (h, 5)
 else if o.vKind = 9 then (if parOf h nd = 0 then (h, 3) else (detachD h nd, 0))
 else if o.vKind = 12 then (if (lisOf h nd).length = 4 then (h, 4) else ({ h with vNodes := h.vNodes.modify (idxN h nd).toNat fun x => { x with vListeners := x.vListeners ++ [lisD o] } }, 0))
 else if o.vKind = 11 then (match kidsOfN h nd with
  | [] => (h, 3)
  | k :: _ => ({ (wrapD h k).1 with vGlobals := setD (wrapD h k).1.vGlobals o.vOther (wrapD h k).2 }, 0))
 else if o.vKind = 8 then (if parOf h nd = 0 then (h, 3) else if ot = h.vDoc ∨ hasB (upL h h.vNodes.length (parOf h nd)) ot = true then (h, 6) else if ot = nd then (h, 0) else (insertD h (parOf h nd) ot nd, 0))
 else (if ot = h.vDoc ∨ hasB (upL h h.vNodes.length nd) ot = true then (h, 6) else (insertD h nd ot 0, 0))
def treeD (h : HeapD) (o : OpD) : HeapD × Int := treeOp h o (wrappedR h o.vName) (wrappedR h o.vOther)
end Go.Proofs.YtdnembnlomnceaaGreat
namespace Go.Proofs.YtdnembnlomnceaaGreat
open Go.RowKit
/-- the fields of an object -/
def fldsOf (h : HeapD) (id : Int) : List FieldD := match objAt h id with
 | some x => x.vFields
 | none => []
def setO (h : HeapD) (id : Int) (l : List FieldD) : HeapD := { h with vObjs := h.vObjs.modify (idxO h id).toNat fun x => { x with vFields := l } }
/-- an op, of a right heap: the heap then, and the code -/
def actOp (h : HeapD) (o : OpD) (mi ot : Int) : HeapD × Int :=
 if o.vKind = 1 ∨ o.vKind = 2 ∨ o.vKind = 10 then (makeD h o, 0)
 else if mi = 0 ∨ (ot = 0 ∧ (o.vKind = 3 ∨ o.vKind = 7 ∨ o.vKind = 8)) then (h, 3)
 else if o.vKind = 3 then (setO h mi (setD (fldsOf h mi) o.vWord ot), 0)
 else if o.vKind = 4 ∨ o.vKind = 5 then
  (if fieldR (fldsOf h mi) o.vWord = 0 then (h, 3)
  else if o.vKind = 5 then (setO h mi (setD (fldsOf h mi) o.vWord 0), 0)
  else ({ h with vGlobals := setD h.vGlobals o.vOther (fieldR (fldsOf h mi) o.vWord) }, 0))
 else if o.vKind = 6 then ({ h with vGlobals := setD h.vGlobals o.vName 0 }, 0)
 else treeD h o
def actD (h : HeapD) (o : OpD) : HeapD × Int := actOp h o (fieldR h.vGlobals o.vName) (fieldR h.vGlobals o.vOther)
/-- what is told of a name is none, or what one of them holds -/
theorem fieldR_mem (xs : List FieldD) (n : ByteArray) : fieldR xs n = 0 ∨ ∃ f ∈ xs, fieldR xs n = f.vObj := by
 unfold fieldR
 induction xs with
 | nil => exact Or.inl rfl
 | cons x xs ih =>
  unfold heldAt
  by_cases e : (x.vName.toList == n.toList) = true
  · rw [if_pos e]; exact Or.inr ⟨x, by simp, rfl⟩
  · rw [if_neg e]
    rcases ih with q | ⟨f, h1, h2⟩
    · exact Or.inl q
    · exact Or.inr ⟨f, by simp [h1], h2⟩
theorem glob_there {h : HeapD} (r : RightH h) (n : ByteArray) : fieldR h.vGlobals n = 0 ∨ 0 ≤ idxO h (fieldR h.vGlobals n) := by
 rcases fieldR_mem h.vGlobals n with q | ⟨f, h1, h2⟩
 · exact Or.inl q
 · rw [h2]; exact Or.inr (r.glob f h1)
theorem fieldR_in {w : World} {lo : Nat} {k : Value} {xs : List FieldD} (h : SeqAt 2 FieldAt w lo k xs) (n : ByteArray) : InI (fieldR xs n) := by
 rcases fieldR_mem xs n with q | ⟨f, h1, h2⟩
 · rw [q]; unfold InI; omega
 · rw [h2]
   obtain ⟨i, hi, rfl⟩ := List.getElem_of_mem h1
   obtain ⟨a, c, rfl, hm, hx⟩ := h
   obtain ⟨b, o, rfl, _, _, hc⟩ := hx (by omega)
   obtain ⟨cs, _, _, hf⟩ := hc i hi
   exact hf.2.2.1
end Go.Proofs.YtdnembnlomnceaaGreat
