/- The program's links of one, and of fields, walked. -/
import Derived.Test.YtdnembnlomnceaaGreatUpPlain
import Derived.Test.YtdnembnlomnceaaGreatImplOne
import Derived.Test.YtdnembnlomnceaaGreatHeapUp
import Derived.Deep.AppendLies
import Derived.WalkKit
namespace Go.Proofs.YtdnembnlomnceaaGreat
def nzI (n : Int) : List Int := if n = 0 then [] else [n]
def edgeN (x : NodeD) : List Int := nzI x.vParent ++ x.vKids ++ nzI x.vWrapper
def edgeO (x : ObjD) : List Int := nzI x.vNode ++ x.vFields.map FieldD.vObj
def edgesS (h : HeapD) (id : Int) : List Int :=
 match nodeAt h id with
 | some x => edgeN x
 | none => match objAt h id with
  | some o => edgeO o
  | none => []
/-- what EdgesOf tells -/
def edgesD (h : HeapD) (id : Int) : List Int := if specB h then edgesS h id else []
def rootsD (h : HeapD) : List Int := h.vDoc :: h.vGlobals.map FieldD.vObj
/-- is it one of the heap's? -/
def isT (h : HeapD) (id : Int) : Bool := (nodeAt h id).isSome || (objAt h id).isSome
theorem isT_zero {h : HeapD} (e : implB h = true) : isT h 0 = false := by
 simp [isT, node_zero e, obj_zero (impl_idx e)]
theorem nz_filter {h : HeapD} (e : implB h = true) {n : Int} (hn : n ≠ 0 → isT h n = true) : [n].filter (isT h) = nzI n := by
 by_cases q : n = 0
 · subst q; simp [isT_zero e, nzI]
 · simp [hn q, nzI, q]
theorem kidsF_in {h : HeapD} {id : Int} : ∀ (ks pre : List Int), kidsF h id pre ks = true → ∀ k ∈ ks, (nodeAt h k).isSome = true := by
 intro ks
 induction ks with
 | nil => intro pre _ k hk; cases hk
 | cons a ks ih =>
  intro pre e k hk
  simp only [kidsF, Bool.and_eq_true] at e
  rcases List.mem_cons.1 hk with rfl | hk
  · have := e.1
    unfold kidB at this
    cases hq : nodeAt h k with
    | none => rw [hq] at this; cases this
    | some n => rfl
  · exact ih _ e.2 k hk
theorem nodes_right {h : HeapD} (e : specB h = true) {x : NodeD} (hx : x ∈ h.vNodes) : nodeB h x = true := by
 obtain ⟨i, hi, rfl⟩ := List.getElem_of_mem hx
 exact nodesF_all (spec_parts e).2.1 i hi
theorem node_kids {h : HeapD} (e : specB h = true) {x : NodeD} (hx : x ∈ h.vNodes) : x.vKids.filter (isT h) = x.vKids := by
 have hn := nodes_right e hx
 simp only [nodeB, Bool.and_eq_true] at hn
 refine List.filter_eq_self.2 fun k hk => ?_
 simp [isT, kidsF_in _ _ hn.1.1.2 k hk]
theorem node_par {h : HeapD} (e : specB h = true) {x : NodeD} (hx : x ∈ h.vNodes) : [x.vParent].filter (isT h) = nzI x.vParent := by
 refine nz_filter (spec_impl h ▸ e) fun hne => ?_
 have hn := nodes_right e hx
 simp only [nodeB, Bool.and_eq_true] at hn
 have hp := hn.1.2
 unfold parB at hp
 rw [if_neg hne] at hp
 cases hq : nodeAt h x.vParent with
 | none => rw [hq] at hp; cases hp
 | some n => simp [isT, hq]
theorem node_wrap {h : HeapD} (e : specB h = true) {x : NodeD} (hx : x ∈ h.vNodes) : [x.vWrapper].filter (isT h) = nzI x.vWrapper := by
 refine nz_filter (spec_impl h ▸ e) fun hne => ?_
 have hn := nodes_right e hx
 simp only [nodeB, Bool.and_eq_true] at hn
 have hp := hn.2
 unfold wrapB at hp
 rw [if_neg hne] at hp
 cases hq : objAt h x.vWrapper with
 | none => rw [hq] at hp; cases hp
 | some n => simp [isT, hq]
theorem objs_right {h : HeapD} (e : specB h = true) {x : ObjD} (hx : x ∈ h.vObjs) : objI h x = true := by
 have q := (impl_parts (spec_impl h ▸ e)).2.1
 rw [objsI_all, List.all_eq_true] at q
 exact q x hx
theorem obj_node {h : HeapD} (e : specB h = true) {x : ObjD} (hx : x ∈ h.vObjs) : [x.vNode].filter (isT h) = nzI x.vNode := by
 refine nz_filter (spec_impl h ▸ e) fun hne => ?_
 have hn := objs_right e hx
 simp only [objI, Bool.and_eq_true] at hn
 have hp := hn.1
 unfold oNodeB at hp
 rw [if_neg hne] at hp
 cases hq : nodeAt h x.vNode with
 | none => rw [hq] at hp; cases hp
 | some n => simp [isT, hq]
theorem fldsI_in {h : HeapD} : ∀ (xs : List FieldD) (l : ByteArray), fldsI h l xs = true → ∀ x ∈ xs, (objAt h x.vObj).isSome = true := by
 intro xs
 induction xs with
 | nil => intro l _ x hx; cases hx
 | cons a xs ih =>
  intro l e x hx
  simp only [fldsI, Bool.and_eq_true] at e
  rcases List.mem_cons.1 hx with rfl | hx
  · exact e.1.1.1
  · exact ih _ e.2 x hx
theorem obj_flds {h : HeapD} (e : specB h = true) {x : ObjD} (hx : x ∈ h.vObjs) : ∀ y ∈ x.vFields, isT h y.vObj = true := by
 have hn := objs_right e hx
 simp only [objI, fieldsI, Bool.and_eq_true] at hn
 intro y hy
 simp [isT, fldsI_in _ _ hn.2.2 y hy]
theorem glob_flds {h : HeapD} (e : specB h = true) : ∀ y ∈ h.vGlobals, isT h y.vObj = true := by
 have hn := (impl_parts (spec_impl h ▸ e)).2.2
 simp only [fieldsI, Bool.and_eq_true] at hn
 intro y hy
 simp [isT, fldsI_in _ _ hn.2 y hy]
theorem doc_there {h : HeapD} (e : specB h = true) : (nodeAt h h.vDoc).isSome = true := by
 simp only [specB, Bool.and_eq_true] at e
 have hd := e.2
 unfold docB at hd
 cases hq : nodeAt h h.vDoc with
 | none => rw [hq] at hd; cases hd
 | some n => rfl
/-! ### who holds whom, one by one -/
def holdsC (acc : List (Int × Int)) (p : Int) : List Int := (acc.filter fun a => decide (a.1 = p)).map Prod.snd
def heldC (acc : List (Int × Int)) (k : Int) : Int := ((acc.filter fun a => decide (a.2 = k)).length : Nat)
theorem holdsC_snoc (acc : List (Int × Int)) (p k q : Int) : holdsC (acc ++ [(p, k)]) q = if p = q then holdsC acc q ++ [k] else holdsC acc q := by
 unfold holdsC
 by_cases e : p = q <;> simp [List.filter_append, e]
theorem heldC_snoc (acc : List (Int × Int)) (p k q : Int) : heldC (acc ++ [(p, k)]) q = if k = q then heldC acc q + 1 else heldC acc q := by
 unfold heldC
 by_cases e : k = q <;> simp [List.filter_append, e]
theorem holdsC_len (acc : List (Int × Int)) (p : Int) : (holdsC acc p).length ≤ acc.length := by
 unfold holdsC; rw [List.length_map]; exact List.length_filter_le _ _
theorem heldC_le (acc : List (Int × Int)) (k : Int) : 0 ≤ heldC acc k ∧ heldC acc k ≤ (acc.length : Int) := by
 unfold heldC
 have := List.length_filter_le (fun a : Int × Int => decide (a.2 = k)) acc
 omega
/-- one holds these, in their order -/
def linkA (h : HeapD) (p : Int) (ks : List Int) : List (Int × Int) := (ks.filter (isT h)).map fun k => (p, k)
theorem linkA_step (h : HeapD) (p : Int) (ks : List Int) (j : Nat) (hj : j < ks.length) : linkA h p (ks.take (j + 1)) = linkA h p (ks.take j) ++ if isT h ks[j] = true then [(p, ks[j])] else [] := by
 rw [List.take_succ_eq_append_getElem hj]
 unfold linkA
 rw [List.filter_append, List.map_append]
 congr 1
 by_cases e : isT h ks[j] = true <;> simp [e]
theorem linkA_len (h : HeapD) (p : Int) (ks : List Int) : (linkA h p ks).length ≤ ks.length := by
 unfold linkA; rw [List.length_map]; exact List.length_filter_le _ _
/-- what has been told when all nodes, all objects, and what is outside are linked -/
def accN (xs : List NodeD) : List (Int × Int) := xs.flatMap fun x => (edgeN x).map fun k => (x.vId, k)
def accO (xs : List ObjD) : List (Int × Int) := xs.flatMap fun x => (edgeO x).map fun k => (x.vId, k)
def accG (h : HeapD) : List (Int × Int) := accN h.vNodes ++ accO h.vObjs ++ (rootsD h).map fun k => (0, k)
theorem linkA_node {h : HeapD} (e : specB h = true) {x : NodeD} (hx : x ∈ h.vNodes) : linkA h x.vId [x.vParent] ++ linkA h x.vId x.vKids ++ linkA h x.vId [x.vWrapper] = (edgeN x).map fun k => (x.vId, k) := by
 unfold linkA edgeN
 rw [node_par e hx, node_kids e hx, node_wrap e hx]; simp
theorem linkA_flds {h : HeapD} {xs : List FieldD} (hx : ∀ y ∈ xs, isT h y.vObj = true) (p : Int) : linkA h p (xs.map FieldD.vObj) = (xs.map FieldD.vObj).map fun k => (p, k) := by
 unfold linkA
 rw [List.filter_eq_self.2]
 intro k hk
 obtain ⟨y, hy, rfl⟩ := List.mem_map.1 hk
 exact hx y hy
theorem linkA_obj {h : HeapD} (e : specB h = true) {x : ObjD} (hx : x ∈ h.vObjs) : linkA h x.vId [x.vNode] ++ linkA h x.vId (x.vFields.map FieldD.vObj) = (edgeO x).map fun k => (x.vId, k) := by
 rw [linkA_flds (obj_flds e hx)]
 unfold linkA edgeO
 rw [obj_node e hx]; simp
theorem linkA_root {h : HeapD} (e : specB h = true) : linkA h 0 [h.vDoc] ++ linkA h 0 (h.vGlobals.map FieldD.vObj) = (rootsD h).map fun k => (0, k) := by
 rw [linkA_flds (glob_flds e)]
 have : isT h h.vDoc = true := by simp [isT, doc_there e]
 simp [linkA, this, rootsD]
theorem accN_step {xs : List NodeD} {j : Nat} (hj : j < xs.length) : accN (xs.take (j + 1)) = accN (xs.take j) ++ (edgeN xs[j]).map fun k => (xs[j].vId, k) := by
 rw [List.take_succ_eq_append_getElem hj]
 unfold accN
 rw [List.flatMap_append]
 congr 1
 simp
theorem accO_step {xs : List ObjD} {j : Nat} (hj : j < xs.length) : accO (xs.take (j + 1)) = accO (xs.take j) ++ (edgeO xs[j]).map fun k => (xs[j].vId, k) := by
 rw [List.take_succ_eq_append_getElem hj]
 unfold accO
 rw [List.flatMap_append]
 congr 1
 simp
/-! ### what one of them holds -/
theorem holdsC_append (a b : List (Int × Int)) (p : Int) : holdsC (a ++ b) p = holdsC a p ++ holdsC b p := by simp [holdsC, List.filter_append]
theorem holdsC_same (ks : List Int) (p : Int) : holdsC (ks.map fun k => (p, k)) p = ks := by
 induction ks with
 | nil => rfl
 | cons k ks ih => simp only [List.map_cons, holdsC] at ih ⊢; simp [ih]
theorem holdsC_other (ks : List Int) {p q : Int} (hne : p ≠ q) : holdsC (ks.map fun k => (p, k)) q = [] := by
 induction ks with
 | nil => rfl
 | cons k ks ih => simp only [List.map_cons, holdsC] at ih ⊢; simp [hne, ih]
theorem holdsC_flat {α : Type} (f : α → Int) (g : α → List Int) (q : Int) : ∀ (xs : List α), (∀ i j, (hi : i < xs.length) → (hj : j < xs.length) → f xs[i] = f xs[j] → i = j) →
 holdsC (xs.flatMap fun x => (g x).map fun k => (f x, k)) q = (getI f xs q).elim [] g := by
 intro xs
 induction xs with
 | nil => intro _; rfl
 | cons x xs ih =>
  intro hd
  rw [List.flatMap_cons, holdsC_append]
  have hd' : ∀ i j, (hi : i < xs.length) → (hj : j < xs.length) → f xs[i] = f xs[j] → i = j := fun i j hi hj e => by
   have := hd (i + 1) (j + 1) (by simpa using hi) (by simpa using hj) (by simpa using e)
   omega
  by_cases e : f x = q
  · subst e
    rw [holdsC_same, ih hd']
    have : getI f xs (f x) = none := getI_none fun i hi he => by
     have := hd (i + 1) 0 (by simpa using hi) (by simp) (by simpa using he)
     omega
    simp [this, getI]
  · rw [holdsC_other _ e, ih hd']; simp [getI, e]
end Go.Proofs.YtdnembnlomnceaaGreat
namespace Go.Proofs.YtdnembnlomnceaaGreat
open Go.RowKit
/-- a thing: its Id, its place, its block -/
structure ThD where
 id : Int
 pl : Int
 blk : Nat
def ptrOf (Ts : List ThD) (k : Int) : Value :=
 match getI ThD.id Ts k with
 | some t => .pointer (some ⟨t.blk, 0, none⟩)
 | none => .pointer none
def Apart (Ts : List ThD) : Prop := (∀ t ∈ Ts, ∀ u ∈ Ts, t.id = u.id → t = u) ∧ ∀ t ∈ Ts, ∀ u ∈ Ts, t.blk = u.blk → t = u
theorem getI_one {Ts : List ThD} (hA : ∀ t ∈ Ts, ∀ u ∈ Ts, t.id = u.id → t = u) {t : ThD} (ht : t ∈ Ts) : getI ThD.id Ts t.id = some t := by
 cases hq : getI ThD.id Ts t.id with
 | none => exact absurd hq (mem_get Ts t ht)
 | some u =>
  obtain ⟨h1, h2⟩ := get_mem Ts u hq
  rw [hA u h1 t ht h2]
theorem ptrOf_at {Ts : List ThD} {k : Int} {t : ThD} (h : getI ThD.id Ts k = some t) : ptrOf Ts k = .pointer (some ⟨t.blk, 0, none⟩) := by simp [ptrOf, h]
/-- these blocks are as they were -/
def KeepK (K : Nat → Prop) (w w' : World) : Prop := w'.os = w.os ∧ w'.tape = w.tape ∧ w'.output = w.output ∧ w.heap.size ≤ w'.heap.size ∧ ∀ b, K b → w'.heap[b]? = w.heap[b]?
theorem KeepK.refl (K : Nat → Prop) (w : World) : KeepK K w w := ⟨rfl, rfl, rfl, Nat.le_refl _, fun _ _ => rfl⟩
theorem KeepK.trans {K : Nat → Prop} {a b c : World} (h : KeepK K a b) (k : KeepK K b c) : KeepK K a c :=
 ⟨k.1.trans h.1, k.2.1.trans h.2.1, k.2.2.1.trans h.2.2.1, Nat.le_trans h.2.2.2.1 k.2.2.2.1, fun x hx => (k.2.2.2.2 x hx).trans (h.2.2.2.2 x hx)⟩
theorem KeepK.of_below {K : Nat → Prop} {w w' : World} (h : Below w.heap.size w w') (hK : ∀ b, K b → b < w.heap.size) : KeepK K w w' := ⟨h.os, h.tape, h.output, h.size, fun b hb => h.block b (hK b hb)⟩
theorem KeepK.below {K : Nat → Prop} {w w' : World} {B : Nat} (h : KeepK K w w') (hK : ∀ b, b < B → K b) : Below B w w' := ⟨h.1, h.2.1, h.2.2.1, h.2.2.2.1, fun b hb => h.2.2.2.2 b (hK b hb)⟩
theorem KeepK.set {K : Nat → Prop} {a w : World} {b i : Nat} (h : KeepK K a w) (hb : ¬ K b) (v : Value) : KeepK K a (w.setCell ⟨b, i, none⟩ v) :=
 h.trans ⟨rfl, rfl, rfl, by rw [set_size]; exact Nat.le_refl _, fun x hx => set_other (fun e : x = b => hb (e ▸ hx)) v⟩
theorem KeepK.grown {K : Nat → Prop} {a w w' : World} {row : Option Nat} (h : KeepK K a w) (hg : w.grownBy w' row) (hK : ∀ b, K b → b < w.heap.size) (hr : ∀ g, row = some g → ¬ K g) : KeepK K a w' :=
 h.trans ⟨hg.os, hg.tape, hg.output, hg.size, fun x hx => hg.block x (hK x hx) (fun e => hr x e.symm hx)⟩
theorem KeepK.mono {K K' : Nat → Prop} {w w' : World} (h : KeepK K w w') (hs : ∀ b, K' b → K b) : KeepK K' w w' := ⟨h.1, h.2.1, h.2.2.1, h.2.2.2.1, fun b hb => h.2.2.2.2 b (hs b hb)⟩
theorem row_keep {w w' : World} {base e size n : Nat} {v : Value} {xs : List Value} (h : w.ownsRow base e size v n xs) (hk : ∀ g, v.ownBlock = some g → w'.heap[g]? = w.heap[g]?) : w'.ownsRow base e size v n xs := by
 refine ⟨h.1, ?_⟩
 rcases h.2 with h2 | ⟨g, cap, cur, hv, hg, hh, r⟩
 · exact Or.inl h2
 · exact Or.inr ⟨g, cap, cur, hv, hg, (hk g (by rw [hv]; rfl)).trans hh, r⟩
theorem row_blk {w : World} {base e size n : Nat} {v : Value} {xs : List Value} (h : w.ownsRow base e size v n xs) {g : Nat} (hg : v.ownBlock = some g) : ∃ cur, w.heap[g]? = some (.cells cur e (0, 0)) := by
 rcases h.2 with ⟨rfl, _⟩ | ⟨g', cap, cur, rfl, _, hh, r⟩
 · cases hg
 · simp only [Value.ownBlock, Option.some.injEq] at hg
   subst hg
   exact ⟨cur, hh⟩
theorem row_lt' {w : World} {base e size n : Nat} {v : Value} {xs : List Value} (h : w.ownsRow base e size v n xs) {g : Nat} (hg : v.ownBlock = some g) : g < w.heap.size := by
 obtain ⟨cur, hh⟩ := row_blk h hg
 exact (Array.getElem?_eq_some_iff.1 hh).1
theorem row_ne_box {w : World} {base e size n b T : Nat} {v : Value} {xs cs : List Value} (h : w.ownsRow base e size v n xs) (hB : Box w b cs T) (hT : e ≠ T) {g : Nat} (hg : v.ownBlock = some g) : g ≠ b := by
 obtain ⟨cur, hh⟩ := row_blk h hg
 rintro rfl
 rw [show w.heap[g]? = _ from hB] at hh
 injection hh with hh
 injection hh with _ h2 _
 exact hT h2.symm
def GStS (S : Int → Value) (K : Nat → Prop) (base : Nat) (w : World) (o : ThD) (Ts : List ThD) (acc : List (Int × Int)) : Prop :=
 (∀ t ∈ o :: Ts, Box w t.blk [.int .i64 t.id, .int .i64 t.pl, S t.id, .int .i64 (heldC acc t.id)] 65 ∧ w.ownsRow base 58 1 (S t.id) (holdsC acc t.id).length ((holdsC acc t.id).map (ptrOf Ts)) ∧ ¬ K t.blk ∧ ∀ g, (S t.id).ownBlock = some g → ¬ K g) ∧
 (∀ t ∈ o :: Ts, ∀ u ∈ o :: Ts, t.id ≠ u.id → ∀ g, (S t.id).ownBlock = some g → (S u.id).ownBlock ≠ some g) ∧ ∀ b, K b → b < w.heap.size
/-- the things, and what is outside, who hold one another so -/
def GSt (K : Nat → Prop) (base : Nat) (w : World) (o : ThD) (Ts : List ThD) (acc : List (Int × Int)) : Prop := ∃ S, GStS S K base w o Ts acc
theorem GStS.below {S : Int → Value} {K : Nat → Prop} {base : Nat} {w w' : World} {o : ThD} {Ts : List ThD} {acc : List (Int × Int)} (h : GStS S K base w o Ts acc) (hb : Below w.heap.size w w') : GStS S K base w' o Ts acc := by
 refine ⟨fun t ht => ?_, h.2.1, fun b q => Nat.lt_of_lt_of_le (h.2.2 b q) hb.size⟩
 obtain ⟨h1, h2, h3, h4⟩ := h.1 t ht
 exact ⟨h1.below hb h1.lt, row_keep h2 (fun g q => hb.block g (row_lt' h2 q)), h3, h4⟩
theorem GSt.below {K : Nat → Prop} {base : Nat} {w w' : World} {o : ThD} {Ts : List ThD} {acc : List (Int × Int)} (h : GSt K base w o Ts acc) (hb : Below w.heap.size w w') : GSt K base w' o Ts acc := by
 obtain ⟨S, h⟩ := h; exact ⟨S, h.below hb⟩
/-- a frame's own block turned, none of these -/
theorem GStS.keep {S : Int → Value} {K : Nat → Prop} {base : Nat} {w w' : World} {o : ThD} {Ts : List ThD} {acc : List (Int × Int)} (h : GStS S K base w o Ts acc) (hs : w.heap.size ≤ w'.heap.size) (hk : ∀ b, b < w.heap.size → ¬ K b → w'.heap[b]? = w.heap[b]?) : GStS S K base w' o Ts acc := by
 refine ⟨fun t ht => ?_, h.2.1, fun b q => Nat.lt_of_lt_of_le (h.2.2 b q) hs⟩
 obtain ⟨h1, h2, h3, h4⟩ := h.1 t ht
 exact ⟨(hk _ h1.lt h3).trans h1, row_keep h2 (fun g q => hk g (row_lt' h2 q) (h4 g q)), h3, h4⟩
theorem GSt.keep {K : Nat → Prop} {base : Nat} {w w' : World} {o : ThD} {Ts : List ThD} {acc : List (Int × Int)} (h : GSt K base w o Ts acc) (hs : w.heap.size ≤ w'.heap.size) (hk : ∀ b, b < w.heap.size → ¬ K b → w'.heap[b]? = w.heap[b]?) : GSt K base w' o Ts acc := by
 obtain ⟨S, h⟩ := h; exact ⟨S, h.keep hs hk⟩
/-- more blocks are left alone -/
theorem GSt.more {K K' : Nat → Prop} {base : Nat} {w w' : World} {o : ThD} {Ts : List ThD} {acc : List (Int × Int)} (h : GSt K base w o Ts acc) (hb : Below w.heap.size w w') (hs : ∀ b, K' b → K b ∨ w.heap.size ≤ b) (hl : ∀ b, K' b → b < w'.heap.size) : GSt K' base w' o Ts acc := by
 obtain ⟨S, h⟩ := h
 refine ⟨S, fun t ht => ?_, h.2.1, hl⟩
 obtain ⟨h1, h2, h3, h4⟩ := h.1 t ht
 refine ⟨h1.below hb h1.lt, row_keep h2 (fun g q => hb.block g (row_lt' h2 q)), fun q => ?_, fun g q k => ?_⟩
 · rcases hs _ q with e | e
   · exact h3 e
   · have := h1.lt; omega
 · rcases hs _ k with e | e
   · exact h4 g q e
   · have := row_lt' h2 q; omega
theorem GSt.less {K K' : Nat → Prop} {base : Nat} {w : World} {o : ThD} {Ts : List ThD} {acc : List (Int × Int)} (h : GSt K base w o Ts acc) (hs : ∀ b, K' b → K b) : GSt K' base w o Ts acc := by
 obtain ⟨S, h⟩ := h
 exact ⟨S, fun t ht => ⟨(h.1 t ht).1, (h.1 t ht).2.1, fun q => (h.1 t ht).2.2.1 (hs _ q), fun g q k => (h.1 t ht).2.2.2 g q (hs _ k)⟩, h.2.1, fun b q => h.2.2 b (hs b q)⟩
theorem GStS.cells {S : Int → Value} {K : Nat → Prop} {base : Nat} {w w1 : World} {o : ThD} {Ts : List ThD} {acc : List (Int × Int)} (hA : Apart (o :: Ts)) (h : GStS S K base w o Ts acc) {p t : ThD} (hp : p ∈ o :: Ts) (ht : t ∈ Ts) (hgrow : w.grownBy w1 (S p.id).ownBlock) (v : Value) :
 w1.cell? ⟨p.blk, 2, none⟩ = some (S p.id) ∧ w1.frozen? ⟨p.blk, 2, none⟩ = false ∧ (w1.setCell ⟨p.blk, 2, none⟩ v).cell? ⟨t.blk, 3, none⟩ = some (.int .i64 (heldC acc t.id)) ∧ (w1.setCell ⟨p.blk, 2, none⟩ v).frozen? ⟨t.blk, 3, none⟩ = false := by
 have ht' : t ∈ o :: Ts := List.mem_cons_of_mem _ ht
 obtain ⟨_, hp2, _⟩ := h.1 p hp
 have box2 : ∀ u ∈ o :: Ts, Box w1 u.blk [.int .i64 u.id, .int .i64 u.pl, S u.id, .int .i64 (heldC acc u.id)] 65 := fun u hu => by
  obtain ⟨b1, _⟩ := h.1 u hu
  exact (hgrow.block _ b1.lt (fun e => row_ne_box hp2 b1 (by decide) e.symm rfl)).trans b1
 have bp := box2 p hp
 by_cases e : t.blk = p.blk
 · obtain rfl := hA.2 t ht' p hp e
   have bs := bp.set (i := 2) v
   exact ⟨bp.cell 2 rfl, bp.unfrozen 2, bs.cell 3 rfl, bs.unfrozen 3⟩
 · have bs := (box2 t ht').other (i := 2) e v
   exact ⟨bp.cell 2 rfl, bp.unfrozen 2, bs.cell 3 rfl, bs.unfrozen 3⟩
/-- ONE MORE LINK -/
theorem GStS.link {S : Int → Value} {K : Nat → Prop} {base : Nat} {w w2 : World} {o : ThD} {Ts : List ThD} {acc : List (Int × Int)} (hA : Apart (o :: Ts)) (h : GStS S K base w o Ts acc) {p t : ThD} (hp : p ∈ o :: Ts) (ht : t ∈ Ts) {g cap n : Nat} (hn : n = (holdsC acc p.id).length + 1)
 (hown : w2.ownsRow base 58 1 (.slice (some ⟨g, 0, none⟩) n cap) n ((holdsC acc p.id).map (ptrOf Ts) ++ [.pointer (some ⟨t.blk, 0, none⟩)])) (hgrow : w.grownBy w2 (S p.id).ownBlock) (hat : (S p.id).ownBlock = some g ∨ w.heap.size ≤ g) :
 GStS (fun q => if q = p.id then .slice (some ⟨g, 0, none⟩) n cap else S q) K base ((w2.setCell ⟨p.blk, 2, none⟩ (.slice (some ⟨g, 0, none⟩) n cap)).setCell ⟨t.blk, 3, none⟩ (.int .i64 (heldC acc t.id + 1))) o Ts (acc ++ [(p.id, t.id)]) := by
 subst hn
 have ht' : t ∈ o :: Ts := List.mem_cons_of_mem _ ht
 obtain ⟨hp1, hp2, hp3, hp4⟩ := h.1 p hp
 have box2 : ∀ u ∈ o :: Ts, Box w2 u.blk [.int .i64 u.id, .int .i64 u.pl, S u.id, .int .i64 (heldC acc u.id)] 65 := fun u hu => by
  obtain ⟨b1, _⟩ := h.1 u hu
  exact (hgrow.block _ b1.lt (fun e => row_ne_box hp2 b1 (by decide) e.symm rfl)).trans b1
 have hptr : ptrOf Ts t.id = .pointer (some ⟨t.blk, 0, none⟩) := ptrOf_at (getI_one (fun a ha b hb => hA.1 a (List.mem_cons_of_mem _ ha) b (List.mem_cons_of_mem _ hb)) ht)
 have hgK : ¬ K g := by
  rcases hat with e | e
  · exact hp4 g e
  · intro q; have := h.2.2 g q; omega
 have gne : ∀ u ∈ o :: Ts, g ≠ u.blk := fun u hu => row_ne_box hown (box2 u hu) (by decide) rfl
 refine ⟨fun u hu => ?_, fun a ha b hb hne x hx => ?_, fun b q => ?_⟩
 · obtain ⟨b1, b2, b3, b4⟩ := h.1 u hu
   refine ⟨?_, ?_, b3, fun x hx => ?_⟩
   · -- the box
     dsimp only
     have B2 := box2 u hu
     have e1 : Box (w2.setCell ⟨p.blk, 2, none⟩ (.slice (some ⟨g, 0, none⟩) ((holdsC acc p.id).length + 1) cap)) u.blk [.int .i64 u.id, .int .i64 u.pl, if u.id = p.id then .slice (some ⟨g, 0, none⟩) ((holdsC acc p.id).length + 1) cap else S u.id, .int .i64 (heldC acc u.id)] 65 := by
      by_cases e : u.id = p.id
      · obtain rfl := hA.1 u hu p hp e
        rw [if_pos rfl]
        exact B2.set (i := 2) _
      · rw [if_neg e]
        exact B2.other (fun q => e (by rw [hA.2 u hu p hp q])) _
     rw [heldC_snoc]
     by_cases e : t.id = u.id
     · obtain rfl := hA.1 t ht' u hu e
       rw [if_pos rfl]
       exact e1.set (i := 3) _
     · rw [if_neg e]
       exact e1.other (fun q => e (by rw [hA.2 u hu t ht' q])) _
   · -- the row
     dsimp only
     rw [holdsC_snoc]
     by_cases e : u.id = p.id
     · obtain rfl := hA.1 u hu p hp e
       rw [if_pos rfl, if_pos rfl]
       refine row_keep (w := w2) ?_ (fun x hx => ?_)
       · rw [List.length_append, List.map_append]
         simp only [List.map_cons, List.map_nil, hptr]
         exact hown
       · simp only [Value.ownBlock, Option.some.injEq] at hx
         subst hx
         rw [set_other (gne t ht'), set_other (gne u hu)]
     · rw [if_neg e, if_neg (fun q => e q.symm)]
       refine row_keep b2 (fun x hx => ?_)
       have hx1 : x ≠ p.blk := row_ne_box b2 hp1 (by decide) hx
       have hx2 : x ≠ t.blk := row_ne_box b2 (h.1 t ht').1 (by decide) hx
       rw [set_other hx2, set_other hx1]
       exact hgrow.block x (row_lt' b2 hx) (fun q => h.2.1 u hu p hp e x hx q.symm)
   · dsimp only at hx
     by_cases e : u.id = p.id
     · rw [if_pos e] at hx
       simp only [Value.ownBlock, Option.some.injEq] at hx
       exact hx ▸ hgK
     · rw [if_neg e] at hx
       exact b4 x hx
 · dsimp only at hx ⊢
   by_cases ea : a.id = p.id
   · have eb : b.id ≠ p.id := fun q => hne (ea.trans q.symm)
     rw [if_pos ea] at hx
     rw [if_neg eb]
     simp only [Value.ownBlock, Option.some.injEq] at hx
     subst hx
     intro q
     rcases hat with k | k
     · exact h.2.1 b hb p hp eb _ q k
     · have := row_lt' (h.1 b hb).2.1 q; omega
   · rw [if_neg ea] at hx
     by_cases eb : b.id = p.id
     · rw [if_pos eb]
       intro q
       simp only [Value.ownBlock, Option.some.injEq] at q
       subst q
       rcases hat with k | k
       · exact h.2.1 a ha p hp ea _ hx k
       · have := row_lt' (h.1 a ha).2.1 hx; omega
     · rw [if_neg eb]
       exact h.2.1 a ha b hb hne x hx
 · rw [set_size, set_size]
   exact Nat.lt_of_lt_of_le (h.2.2 b q) hgrow.size
theorem GStS.link1 {S : Int → Value} {K : Nat → Prop} {base : Nat} {w w2 : World} {o : ThD} {Ts : List ThD} {acc : List (Int × Int)} (hA : Apart (o :: Ts)) (h : GStS S K base w o Ts acc) {p t : ThD} (hp : p ∈ o :: Ts) (ht : t ∈ Ts) {g cap n : Nat} (hn : n = (holdsC acc p.id).length + 1)
 (hown : w2.ownsRow base 58 1 (.slice (some ⟨g, 0, none⟩) n cap) n ((holdsC acc p.id).map (ptrOf Ts) ++ [.pointer (some ⟨t.blk, 0, none⟩)])) (hgrow : w.grownBy w2 (S p.id).ownBlock) (hat : (S p.id).ownBlock = some g ∨ w.heap.size ≤ g) :
 GSt K base ((w2.setCell ⟨p.blk, 2, none⟩ (.slice (some ⟨g, 0, none⟩) n cap)).setCell ⟨t.blk, 3, none⟩ (.int .i64 (heldC acc t.id + 1))) o Ts (acc ++ [(p.id, t.id)]) := ⟨_, h.link hA hp ht hn hown hgrow hat⟩
/-! ### the map from Ids to things -/
def PEnts : List MapEntry → List ThD → Prop
 | [], [] => True
 | e :: es, t :: ts => e.key = .int .i64 t.id ∧ e.val = .pointer (some ⟨t.blk, 0, none⟩) ∧ PEnts es ts
 | _, _ => False
theorem find_pents {id : Int} : ∀ (es : List MapEntry) (ts : List ThD) (j : Nat), PEnts es ts →
 (getI ThD.id ts id = none ∧ Instr.findNow (.int .i64) (.int .i64 id) es j = some none) ∨ ∃ t i, getI ThD.id ts id = some t ∧ Instr.findNow (.int .i64) (.int .i64 id) es j = some (some (i, .pointer (some ⟨t.blk, 0, none⟩))) := by
 intro es
 induction es with
 | nil => intro ts j h; cases ts with
  | nil => exact Or.inl ⟨rfl, rfl⟩
  | cons x xs => exact h.elim
 | cons e es ih => intro ts j h; cases ts with
  | nil => exact h.elim
  | cons x xs =>
   obtain ⟨h1, h2, h4⟩ := h
   by_cases hq : x.id = id
   · refine Or.inr ⟨x, j, by simp [getI, hq], ?_⟩
     simp [Instr.findNow, Instr.sameNow, h1, hq, h2]
   · have hq' : (id == x.id) = false := by simpa using fun h : id = x.id => hq h.symm
     rcases ih xs (j + 1) h4 with ⟨g1, g2⟩ | ⟨y, i, g1, g2⟩
     · refine Or.inl ⟨by simp [getI, hq, g1], ?_⟩
       simp [Instr.findNow, Instr.sameNow, h1, hq', g2]
     · refine Or.inr ⟨y, i, by simp [getI, hq, g1], ?_⟩
       simp [Instr.findNow, Instr.sameNow, h1, hq', g2]
def PMap (w : World) (b : Nat) (ts : List ThD) : Prop := ∃ (es : Array MapEntry) (clock : Nat), w.heap[b]? = some (.map es clock) ∧ PEnts es.toList ts
theorem PMap.lt {w : World} {b : Nat} {ts : List ThD} (h : PMap w b ts) : b < w.heap.size := by
 obtain ⟨es, clock, h1, _⟩ := h
 exact (Array.getElem?_eq_some_iff.1 h1).1
theorem PMap.keep {w w' : World} {b : Nat} {ts : List ThD} (h : PMap w b ts) (e : w'.heap[b]? = w.heap[b]?) : PMap w' b ts := by
 obtain ⟨es, clock, h1, h2⟩ := h
 exact ⟨es, clock, e.trans h1, h2⟩
theorem run_lookP {w : World} {b : Nat} {ts : List ThD} {M E : TypeId} (hm : PMap w b ts) (hT : Tryz.prog.underlying M = some (.map 2 E)) (hz : ((Tryz.prog.info? E).map fun i => i.zero) = some (some (.pointer none))) (id : Int) :
 (getI ThD.id ts id = none ∧ (Instr.lookup M (.map (some b)) (.int .i64 id) true).run Tryz.prog w = .ok (.tuple #[.pointer none, .bool false]) w) ∨
 ∃ t, getI ThD.id ts id = some t ∧ (Instr.lookup M (.map (some b)) (.int .i64 id) true).run Tryz.prog w = .ok (.tuple #[.pointer (some ⟨t.blk, 0, none⟩), .bool true]) w := by
 obtain ⟨es, clock, h1, h2⟩ := hm
 obtain ⟨i, hi, hz⟩ := Option.map_eq_some_iff.1 hz
 have hc : ∀ e, (Instr.checkKey e 10000 2 (.int .i64 id)).run Tryz.prog w = .ok () w := fun e => MapKept.run_checkKey (k := .int .i64 id) Tryz.underlying2 (by simp [MapKept.IsKey]) e 9999
 rcases find_pents (id := id) es.toList ts 0 h2 with ⟨g1, g2⟩ | ⟨x, i', g1, g2⟩
 · refine Or.inl ⟨g1, ?_⟩
   simp [Instr.lookup, run_underlying hT, MapKept.run_getObj_map h1, hc, MapKept.run_findKey Tryz.underlying2 g2, Result.andThen, zeroValue, typeInfo, hi, hz]
 · refine Or.inr ⟨x, g1, ?_⟩
   simp [Instr.lookup, run_underlying hT, MapKept.run_getObj_map h1, hc, MapKept.run_findKey Tryz.underlying2 g2, Result.andThen]
theorem run_lookP1 {w : World} {b : Nat} {ts : List ThD} {M E : TypeId} (hm : PMap w b ts) (hT : Tryz.prog.underlying M = some (.map 2 E)) {id : Int} {t : ThD} (ht : getI ThD.id ts id = some t) :
 (Instr.lookup M (.map (some b)) (.int .i64 id) false).run Tryz.prog w = .ok (.pointer (some ⟨t.blk, 0, none⟩)) w := by
 obtain ⟨es, clock, h1, h2⟩ := hm
 have hc : ∀ e, (Instr.checkKey e 10000 2 (.int .i64 id)).run Tryz.prog w = .ok () w := fun e => MapKept.run_checkKey (k := .int .i64 id) Tryz.underlying2 (by simp [MapKept.IsKey]) e 9999
 rcases find_pents (id := id) es.toList ts 0 h2 with ⟨g1, g2⟩ | ⟨x, i', g1, g2⟩
 · rw [ht] at g1; cases g1
 · rw [ht] at g1; cases g1
   simp [Instr.lookup, run_underlying hT, MapKept.run_getObj_map h1, hc, MapKept.run_findKey Tryz.underlying2 g2, Result.andThen]
theorem run_putP {w : World} {b : Nat} {ts : List ThD} {M E : TypeId} {es : Array MapEntry} {clock : Nat} (h1 : w.heap[b]? = some (.map es clock)) (h2 : PEnts es.toList ts) (hT : Tryz.prog.underlying M = some (.map 2 E)) (id : Int) (v : Value) (hn : getI ThD.id ts id = none) :
 (Instr.mapUpdate M (.map (some b)) (.int .i64 id) v).run Tryz.prog w = .ok () (putEnt w b es clock id v) := by
 have hc : ∀ e, (Instr.checkKey e 10000 2 (.int .i64 id)).run Tryz.prog w = .ok () w := fun e => MapKept.run_checkKey (k := .int .i64 id) Tryz.underlying2 (by simp [MapKept.IsKey]) e 9999
 rcases find_pents (id := id) es.toList ts 0 h2 with ⟨g1, g2⟩ | ⟨x, i', g1, _⟩
 · simp [Instr.mapUpdate, run_underlying hT, MapKept.run_getObj_map h1, hc, MapKept.run_findKey Tryz.underlying2 g2, MapKept.run_setObj_map _ h1, Result.andThen, putEnt]
 · rw [hn] at g1; cases g1
theorem pents_snoc {e : MapEntry} {t : ThD} (h1 : e.key = .int .i64 t.id) (h2 : e.val = .pointer (some ⟨t.blk, 0, none⟩)) : ∀ (es : List MapEntry) (ts : List ThD), PEnts es ts → PEnts (es ++ [e]) (ts ++ [t]) := by
 intro es
 induction es with
 | nil => intro ts h; cases ts with
  | nil => exact ⟨h1, h2, trivial⟩
  | cons y ys => exact h.elim
 | cons e' es ih => intro ts h; cases ts with
  | nil => exact h.elim
  | cons y ys => exact ⟨h.1, h.2.1, ih ys h.2.2⟩
end Go.Proofs.YtdnembnlomnceaaGreat
namespace Go.Proofs.YtdnembnlomnceaaGreat
open Go.RowKit
/-- a row of whole numbers that nobody turns -/
def RowK (K : Nat → Prop) (w : World) (k : Value) (ks : List Int) : Prop :=
 ∃ a cap, k = .slice a ks.length cap ∧ ks.length ≤ 1048576 ∧ (0 < ks.length → ∃ b off, a = some ⟨b, off, none⟩ ∧ K b ∧ ∀ j, (h : j < ks.length) → w.cell? ⟨b, off + j, none⟩ = some (.int .i64 ks[j]))
theorem infoPtr : ((Tryz.prog.info? 58).map fun i => (i.zero, i.bytes, i.size)) = some (some (.pointer none), 8, 1) := by kernel_rfl
theorem zeroPtr : ((Tryz.prog.info? 58).map fun i => i.zero) = some (some (.pointer none)) := by kernel_rfl
set_option maxRecDepth 100000 in
set_option maxHeartbeats 2000000 in
theorem link_any {w : World} {K : Nat → Prop} {base bm : Nat} {o p : ThD} {Ts : List ThD} {acc : List (Int × Int)} {h : HeapD} {tv po k : Value} {ks : List Int} (hA : Apart (o :: Ts)) (hT : ∀ k, (getI ThD.id Ts k).isSome = isT h k) (hG : GSt K base w o Ts acc) (hM : PMap w bm Ts) (hKm : K bm)
 (hp : p ∈ o :: Ts) (hk : RowK K w k ks) (hN : acc.length + ks.length ≤ 1099511627776) (hbase : base ≤ w.heap.size) :
 Calls Tryz.prog 59 #[.agg #[tv, .map (some bm), po], .pointer (some ⟨p.blk, 0, none⟩), k] w fun e w' => e = .returned (.tuple #[]) ∧ GSt K base w' o Ts (acc ++ linkA h p.id ks) ∧ KeepK K w w' := by
 obtain ⟨a, cap, rfl, hl20, hx⟩ := hk
 have hx' : Hid _ := hx
 have hA' : Hid (Apart (o :: Ts)) := hA
 have hT' : Hid _ := hT
 have hM' : Hid (PMap w bm Ts) := hM
 have hG' : Hid (GSt K base w o Ts acc) := hG
 have hp' : Hid (p ∈ o :: Ts) := hp
 have hKm' : Hid (K bm) := hKm
 have hKs : Hid (∀ b, K b → b < w.heap.size) := by obtain ⟨S, q⟩ := hG; exact q.2.2
 clear hx hA hT hM hG hp hKm
 obtain ⟨iP, hiP, heP⟩ := Option.map_eq_some_iff.1 infoPtr
 simp only [Prod.mk.injEq] at heP
 have hI : Hid _ := hiP
 have hE : Hid _ := heP
 clear hiP heP
 have hb0 : Below w.heap.size w (w.alloc (.cells #[tv, .map (some bm), po] 60)) := (Below.refl _ _).alloc (Nat.le_refl _) _
 have bG0 : Hid (Box (w.alloc (.cells #[tv, .map (some bm), po] 60)) w.heap.size [tv, .map (some bm), po] 60) := Box.new w _ _
 have hG1 : Hid (GSt (fun b => K b ∨ b = w.heap.size) base (w.alloc (.cells #[tv, .map (some bm), po] 60)) o Ts acc) := hG'.out.more hb0 (fun b q => by rcases q with q | q; exact Or.inl q; exact Or.inr (by omega)) (fun b q => by rcases q with q | q; have := hKs.out b q; simp; omega; simp; omega)
 go_enter Tryz.func59, Tryz.ntmps59
 go_wp2_with fail
 go_loopw [12] (fun i wr => ∃ (j : Nat), j ≤ ks.length ∧ i = .int .i64 j ∧ Hid (GSt (fun b => K b ∨ b = w.heap.size) base wr o Ts (acc ++ linkA h p.id (ks.take j))) ∧ Hid (KeepK (fun b => K b ∨ b = w.heap.size) (w.alloc (.cells #[tv, .map (some bm), po] 60)) wr)) (fun i _ => ks.length - (intOf i).toNat)
 case atStart => exact ⟨0, by omega, rfl, by simpa [linkA] using hG1, KeepK.refl _ _⟩
 case round =>
  obtain ⟨j, hj, rfl, hGr, hKr⟩ := hrel
  have hsz : w.heap.size + 1 ≤ wr.heap.size := by have := hKr.out.2.2.2.1; simpa using this
  by_cases hlt : j < ks.length
  · obtain ⟨b, off, rfl, hKb, hc⟩ := hx'.out (by omega)
    have z0 : wr.cell? ⟨b, off + j, none⟩ = some (.int .i64 ks[j]) := by
     rw [World.cell?_of_block (hKr.out.2.2.2.2 b (Or.inl hKb))]
     exact cell_on hb0 (hc j hlt)
    have bG : Box wr w.heap.size [tv, .map (some bm), po] 60 := (hKr.out.2.2.2.2 _ (Or.inr rfl)).trans bG0.out
    have t1 := bG.cell 1 rfl
    have hMr : PMap wr bm Ts := hM'.out.keep ((hKr.out.2.2.2.2 bm (Or.inl hKm'.out)).trans (hb0.block bm hM'.out.lt))
    have hstep : Hid _ := linkA_step h p.id ks j hlt
    have hTk : Hid _ := hT'.out ks[j]
    have hal : Hid ((acc ++ linkA h p.id (ks.take j)).length ≤ acc.length + j) := by show _ ≤ _; have := linkA_len h p.id (ks.take j); simp at this ⊢; omega
    generalize hQ : ks[j] = Q at z0 hstep hTk
    clear hQ bG hc
    rcases run_lookP hMr Tryz.underlying57 zeroPtr Q with ⟨hg, hlook⟩ | ⟨t, hg, hlook⟩
    · have hno : Hid (isT h Q = false) := by show _ = _; rw [← hTk.out, hg]; rfl
      clear hg hMr
      go_wp2_with fail
      go_roundw
      case rel => exact ⟨j + 1, by omega, by go_num, by rw [hstep.out, hno.out]; simpa using hGr, hKr⟩
      case measure => simp [intOf]; omega
    · have hyes : Hid (isT h Q = true) := by show _ = _; rw [← hTk.out, hg]; rfl
      obtain ⟨htm, htid⟩ := get_mem Ts t hg
      have htm' : Hid (t ∈ Ts) := htm
      have htid' : Hid (t.id = Q) := htid
      obtain ⟨S, hS⟩ := hGr.out
      generalize hac : acc ++ linkA h p.id (ks.take j) = ac at *
      have hac' : Hid _ := hac
      have hS1 : Hid (GStS S (fun b => K b ∨ b = w.heap.size) base (wr.alloc (.cells #[.pointer (some ⟨t.blk, 0, none⟩)] 58)) o Ts ac) := hS.below ((Below.refl _ _).alloc (Nat.le_refl _) _)
      obtain ⟨hp1, hp2, _⟩ := hS.1 p hp'.out
      obtain ⟨hq1, hq2, _⟩ := hS1.out.1 p hp'.out
      obtain ⟨aS, capS, hform⟩ := own_forms hp2
      have hform' : Hid (S p.id = .slice aS (holdsC ac p.id).length capS) := hform
      have c2 := hp1.cell 2 rfl
      have c2' := hq1.cell 2 rfl
      rw [hform] at c2 c2' hq2
      have hq2' : Hid _ := hq2
      have hlen : Hid ((holdsC ac p.id).length ≤ ac.length) := holdsC_len ac p.id
      have hhb : Hid _ := heldC_le ac t.id
      have hwrap : IntKind.i64.wrap (heldC ac t.id + 1) = heldC ac t.id + 1 := by
       have h1 := hhb.out
       have h2 := hal.out
       rw [IntKind.wrap_i64]; omega
      clear hg hMr htm htid hac hform hp1 hp2 hq1 hq2 hS
      go_wp2_with (at_builtin; refine wpList_append_lies _ rfl _ _ 52 rfl base 58 iP (.pointer none) 1 8 Tryz.underlying52 hI.out hE.out.1 hE.out.2.2 hE.out.2.1 rfl (by decide) _ (holdsC ac p.id).length ((holdsC ac p.id).map (ptrOf Ts)) rfl hq2'.out ⟨wr.heap.size, 0, none⟩ 1 1 [.pointer (some ⟨t.blk, 0, none⟩)] rfl rfl (by intro q u hq; match q, hq with | 0, hq => simp at hq; subst hq; simp [Addr.add]) (by simp [Value.oneCell']) (by decide) ?c3 ?c4 ?c5 (wr.heap.size + 1) (by simp) ?_)
      case c3 => have := hlen.out; have := hal.out; unfold maxLen; omega
      case c4 => have := hlen.out; have := hal.out; omega
      case c5 => omega
      intro g capg w1 hown1 hgrow1 hat1 hlt1
      have hgrow1' : (wr.alloc (.cells #[.pointer (some ⟨t.blk, 0, none⟩)] 58)).grownBy w1 (S p.id).ownBlock := by rw [hform'.out]; exact hgrow1
      obtain ⟨d1, d2, d3, d4⟩ := hS1.out.cells hA'.out hp'.out htm'.out hgrow1' (.slice (some ⟨g, 0, none⟩) ((holdsC ac p.id).length + 1) capg)
      have hat2 : (S p.id).ownBlock = some g ∨ (wr.alloc (.cells #[.pointer (some ⟨t.blk, 0, none⟩)] 58)).heap.size ≤ g := by
       rcases hat1 with e | e
       · left; rw [hform'.out]; exact e
       · right; rw [e]; simp
      have hL : Hid (GSt (fun b => K b ∨ b = w.heap.size) base ((w1.setCell ⟨p.blk, 2, none⟩ (.slice (some ⟨g, 0, none⟩) ((holdsC ac p.id).length + 1) capg)).setCell ⟨t.blk, 3, none⟩ (.int .i64 (heldC ac t.id + 1))) o Ts (ac ++ [(p.id, t.id)])) := hS1.out.link1 hA'.out hp'.out htm'.out rfl hown1 hgrow1' hat2
      have hK1 : Hid _ := (((hKr.out.trans (KeepK.of_below ((Below.refl _ _).alloc (Nat.le_refl _) (.cells #[.pointer (some ⟨t.blk, 0, none⟩)] 58)) (fun b q => by obtain ⟨S0, q0⟩ := hGr.out; exact q0.2.2 b q))).grown hgrow1' hS1.out.2.2 (hS1.out.1 p hp'.out).2.2.2).set (i := 2) (hS1.out.1 p hp'.out).2.2.1 (.slice (some ⟨g, 0, none⟩) ((holdsC ac p.id).length + 1) capg)).set (i := 3) (hS1.out.1 t (List.mem_cons_of_mem _ htm'.out)).2.2.1 (.int .i64 (heldC ac t.id + 1))
      clear hown1 hgrow1 hgrow1' hat1 hat2
      rw [hform'.out] at d1
      go_wp2_with fail
      go_roundw
      case rel => exact ⟨j + 1, by omega, by go_num, by rw [hstep.out, hyes.out, if_pos rfl, ← List.append_assoc, hac'.out, ← htid'.out]; exact hL, hK1.out⟩
      case measure => simp [intOf]; omega
  · obtain rfl : j = ks.length := by omega
    go_wp2_with fail
    go_end0
    refine ⟨rfl, ?_, ?_⟩
    · have := hGr.out
      rw [List.take_length] at this
      exact this.less (fun b q => Or.inl q)
    · exact (KeepK.of_below hb0 hKs.out).trans (hKr.out.mono (fun b q => Or.inl q))
end Go.Proofs.YtdnembnlomnceaaGreat
namespace Go.Proofs.YtdnembnlomnceaaGreat
open Go.RowKit
theorem linkA_append (h : HeapD) (p : Int) (a b : List Int) : linkA h p (a ++ b) = linkA h p a ++ linkA h p b := by simp [linkA, List.filter_append]
theorem link_one {w : World} {B : Nat} (hB : w.heap.size = B) {K : Nat → Prop} {base bm : Nat} {o p : ThD} {Ts : List ThD} {acc : List (Int × Int)} {h : HeapD} {tv po : Value} {n : Int} (hA : Apart (o :: Ts)) (hT : ∀ k, (getI ThD.id Ts k).isSome = isT h k) (hG : GSt K base w o Ts acc) (hM : PMap w bm Ts) (hKm : K bm)
 (hp : p ∈ o :: Ts) (hN : acc.length + 1 ≤ 1099511627776) (hbase : base ≤ w.heap.size) :
 Calls Tryz.prog 59 #[.agg #[tv, .map (some bm), po], .pointer (some ⟨p.blk, 0, none⟩), .slice (some ⟨B, 0, none⟩) 1 1] (w.alloc (.cells #[.int .i64 n] 2)) fun e w' => e = .returned (.tuple #[]) ∧ GSt K base w' o Ts (acc ++ linkA h p.id [n]) ∧ KeepK K w w' := by
 subst hB
 have hKs : ∀ b, K b → b < w.heap.size := by obtain ⟨S, q⟩ := hG; exact q.2.2
 have hb0 : Below w.heap.size w (w.alloc (.cells #[.int .i64 n] 2)) := (Below.refl _ _).alloc (Nat.le_refl _) _
 have hG1 : GSt (fun b => K b ∨ b = w.heap.size) base (w.alloc (.cells #[.int .i64 n] 2)) o Ts acc := hG.more hb0 (fun b q => by rcases q with q | q; exact Or.inl q; exact Or.inr (by omega)) (fun b q => by rcases q with q | q; have := hKs b q; simp; omega; simp; omega)
 have hrow : RowK (fun b => K b ∨ b = w.heap.size) (w.alloc (.cells #[.int .i64 n] 2)) (.slice (some ⟨w.heap.size, 0, none⟩) 1 1) [n] := ⟨_, _, rfl, by simp, fun _ => ⟨w.heap.size, 0, rfl, Or.inr rfl, fun j hj => by
  obtain rfl : j = 0 := by simpa using hj
  exact (Box.new w [.int .i64 n] 2).cell 0 rfl⟩⟩
 refine (link_any (tv := tv) (po := po) hA hT hG1 (hM.keep (hb0.block bm hM.lt)) (Or.inl hKm) hp hrow (by simpa using hN) (by simp; omega)).mono ?_
 rintro e w' ⟨he, h1, h2⟩
 exact ⟨he, h1.less (fun b q => Or.inl q), (KeepK.of_below hb0 hKs).trans (h2.mono (fun b q => Or.inl q))⟩
set_option maxRecDepth 100000 in
set_option maxHeartbeats 2000000 in
theorem linkFields_any {w0 w : World} {K : Nat → Prop} {base lo bm : Nat} {o p : ThD} {Ts : List ThD} {acc : List (Int × Int)} {h : HeapD} {tv po k : Value} {xs : List FieldD} (hA : Apart (o :: Ts)) (hT : ∀ k, (getI ThD.id Ts k).isSome = isT h k) (hG : GSt K base w o Ts acc) (hM : PMap w bm Ts) (hKm : K bm)
 (hp : p ∈ o :: Ts) (hk : SeqAt 2 FieldAt w0 lo k xs) (h00 : ∀ b, b < w0.heap.size → w.heap[b]? = w0.heap[b]?) (hK0 : ∀ b, b < w0.heap.size → K b) (hl : xs.length ≤ 1048576) (hN : acc.length + xs.length ≤ 1099511627776) (hbase : base ≤ w.heap.size) (htv : ∃ a n c, tv = .slice a n c) (hpo : ∃ a, po = .pointer a) :
 Calls Tryz.prog 60 #[.agg #[tv, .map (some bm), po], .pointer (some ⟨p.blk, 0, none⟩), k] w fun e w' => e = .returned (.tuple #[]) ∧ GSt K base w' o Ts (acc ++ linkA h p.id (xs.map FieldD.vObj)) ∧ KeepK K w w' := by
 obtain ⟨a, cap, rfl, hm, hx⟩ := hk
 obtain ⟨ta, tn, tc, rfl⟩ := htv
 obtain ⟨pa, rfl⟩ := hpo
 have hx' : Hid _ := hx
 have hA' : Hid (Apart (o :: Ts)) := hA
 have hT' : Hid (∀ k, (getI ThD.id Ts k).isSome = isT h k) := hT
 have hM' : Hid (PMap w bm Ts) := hM
 have hG' : Hid (GSt K base w o Ts acc) := hG
 have hp' : Hid (p ∈ o :: Ts) := hp
 have hKm' : Hid (K bm) := hKm
 have h00' : Hid (∀ b, b < w0.heap.size → w.heap[b]? = w0.heap[b]?) := h00
 have hK0' : Hid (∀ b, b < w0.heap.size → K b) := hK0
 have hKs : Hid (∀ b, K b → b < w.heap.size) := by obtain ⟨S, q⟩ := hG; exact q.2.2
 clear hx hA hT hM hG hp hKm h00 hK0
 have hb0 : Below w.heap.size w (w.alloc (.cells #[.slice ta tn tc, .map (some bm), .pointer pa] 60)) := (Below.refl _ _).alloc (Nat.le_refl _) _
 have bG0 : Hid (Box (w.alloc (.cells #[.slice ta tn tc, .map (some bm), .pointer pa] 60)) w.heap.size [.slice ta tn tc, .map (some bm), .pointer pa] 60) := Box.new w _ _
 have hG1 : Hid (GSt (fun b => K b ∨ b = w.heap.size) base (w.alloc (.cells #[.slice ta tn tc, .map (some bm), .pointer pa] 60)) o Ts acc) := hG'.out.more hb0 (fun b q => by rcases q with q | q; exact Or.inl q; exact Or.inr (by omega)) (fun b q => by rcases q with q | q; have := hKs.out b q; simp; omega; simp; omega)
 go_enter Tryz.func60, Tryz.ntmps60
 go_wp2_with fail
 go_loopw [10] (fun i wr => ∃ (j : Nat), j ≤ xs.length ∧ i = .int .i64 j ∧ Hid (GSt (fun b => K b ∨ b = w.heap.size) base wr o Ts (acc ++ linkA h p.id ((xs.take j).map FieldD.vObj))) ∧ Hid (KeepK (fun b => K b ∨ b = w.heap.size) (w.alloc (.cells #[.slice ta tn tc, .map (some bm), .pointer pa] 60)) wr)) (fun i _ => xs.length - (intOf i).toNat)
 case atStart => exact ⟨0, by omega, rfl, by simpa [linkA] using hG1, KeepK.refl _ _⟩
 case round =>
  obtain ⟨j, hj, rfl, hGr, hKr⟩ := hrel
  have hsz : w.heap.size + 1 ≤ wr.heap.size := by have := hKr.out.2.2.2.1; simpa using this
  by_cases hlt : j < xs.length
  · obtain ⟨b, off, rfl, hlo, hbw, hc⟩ := hx'.out (by omega)
    obtain ⟨cs, hcl, lie, hr⟩ := hc j hlt
    have hblk : wr.heap[b]? = w0.heap[b]? := (hKr.out.2.2.2.2 b (Or.inl (hK0'.out b hbw))).trans ((hb0.block b (hKs.out b (hK0'.out b hbw))).trans (h00'.out b hbw))
    have lie1 : Lie wr b (off + j * 2) cs := fun m hm => by rw [World.cell?_of_block (w := w0) (w' := wr) hblk]; exact lie m hm
    have bG : Box wr w.heap.size [.slice ta tn tc, .map (some bm), .pointer pa] 60 := (hKr.out.2.2.2.2 _ (Or.inr rfl)).trans bG0.out
    have hMr : Hid (PMap wr bm Ts) := hM'.out.keep ((hKr.out.2.2.2.2 bm (Or.inl hKm'.out)).trans (hb0.block bm hM'.out.lt))
    have hstep : Hid ((xs.take (j + 1)).map FieldD.vObj = (xs.take j).map FieldD.vObj ++ [xs[j].vObj]) := by show _ = _; rw [List.take_succ_eq_append_getElem hlt, List.map_append]; rfl
    have hal : Hid ((acc ++ linkA h p.id ((xs.take j).map FieldD.vObj)).length ≤ acc.length + j) := by show _ ≤ _; have := linkA_len h p.id ((xs.take j).map FieldD.vObj); simp at this ⊢; omega
    generalize hQ : xs[j] = Q at hr hstep
    obtain ⟨rfl, _⟩ := hr
    have z0 := lie_at lie1 0 rfl
    have z1 := lie_at lie1 1 rfl
    simp only [Nat.add_zero] at z0
    have hbf : Below wr.heap.size wr (wr.alloc (.cells #[.string Q.vName, .int .i64 Q.vObj] 118)) := (Below.refl _ _).alloc (Nat.le_refl _) _
    have bG2 := bG.alloc (.cells #[.string Q.vName, .int .i64 Q.vObj] 118)
    have bF2 := Box.new wr [.string Q.vName, .int .i64 Q.vObj] 118
    have g0 := bG2.cell 0 rfl
    have g1 := bG2.cell 1 rfl
    have g2 := bG2.cell 2 rfl
    have f1 := bF2.cell 1 rfl
    have hG2 : Hid (GSt (fun b => K b ∨ b = w.heap.size) base (wr.alloc (.cells #[.string Q.vName, .int .i64 Q.vObj] 118)) o Ts (acc ++ linkA h p.id ((xs.take j).map FieldD.vObj))) := hGr.out.below hbf
    clear hQ bG bG2 bF2 hc lie lie1 hcl
    go_wp2_with fail
    refine (link_one (B := wr.heap.size + 1) (by simp) (h := h) (tv := .slice ta tn tc) (po := .pointer pa) hA'.out hT'.out hG2.out (hMr.out.keep (hbf.block bm hMr.out.lt)) (Or.inl hKm'.out) hp'.out (by have := hal.out; omega) (by simp; omega)).mono ?_
    rintro e w1 ⟨rfl, hL, hKL⟩
    have hL' : Hid _ := hL
    have hKL' : Hid _ := (hKr.out.trans (KeepK.of_below hbf (fun b q => by obtain ⟨S0, q0⟩ := hGr.out; exact q0.2.2 b q))).trans hKL
    clear hL hKL
    go_wp2_with fail
    go_roundw
    case rel => exact ⟨j + 1, by omega, by go_num, by rw [hstep.out, linkA_append, ← List.append_assoc]; exact hL', hKL'.out⟩
    case measure => simp [intOf]; omega
  · obtain rfl : j = xs.length := by omega
    go_wp2_with fail
    go_end0
    refine ⟨rfl, ?_, ?_⟩
    · have := hGr.out
      rw [List.take_length] at this
      exact GSt.less this (fun b q => Or.inl q)
    · exact (KeepK.of_below hb0 hKs.out).trans (hKr.out.mono (fun b q => Or.inl q))
end Go.Proofs.YtdnembnlomnceaaGreat
