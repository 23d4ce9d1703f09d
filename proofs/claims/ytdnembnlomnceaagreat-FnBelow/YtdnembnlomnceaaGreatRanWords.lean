/- What the fields of a heap may be called, after ops; what a name leads to: plain. -/
import Derived.Test.YtdnembnlomnceaaGreatAbb
import Derived.Test.YtdnembnlomnceaaGreatRnAct
import Derived.Test.YtdnembnlomnceaaGreatMakeW
import Derived.Test.YtdnembnlomnceaaGreatOpSpec
namespace Go.Proofs.YtdnembnlomnceaaGreat
open Go.RowKit Go.Deep
/-- an op on a right heap: the heap then, and the code -/
def doneD (x : HeapD) (r : HeapD × Int) : HeapD × Int :=
 if r.2 = 0 then (if specB r.1 = true then (r.1, 0) else (x, 4)) else (x, r.2)
def ranD (x : HeapD) (o : OpD) : HeapD × Int := if opS o = true then doneD x (actD x o) else (x, 2)
theorem ranD_right {x : HeapD} {o : OpD} (h : specB x = true) : specB (ranD x o).1 = true := by
 unfold ranD doneD
 split
 · split
   · split
     · assumption
     · exact h
   · exact h
 · exact h
/-- three boxes: the heap, the op, the answer -/
structure R3 (w : World) (cs ds : List Value) (x : HeapD) (W : World) : Prop where
 bH : Box W w.heap.size cs 28
 bO : Box W (w.heap.size + 1) ds 91
 bR : Box W (w.heap.size + 1 + 1) cZp 28
 h0 : HeapAt w 0 cs x
 hb : Below w.heap.size w W
theorem heapAt_below {w W : World} {cs : List Value} {x : HeapD} (h : HeapAt w 0 cs x) (q : Below w.heap.size w W) : HeapAt W 0 cs x := HeapAt_stays w W 0 0 cs x ⟨q.size, Nat.le_refl _, fun b _ h2 => q.block b h2⟩ h
theorem R3.hx {w W : World} {cs ds : List Value} {x : HeapD} (h : R3 w cs ds x W) : HeapAt W 0 cs x := heapAt_below h.h0 h.hb
theorem R3.below {w W W' : World} {cs ds : List Value} {x : HeapD} (h : R3 w cs ds x W) (q : Below W.heap.size W W') : R3 w cs ds x W' :=
 ⟨h.bH.below q h.bH.lt, h.bO.below q h.bO.lt, h.bR.below q h.bR.lt, h.h0, h.hb.trans (q.mono h.hb.size)⟩
theorem R3.start {w : World} {cs ds : List Value} {x : HeapD} (h : HeapAt w 0 cs x) : R3 w cs ds x (((w.alloc (.cells cs.toArray 28)).alloc (.cells ds.toArray 91)).alloc (.cells cZp.toArray 28)) := by
 have hb : Below w.heap.size w (((w.alloc (.cells cs.toArray 28)).alloc (.cells ds.toArray 91)).alloc (.cells cZp.toArray 28)) := (((Below.refl _ _).alloc (Nat.le_refl _) _).alloc (by simp) _).alloc (by simp; omega) _
 refine ⟨((Box.new w cs _).alloc _).alloc _, ?_, ?_, h, hb⟩
 · have q := (Box.new (w.alloc (.cells cs.toArray 28)) ds 91).alloc (.cells cZp.toArray 28); rw [World.size_alloc] at q; exact q
 · have q := Box.new ((w.alloc (.cells cs.toArray 28)).alloc (.cells ds.toArray 91)) cZp 28; rw [World.size_alloc, World.size_alloc] at q; exact q
theorem R3.put {w W : World} {cs ds : List Value} {x : HeapD} (h : R3 w cs ds x W) {E : Nat} (vs : List Value) (hE : w.heap.size + 1 + 1 < E) : R3 w cs ds x (putCells W E 0 vs) :=
 ⟨(putCells_other _ _ _ _ _ (by omega)).trans h.bH, (putCells_other _ _ _ _ _ (by omega)).trans h.bO, (putCells_other _ _ _ _ _ (by omega)).trans h.bR, h.h0, putCells_below _ _ _ _ _ _ (by omega) h.hb⟩
/-- a step on a heap whose blocks are all new -/
theorem HR.newer {W W1 W2 : World} {fs : List Nat} {cs : List Value} {y : HeapD} (hb : Below W.heap.size W W1) (hf : ∀ b ∈ fs, W.heap.size ≤ b) (h : HR W1 fs W2 cs y) : Below W.heap.size W W2 ∧ ∃ fs', HeapP W2 cs y fs' ∧ (∀ b ∈ fs', W.heap.size ≤ b) ∧ ∀ b ∈ fs', b ∈ fs ∨ W1.heap.size ≤ b := by
 obtain ⟨fs', hp, hs, ho⟩ := h
 have hz := hb.size
 refine ⟨⟨ho.1.trans hb.os, ho.2.1.trans hb.tape, ho.2.2.1.trans hb.output, Nat.le_trans hz ho.2.2.2.1, fun b q => (ho.2.2.2.2 b (by omega) (fun z => by have := hf b z; omega)).trans (hb.block b q)⟩, fs', hp, fun b z => ?_, hs⟩
 rcases hs b z with q | q
 · exact hf b q
 · omega
/-- what is told: the heap, in new memory, and the code -/
def RanR (w w' : World) (r : HeapD × Int) (e : Ending) : Prop := (∃ cs fs, e = .returned (.tuple #[.agg cs.toArray, .int .i64 r.2]) ∧ HeapP w' cs r.1 fs ∧ ∀ b ∈ fs, w.heap.size ≤ b) ∧ Below w.heap.size w w'
theorem R3.give {w W : World} {cs ds : List Value} {x : HeapD} (h : R3 w cs ds x W) {W' : World} (q : Below W.heap.size W W') {cs' : List Value} {y : HeapD} {fs' : List Nat} (hp : HeapP W' cs' y fs') (hn : ∀ b ∈ fs', w.heap.size ≤ b ∧ b ≠ w.heap.size + 1 + 1) (c : Int) : RanR w (putCells W' (w.heap.size + 1 + 1) 0 cs') (y, c) (.returned (.tuple #[.agg cs'.toArray, .int .i64 c])) := by
 refine ⟨⟨cs', fs', rfl, hp.stays fun b hb => putCells_other _ _ _ _ _ (hn b hb).2, fun b hb => (hn b hb).1⟩, ?_⟩
 exact putCells_below cs' _ _ _ _ _ (by omega) (h.hb.trans (q.mono h.hb.size))
end Go.Proofs.YtdnembnlomnceaaGreat
namespace Go.Proofs.YtdnembnlomnceaaGreat
open Go.RowKit
/-- no field has a long name -/
def FW (h : HeapD) : Prop := ∀ ob ∈ h.vObjs, ∀ f ∈ ob.vFields, f.vName.size ≤ 3
theorem setF_mem (nm : ByteArray) (id : Int) : ∀ (l : List FieldD) (s : List FieldD × Bool), ∀ f ∈ (l.foldl (setStep nm id) s).1, f ∈ s.1 ∨ f ∈ l ∨ f = ⟨nm, id⟩ := by
 intro l
 induction l with
 | nil => intro s f hf; exact Or.inl hf
 | cons x l ih =>
  intro s f hf
  rw [List.foldl_cons] at hf
  rcases ih _ f hf with q | q | q
  · unfold setStep at q
    rcases List.mem_append.1 q with q | q
    · split at q
      · rcases List.mem_append.1 q with q | q
        · exact Or.inl q
        · exact Or.inr (Or.inr (by simpa using q))
      · exact Or.inl q
    · split at q
      · cases q
      · exact Or.inr (Or.inl (by rw [List.mem_singleton.1 q]; simp))
  · exact Or.inr (Or.inl (by simp [q]))
  · exact Or.inr (Or.inr q)
theorem setD_mem {l : List FieldD} {nm : ByteArray} {id : Int} {f : FieldD} (h : f ∈ setD l nm id) : f ∈ l ∨ f = ⟨nm, id⟩ := by
 unfold setD at h
 have key : ∀ g ∈ (setF nm id l).1, g ∈ l ∨ g = ⟨nm, id⟩ := fun g hg => by
  rcases setF_mem nm id l _ g hg with q | q | q
  · cases q
  · exact Or.inl q
  · exact Or.inr q
 split at h
 · exact key f h
 · rcases List.mem_append.1 h with q | q
   · exact key f q
   · exact Or.inr (List.mem_singleton.1 q)
theorem mem_modifyW {α : Type} {f : α → α} : ∀ {l : List α} {i : Nat} {a : α}, a ∈ l.modify i f → a ∈ l ∨ ∃ b ∈ l, a = f b := by
 intro l
 induction l with
 | nil => intro i a h; rw [List.modify_nil] at h; cases h
 | cons x l ih =>
  intro i a h
  cases i with
  | zero =>
   rw [List.modify_zero_cons] at h
   rcases List.mem_cons.1 h with q | q
   · exact Or.inr ⟨x, by simp, q⟩
   · exact Or.inl (by simp [q])
  | succ i =>
   rw [List.modify_succ_cons] at h
   rcases List.mem_cons.1 h with q | q
   · exact Or.inl (by simp [q])
   · rcases ih q with z | ⟨b, hb, e⟩
     · exact Or.inl (by simp [z])
     · exact Or.inr ⟨b, by simp [hb], e⟩
theorem FW.same {h h' : HeapD} (q : FW h) (e : h'.vObjs = h.vObjs) : FW h' := fun ob hb => q ob (e ▸ hb)
theorem FW.new {h : HeapD} (q : FW h) (node : Int) : FW (newD h node) := fun ob hb f hf => by
 rcases List.mem_append.1 (show ob ∈ h.vObjs ++ [⟨h.vNext, node, []⟩] from hb) with z | z
 · exact q ob z f hf
 · rw [List.mem_singleton.1 z] at hf; cases hf
theorem FW.wrap {h : HeapD} (q : FW h) (node : Int) : FW (wrapD h node).1 := by
 unfold wrapD
 split
 · exact q
 · exact q.new node
theorem detach_objs (h : HeapD) (node : Int) : (detachD h node).vObjs = h.vObjs := by unfold detachD; split <;> rfl
theorem insert_objs (h : HeapD) (p n b : Int) : (insertD h p n b).vObjs = h.vObjs := by
 unfold insertD
 show (detachD h n).vObjs = h.vObjs
 exact detach_objs h n
theorem FW.make {h : HeapD} (q : FW h) (o : OpD) : FW (makeD h o) := by
 refine FW.same (h := makeH h o) ?_ rfl
 unfold makeH
 split
 · exact FW.new (h := withNode h o.vWord) (q.same rfl) _
 split
 · exact q.new _
 split
 · exact q.wrap _
 · exact q
theorem FW.tree {h : HeapD} (q : FW h) (o : OpD) (nd ot : Int) : FW (treeOp h o nd ot).1 := by
 unfold treeOp
 split
 · exact q
 split
 · split
   · exact q
   · exact q.same (detach_objs _ _)
 split
 · split
   · exact q
   · exact q.same rfl
 split
 · split
   · exact q
   · exact (q.wrap _).same rfl
 split
 · split
   · exact q
   split
   · exact q
   split
   · exact q
   · exact q.same (insert_objs _ _ _ _)
 · split
   · exact q
   · exact q.same (insert_objs _ _ _ _)
theorem FW.setO {h : HeapD} (q : FW h) (id v : Int) {nm : ByteArray} (hw : nm.size ≤ 3) : FW (setO h id (setD (fldsOf h id) nm v)) := fun ob hb f hf => by
 have hl : ∀ g ∈ setD (fldsOf h id) nm v, g.vName.size ≤ 3 := fun g hg => by
  rcases setD_mem hg with z | z
  · unfold fldsOf at z
    cases e : objAt h id with
    | none => rw [e] at z; cases z
    | some x => rw [e] at z; exact q x (get_mem _ _ e).1 g z
  · rw [z]; exact hw
 rcases mem_modifyW (show ob ∈ h.vObjs.modify (idxO h id).toNat _ from hb) with z | ⟨b, hb2, e⟩
 · exact q ob z f hf
 · rw [e] at hf; exact hl f hf
theorem FW.act {h : HeapD} (q : FW h) {o : OpD} (hw : o.vWord.size ≤ 3) : FW (actD h o).1 := by
 unfold actD actOp
 split
 · exact q.make o
 split
 · exact q
 split
 · exact q.setO _ _ hw
 split
 · split
   · exact q
   split
   · exact q.setO _ _ hw
   · exact q.same rfl
 split
 · exact q.same rfl
 · exact q.tree o _ _
theorem FW.ran {h : HeapD} (q : FW h) {o : OpD} (hw : o.vWord.size ≤ 3) : FW (ranD h o).1 := by
 unfold ranD doneD
 split
 · split
   · split
     · exact q.act hw
     · exact q
   · exact q
 · exact q
/-- how great a drawn heap is -/
def HSz (h : HeapD) : Prop := 0 < h.vNodes.length ∧ h.vNodes.length ≤ 16 ∧ h.vObjs.length ≤ 16 ∧ h.vGlobals.length ≤ 8 ∧ h.small
theorem RightH.sz {h : HeapD} (r : RightH h) : HSz h := by
 refine ⟨?_, r.nN, r.nO, r.nG, r.small⟩
 have q := r.doc
 rcases idxN_is h h.vDoc with ⟨z, _⟩ | ⟨i, hi, _⟩
 · omega
 · omega
theorem allS_set {α : Type} {P : α → Prop} {xs : List α} (h : AllS P xs) (k : Nat) {x : α} (hx : P x) : AllS P (xs.set k x) := by
 refine ⟨by rw [List.length_set]; exact h.1, fun i hi => ?_⟩
 rw [List.getElem_set]
 split
 · exact hx
 · exact h.2 i (by rw [List.length_set] at hi; exact hi)
theorem HSz.setN {y : HeapD} (h : HSz y) {k : Nat} (hk : k < y.vNodes.length) (v : Int) : HSz { y with vNodes := y.vNodes.set k { y.vNodes[k] with vParent := v } } := by
 obtain ⟨h1, h2, h3, h4, h5, h6, h7, h8⟩ := h
 exact ⟨by rw [List.length_set]; exact h1, by rw [List.length_set]; exact h2, h3, h4, allS_set h5 k (h5.2 k hk), h6, h7, h8⟩
theorem HSz.setO {y : HeapD} (h : HSz y) (hO : 0 < y.vObjs.length) (v : Int) : HSz { y with vObjs := y.vObjs.set 0 { y.vObjs[0] with vNode := v } } := by
 obtain ⟨h1, h2, h3, h4, h5, h6, h7, h8⟩ := h
 exact ⟨h1, h2, by rw [List.length_set]; exact h3, h4, h5, allS_set h6 0 (h6.2 0 hO), h7, h8⟩
end Go.Proofs.YtdnembnlomnceaaGreat
