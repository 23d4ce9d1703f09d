/- A heap in a box of its own, under work: what each step leaves. -/
import Derived.Test.YtdnembnlomnceaaGreatHeap
import Derived.Test.YtdnembnlomnceaaGreatOwnRows
import Derived.Test.YtdnembnlomnceaaGreatRecs
import Derived.Test.YtdnembnlomnceaaGreatFillOver
import Derived.Test.YtdnembnlomnceaaGreatAbb
namespace Go.Proofs.YtdnembnlomnceaaGreat
open Go.RowKit
/-- names with an object for one of them (0: without it), under way -/
def setStep (nm : ByteArray) (id : Int) (s : List FieldD × Bool) (x : FieldD) : List FieldD × Bool :=
 ((if !s.2 && !ltS x.vName nm then s.1 ++ [⟨nm, id⟩] else s.1) ++ (if x.vName = nm then [] else [x]), s.2 || !ltS x.vName nm)
def setF (nm : ByteArray) (id : Int) (l : List FieldD) : List FieldD × Bool := l.foldl (setStep nm id) ([], decide (id = 0))
def setD (l : List FieldD) (nm : ByteArray) (id : Int) : List FieldD := if (setF nm id l).2 then (setF nm id l).1 else (setF nm id l).1 ++ [⟨nm, id⟩]
theorem setF_succ {nm : ByteArray} {id : Int} {l : List FieldD} {j : Nat} (h : j < l.length) : setF nm id (l.take (j + 1)) = setStep nm id (setF nm id (l.take j)) l[j] := by
 unfold setF; rw [List.take_succ_eq_append_getElem h, List.foldl_append]; rfl
theorem setStep_len (nm : ByteArray) (id : Int) (s : List FieldD × Bool) (x : FieldD) : (setStep nm id s x).1.length ≤ s.1.length + 2 := by
 unfold setStep
 simp only [List.length_append]
 have h1 : (if !s.2 && !ltS x.vName nm then s.1 ++ [⟨nm, id⟩] else s.1).length ≤ s.1.length + 1 := by split <;> simp
 have h2 : (if x.vName = nm then [] else [x]).length ≤ 1 := by split <;> simp
 omega
theorem setF_len (nm : ByteArray) (id : Int) (l : List FieldD) : ∀ j, j ≤ l.length → (setF nm id (l.take j)).1.length ≤ 2 * j := by
 intro j
 induction j with
 | zero => intro _; simp [setF]
 | succ j ih =>
  intro hj
  rw [setF_succ (by omega)]
  have h1 := setStep_len nm id (setF nm id (l.take j)) l[j]
  have h2 := ih (by omega)
  omega
/-- with a new object, of a node or of none -/
def newD (h : HeapD) (node : Int) : HeapD :=
 { h with vNext := h.vNext + 1, vObjs := h.vObjs ++ [⟨h.vNext, node, []⟩], vNodes := if node = 0 then h.vNodes else h.vNodes.modify (idxN h node).toNat fun x => { x with vWrapper := h.vNext } }
/-- the object of a node, a new one if it has none -/
def wrapOf (h : HeapD) (node : Int) : Int := match nodeAt h node with
 | some x => x.vWrapper
 | none => 0
def wrapD (h : HeapD) (node : Int) : HeapD × Int := if wrapOf h node ≠ 0 then (h, wrapOf h node) else (newD h node, h.vNext)
/-- a node out of its parent -/
def parOf (h : HeapD) (node : Int) : Int := match nodeAt h node with
 | some x => x.vParent
 | none => 0
def detachD (h : HeapD) (node : Int) : HeapD :=
 if idxN h (parOf h node) < 0 then h else
 { h with vNodes := (h.vNodes.modify (idxN h (parOf h node)).toNat fun x => { x with vKids := x.vKids.filter fun k => decide (k ≠ node) }).modify (idxN h node).toNat fun x => { x with vParent := 0 } }
/-- a number into a row, ahead of another one, or at the end -/
def putK (ks : List Int) (node before : Int) : List Int := (ks.flatMap fun k => if k = before then [node, k] else [k]) ++ if before = 0 then [node] else []
/-- a node into a parent, ahead of a kid, or at the end -/
def insertD (h : HeapD) (parent node before : Int) : HeapD :=
 let d := detachD h node
 { d with vNodes := (d.vNodes.modify (idxN d parent).toNat fun x => { x with vKids := putK x.vKids node before }).modify (idxN d node).toNat fun x => { x with vParent := parent } }
end Go.Proofs.YtdnembnlomnceaaGreat
namespace Go.Proofs.YtdnembnlomnceaaGreat
open Go.RowKit
def ListenerOwn (_ : World) (cs : List Value) (x : ListenerD) (fs : List Nat) : Prop :=
 cs = [.string x.vType, .bool x.vCapture, .bool x.vOnce, .int .i64 x.vStop, .string x.vName] ∧ x.vType.size ≤ maxLen ∧ InI x.vStop ∧ x.vName.size ≤ maxLen ∧ fs = []
theorem ListenerOwn_stays : OwnStays ListenerOwn := fun _ _ _ _ _ _ h => h
theorem ListenerOwn_at {lo : Nat} (w : World) (cs : List Value) (x : ListenerD) (fs : List Nat) (h : ListenerOwn w cs x fs) (_ : ∀ b ∈ fs, lo ≤ b) : ListenerAt w lo cs x := by
 obtain ⟨e, r0, r1, r2, _⟩ := h
 exact ⟨e, r0, r1, r2, trivial⟩
def NodeOwn (w : World) (cs : List Value) (x : NodeD) (fs : List Nat) : Prop :=
 ∃ k3 k5 : Value, ∃ f3 f5 : List Nat, cs = [.int .i64 x.vId, .string x.vTag, .int .i64 x.vParent, k3, .int .i64 x.vWrapper, k5] ∧ SeqOwn 1 IntOwn w k3 x.vKids f3 ∧ SeqOwn 5 ListenerOwn w k5 x.vListeners f5 ∧ InI x.vId ∧ x.vTag.size ≤ maxLen ∧ InI x.vParent ∧ InI x.vWrapper ∧ fs = f3 ++ f5
theorem NodeOwn_at {lo : Nat} (w : World) (cs : List Value) (x : NodeD) (fs : List Nat) (h : NodeOwn w cs x fs) (q : ∀ b ∈ fs, lo ≤ b) : NodeAt w lo cs x := by
 obtain ⟨k3, k5, f3, f5, e, h3, h5, r0, r1, r2, r3, rfl⟩ := h
 exact ⟨k3, k5, e, h3.at (intOwn_at (lo := lo)) (fun b hb => q b (List.mem_append_left _ hb)), h5.at (ListenerOwn_at (lo := lo)) (fun b hb => q b (List.mem_append_right _ hb)), r0, r1, r2, r3, trivial⟩
def FieldOwn (_ : World) (cs : List Value) (x : FieldD) (fs : List Nat) : Prop :=
 cs = [.string x.vName, .int .i64 x.vObj] ∧ x.vName.size ≤ maxLen ∧ InI x.vObj ∧ fs = []
theorem FieldOwn_stays : OwnStays FieldOwn := fun _ _ _ _ _ _ h => h
theorem FieldOwn_lt : OwnLt FieldOwn := by
 intro w cs x fs h b hb
 obtain ⟨_, _, _, rfl⟩ := h
 cases hb
theorem FieldOwn_at {lo : Nat} (w : World) (cs : List Value) (x : FieldD) (fs : List Nat) (h : FieldOwn w cs x fs) (_ : ∀ b ∈ fs, lo ≤ b) : FieldAt w lo cs x := by
 obtain ⟨e, r0, r1, _⟩ := h
 exact ⟨e, r0, r1, trivial⟩
def ObjOwn (w : World) (cs : List Value) (x : ObjD) (fs : List Nat) : Prop :=
 ∃ k2 : Value, ∃ f2 : List Nat, cs = [.int .i64 x.vId, .int .i64 x.vNode, k2] ∧ SeqOwn 2 FieldOwn w k2 x.vFields f2 ∧ InI x.vId ∧ InI x.vNode ∧ fs = f2
theorem ObjOwn_stays : OwnStays ObjOwn := by
 intro w w' cs x fs q h
 obtain ⟨k2, f2, e, h2, r0, r1, rfl⟩ := h
 exact ⟨k2, _, e, h2.stays FieldOwn_stays (fun b hb => q b hb), r0, r1, rfl⟩
theorem ObjOwn_lt : OwnLt ObjOwn := by
 intro w cs x fs h
 obtain ⟨k2, f2, e, h2, r0, r1, rfl⟩ := h
 intro b hb
 exact h2.lt FieldOwn_lt b hb
theorem ObjOwn_at {lo : Nat} (w : World) (cs : List Value) (x : ObjD) (fs : List Nat) (h : ObjOwn w cs x fs) (q : ∀ b ∈ fs, lo ≤ b) : ObjAt w lo cs x := by
 obtain ⟨k2, f2, e, h2, r0, r1, rfl⟩ := h
 exact ⟨k2, e, h2.at (FieldOwn_at (lo := lo)) (fun b hb => q b hb), r0, r1, trivial⟩
def HeapOwn (w : World) (cs : List Value) (x : HeapD) (fs : List Nat) : Prop :=
 ∃ k2 k3 k4 : Value, ∃ f2 f3 f4 : List Nat, cs = [.int .i64 x.vNext, .int .i64 x.vDoc, k2, k3, k4] ∧ SeqOwn 6 NodeOwn w k2 x.vNodes f2 ∧ SeqOwn 3 ObjOwn w k3 x.vObjs f3 ∧ SeqOwn 2 FieldOwn w k4 x.vGlobals f4 ∧ InI x.vNext ∧ InI x.vDoc ∧ fs = f2 ++ f3 ++ f4
theorem HeapOwn_at {lo : Nat} (w : World) (cs : List Value) (x : HeapD) (fs : List Nat) (h : HeapOwn w cs x fs) (q : ∀ b ∈ fs, lo ≤ b) : HeapAt w lo cs x := by
 obtain ⟨k2, k3, k4, f2, f3, f4, e, h2, h3, h4, r0, r1, rfl⟩ := h
 exact ⟨k2, k3, k4, e, h2.at (NodeOwn_at (lo := lo)) (fun b hb => q b (List.mem_append_left _ (List.mem_append_left _ hb))), h3.at (ObjOwn_at (lo := lo)) (fun b hb => q b (List.mem_append_left _ (List.mem_append_right _ hb))), h4.at (FieldOwn_at (lo := lo)) (fun b hb => q b (List.mem_append_right _ hb)), r0, r1, trivial⟩
end Go.Proofs.YtdnembnlomnceaaGreat
namespace Go.Proofs.YtdnembnlomnceaaGreat
open Go.RowKit Go.Deep
/-- the blocks of a row that grows -/
def gfs (v : Value) (bss : List (List Nat)) : List Nat := v.ownBlock.toList ++ bss.flatten
theorem mem_own {v : Value} {b : Nat} : b ∈ v.ownBlock.toList ↔ v.ownBlock = some b := by
 cases h : v.ownBlock with
 | none => simp
 | some k => simp [eq_comm]
theorem GrowOwn.lts {α : Type} {T c : Nat} {R : World → List Value → α → List Nat → Prop} {base : Nat} {w : World} {v : Value} {xs : List α} {bss : List (List Nat)} {css : List (List Value)} (h : GrowOwn T c R base w v xs bss css) : ∀ b ∈ gfs v bss, base ≤ b ∧ b < w.heap.size := by
 intro b hb
 obtain ⟨h1, h2, h3, h4, h5, h6, h7⟩ := h
 rcases List.mem_append.1 hb with q | q
 · have q := mem_own.1 q
   exact ⟨own_block2 h4 b q, row_lt h4 b q⟩
 · exact ⟨(h7 b q).1, (h7 b q).2.1⟩
theorem GrowOwn.nodups {α : Type} {T c : Nat} {R : World → List Value → α → List Nat → Prop} {base : Nat} {w : World} {v : Value} {xs : List α} {bss : List (List Nat)} {css : List (List Value)} (h : GrowOwn T c R base w v xs bss css) : (gfs v bss).Nodup := by
 obtain ⟨h1, h2, h3, h4, h5, h6, h7⟩ := h
 refine List.nodup_append.2 ⟨by cases v.ownBlock <;> simp, h6, fun a ha b hb e => ?_⟩
 subst e
 exact (h7 a hb).2.2 (mem_own.1 ha)
theorem GrowOwn.stays {α : Type} {T c : Nat} {R : World → List Value → α → List Nat → Prop} (hR : OwnStays R) {base : Nat} {w w' : World} {v : Value} {xs : List α} {bss : List (List Nat)} {css : List (List Value)} (h : GrowOwn T c R base w v xs bss css) (hk : ∀ b ∈ gfs v bss, w'.heap[b]? = w.heap[b]?) : GrowOwn T c R base w' v xs bss css := by
 have hl := h.lts
 have hz : ∀ b ∈ gfs v bss, b < w'.heap.size := fun b hb => by
  have := hk b hb
  rw [Array.getElem?_eq_getElem (hl b hb).2] at this
  exact (Array.getElem?_eq_some_iff.1 this).1
 obtain ⟨h1, h2, h3, h4, h5, h6, h7⟩ := h
 refine ⟨h1, h2, h3, ⟨h4.1, ?_⟩, fun i q q1 q2 => hR _ _ _ _ _ (fun b hb => hk b (List.mem_append.2 (Or.inr (flat_mem q2 hb)))) (h5 i q q1 q2), h6, fun b hb => ⟨(h7 b hb).1, hz b (List.mem_append.2 (Or.inr hb)), (h7 b hb).2.2⟩⟩
 rcases h4.2 with q | ⟨g, cap, cur, hv, hg, hh, r⟩
 · exact Or.inl q
 · exact Or.inr ⟨g, cap, cur, hv, hg, (hk g (List.mem_append.2 (Or.inl (mem_own.2 (by rw [hv]; rfl))))).trans hh, r⟩
theorem flat_set : ∀ (css : List (List Value)) (i j c : Nat) (u : Value), (∀ cs ∈ css, cs.length = c) → (hi : i < css.length) → j < c → (css.set i (css[i].set j u)).flatten = css.flatten.set (i * c + j) u := by
 intro css
 induction css with
 | nil => intro i j c u _ hi; simp at hi
 | cons x xs ih =>
  intro i j c u hc hi hj
  have hx := hc x (by simp)
  cases i with
  | zero =>
   simp only [List.set_cons_zero, List.flatten_cons, List.getElem_cons_zero, Nat.zero_mul, Nat.zero_add]
   rw [List.set_append_left _ _ (by omega)]
  | succ i =>
   simp only [List.set_cons_succ, List.flatten_cons, List.getElem_cons_succ]
   rw [ih i j c u (fun cs h => hc cs (by simp [h])) (by simpa using hi) hj, List.set_append_right _ _ (by rw [hx, Nat.add_mul]; omega)]
   congr 2
   rw [hx, Nat.add_mul]; omega
theorem flat_mem_set {bss : List (List Nat)} {i : Nat} {fs : List Nat} {b : Nat} (h : b ∈ (bss.set i fs).flatten) : b ∈ fs ∨ ∃ k, ∃ hk : k < bss.length, k ≠ i ∧ b ∈ bss[k] := by
 obtain ⟨l, hl, hb⟩ := List.mem_flatten.1 h
 obtain ⟨k, hk, rfl⟩ := List.getElem_of_mem hl
 rw [List.length_set] at hk
 by_cases e : i = k
 · subst e; rw [List.getElem_set_self] at hb; exact Or.inl hb
 · rw [List.getElem_set_ne e] at hb; exact Or.inr ⟨k, hk, fun q => e q.symm, hb⟩
theorem nodup_set {bss : List (List Nat)} {i : Nat} {fs : List Nat} (h : bss.flatten.Nodup) (hf : fs.Nodup) (hd : ∀ k, (hk : k < bss.length) → k ≠ i → ∀ b ∈ fs, b ∉ bss[k]) : (bss.set i fs).flatten.Nodup := by
 have h' := List.pairwise_flatten.1 h
 refine List.pairwise_flatten.2 ⟨fun l hl => ?_, ?_⟩
 · rcases List.mem_or_eq_of_mem_set hl with q | q
   · exact h'.1 l q
   · rw [q]; exact hf
 · rw [List.pairwise_iff_getElem]
   intro a b ha hb hab
   rw [List.length_set] at ha hb
   have hp := (List.pairwise_iff_getElem.1 h'.2) a b ha hb hab
   by_cases e1 : i = a
   · subst e1
     rw [List.getElem_set_self, List.getElem_set_ne (by omega)]
     intro x hx y hy e
     subst e
     exact hd b hb (by omega) x hx hy
   · by_cases e2 : i = b
     · subst e2
       rw [List.getElem_set_self, List.getElem_set_ne e1]
       intro x hx y hy e
       subst e
       exact hd a ha (fun q => e1 q.symm) x hy hx
     · rw [List.getElem_set_ne e1, List.getElem_set_ne e2]; exact hp
/-- one cell of one record turned, in its place -/
theorem GrowOwn.turn {α : Type} {T c : Nat} {R : World → List Value → α → List Nat → Prop} (hR : OwnStays R) {base : Nat} {w w1 : World} {g n cap : Nat} {xs : List α} {bss : List (List Nat)} {css : List (List Value)} (h : GrowOwn T c R base w (.slice (some ⟨g, 0, none⟩) n cap) xs bss css)
 {i j : Nat} {u : Value} {x' : α} {fs' : List Nat} (hi : i < xs.length) (hj : j < c) (hz : w.heap.size ≤ w1.heap.size) (hkg : w1.heap[g]? = w.heap[g]?) (hk : ∀ k, (hk : k < bss.length) → k ≠ i → ∀ b ∈ bss[k], w1.heap[b]? = w.heap[b]?) (hr : ∀ (h1 : i < css.length), R w1 (css[i].set j u) x' fs') (hnd : fs'.Nodup) (hlo : ∀ b ∈ fs', base ≤ b ∧ b < w1.heap.size ∧ b ≠ g) (hd : ∀ k, (hk : k < bss.length) → k ≠ i → ∀ b ∈ fs', b ∉ bss[k]) :
 ∃ css', GrowOwn T c R base (w1.setCell ⟨g, i * c + j, none⟩ u) (.slice (some ⟨g, 0, none⟩) n cap) (xs.set i x') (bss.set i fs') css' := by
 obtain ⟨h1, h2, h3, h4, h5, h6, h7⟩ := h
 have hic : i < css.length := by omega
 refine ⟨css.set i (css[i].set j u), by rw [List.length_set, List.length_set]; exact h1, by rw [List.length_set, List.length_set]; exact h2, fun cs hc => ?_, ?_, fun k q q1 q2 => ?_, nodup_set h6 hnd hd, fun b hb => ?_⟩
 · rcases List.mem_or_eq_of_mem_set hc with q | q
   · exact h3 cs q
   · rw [q, List.length_set]; exact h3 _ (List.getElem_mem _)
 · rw [List.length_set]
   refine ⟨by rw [flat_set css i j c u h3 hic hj, List.length_set]; exact h4.1, ?_⟩
   rcases h4.2 with ⟨q, _⟩ | ⟨g', cap', cur, hv, hg, hh, r1, r2, r3, r4⟩
   · cases q
   · injection hv with e1 e2 e3
     injection e1 with e1
     injection e1 with e1
     subst e1 e3
     have hb : Box w1 g cur.toList T := by unfold Box; rw [hkg]; simpa using hh
     have hb2 : Box (w1.setCell ⟨g, i * c + j, none⟩ u) g (cur.toList.set (i * c + j) u) T := hb.set u
     refine Or.inr ⟨g, cap, (cur.toList.set (i * c + j) u).toArray, by rw [e2], hg, hb2, r1, r2, by simp [r3], ?_⟩
     rw [flat_set css i j c u h3 hic hj, ← r4]
     simp [List.take_set]
 · rw [List.length_set] at q q1 q2
   by_cases e : i = k
   · subst e
     rw [List.getElem_set_self, List.getElem_set_self, List.getElem_set_self]
     exact hR _ _ _ _ _ (fun b hb => set_other (hlo b hb).2.2 u) (hr hic)
   · rw [List.getElem_set_ne e, List.getElem_set_ne e, List.getElem_set_ne e]
     exact hR _ _ _ _ _ (fun b hb => (set_other (fun z => (h7 b (flat_mem q2 hb)).2.2 (by rw [z]; rfl)) u).trans (hk k q2 (fun z => e z.symm) b hb)) (h5 k q q1 q2)
 · rw [set_size]
   rcases flat_mem_set hb with q | ⟨k, hk, _, q⟩
   · exact ⟨(hlo b q).1, (hlo b q).2.1, fun e => (hlo b q).2.2 (by simpa [Value.ownBlock] using e.symm)⟩
   · have := h7 b (flat_mem hk q)
     exact ⟨this.1, by omega, this.2.2⟩
/-- such a row, as a slice that owns its blocks -/
theorem GrowOwn.seq {α : Type} {T c : Nat} {R : World → List Value → α → List Nat → Prop} {base : Nat} {w : World} {v : Value} {xs : List α} {bss : List (List Nat)} {css : List (List Value)} (h : GrowOwn T c R base w v xs bss css) : SeqOwn c R w v xs (gfs v bss) := by
 have hnd := h.nodups
 obtain ⟨h1, h2, h3, h4, h5, h6, h7⟩ := h
 rcases h4.2 with ⟨rfl, hn⟩ | ⟨g, cap, cur, rfl, hg, hh, r1, r2, r3, r4⟩
 · have hx : xs = [] := List.eq_nil_of_length_eq_zero hn
   subst hx
   have hb : bss = [] := List.eq_nil_of_length_eq_zero (by simpa using h2)
   subst hb
   exact ⟨none, 0, rfl, ⟨Nat.zero_le _, Nat.zero_le _⟩, Or.inl ⟨rfl, rfl⟩⟩
 · refine ⟨_, _, rfl, ⟨Nat.le_trans r1 r2, r1⟩, Or.inr ⟨g, 0, rfl, cur, T, bss, hh, by rw [r3, Nat.zero_add]; exact Nat.mul_le_mul_right c r1, h2, rfl, hnd, fun i hi hi' => ⟨css[i]'(by omega), h3 _ (List.getElem_mem _), fun m hm => ?_, h5 i hi (by omega) hi'⟩⟩⟩
   have e : (cur.toList.take (xs.length * c))[i * c + m]? = (css[i]'(by omega))[m]? := by rw [r4]; exact flat_get h3 (by omega) hm
   have hlt : i * c + m < xs.length * c := by
    have : (i + 1) * c ≤ xs.length * c := Nat.mul_le_mul_right c hi
    rw [Nat.add_mul] at this; omega
   rw [List.getElem?_take_of_lt hlt] at e
   rw [Nat.zero_add]
   simpa using e
/-- a record more behind a row that has room: and where the row lies then -/
theorem wpList_append_growP {α : Type} {P : Program} {ops : Array Oper} {rest : List Oper} {o : Oper} {a : Act} {Q : Exit → Act → World → Prop} {T c : Nat} {R : World → List Value → α → List Nat → Prop} (hR : OwnStays R) (hgd : o.guard = none) (s x : Operand) (t : TypeId)
 (ho : o.op = .call { callee := .builtin .append, args := #[s, x], argTypes := #[t, t] }) (base : Nat) (i : TypeInfo) (z : Value) (bytes : Nat) (ht : P.underlying t = some (.slice T)) (hi : P.info? T = some i) (hz : i.zero = some z) (hsize : i.size = c) (hby : i.bytes = bytes) (hzs : z.cells.size = c) (hc : 0 < c)
 {w w2 : World} {v : Value} {xs : List α} {bss : List (List Nat)} {css : List (List Value)} (hs : a.eval s = v) (hgr : GrowOwn T c R base w v xs bss css) (hb2 : Below w.heap.size w w2) (hbase : base ≤ w.heap.size)
 (ad : Addr) (cap1 : Nat) {cs : List Value} {y : α} {fs : List Nat} (hx : a.eval x = .slice (some ad) 1 cap1) (hl : cs.length = c) (hnews : ∀ j u, cs[j]? = some u → w2.cell? (ad.add j) = some u) (h1 : ∀ u ∈ cs, u.oneCell' = true)
 (hr : R w2 cs y fs) (hnd : fs.Nodup) (hlo : ∀ b ∈ fs, w.heap.size ≤ b) (hhi : ∀ b ∈ fs, b < w2.heap.size) (h63 : xs.length + 1 ≤ maxLen) (hbytes : (xs.length + 1) * bytes ≤ 140737488355328)
 (h : ∀ g cap w3, GrowOwn T c R base w3 (.slice (some ⟨g, 0, none⟩) (xs.length + 1) cap) (xs ++ [y]) (bss ++ [fs]) (css ++ [cs]) → w2.grownBy w3 v.ownBlock → (v.ownBlock = some g ∨ g = w2.heap.size) → wpList P ops Q rest (a.put o.dst (.slice (some ⟨g, 0, none⟩) (xs.length + 1) cap)) w3) : wpList P ops Q (o :: rest) a w2 := by
 have hrow := hgr.2.2.2.1
 have hs2 := hb2.size
 refine wpList_append_own_at w2 hgd s x t ho base T i z c bytes ht hi hz hsize hby hzs hc v xs.length css.flatten hs (row_below hrow hb2) ad 1 cap1 cs hx (by simp [hl]) hnews h1 h63 hbytes (by omega) fun v' w3 hown hgrow hnil hat => ?_
 have hown' := hown
 rcases hown.2 with ⟨_, hn⟩ | ⟨g, cap, cur, rfl, _⟩
 · omega
 · have hat' : v.ownBlock = some g ∨ g = w2.heap.size := by
    rcases hat with q | q
    · exact Or.inl q.symm
    · right; simpa [Value.ownBlock] using q
   exact h g cap w3 (GrowOwn.snoc hR hgr hb2 hbase hl hr hnd hlo hhi rfl hown' hgrow hat') hgrow hat'
end Go.Proofs.YtdnembnlomnceaaGreat
namespace Go.Proofs.YtdnembnlomnceaaGreat
open Go.RowKit Go.Deep
theorem SeqOwn.turn {α : Type} {c : Nat} {R Q : World → List Value → α → List Nat → Prop} (hRQ : ∀ w cs x fs, R w cs x fs → Q w cs x fs) {w : World} {k : Value} {xs : List α} {fs : List Nat} (h : SeqOwn c R w k xs fs) : SeqOwn c Q w k xs fs := by
 obtain ⟨a, cap, e, hm, h⟩ := h
 refine ⟨a, cap, e, hm, ?_⟩
 rcases h with h | ⟨b, off, e, C, T, bss, h1, h2, h3, h4, h5, h6⟩
 · exact Or.inl h
 · refine Or.inr ⟨b, off, e, C, T, bss, h1, h2, h3, h4, h5, fun i hi hi' => ?_⟩
   obtain ⟨cs, hc, hl, r⟩ := h6 i hi hi'
   exact ⟨cs, hc, hl, hRQ _ _ _ _ r⟩
def NodeP (w : World) (cs : List Value) (x : NodeD) (fs : List Nat) : Prop :=
 ∃ (k3 k5 : Value) (f3 : List Nat) (bL : List (List Nat)) (cL : List (List Value)), cs = [.int .i64 x.vId, .string x.vTag, .int .i64 x.vParent, k3, .int .i64 x.vWrapper, k5] ∧ SeqOwn 1 IntOwn w k3 x.vKids f3 ∧ GrowOwn 89 5 ListenerOwn 0 w k5 x.vListeners bL cL ∧ InI x.vId ∧ x.vTag.size ≤ maxLen ∧ InI x.vParent ∧ InI x.vWrapper ∧ fs = f3 ++ gfs k5 bL
theorem NodeP_stays : OwnStays NodeP := by
 intro w w' cs x fs q h
 obtain ⟨k3, k5, f3, bL, cL, e, h3, h5, r0, r1, r2, r3, rfl⟩ := h
 exact ⟨k3, k5, f3, bL, cL, e, h3.stays intOwn_stays (fun b hb => q b (List.mem_append_left _ hb)), h5.stays ListenerOwn_stays (fun b hb => q b (List.mem_append_right _ hb)), r0, r1, r2, r3, rfl⟩
theorem NodeP_lt : OwnLt NodeP := by
 intro w cs x fs h b hb
 obtain ⟨k3, k5, f3, bL, cL, e, h3, h5, r0, r1, r2, r3, rfl⟩ := h
 rcases List.mem_append.1 hb with q | q
 · exact h3.lt intOwn_lt b q
 · exact (h5.lts b q).2
theorem NodeP.own {w : World} {cs : List Value} {x : NodeD} {fs : List Nat} (h : NodeP w cs x fs) : NodeOwn w cs x fs := by
 obtain ⟨k3, k5, f3, bL, cL, e, h3, h5, r0, r1, r2, r3, rfl⟩ := h
 exact ⟨k3, k5, f3, _, e, h3, h5.seq, r0, r1, r2, r3, rfl⟩
theorem NodeP.len {w : World} {cs : List Value} {x : NodeD} {fs : List Nat} (h : NodeP w cs x fs) : ∃ a3 c3 a5 c5, cs = (cNd x a3 c3 a5 c5) := by
 obtain ⟨k3, k5, f3, bL, cL, e, h3, h5, _⟩ := h
 obtain ⟨a3, c3, rfl⟩ := h3.form
 obtain ⟨a5, c5, rfl⟩ := h5.seq.form
 exact ⟨a3, c3, a5, c5, e⟩
/-- a heap that owns its memory: these blocks -/
def HeapP (w : World) (cs : List Value) (x : HeapD) (fs : List Nat) : Prop :=
 ∃ (vN vO vG : Value) (bN bO : List (List Nat)) (cN cO : List (List Value)) (fG : List Nat), cs = [.int .i64 x.vNext, .int .i64 x.vDoc, vN, vO, vG] ∧ GrowOwn 73 6 NodeP 0 w vN x.vNodes bN cN ∧ GrowOwn 75 3 ObjOwn 0 w vO x.vObjs bO cO ∧ SeqOwn 2 FieldOwn w vG x.vGlobals fG ∧ InI x.vNext ∧ InI x.vDoc ∧ fs = gfs vN bN ++ gfs vO bO ++ fG ∧ fs.Nodup
theorem HeapP.lt {w : World} {cs : List Value} {x : HeapD} {fs : List Nat} (h : HeapP w cs x fs) : ∀ b ∈ fs, b < w.heap.size := by
 obtain ⟨vN, vO, vG, bN, bO, cN, cO, fG, e, hN, hO, hG, _, _, rfl, _⟩ := h
 intro b hb
 rcases List.mem_append.1 hb with q | q
 · rcases List.mem_append.1 q with q | q
   · exact (hN.lts b q).2
   · exact (hO.lts b q).2
 · exact hG.lt FieldOwn_lt b q
theorem HeapP.stays {w w' : World} {cs : List Value} {x : HeapD} {fs : List Nat} (h : HeapP w cs x fs) (q : ∀ b ∈ fs, w'.heap[b]? = w.heap[b]?) : HeapP w' cs x fs := by
 obtain ⟨vN, vO, vG, bN, bO, cN, cO, fG, e, hN, hO, hG, i1, i2, rfl, nd⟩ := h
 exact ⟨vN, vO, vG, bN, bO, cN, cO, fG, e, hN.stays NodeP_stays (fun b hb => q b (List.mem_append_left _ (List.mem_append_left _ hb))), hO.stays ObjOwn_stays (fun b hb => q b (List.mem_append_left _ (List.mem_append_right _ hb))), hG.stays FieldOwn_stays (fun b hb => q b (List.mem_append_right _ hb)), i1, i2, rfl, nd⟩
theorem HeapP.below {w w' : World} {cs : List Value} {x : HeapD} {fs : List Nat} (h : HeapP w cs x fs) (q : Below w.heap.size w w') : HeapP w' cs x fs := h.stays fun b hb => q.block b (h.lt b hb)
theorem HeapP.own {w : World} {cs : List Value} {x : HeapD} {fs : List Nat} (h : HeapP w cs x fs) : HeapOwn w cs x fs ∧ fs.Nodup := by
 obtain ⟨vN, vO, vG, bN, bO, cN, cO, fG, e, hN, hO, hG, i1, i2, rfl, nd⟩ := h
 exact ⟨⟨vN, vO, vG, _, _, fG, e, SeqOwn.turn (fun _ _ _ _ q => NodeP.own q) hN.seq, hO.seq, hG, i1, i2, rfl⟩, nd⟩
theorem HeapP.at {w : World} {cs : List Value} {x : HeapD} {fs : List Nat} (h : HeapP w cs x fs) {lo : Nat} (hlo : ∀ b ∈ fs, lo ≤ b) : HeapAt w lo cs x := HeapOwn_at w cs x fs h.own.1 hlo
theorem HeapP.at0 {w : World} {cs : List Value} {x : HeapD} {fs : List Nat} (h : HeapP w cs x fs) : HeapAt w 0 cs x := h.at fun _ _ => Nat.zero_le _
theorem HeapP.form {w : World} {cs : List Value} {x : HeapD} {fs : List Nat} (h : HeapP w cs x fs) : ∃ aN cN aO cO aG cG, cs = (cHp x aN cN aO cO aG cG) := by
 obtain ⟨vN, vO, vG, bN, bO, cN, cO, fG, e, hN, hO, hG, _⟩ := h
 obtain ⟨aN, c1, rfl⟩ := hN.seq.form
 obtain ⟨aO, c2, rfl⟩ := hO.seq.form
 obtain ⟨aG, c3, rfl⟩ := hG.form
 exact ⟨aN, c1, aO, c2, aG, c3, e⟩
/-- what a step on a heap tells: the heap then; its blocks are those that it had, or new ones; no others have turned -/
def HR (w : World) (fs : List Nat) (w' : World) (cs' : List Value) (x' : HeapD) : Prop := ∃ fs', HeapP w' cs' x' fs' ∧ (∀ b ∈ fs', b ∈ fs ∨ w.heap.size ≤ b) ∧ Out fs w w'
theorem HR.refl {w : World} {cs : List Value} {x : HeapD} {fs : List Nat} (h : HeapP w cs x fs) : HR w fs w cs x := ⟨fs, h, fun _ hb => Or.inl hb, Out.refl _ _⟩
theorem HR.step {w w1 w2 : World} {fs fs1 : List Nat} {cs : List Value} {x : HeapD} (hs : ∀ b ∈ fs1, b ∈ fs ∨ w.heap.size ≤ b) (ho : Out fs w w1) (h : HR w1 fs1 w2 cs x) : HR w fs w2 cs x := by
 obtain ⟨fs', hp, h1, h2⟩ := h
 have hz := ho.2.2.2.1
 refine ⟨fs', hp, fun b hb => ?_, ?_⟩
 · rcases h1 b hb with q | q
   · exact hs b q
   · exact Or.inr (by omega)
 · exact ⟨h2.1.trans ho.1, h2.2.1.trans ho.2.1, h2.2.2.1.trans ho.2.2.1, Nat.le_trans hz h2.2.2.2.1, fun b hb hn => (h2.2.2.2.2 b (by omega) (fun q => by rcases hs b q with r | r; exact hn r; omega)).trans (ho.2.2.2.2 b hb hn)⟩
theorem HeapP.next {w : World} {n' : Int} {k : Value} {r : List Value} {x : HeapD} {fs : List Nat} (h : HeapP w (k :: r) x fs) (hn : InI n') : HeapP w (.int .i64 n' :: r) { x with vNext := n' } fs := by
 obtain ⟨vN, vO, vG, bN, bO, cN, cO, fG, e, hN, hO, hG, i1, i2, e2, nd⟩ := h
 injection e with e3 e4
 exact ⟨vN, vO, vG, bN, bO, cN, cO, fG, by rw [e4], hN, hO, hG, hn, i2, e2, nd⟩
theorem nodup_mid {A A' B C : List Nat} (h : (A ++ B ++ C).Nodup) (hA : A'.Nodup) (hs : ∀ b ∈ A', b ∈ A ∨ (b ∉ B ∧ b ∉ C)) : (A' ++ B ++ C).Nodup := by
 rw [List.append_assoc, List.nodup_append] at h
 rw [List.append_assoc, List.nodup_append]
 refine ⟨hA, h.2.1, fun a ha b hb e => ?_⟩
 subst e
 rcases hs a ha with q | q
 · exact h.2.2 a q a hb rfl
 · rcases List.mem_append.1 hb with r | r
   · exact q.1 r
   · exact q.2 r
/-- a node of a heap: its cells; one of them turned, in its place -/
theorem HeapP.node {w : World} {k0 k1 vO vG : Value} {g nl cap : Nat} {x : HeapD} {fs : List Nat} (h : HeapP w [k0, k1, .slice (some ⟨g, 0, none⟩) nl cap, vO, vG] x fs) {i : Nat} (hi : i < x.vNodes.length) :
 ∃ (C : List Value) (fi : List Nat), NodeP w C x.vNodes[i] fi ∧ (∀ m u, C[m]? = some u → w.cell? ⟨g, i * 6 + m, none⟩ = some u) ∧ (∀ b ∈ fi, b ∈ fs ∧ b ≠ g) ∧ g ∈ fs ∧ fi.Nodup ∧
  ∀ (w1 : World) (j : Nat) (u : Value) (y : NodeD) (fi' : List Nat), j < 6 → w.heap.size ≤ w1.heap.size → (∀ b ∈ fs, b ∉ fi → w1.heap[b]? = w.heap[b]?) → NodeP w1 (C.set j u) y fi' → fi'.Nodup → (∀ b ∈ fi', b ∈ fi ∨ w.heap.size ≤ b) →
   ∃ fs', HeapP (w1.setCell ⟨g, i * 6 + j, none⟩ u) [k0, k1, .slice (some ⟨g, 0, none⟩) nl cap, vO, vG] { x with vNodes := x.vNodes.set i y } fs' ∧ ∀ b ∈ fs', b ∈ fs ∨ w.heap.size ≤ b := by
 have hlt := h.lt
 obtain ⟨vN, vO', vG', bN, bO, cN, cO, fG, e, hN, hO, hG, i1, i2, rfl, nd⟩ := h
 simp only [List.cons.injEq, and_true] at e
 obtain ⟨rfl, rfl, rfl, rfl, rfl⟩ := e
 have hl := hN.lts
 have hN' := hN
 obtain ⟨h1, h2, h3, h4, h5, h6, h7⟩ := hN'
 have hic : i < cN.length := by omega
 have hib : i < bN.length := by omega
 have hgm : g ∈ gfs (.slice (some ⟨g, 0, none⟩) nl cap) bN := List.mem_append.2 (Or.inl (mem_own.2 rfl))
 have hfm : ∀ {k : Nat} (hk : k < bN.length), ∀ b ∈ bN[k], b ∈ gfs (.slice (some ⟨g, 0, none⟩) nl cap) bN ∧ b ≠ g := fun hk b hb => ⟨List.mem_append.2 (Or.inr (flat_mem hk hb)), fun q => (h7 b (flat_mem hk hb)).2.2 (by rw [q]; rfl)⟩
 refine ⟨cN[i], bN[i], h5 i hi hic hib, fun m u hu => ?_, fun b hb => ⟨List.mem_append_left _ (List.mem_append_left _ (hfm hib b hb).1), (hfm hib b hb).2⟩, List.mem_append_left _ (List.mem_append_left _ hgm), flat_nodup h6 hib, fun w1 j u y fi' hj hz hk hr hnd hsub => ?_⟩
 · rcases h4.2 with ⟨q, _⟩ | ⟨g', cap', cur, hv, hg, hh, r1, r2, r3, r4⟩
   · cases q
   · injection hv with e1 e2 e3
     injection e1 with e1
     injection e1 with e1
     subst e1 e3
     have hb : Box w g cur.toList 73 := by unfold Box; simpa using hh
     refine hb.cell (i * 6 + m) ?_
     have hm : m < 6 := by
      rcases Nat.lt_or_ge m 6 with q | q
      · exact q
      · rw [List.getElem?_eq_none (by rw [h3 _ (List.getElem_mem hic)]; exact q)] at hu; cases hu
     have e5 := flat_get h3 hic hm
     rw [hu, ← r4] at e5
     rw [List.getElem?_take_of_lt (by omega)] at e5
     exact e5
 · have hdis : ∀ b ∈ gfs (.slice (some ⟨g, 0, none⟩) nl cap) bN, b ∉ gfs vO bO ∧ b ∉ fG := fun b hb => by
    rw [List.append_assoc, List.nodup_append] at nd
    exact ⟨fun q => nd.2.2 b hb b (List.mem_append_left _ q) rfl, fun q => nd.2.2 b hb b (List.mem_append_right _ q) rfl⟩
   have hltO : ∀ b ∈ gfs vO bO, b < w.heap.size := fun b hb => (hO.lts b hb).2
   have hltG : ∀ b ∈ fG, b < w.heap.size := fun b hb => hG.lt FieldOwn_lt b hb
   have hgi : g ∉ bN[i] := fun q => (hfm hib g q).2 rfl
   obtain ⟨c', hN2⟩ := hN.turn (w1 := w1) NodeP_stays hi hj hz (hk g (List.mem_append_left _ (List.mem_append_left _ hgm)) hgi) (fun k hkb hne b hb => hk b (List.mem_append_left _ (List.mem_append_left _ (hfm hkb b hb).1)) (fun q => flat_apart h6 hkb hib hne hb q)) (u := u) (x' := y) (fs' := fi') (fun _ => hr) hnd (fun b hb => ⟨Nat.zero_le _, NodeP_lt _ _ _ _ hr b hb, fun q => by
    subst q
    rcases hsub b hb with q | q
    · exact hgi q
    · have := (hl b hgm).2; omega⟩) (fun k hkb hne b hb q => by
    rcases hsub b hb with r | r
    · exact flat_apart h6 hkb hib hne q r
    · have := (h7 b (flat_mem hkb q)).2.1; omega)
   have hsame : ∀ b, b ≠ g → (w1.setCell ⟨g, i * 6 + j, none⟩ u).heap[b]? = w1.heap[b]? := fun b hb => set_other hb u
   have hsub2 : ∀ b ∈ gfs (.slice (some ⟨g, 0, none⟩) nl cap) (bN.set i fi'), b ∈ gfs (.slice (some ⟨g, 0, none⟩) nl cap) bN ∨ w.heap.size ≤ b := fun b hb => by
    rcases List.mem_append.1 hb with q | q
    · exact Or.inl (List.mem_append_left _ q)
    · rcases flat_mem_set q with q | ⟨k, hkb, _, q⟩
      · rcases hsub b q with r | r
        · exact Or.inl (List.mem_append_right _ (flat_mem hib r))
        · exact Or.inr r
      · exact Or.inl (List.mem_append_right _ (flat_mem hkb q))
   refine ⟨gfs (.slice (some ⟨g, 0, none⟩) nl cap) (bN.set i fi') ++ gfs vO bO ++ fG, ⟨_, vO, vG, _, bO, c', cO, fG, rfl, hN2, hO.stays ObjOwn_stays (fun b hb => ?_), hG.stays FieldOwn_stays (fun b hb => ?_), i1, i2, rfl, nodup_mid nd hN2.nodups (fun b hb => ?_)⟩, fun b hb => ?_⟩
   · rw [hsame b (fun q => (hdis g hgm).1 (q ▸ hb))]
     exact hk b (List.mem_append_left _ (List.mem_append_right _ hb)) (fun q => (hdis b (hfm hib b q).1).1 hb)
   · rw [hsame b (fun q => (hdis g hgm).2 (q ▸ hb))]
     exact hk b (List.mem_append_right _ hb) (fun q => (hdis b (hfm hib b q).1).2 hb)
   · rcases hsub2 b hb with q | q
     · exact Or.inl q
     · exact Or.inr ⟨fun r => by have := hltO b r; omega, fun r => by have := hltG b r; omega⟩
   · rcases List.mem_append.1 hb with q | q
     · rcases List.mem_append.1 q with q | q
       · rcases hsub2 b q with r | r
         · exact Or.inl (List.mem_append_left _ (List.mem_append_left _ r))
         · exact Or.inr r
       · exact Or.inl (List.mem_append_left _ (List.mem_append_right _ q))
     · exact Or.inl (List.mem_append_right _ q)
theorem nodup_mid2 {A B B' C : List Nat} (h : (A ++ B ++ C).Nodup) (hB : B'.Nodup) (hs : ∀ b ∈ B', b ∈ B ∨ (b ∉ A ∧ b ∉ C)) : (A ++ B' ++ C).Nodup := by
 have e : (B' ++ A ++ C).Nodup := nodup_mid (A := B) (by
  rw [List.append_assoc, List.nodup_append] at h ⊢
  have h2 := List.nodup_append.1 h.2.1
  refine ⟨h2.1, List.nodup_append.2 ⟨h.1, h2.2.1, fun a ha b hb => h.2.2 a ha b (List.mem_append_right _ hb)⟩, fun a ha b hb e => ?_⟩
  subst e
  rcases List.mem_append.1 hb with q | q
  · exact h.2.2 a q a (List.mem_append_left _ ha) rfl
  · exact h2.2.2 a ha a q rfl) hB hs
 rw [List.append_assoc, List.nodup_append] at e ⊢
 have h2 := List.nodup_append.1 e.2.1
 refine ⟨h2.1, List.nodup_append.2 ⟨e.1, h2.2.1, fun a ha b hb => e.2.2 a ha b (List.mem_append_right _ hb)⟩, fun a ha b hb q => ?_⟩
 subst q
 rcases List.mem_append.1 hb with r | r
 · exact e.2.2 a r a (List.mem_append_left _ ha) rfl
 · exact h2.2.2 a ha a r rfl
/-- an object of a heap: its cells; one of them turned, in its place -/
theorem HeapP.obj {w : World} {k0 k1 vN vG : Value} {g nl cap : Nat} {x : HeapD} {fs : List Nat} (h : HeapP w [k0, k1, vN, .slice (some ⟨g, 0, none⟩) nl cap, vG] x fs) {i : Nat} (hi : i < x.vObjs.length) :
 ∃ (C : List Value) (fi : List Nat), ObjOwn w C x.vObjs[i] fi ∧ (∀ m u, C[m]? = some u → w.cell? ⟨g, i * 3 + m, none⟩ = some u) ∧ (∀ b ∈ fi, b ∈ fs ∧ b ≠ g) ∧ g ∈ fs ∧ fi.Nodup ∧
  ∀ (w1 : World) (j : Nat) (u : Value) (y : ObjD) (fi' : List Nat), j < 3 → w.heap.size ≤ w1.heap.size → (∀ b ∈ fs, b ∉ fi → w1.heap[b]? = w.heap[b]?) → ObjOwn w1 (C.set j u) y fi' → fi'.Nodup → (∀ b ∈ fi', b ∈ fi ∨ w.heap.size ≤ b) →
   ∃ fs', HeapP (w1.setCell ⟨g, i * 3 + j, none⟩ u) [k0, k1, vN, .slice (some ⟨g, 0, none⟩) nl cap, vG] { x with vObjs := x.vObjs.set i y } fs' ∧ ∀ b ∈ fs', b ∈ fs ∨ w.heap.size ≤ b := by
 have hlt := h.lt
 obtain ⟨vN', vO', vG', bB, bO, cB, cN, fG, e, hB, hN, hG, i1, i2, rfl, nd⟩ := h
 simp only [List.cons.injEq, and_true] at e
 obtain ⟨rfl, rfl, rfl, rfl, rfl⟩ := e
 have hl := hN.lts
 have hN' := hN
 obtain ⟨h1, h2, h3, h4, h5, h6, h7⟩ := hN'
 have hic : i < cN.length := by omega
 have hib : i < bO.length := by omega
 have hgm : g ∈ gfs (.slice (some ⟨g, 0, none⟩) nl cap) bO := List.mem_append.2 (Or.inl (mem_own.2 rfl))
 have hfm : ∀ {k : Nat} (hk : k < bO.length), ∀ b ∈ bO[k], b ∈ gfs (.slice (some ⟨g, 0, none⟩) nl cap) bO ∧ b ≠ g := fun hk b hb => ⟨List.mem_append.2 (Or.inr (flat_mem hk hb)), fun q => (h7 b (flat_mem hk hb)).2.2 (by rw [q]; rfl)⟩
 refine ⟨cN[i], bO[i], h5 i hi hic hib, fun m u hu => ?_, fun b hb => ⟨List.mem_append_left _ (List.mem_append_right _ (hfm hib b hb).1), (hfm hib b hb).2⟩, List.mem_append_left _ (List.mem_append_right _ hgm), flat_nodup h6 hib, fun w1 j u y fi' hj hz hk hr hnd hsub => ?_⟩
 · rcases h4.2 with ⟨q, _⟩ | ⟨g', cap', cur, hv, hg, hh, r1, r2, r3, r4⟩
   · cases q
   · injection hv with e1 e2 e3
     injection e1 with e1
     injection e1 with e1
     subst e1 e3
     have hb : Box w g cur.toList 75 := by unfold Box; simpa using hh
     refine hb.cell (i * 3 + m) ?_
     have hm : m < 3 := by
      rcases Nat.lt_or_ge m 3 with q | q
      · exact q
      · rw [List.getElem?_eq_none (by rw [h3 _ (List.getElem_mem hic)]; exact q)] at hu; cases hu
     have e5 := flat_get h3 hic hm
     rw [hu, ← r4] at e5
     rw [List.getElem?_take_of_lt (by omega)] at e5
     exact e5
 · have hdis : ∀ b ∈ gfs (.slice (some ⟨g, 0, none⟩) nl cap) bO, b ∉ gfs vN bB ∧ b ∉ fG := fun b hb => by
    have nd' := nd
    rw [List.append_assoc, List.nodup_append] at nd'
    exact ⟨fun q => nd'.2.2 b q b (List.mem_append_left _ hb) rfl, fun q => (List.nodup_append.1 nd'.2.1).2.2 b hb b q rfl⟩
   have hltO : ∀ b ∈ gfs vN bB, b < w.heap.size := fun b hb => (hB.lts b hb).2
   have hltG : ∀ b ∈ fG, b < w.heap.size := fun b hb => hG.lt FieldOwn_lt b hb
   have hgi : g ∉ bO[i] := fun q => (hfm hib g q).2 rfl
   obtain ⟨c', hN2⟩ := hN.turn (w1 := w1) ObjOwn_stays hi hj hz (hk g (List.mem_append_left _ (List.mem_append_right _ hgm)) hgi) (fun k hkb hne b hb => hk b (List.mem_append_left _ (List.mem_append_right _ (hfm hkb b hb).1)) (fun q => flat_apart h6 hkb hib hne hb q)) (u := u) (x' := y) (fs' := fi') (fun _ => hr) hnd (fun b hb => ⟨Nat.zero_le _, ObjOwn_lt _ _ _ _ hr b hb, fun q => by
    subst q
    rcases hsub b hb with q | q
    · exact hgi q
    · have := (hl b hgm).2; omega⟩) (fun k hkb hne b hb q => by
    rcases hsub b hb with r | r
    · exact flat_apart h6 hkb hib hne q r
    · have := (h7 b (flat_mem hkb q)).2.1; omega)
   have hsame : ∀ b, b ≠ g → (w1.setCell ⟨g, i * 3 + j, none⟩ u).heap[b]? = w1.heap[b]? := fun b hb => set_other hb u
   have hsub2 : ∀ b ∈ gfs (.slice (some ⟨g, 0, none⟩) nl cap) (bO.set i fi'), b ∈ gfs (.slice (some ⟨g, 0, none⟩) nl cap) bO ∨ w.heap.size ≤ b := fun b hb => by
    rcases List.mem_append.1 hb with q | q
    · exact Or.inl (List.mem_append_left _ q)
    · rcases flat_mem_set q with q | ⟨k, hkb, _, q⟩
      · rcases hsub b q with r | r
        · exact Or.inl (List.mem_append_right _ (flat_mem hib r))
        · exact Or.inr r
      · exact Or.inl (List.mem_append_right _ (flat_mem hkb q))
   refine ⟨gfs vN bB ++ gfs (.slice (some ⟨g, 0, none⟩) nl cap) (bO.set i fi') ++ fG, ⟨vN, _, vG, bB, _, cB, c', fG, rfl, hB.stays NodeP_stays (fun b hb => ?_), hN2, hG.stays FieldOwn_stays (fun b hb => ?_), i1, i2, rfl, nodup_mid2 nd hN2.nodups (fun b hb => ?_)⟩, fun b hb => ?_⟩
   · rw [hsame b (fun q => (hdis g hgm).1 (q ▸ hb))]
     exact hk b (List.mem_append_left _ (List.mem_append_left _ hb)) (fun q => (hdis b (hfm hib b q).1).1 hb)
   · rw [hsame b (fun q => (hdis g hgm).2 (q ▸ hb))]
     exact hk b (List.mem_append_right _ hb) (fun q => (hdis b (hfm hib b q).1).2 hb)
   · rcases hsub2 b hb with q | q
     · exact Or.inl q
     · exact Or.inr ⟨fun r => by have := hltO b r; omega, fun r => by have := hltG b r; omega⟩
   · rcases List.mem_append.1 hb with q | q
     · rcases List.mem_append.1 q with q | q
       · exact Or.inl (List.mem_append_left _ (List.mem_append_left _ q))
       · rcases hsub2 b q with r | r
         · exact Or.inl (List.mem_append_left _ (List.mem_append_right _ r))
         · exact Or.inr r
     · exact Or.inl (List.mem_append_right _ q)
/-- the names turned -/
theorem HeapP.glob {w w1 : World} {k0 k1 vN vO vG : Value} {x : HeapD} {fs : List Nat} (h : HeapP w [k0, k1, vN, vO, vG] x fs) {v' : Value} {l' : List FieldD} {f' : List Nat} (hk : ∀ b ∈ fs, w1.heap[b]? = w.heap[b]?) (hs : SeqOwn 2 FieldOwn w1 v' l' f') (hn : f'.Nodup) (hf : ∀ b ∈ f', w.heap.size ≤ b) :
 ∃ fs', HeapP w1 [k0, k1, vN, vO, v'] { x with vGlobals := l' } fs' ∧ ∀ b ∈ fs', b ∈ fs ∨ w.heap.size ≤ b := by
 have hlt := h.lt
 obtain ⟨vN', vO', vG', bN, bO, cN, cO, fG, e, hN, hO, hG, i1, i2, rfl, nd⟩ := h
 simp only [List.cons.injEq, and_true] at e
 obtain ⟨rfl, rfl, rfl, rfl, rfl⟩ := e
 refine ⟨gfs vN bN ++ gfs vO bO ++ f', ⟨vN, vO, v', bN, bO, cN, cO, f', rfl, hN.stays NodeP_stays (fun b hb => hk b (List.mem_append_left _ (List.mem_append_left _ hb))), hO.stays ObjOwn_stays (fun b hb => hk b (List.mem_append_left _ (List.mem_append_right _ hb))), hs, i1, i2, rfl, List.nodup_append.2 ⟨(List.nodup_append.1 nd).1, hn, fun a ha b hb q => ?_⟩⟩, fun b hb => ?_⟩
 · subst q
   have h1 := hlt a (List.mem_append_left _ ha)
   have h2 := hf a hb
   omega
 · rcases List.mem_append.1 hb with q | q
   · exact Or.inl (List.mem_append_left _ q)
   · exact Or.inr (hf b q)
theorem own_sub {v v' : Value} {bss bss' : List (List Nat)} {z : Nat} (hv : ∀ b, v'.ownBlock = some b → v.ownBlock = some b ∨ z ≤ b) (hb : bss'.flatten = bss.flatten) : ∀ b ∈ gfs v' bss', b ∈ gfs v bss ∨ z ≤ b := by
 intro b q
 rcases List.mem_append.1 q with q | q
 · rcases hv b (mem_own.1 q) with r | r
   · exact Or.inl (List.mem_append_left _ (mem_own.2 r))
   · exact Or.inr r
 · rw [hb] at q; exact Or.inl (List.mem_append_right _ q)
/-- one more node -/
theorem HeapP.grewN {w w2 w3 : World} {k0 k1 vN vO vG : Value} {x : HeapD} {bN bO : List (List Nat)} {cN cO c3 : List (List Value)} {fG : List Nat} {g m cap : Nat} {y : NodeD} (e0 : k0 = .int .i64 x.vNext) (e1 : k1 = .int .i64 x.vDoc) (_ : GrowOwn 73 6 NodeP 0 w vN x.vNodes bN cN) (hO : GrowOwn 75 3 ObjOwn 0 w vO x.vObjs bO cO) (hG : SeqOwn 2 FieldOwn w vG x.vGlobals fG) (i1 : InI x.vNext) (i2 : InI x.vDoc) (nd : (gfs vN bN ++ gfs vO bO ++ fG).Nodup)
 (hb : Below w.heap.size w w2) (h3 : GrowOwn 73 6 NodeP 0 w3 (.slice (some ⟨g, 0, none⟩) m cap) (x.vNodes ++ [y]) (bN ++ [[]]) c3) (hg : w2.grownBy w3 vN.ownBlock) (hat : vN.ownBlock = some g ∨ g = w2.heap.size) :
 ∃ fs', HeapP w3 [k0, k1, .slice (some ⟨g, 0, none⟩) m cap, vO, vG] { x with vNodes := x.vNodes ++ [y] } fs' ∧ (∀ b ∈ fs', b ∈ gfs vN bN ++ gfs vO bO ++ fG ∨ w.heap.size ≤ b) ∧ Out (gfs vN bN ++ gfs vO bO ++ fG) w w3 := by
 subst e0 e1
 have hz := hb.size
 have hltO : ∀ b ∈ gfs vO bO, b < w.heap.size := fun b hb => (hO.lts b hb).2
 have hltG : ∀ b ∈ fG, b < w.heap.size := fun b hb => hG.lt FieldOwn_lt b hb
 have nd' := nd
 rw [List.append_assoc, List.nodup_append] at nd'
 have hkeep : ∀ b, b < w.heap.size → vN.ownBlock ≠ some b → w3.heap[b]? = w.heap[b]? := fun b q r => (hg.block b (by omega) (fun e => r e.symm)).trans (hb.block b q)
 have hsub := own_sub (v := vN) (v' := .slice (some ⟨g, 0, none⟩) m cap) (bss := bN) (bss' := bN ++ [[]]) (z := w.heap.size) (fun b q => by
  injection q with q
  subst q
  rcases hat with r | r
  · exact Or.inl r
  · exact Or.inr (by show w.heap.size ≤ g; omega)) (by simp)
 refine ⟨_, ⟨_, vO, vG, bN ++ [[]], bO, c3, cO, fG, rfl, h3, hO.stays ObjOwn_stays (fun b hb => hkeep b (hltO b hb) (fun e => ?_)), hG.stays FieldOwn_stays (fun b hb => hkeep b (hltG b hb) (fun e => ?_)), i1, i2, rfl, nodup_mid nd h3.nodups (fun b hb => ?_)⟩, fun b hb => ?_, ⟨hg.os.trans hb.os, hg.tape.trans hb.tape, hg.output.trans hb.output, Nat.le_trans hz hg.size, fun b q r => hkeep b q (fun e => r (List.mem_append_left _ (List.mem_append_left _ (List.mem_append_left _ (mem_own.2 e)))))⟩⟩
 · exact nd'.2.2 b (List.mem_append_left _ (mem_own.2 e)) b (List.mem_append_left _ hb) rfl
 · exact nd'.2.2 b (List.mem_append_left _ (mem_own.2 e)) b (List.mem_append_right _ hb) rfl
 · rcases hsub b hb with q | q
   · exact Or.inl q
   · exact Or.inr ⟨fun r => by have := hltO b r; omega, fun r => by have := hltG b r; omega⟩
 · rcases List.mem_append.1 hb with q | q
   · rcases List.mem_append.1 q with q | q
     · rcases hsub b q with r | r
       · exact Or.inl (List.mem_append_left _ (List.mem_append_left _ r))
       · exact Or.inr r
     · exact Or.inl (List.mem_append_left _ (List.mem_append_right _ q))
   · exact Or.inl (List.mem_append_right _ q)
/-- one more object -/
theorem HeapP.grewO {w w2 w3 : World} {k0 k1 vN vO vG : Value} {x : HeapD} {bN bO : List (List Nat)} {cN cO c3 : List (List Value)} {fG : List Nat} {g m cap : Nat} {y : ObjD} (e0 : k0 = .int .i64 x.vNext) (e1 : k1 = .int .i64 x.vDoc) (hN : GrowOwn 73 6 NodeP 0 w vN x.vNodes bN cN) (_ : GrowOwn 75 3 ObjOwn 0 w vO x.vObjs bO cO) (hG : SeqOwn 2 FieldOwn w vG x.vGlobals fG) (i1 : InI x.vNext) (i2 : InI x.vDoc) (nd : (gfs vN bN ++ gfs vO bO ++ fG).Nodup)
 (hb : Below w.heap.size w w2) (h3 : GrowOwn 75 3 ObjOwn 0 w3 (.slice (some ⟨g, 0, none⟩) m cap) (x.vObjs ++ [y]) (bO ++ [[]]) c3) (hg : w2.grownBy w3 vO.ownBlock) (hat : vO.ownBlock = some g ∨ g = w2.heap.size) :
 ∃ fs', HeapP w3 [k0, k1, vN, .slice (some ⟨g, 0, none⟩) m cap, vG] { x with vObjs := x.vObjs ++ [y] } fs' ∧ (∀ b ∈ fs', b ∈ gfs vN bN ++ gfs vO bO ++ fG ∨ w.heap.size ≤ b) ∧ Out (gfs vN bN ++ gfs vO bO ++ fG) w w3 := by
 subst e0 e1
 have hz := hb.size
 have hltN : ∀ b ∈ gfs vN bN, b < w.heap.size := fun b hb => (hN.lts b hb).2
 have hltG : ∀ b ∈ fG, b < w.heap.size := fun b hb => hG.lt FieldOwn_lt b hb
 have nd' := nd
 rw [List.append_assoc, List.nodup_append] at nd'
 have hkeep : ∀ b, b < w.heap.size → vO.ownBlock ≠ some b → w3.heap[b]? = w.heap[b]? := fun b q r => (hg.block b (by omega) (fun e => r e.symm)).trans (hb.block b q)
 have hsub := own_sub (v := vO) (v' := .slice (some ⟨g, 0, none⟩) m cap) (bss := bO) (bss' := bO ++ [[]]) (z := w.heap.size) (fun b q => by
  injection q with q
  subst q
  rcases hat with r | r
  · exact Or.inl r
  · exact Or.inr (by show w.heap.size ≤ g; omega)) (by simp)
 refine ⟨_, ⟨vN, _, vG, bN, bO ++ [[]], cN, c3, fG, rfl, hN.stays NodeP_stays (fun b hb => hkeep b (hltN b hb) (fun e => ?_)), h3, hG.stays FieldOwn_stays (fun b hb => hkeep b (hltG b hb) (fun e => ?_)), i1, i2, rfl, nodup_mid2 nd h3.nodups (fun b hb => ?_)⟩, fun b hb => ?_, ⟨hg.os.trans hb.os, hg.tape.trans hb.tape, hg.output.trans hb.output, Nat.le_trans hz hg.size, fun b q r => hkeep b q (fun e => r (List.mem_append_left _ (List.mem_append_right _ (List.mem_append_left _ (mem_own.2 e)))))⟩⟩
 · exact nd'.2.2 b hb b (List.mem_append_left _ (List.mem_append_left _ (mem_own.2 e))) rfl
 · exact (List.nodup_append.1 nd'.2.1).2.2 b (List.mem_append_left _ (mem_own.2 e)) b hb rfl
 · rcases hsub b hb with q | q
   · exact Or.inl q
   · exact Or.inr ⟨fun r => by have := hltN b r; omega, fun r => by have := hltG b r; omega⟩
 · rcases List.mem_append.1 hb with q | q
   · rcases List.mem_append.1 q with q | q
     · exact Or.inl (List.mem_append_left _ (List.mem_append_left _ q))
     · rcases hsub b q with r | r
       · exact Or.inl (List.mem_append_left _ (List.mem_append_right _ r))
       · exact Or.inr r
   · exact Or.inl (List.mem_append_right _ q)
end Go.Proofs.YtdnembnlomnceaaGreat
namespace Go.Proofs.YtdnembnlomnceaaGreat
open Go.RowKit Go.Deep
theorem NodeP.wrap {w : World} {C : List Value} {x : NodeD} {fi : List Nat} (h : NodeP w C x fi) {u : Int} (hu : InI u) : NodeP w (C.set 4 (.int .i64 u)) { x with vWrapper := u } fi := by
 obtain ⟨k3, k5, f3, bL, cL, rfl, h3, h5, r0, r1, r2, r3, e⟩ := h
 exact ⟨k3, k5, f3, bL, cL, rfl, h3, h5, r0, r1, r2, hu, e⟩
theorem NodeP.par {w : World} {C : List Value} {x : NodeD} {fi : List Nat} (h : NodeP w C x fi) {u : Int} (hu : InI u) : NodeP w (C.set 2 (.int .i64 u)) { x with vParent := u } fi := by
 obtain ⟨k3, k5, f3, bL, cL, rfl, h3, h5, r0, r1, r2, r3, e⟩ := h
 exact ⟨k3, k5, f3, bL, cL, rfl, h3, h5, r0, r1, hu, r3, e⟩
/-- another row of kids, in new blocks -/
theorem NodeP.kids {w w1 : World} {C : List Value} {x : NodeD} {fi : List Nat} (h : NodeP w C x fi) (hnd : fi.Nodup) (hk : ∀ b ∈ fi, w1.heap[b]? = w.heap[b]?) {k : Value} {ks : List Int} {f : List Nat} (hs : SeqOwn 1 IntOwn w1 k ks f) (hf : ∀ b ∈ f, w.heap.size ≤ b) :
 ∃ fi', NodeP w1 (C.set 3 k) { x with vKids := ks } fi' ∧ fi'.Nodup ∧ ∀ b ∈ fi', b ∈ fi ∨ w.heap.size ≤ b := by
 obtain ⟨k3, k5, f3, bL, cL, rfl, h3, h5, r0, r1, r2, r3, rfl⟩ := h
 refine ⟨f ++ gfs k5 bL, ⟨k, k5, f, bL, cL, rfl, hs, h5.stays ListenerOwn_stays (fun b hb => hk b (List.mem_append_right _ hb)), r0, r1, r2, r3, rfl⟩, List.nodup_append.2 ⟨hs.nodup, h5.nodups, fun a ha b hb e => ?_⟩, fun b hb => ?_⟩
 · subst e
   have h1 := hf a ha
   have h2 := (h5.lts a hb).2
   omega
 · rcases List.mem_append.1 hb with q | q
   · exact Or.inr (hf b q)
   · exact Or.inl (List.mem_append_right _ q)
/-- another row of listeners -/
theorem NodeP.lis {w w1 : World} {C : List Value} {x : NodeD} {fi : List Nat} (h : NodeP w C x fi) (hnd : fi.Nodup) {k5 : Value} {bL : List (List Nat)} {cL : List (List Value)} (h5 : C[5]? = some k5) {k : Value} {ls : List ListenerD} {bM : List (List Nat)} {cM : List (List Value)} (hk : ∀ b ∈ fi, k5.ownBlock ≠ some b → w1.heap[b]? = w.heap[b]?) (hs : GrowOwn 89 5 ListenerOwn 0 w1 k ls bM cM) (hb0 : bM.flatten = []) (hat : ∀ b, k.ownBlock = some b → k5.ownBlock = some b ∨ w.heap.size ≤ b) (_ : bL = bL ∧ cL = cL) :
 ∃ fi', NodeP w1 (C.set 5 k) { x with vListeners := ls } fi' ∧ fi'.Nodup ∧ ∀ b ∈ fi', b ∈ fi ∨ w.heap.size ≤ b := by
 obtain ⟨k3, k5', f3, bN, cN, rfl, h3, hL, r0, r1, r2, r3, rfl⟩ := h
 have e5 : k5' = k5 := by simpa using h5
 subst e5
 have hd := (List.nodup_append.1 hnd).2.2
 have hg : ∀ b ∈ gfs k bM, k5'.ownBlock = some b ∨ w.heap.size ≤ b := fun b hb => by
  rcases List.mem_append.1 hb with q | q
  · exact hat b (mem_own.1 q)
  · rw [hb0] at q; cases q
 refine ⟨f3 ++ gfs k bM, ⟨k3, k, f3, bM, cM, rfl, h3.stays intOwn_stays (fun b hb => hk b (List.mem_append_left _ hb) (fun e => hd b hb b (List.mem_append_left _ (mem_own.2 e)) rfl)), hs, r0, r1, r2, r3, rfl⟩, List.nodup_append.2 ⟨h3.nodup, hs.nodups, fun a ha b hb e => ?_⟩, fun b hb => ?_⟩
 · subst e
   rcases hg a hb with q | q
   · exact hd a ha a (List.mem_append_left _ (mem_own.2 q)) rfl
   · have := h3.lt intOwn_lt a ha; omega
 · rcases List.mem_append.1 hb with q | q
   · exact Or.inl (List.mem_append_left _ q)
   · rcases hg b q with r | r
     · exact Or.inl (List.mem_append_right _ (List.mem_append_left _ (mem_own.2 r)))
     · exact Or.inr r
theorem ObjOwn.flds {w w1 : World} {C : List Value} {x : ObjD} {fi : List Nat} (h : ObjOwn w C x fi) {k : Value} {ls : List FieldD} {f : List Nat} (hs : SeqOwn 2 FieldOwn w1 k ls f) : ObjOwn w1 (C.set 2 k) { x with vFields := ls } f := by
 obtain ⟨k2, f2, rfl, h2, r0, r1, rfl⟩ := h
 exact ⟨k, f, rfl, hs, r0, r1, rfl⟩
theorem modify_set {α : Type} : ∀ (l : List α) (i : Nat) (f : α → α) (h : i < l.length), l.modify i f = l.set i (f l[i]) := by
 intro l
 induction l with
 | nil => intro i f h; simp at h
 | cons x xs ih =>
  intro i f h
  cases i with
  | zero => rfl
  | succ i => simp only [List.modify_succ_cons, List.set_cons_succ, List.getElem_cons_succ]; rw [ih i f (by simpa using h)]
theorem Out.farP {fs : List Nat} {a b c : World} (h : Out fs a b) (k : Below a.heap.size b c) : Out fs a c :=
 ⟨k.os.trans h.1, k.tape.trans h.2.1, k.output.trans h.2.2.1, Nat.le_trans h.2.2.2.1 k.size, fun x h1 h2 => (k.block x h1).trans (h.2.2.2.2 x h1 h2)⟩
theorem Box.grownP {w w' : World} {b : Nat} {cs : List Value} {T : TypeId} {r : Option Nat} (h : Box w b cs T) (hg : w.grownBy w' r) (hne : r ≠ some b) : Box w' b cs T := (hg.block b h.lt (fun e => hne e.symm)).trans h
end Go.Proofs.YtdnembnlomnceaaGreat
namespace Go.Proofs.YtdnembnlomnceaaGreat
open Go.RowKit Go.Deep
structure HB (w : World) (fs : List Nat) (g r : Nat) (W : World) (cs : List Value) (y : HeapD) (fs' : List Nat) : Prop where
 bH : Box W g cs 28
 bR : Box W r cZp 28
 hp : HeapP W cs y fs'
 sub : ∀ b ∈ fs', (b ∈ fs ∨ w.heap.size ≤ b) ∧ b ≠ g ∧ b ≠ r
 out : Out fs w W
 ord : w.heap.size ≤ g ∧ w.heap.size ≤ r ∧ g ≠ r
theorem HB.below {w W W' : World} {fs fs' : List Nat} {g r : Nat} {cs : List Value} {y : HeapD} (h : HB w fs g r W cs y fs') (q : Below W.heap.size W W') : HB w fs g r W' cs y fs' :=
 ⟨h.bH.below q h.bH.lt, h.bR.below q h.bR.lt, h.hp.below q, h.sub, h.out.farP (q.mono h.out.2.2.2.1), h.ord⟩
theorem Out.box {fs : List Nat} {w W : World} (h : Out fs w W) {g i : Nat} (hg : w.heap.size ≤ g) (v : Value) : Out fs w (W.setCell ⟨g, i, none⟩ v) :=
 ⟨h.1, h.2.1, h.2.2.1, by rw [set_size]; exact h.2.2.2.1, fun b h1 h2 => (set_other (by omega) v).trans (h.2.2.2.2 b h1 h2)⟩
theorem HB.start {w : World} {fs : List Nat} {cs : List Value} {x : HeapD} (h : HeapP w cs x fs) : HB w fs w.heap.size (w.heap.size + 1) ((w.alloc (.cells cs.toArray 28)).alloc (.cells cZp.toArray 28)) cs x fs := by
 have hb : Below w.heap.size w ((w.alloc (.cells cs.toArray 28)).alloc (.cells cZp.toArray 28)) := ((Below.refl _ _).alloc (Nat.le_refl _) _).alloc (by simp) _
 have hlt := h.lt
 refine ⟨(Box.new w cs _).alloc _, by have q := Box.new (w.alloc (.cells cs.toArray 28)) cZp 28; rw [World.size_alloc] at q; exact q, h.below hb, fun b hb => ⟨Or.inl hb, by have := hlt b hb; omega, by have := hlt b hb; omega⟩, Out.of_below hb, Nat.le_refl _, by omega, by omega⟩
/-- the heap given back -/
theorem HB.ret {w W : World} {fs fs' : List Nat} {g r : Nat} {cs : List Value} {y : HeapD} (h : HB w fs g r W cs y fs') (ds : List Value) : HR w fs (putCells W r 0 ds) cs y := by
 refine ⟨fs', h.hp.stays fun b hb => putCells_other _ _ _ _ _ (h.sub b hb).2.2, fun b hb => (h.sub b hb).1, ⟨?_, ?_, ?_, by rw [putCells_size]; exact h.out.2.2.2.1, fun b h1 h2 => (putCells_other _ _ _ _ _ (by have := h.ord; omega)).trans (h.out.2.2.2.2 b h1 h2)⟩⟩
 · exact (putCells_below ds 0 W W r 0 (Nat.zero_le _) (Below.refl _ _)).os.trans h.out.1
 · exact (putCells_below ds 0 W W r 0 (Nat.zero_le _) (Below.refl _ _)).tape.trans h.out.2.1
 · exact (putCells_below ds 0 W W r 0 (Nat.zero_le _) (Below.refl _ _)).output.trans h.out.2.2.1
/-- the box holds another heap -/
theorem HB.store {w W W1 : World} {fs fs' fs1 : List Nat} {g r : Nat} {cs cs1 : List Value} {y y1 : HeapD} {i : Nat} {v : Value} (h : HB w fs g r W cs y fs') (hp : HeapP W1 cs1 y1 fs1) (hs : ∀ b ∈ fs1, b ∈ fs' ∨ W.heap.size ≤ b) (ho : Out fs' W W1) (e : cs.set i v = cs1) : HB w fs g r (W1.setCell ⟨g, i, none⟩ v) cs1 y1 fs1 := by
 have hlt := h.hp.lt
 have hg := h.bH.lt
 have hr := h.bR.lt
 have ord := h.ord
 have hsub : ∀ b ∈ fs1, (b ∈ fs ∨ w.heap.size ≤ b) ∧ b ≠ g ∧ b ≠ r := fun b hb => by
  rcases hs b hb with q | q
  · exact h.sub b q
  · exact ⟨Or.inr (by have := h.out.2.2.2.1; omega), by omega, by omega⟩
 have hgn : g ∉ fs' := fun q => (h.sub g q).2.1 rfl
 have hrn : r ∉ fs' := fun q => (h.sub r q).2.2 rfl
 have b1 : Box W1 g cs 28 := (ho.keep hg hgn).trans h.bH
 have b2 : Box W1 r cZp 28 := (ho.keep hr hrn).trans h.bR
 refine ⟨by rw [← e]; exact b1.set v, b2.other (by omega) v, hp.stays fun b hb => set_other (hsub b hb).2.1 v, hsub, Out.box ⟨ho.1.trans h.out.1, ho.2.1.trans h.out.2.1, ho.2.2.1.trans h.out.2.2.1, Nat.le_trans h.out.2.2.2.1 ho.2.2.2.1, fun b q1 q2 => (ho.2.2.2.2 b (Nat.lt_of_lt_of_le q1 h.out.2.2.2.1) (fun q => by rcases (h.sub b q).1 with z | z; exact q2 z; omega)).trans (h.out.2.2.2.2 b q1 q2)⟩ ord.1 v, ord⟩
/-- the heap turned in its own memory, the box as it was -/
theorem HB.inner {w W W1 : World} {fs fs' fs1 : List Nat} {g r : Nat} {cs : List Value} {y y1 : HeapD} (h : HB w fs g r W cs y fs') (hp : HeapP W1 cs y1 fs1) (hs : ∀ b ∈ fs1, b ∈ fs' ∨ W.heap.size ≤ b) (ho : Out fs' W W1) : HB w fs g r W1 cs y1 fs1 := by
 have hg := h.bH.lt
 have hr := h.bR.lt
 have hgn : g ∉ fs' := fun q => (h.sub g q).2.1 rfl
 have hrn : r ∉ fs' := fun q => (h.sub r q).2.2 rfl
 refine ⟨(ho.keep hg hgn).trans h.bH, (ho.keep hr hrn).trans h.bR, hp, fun b hb => ?_, ⟨ho.1.trans h.out.1, ho.2.1.trans h.out.2.1, ho.2.2.1.trans h.out.2.2.1, Nat.le_trans h.out.2.2.2.1 ho.2.2.2.1, fun b q1 q2 => (ho.2.2.2.2 b (Nat.lt_of_lt_of_le q1 h.out.2.2.2.1) (fun q => by rcases (h.sub b q).1 with z | z; exact q2 z; omega)).trans (h.out.2.2.2.2 b q1 q2)⟩, h.ord⟩
 rcases hs b hb with q | q
 · exact h.sub b q
 · exact ⟨Or.inr (by have := h.out.2.2.2.1; omega), by omega, by omega⟩
theorem HeapP.grownO {w : World} {k0 k1 vN vO vG : Value} {x : HeapD} {fs : List Nat} (h : HeapP w [k0, k1, vN, vO, vG] x fs) : ∃ bO cO, GrowOwn 75 3 ObjOwn 0 w vO x.vObjs bO cO ∧ (∀ b, vO.ownBlock = some b → b ∈ fs) ∧
 ∀ (w3 : World) (gO m cap : Nat) (c3 : List (List Value)) (o : ObjD), GrowOwn 75 3 ObjOwn 0 w3 (.slice (some ⟨gO, 0, none⟩) m cap) (x.vObjs ++ [o]) (bO ++ [[]]) c3 → w.grownBy w3 vO.ownBlock → (vO.ownBlock = some gO ∨ gO = w.heap.size) →
  ∃ fs3, HeapP w3 [k0, k1, vN, .slice (some ⟨gO, 0, none⟩) m cap, vG] { x with vObjs := x.vObjs ++ [o] } fs3 ∧ (∀ b ∈ fs3, b ∈ fs ∨ w.heap.size ≤ b) ∧ Out fs w w3 := by
 obtain ⟨vN', vO', vG', bN, bO, cN, cO, fG, e, hN, hO, hG, i1, i2, rfl, nd⟩ := h
 simp only [List.cons.injEq, and_true] at e
 obtain ⟨rfl, rfl, rfl, rfl, rfl⟩ := e
 exact ⟨bO, cO, hO, fun b hb => List.mem_append_left _ (List.mem_append_right _ (List.mem_append_left _ (mem_own.2 hb))), fun w3 gO m cap c3 o h3 hg hat => HeapP.grewO rfl rfl hN hO hG i1 i2 nd (Below.refl _ _) h3 hg hat⟩
theorem HeapP.grownN {w : World} {k0 k1 vN vO vG : Value} {x : HeapD} {fs : List Nat} (h : HeapP w [k0, k1, vN, vO, vG] x fs) : ∃ bN cN, GrowOwn 73 6 NodeP 0 w vN x.vNodes bN cN ∧ (∀ b, vN.ownBlock = some b → b ∈ fs) ∧
 ∀ (w3 : World) (gN m cap : Nat) (c3 : List (List Value)) (o : NodeD), GrowOwn 73 6 NodeP 0 w3 (.slice (some ⟨gN, 0, none⟩) m cap) (x.vNodes ++ [o]) (bN ++ [[]]) c3 → w.grownBy w3 vN.ownBlock → (vN.ownBlock = some gN ∨ gN = w.heap.size) →
  ∃ fs3, HeapP w3 [k0, k1, .slice (some ⟨gN, 0, none⟩) m cap, vO, vG] { x with vNodes := x.vNodes ++ [o] } fs3 ∧ (∀ b ∈ fs3, b ∈ fs ∨ w.heap.size ≤ b) ∧ Out fs w w3 := by
 obtain ⟨vN', vO', vG', bN, bO, cN, cO, fG, e, hN, hO, hG, i1, i2, rfl, nd⟩ := h
 simp only [List.cons.injEq, and_true] at e
 obtain ⟨rfl, rfl, rfl, rfl, rfl⟩ := e
 exact ⟨bN, cN, hN, fun b hb => List.mem_append_left _ (List.mem_append_left _ (List.mem_append_left _ (mem_own.2 hb))), fun w3 gN m cap c3 o h3 hg hat => HeapP.grewN rfl rfl hN hO hG i1 i2 nd (Below.refl _ _) h3 hg hat⟩
theorem HeapP.posN {w : World} {k0 k1 vO vG : Value} {aN : Option Addr} {n kN : Nat} {x : HeapD} {fs : List Nat} (h : HeapP w [k0, k1, .slice aN n kN, vO, vG] x fs) (hp : 0 < x.vNodes.length) : ∃ g, aN = some ⟨g, 0, none⟩ ∧ ∀ j, w.frozen? ⟨g, j, none⟩ = false := by
 obtain ⟨vN', vO', vG', bN, bO, cN, cO, fG, e, hN, hO, hG, i1, i2, rfl, nd⟩ := h
 simp only [List.cons.injEq, and_true] at e
 obtain ⟨rfl, rfl, rfl, rfl, rfl⟩ := e
 rcases hN.2.2.2.1.2 with ⟨_, q⟩ | ⟨g, cap, cur, q, _, hh, _⟩
 · omega
 · injection q with q1 q2 q3
   have hb : Box w g cur.toList 73 := by unfold Box; simpa using hh
   exact ⟨g, q1, fun j => hb.unfrozen j⟩
theorem HeapP.posO {w : World} {k0 k1 vN vG : Value} {aO : Option Addr} {n kO : Nat} {x : HeapD} {fs : List Nat} (h : HeapP w [k0, k1, vN, .slice aO n kO, vG] x fs) (hp : 0 < x.vObjs.length) : ∃ g, aO = some ⟨g, 0, none⟩ ∧ ∀ j, w.frozen? ⟨g, j, none⟩ = false := by
 obtain ⟨vN', vO', vG', bN, bO, cN, cO, fG, e, hN, hO, hG, i1, i2, rfl, nd⟩ := h
 simp only [List.cons.injEq, and_true] at e
 obtain ⟨rfl, rfl, rfl, rfl, rfl⟩ := e
 rcases hO.2.2.2.1.2 with ⟨_, q⟩ | ⟨g, cap, cur, q, _, hh, _⟩
 · omega
 · injection q with q1 q2 q3
   have hb : Box w g cur.toList 75 := by unfold Box; simpa using hh
   exact ⟨g, q1, fun j => hb.unfrozen j⟩
/-- one cell of a node turned, at a world behind; the box as it was -/
theorem HB.node {w W : World} {fs fs' : List Nat} {g r : Nat} {k0 k1 vO vG : Value} {gN nl cap : Nat} {y : HeapD} (h : HB w fs g r W [k0, k1, .slice (some ⟨gN, 0, none⟩) nl cap, vO, vG] y fs') {i : Nat} (hi : i < y.vNodes.length) :
 ∃ (C : List Value) (fi : List Nat), NodeP W C y.vNodes[i] fi ∧ (∀ m u, C[m]? = some u → W.cell? ⟨gN, i * 6 + m, none⟩ = some u) ∧ fi.Nodup ∧ (∀ b ∈ fi, b < W.heap.size ∧ b ∈ fs') ∧
  ∀ (W1 : World) (j : Nat) (u : Value) (x' : NodeD) (fi' : List Nat), j < 6 → Below W.heap.size W W1 → NodeP W1 (C.set j u) x' fi' → fi'.Nodup → (∀ b ∈ fi', b ∈ fi ∨ W.heap.size ≤ b) →
   ∃ fs1, HB w fs g r (W1.setCell ⟨gN, i * 6 + j, none⟩ u) [k0, k1, .slice (some ⟨gN, 0, none⟩) nl cap, vO, vG] { y with vNodes := y.vNodes.set i x' } fs1 := by
 have hlt := h.hp.lt
 obtain ⟨C, fi, h1, h2, h3, h4, h5, h6⟩ := h.hp.node hi
 refine ⟨C, fi, h1, h2, h5, fun b hb => ⟨hlt b (h3 b hb).1, (h3 b hb).1⟩, fun W1 j u x' fi' hj hb hr hn hs => ?_⟩
 obtain ⟨fs1, q1, q2⟩ := h6 W1 j u x' fi' hj hb.size (fun b hb1 _ => hb.block b (hlt b hb1)) hr hn hs
 exact ⟨fs1, h.inner q1 q2 (Out.set (Out.of_below hb) h4 u)⟩
theorem HB.obj {w W : World} {fs fs' : List Nat} {g r : Nat} {k0 k1 vN vG : Value} {gO nl cap : Nat} {y : HeapD} (h : HB w fs g r W [k0, k1, vN, .slice (some ⟨gO, 0, none⟩) nl cap, vG] y fs') {i : Nat} (hi : i < y.vObjs.length) :
 ∃ (C : List Value) (fi : List Nat), ObjOwn W C y.vObjs[i] fi ∧ (∀ m u, C[m]? = some u → W.cell? ⟨gO, i * 3 + m, none⟩ = some u) ∧ fi.Nodup ∧ (∀ b ∈ fi, b < W.heap.size ∧ b ∈ fs') ∧
  ∀ (W1 : World) (j : Nat) (u : Value) (x' : ObjD) (fi' : List Nat), j < 3 → Below W.heap.size W W1 → ObjOwn W1 (C.set j u) x' fi' → fi'.Nodup → (∀ b ∈ fi', b ∈ fi ∨ W.heap.size ≤ b) →
   ∃ fs1, HB w fs g r (W1.setCell ⟨gO, i * 3 + j, none⟩ u) [k0, k1, vN, .slice (some ⟨gO, 0, none⟩) nl cap, vG] { y with vObjs := y.vObjs.set i x' } fs1 := by
 have hlt := h.hp.lt
 obtain ⟨C, fi, h1, h2, h3, h4, h5, h6⟩ := h.hp.obj hi
 refine ⟨C, fi, h1, h2, h5, fun b hb => ⟨hlt b (h3 b hb).1, (h3 b hb).1⟩, fun W1 j u x' fi' hj hb hr hn hs => ?_⟩
 obtain ⟨fs1, q1, q2⟩ := h6 W1 j u x' fi' hj hb.size (fun b hb1 _ => hb.block b (hlt b hb1)) hr hn hs
 exact ⟨fs1, h.inner q1 q2 (Out.set (Out.of_below hb) h4 u)⟩
/-- a step of another function on the heap, its answer put into the box -/
theorem HB.step {w W W1 : World} {fs fs' : List Nat} {g r : Nat} {cs : List Value} {y y1 : HeapD} {k0 k1 k2 k3 k4 : Value} (h : HB w fs g r W cs y fs') (hc : cs.length = 5) (hr : HR W fs' W1 [k0, k1, k2, k3, k4] y1) : ∃ fs1, HB w fs g r (putCells W1 g 0 [k0, k1, k2, k3, k4]) [k0, k1, k2, k3, k4] y1 fs1 := by
 obtain ⟨fs1, hp, hs, ho⟩ := hr
 obtain ⟨a0, a1, a2, a3, a4, rfl⟩ : ∃ a0 a1 a2 a3 a4, cs = [a0, a1, a2, a3, a4] := by
  match cs, hc with
  | [a0, a1, a2, a3, a4], _ => exact ⟨a0, a1, a2, a3, a4, rfl⟩
 have hg := h.bH.lt
 have hrl := h.bR.lt
 have ord := h.ord
 have hgn : g ∉ fs' := fun q => (h.sub g q).2.1 rfl
 have hrn : r ∉ fs' := fun q => (h.sub r q).2.2 rfl
 have hsub : ∀ b ∈ fs1, (b ∈ fs ∨ w.heap.size ≤ b) ∧ b ≠ g ∧ b ≠ r := fun b hb => by
  rcases hs b hb with q | q
  · exact h.sub b q
  · exact ⟨Or.inr (by have := h.out.2.2.2.1; omega), by omega, by omega⟩
 have b1 : Box W1 g [a0, a1, a2, a3, a4] 28 := (ho.keep hg hgn).trans h.bH
 refine ⟨fs1, ((((b1.set (i := 0) _).set (i := 1) _).set (i := 2) _).set (i := 3) _).set (i := 4) _, (putCells_other _ _ _ _ _ (by omega)).trans ((ho.keep hrl hrn).trans h.bR), hp.stays fun b hb => putCells_other _ _ _ _ _ (hsub b hb).2.1, hsub, ?_, ord⟩
 exact Out.box (Out.box (Out.box (Out.box (Out.box ⟨ho.1.trans h.out.1, ho.2.1.trans h.out.2.1, ho.2.2.1.trans h.out.2.2.1, Nat.le_trans h.out.2.2.2.1 ho.2.2.2.1, fun b q1 q2 => (ho.2.2.2.2 b (Nat.lt_of_lt_of_le q1 h.out.2.2.2.1) (fun q => by rcases (h.sub b q).1 with z | z; exact q2 z; omega)).trans (h.out.2.2.2.2 b q1 q2)⟩ ord.1 _) ord.1 _) ord.1 _) ord.1 _) ord.1 _
theorem Out.puts {fs : List Nat} {w W : World} (h : Out fs w W) {r : Nat} (hr : w.heap.size ≤ r) (ds : List Value) : Out fs w (putCells W r 0 ds) := by
 have q := putCells_below ds 0 W W r 0 (Nat.zero_le _) (Below.refl _ _)
 exact ⟨q.os.trans h.1, q.tape.trans h.2.1, q.output.trans h.2.2.1, by rw [putCells_size]; exact h.2.2.2.1, fun b h1 h2 => (putCells_other _ _ _ _ _ (by omega)).trans (h.2.2.2.2 b h1 h2)⟩
/-- the heap that another function gave, given on -/
theorem HB.over {w W W1 : World} {fs fs' : List Nat} {g r : Nat} {cs cs1 : List Value} {y y1 : HeapD} (h : HB w fs g r W cs y fs') (hr : HR W fs' W1 cs1 y1) : Box W1 r cZp 28 ∧ HR w fs (putCells W1 r 0 cs1) cs1 y1 := by
 obtain ⟨fs1, hp, hs, ho⟩ := hr
 have hrl := h.bR.lt
 have hrn : r ∉ fs' := fun q => (h.sub r q).2.2 rfl
 have hsub : ∀ b ∈ fs1, (b ∈ fs ∨ w.heap.size ≤ b) ∧ b ≠ r := fun b hb => by
  rcases hs b hb with q | q
  · exact ⟨(h.sub b q).1, (h.sub b q).2.2⟩
  · exact ⟨Or.inr (by have := h.out.2.2.2.1; omega), by omega⟩
 refine ⟨(ho.keep hrl hrn).trans h.bR, fs1, hp.stays fun b hb => putCells_other _ _ _ _ _ (hsub b hb).2, fun b hb => (hsub b hb).1, Out.puts ⟨ho.1.trans h.out.1, ho.2.1.trans h.out.2.1, ho.2.2.1.trans h.out.2.2.1, Nat.le_trans h.out.2.2.2.1 ho.2.2.2.1, fun b q1 q2 => (ho.2.2.2.2 b (Nat.lt_of_lt_of_le q1 h.out.2.2.2.1) (fun q => by rcases (h.sub b q).1 with z | z; exact q2 z; omega)).trans (h.out.2.2.2.2 b q1 q2)⟩ h.ord.2.1 _⟩
theorem HR.form {w w' : World} {fs : List Nat} {cs : List Value} {x : HeapD} (h : HR w fs w' cs x) : ∃ aN cN aO cO aG cG, cs = (cHp x aN cN aO cO aG cG) := by
 obtain ⟨_, hp, _⟩ := h; exact hp.form
/-- where a node stands in memory, and its cells -/
theorem HB.nodeAt {w W : World} {fs fs' : List Nat} {g r : Nat} {k0 k1 vO vG : Value} {aN : Option Addr} {nl cap : Nat} {y : HeapD} (h : HB w fs g r W [k0, k1, .slice aN nl cap, vO, vG] y fs') {i : Nat} (hi : i < y.vNodes.length) :
 ∃ (gN : Nat) (a3 : Option Addr) (c3 : Nat) (a5 : Option Addr) (c5 : Nat), aN = some ⟨gN, 0, none⟩ ∧ (∀ j, W.frozen? ⟨gN, j, none⟩ = false) ∧ W.cell? ⟨gN, i * 6, none⟩ = some (.int .i64 y.vNodes[i].vId) ∧ W.cell? ⟨gN, i * 6 + 2, none⟩ = some (.int .i64 y.vNodes[i].vParent) ∧ W.cell? ⟨gN, i * 6 + 3, none⟩ = some (.slice a3 y.vNodes[i].vKids.length c3) ∧ W.cell? ⟨gN, i * 6 + 4, none⟩ = some (.int .i64 y.vNodes[i].vWrapper) ∧ W.cell? ⟨gN, i * 6 + 5, none⟩ = some (.slice a5 y.vNodes[i].vListeners.length c5) ∧ SeqAt 1 IntAt W 0 (.slice a3 y.vNodes[i].vKids.length c3) y.vNodes[i].vKids := by
 obtain ⟨gN, rfl, hf⟩ := h.hp.posN (show 0 < y.vNodes.length by omega)
 obtain ⟨C, fi, hC, hcell, _⟩ := h.node hi
 obtain ⟨k3, k5, f3, bL, cL, rfl, h3, h5, _⟩ := hC
 obtain ⟨a3, c3, rfl⟩ := h3.form
 obtain ⟨a5, c5, rfl⟩ := h5.seq.form
 exact ⟨gN, a3, c3, a5, c5, rfl, hf, hcell 0 _ rfl, hcell 2 _ rfl, hcell 3 _ rfl, hcell 4 _ rfl, hcell 5 _ rfl, h3.at intOwn_at (fun _ _ => Nat.zero_le _)⟩
end Go.Proofs.YtdnembnlomnceaaGreat
