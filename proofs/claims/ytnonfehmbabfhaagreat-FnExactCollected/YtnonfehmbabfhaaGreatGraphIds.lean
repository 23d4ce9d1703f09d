/- The program's things of a heap, not linked yet: walked. -/
import Derived.Test.YtnonfehmbabfhaaGreatGraphFields
import Derived.Test.YtnonfehmbabfhaaGreatShelf
import Derived.Sort.OwnSortedInts
import Derived.Test.YtnonfehmbabfhaaGreatGraphMem
namespace Go.Proofs.YtnonfehmbabfhaaGreat
open Go.RowKit
/-- all Ids, as they come, and rising -/
def idsU (h : HeapD) : List Int := h.vNodes.map NodeD.vId ++ h.vObjs.map ObjD.vId
def idsD (h : HeapD) : List Int := (idsU h).mergeSort fun x y => decide (x ≤ y)
theorem idsD_len (h : HeapD) : (idsD h).length = (idsU h).length := List.length_mergeSort _
/-- blocks of records of this type are as they were -/
def KeepT (T : TypeId) (w w' : World) : Prop := ∀ (b : Nat) (cs : Array Value) (fr : Nat × Nat), w.heap[b]? = some (.cells cs T fr) → w'.heap[b]? = some (.cells cs T fr)
theorem KeepT.trans {T : TypeId} {a b c : World} (h : KeepT T a b) (k : KeepT T b c) : KeepT T a c := fun x cs fr e => k x cs fr (h x cs fr e)
theorem KeepT.below {T : TypeId} {w w' : World} (h : Below w.heap.size w w') : KeepT T w w' := fun b _ _ e => (h.block b (Array.getElem?_eq_some_iff.1 e).1).trans e
theorem KeepT.grown {T e : TypeId} {w w' : World} {base size n : Nat} {v : Value} {xs : List Value} (hr : w.ownsRow base e size v n xs) (hT : e ≠ T) (hg : w.grownBy w' v.ownBlock) : KeepT T w w' := fun b cs fr q => by
  refine (hg.block b (Array.getElem?_eq_some_iff.1 q).1 (fun k => ?_)).trans q
  obtain ⟨cur, hh⟩ := row_blk hr k.symm
  rw [hh] at q
  injection q with q
  injection q with _ q2 _
  exact hT q2
theorem KeepT.set {T T' : TypeId} {w : World} {b i : Nat} {cs : List Value} (hB : Box w b cs T') (hT : T' ≠ T) (v : Value) : KeepT T w (w.setCell ⟨b, i, none⟩ v) := fun x cs' fr q => by
  refine (set_other (fun k : x = b => ?_) v).trans q
  subst k
  rw [show w.heap[x]? = _ from hB] at q
  injection q with q
  injection q with _ q2 _
  exact hT q2
theorem KeepT.put {T : TypeId} {w : World} {b : Nat} {es : Array MapEntry} {clock : Nat} {id : Int} {v : Value} (hm : w.heap[b]? = some (.map es clock)) : KeepT T w (putEnt w b es clock id v) := fun x cs' fr q => by
  refine (putEnt_other (fun k : x = b => ?_)).trans q
  subst k
  rw [hm] at q
  cases q
theorem Box.kept {w w' : World} {b : Nat} {cs : List Value} {T : TypeId} (h : Box w b cs T) (k : KeepT T w w') : Box w' b cs T := k b _ _ h
theorem row_kept {w w' : World} {base e size n : Nat} {v : Value} {xs : List Value} (h : w.ownsRow base e size v n xs) (k : KeepT e w w') : w'.ownsRow base e size v n xs := row_keep h (fun g q => by
  obtain ⟨cur, hh⟩ := row_blk h q
  rw [hh]; exact k g _ _ hh)
/-- things that hold nobody yet -/
def ThNew (w : World) (Ts : List ThD) : Prop := ∀ t ∈ Ts, Box w t.blk [.int .i64 t.id, .int .i64 t.pl, .slice none 0 0, .int .i64 0] 66
theorem ThNew.gst {w : World} {o : ThD} {Ts : List ThD} {base : Nat} {K : Nat → Prop} (h : ThNew w (o :: Ts)) (hK : ∀ t ∈ o :: Ts, ¬ K t.blk) (hl : ∀ b, K b → b < w.heap.size) : GSt K base w o Ts [] :=
  ⟨fun _ => .slice none 0 0, fun t ht => ⟨h t ht, World.ownsRow_nil _ _ _ _, hK t ht, fun g q => (by cases q)⟩, fun _ _ _ _ _ g q => (by cases q), hl⟩
/-- the first j things -/
def ThSt (ids : List Int) (base : Nat) (w : World) (o : ThD) (j : Nat) (Ts : List ThD) (bm : Nat) (v : Value) : Prop :=
  (Ts.map ThD.id = ids.take j ∧ (∀ i, (hi : i < Ts.length) → Ts[i].pl = (i : Int))) ∧ Apart (o :: Ts) ∧ (∀ t ∈ o :: Ts, base ≤ t.blk) ∧ ThNew w (o :: Ts) ∧ w.ownsRow base 57 1 v j (Ts.map fun t => .pointer (some ⟨t.blk, 0, none⟩)) ∧ PMap w bm Ts
theorem ThSt.keep {ids : List Int} {base : Nat} {w w' : World} {o : ThD} {j : Nat} {Ts : List ThD} {bm : Nat} {v : Value} (h : ThSt ids base w o j Ts bm v) (k1 : KeepT 66 w w') (k2 : KeepT 57 w w') (k3 : w'.heap[bm]? = w.heap[bm]?) : ThSt ids base w' o j Ts bm v :=
  ⟨h.1, h.2.1, h.2.2.1, fun t ht => (h.2.2.2.1 t ht).kept k1, row_kept h.2.2.2.2.1 k2, h.2.2.2.2.2.keep k3⟩
theorem apart_snoc {o : ThD} {Ts : List ThD} {t : ThD} (h : Apart (o :: Ts)) (h1 : ∀ u ∈ o :: Ts, u.id ≠ t.id) (h2 : ∀ u ∈ o :: Ts, u.blk ≠ t.blk) : Apart (o :: (Ts ++ [t])) := by
  have mem : ∀ u, u ∈ o :: (Ts ++ [t]) → u ∈ o :: Ts ∨ u = t := fun u hu => by
    simp only [List.mem_cons, List.mem_append, List.not_mem_nil, or_false] at hu ⊢
    rcases hu with e | e | e
    · exact Or.inl (Or.inl e)
    · exact Or.inl (Or.inr e)
    · exact Or.inr e
  refine ⟨fun a ha b hb e => ?_, fun a ha b hb e => ?_⟩
  · rcases mem a ha with ka | ka <;> rcases mem b hb with kb | kb
    · exact h.1 a ka b kb e
    · subst kb; exact absurd e (h1 a ka)
    · subst ka; exact absurd e.symm (h1 b kb)
    · rw [ka, kb]
  · rcases mem a ha with ka | ka <;> rcases mem b hb with kb | kb
    · exact h.2 a ka b kb e
    · subst kb; exact absurd e (h2 a ka)
    · subst ka; exact absurd e.symm (h2 b kb)
    · rw [ka, kb]
/-- one more thing -/
theorem ThSt.snoc {ids : List Int} {base : Nat} {w w1 : World} {o : ThD} {j : Nat} {Ts : List ThD} {bm g cap : Nat} {v : Value} {es : Array MapEntry} {clock : Nat} {bg : Nat} {gs : List Value} (h : ThSt ids base w o j Ts bm v) (hj : j < ids.length) (hids : ∀ a b, (ha : a < ids.length) → (hb : b < ids.length) → ids[a] = ids[b] → a = b) (hpos : ∀ x ∈ ids, x ≠ 0) (ho : o.id = 0) (hw : base ≤ w.heap.size)
    (hgrow : (((w.alloc (.cells #[.int .i64 ids[j], .int .i64 (j : Int), .slice none 0 0, .int .i64 0] 66))).alloc (.cells #[.pointer (some ⟨w.heap.size, 0, none⟩)] 57)).grownBy w1 v.ownBlock)
    (hown : w1.ownsRow base 57 1 (.slice (some ⟨g, 0, none⟩) (j + 1) cap) (j + 1) ((Ts.map fun t => .pointer (some ⟨t.blk, 0, none⟩)) ++ [.pointer (some ⟨w.heap.size, 0, none⟩)]))
    (hbg1 : Box w1 bg gs 59) (he : (w1.setCell ⟨bg, 0, none⟩ (.slice (some ⟨g, 0, none⟩) (j + 1) cap)).heap[bm]? = some (.map es clock)) (hpe : PEnts es.toList Ts) :
    ThSt ids base (putEnt (w1.setCell ⟨bg, 0, none⟩ (.slice (some ⟨g, 0, none⟩) (j + 1) cap)) bm es clock ids[j] (.pointer (some ⟨w.heap.size, 0, none⟩))) o (j + 1) (Ts ++ [⟨ids[j], (j : Int), w.heap.size⟩]) bm (.slice (some ⟨g, 0, none⟩) (j + 1) cap) := by
  obtain ⟨⟨h1, h1'⟩, h2, h3, h4, h5, h6⟩ := h
  have hlen : Ts.length = j := by have := congrArg List.length h1; simp at this; omega
  have hv : ((w.alloc (.cells #[.int .i64 ids[j], .int .i64 (j : Int), .slice none 0 0, .int .i64 0] 66))).ownsRow base 57 1 v j (Ts.map fun t => .pointer (some ⟨t.blk, 0, none⟩)) := row_keep h5 (fun g q => Below.heap_alloc _ _ _ (row_lt' h5 q))
  have hv2 : (((w.alloc (.cells #[.int .i64 ids[j], .int .i64 (j : Int), .slice none 0 0, .int .i64 0] 66))).alloc (.cells #[.pointer (some ⟨w.heap.size, 0, none⟩)] 57)).ownsRow base 57 1 v j (Ts.map fun t => .pointer (some ⟨t.blk, 0, none⟩)) := row_keep hv (fun g q => Below.heap_alloc _ _ _ (row_lt' hv q))
  have kk : KeepT 66 (((w.alloc (.cells #[.int .i64 ids[j], .int .i64 (j : Int), .slice none 0 0, .int .i64 0] 66))).alloc (.cells #[.pointer (some ⟨w.heap.size, 0, none⟩)] 57)) (putEnt (w1.setCell ⟨bg, 0, none⟩ (.slice (some ⟨g, 0, none⟩) (j + 1) cap)) bm es clock ids[j] (.pointer (some ⟨w.heap.size, 0, none⟩))) :=
    ((KeepT.grown hv2 (by decide) hgrow).trans (KeepT.set hbg1 (by decide) _)).trans (KeepT.put he)
  have hnew : ThNew (putEnt (w1.setCell ⟨bg, 0, none⟩ (.slice (some ⟨g, 0, none⟩) (j + 1) cap)) bm es clock ids[j] (.pointer (some ⟨w.heap.size, 0, none⟩))) (o :: (Ts ++ [⟨ids[j], (j : Int), w.heap.size⟩])) := by
    intro u hu
    have hu' : u ∈ o :: Ts ∨ u = ⟨ids[j], (j : Int), w.heap.size⟩ := by
      simp only [List.mem_cons, List.mem_append, List.not_mem_nil, or_false] at hu ⊢
      rcases hu with e | e | e
      · exact Or.inl (Or.inl e)
      · exact Or.inl (Or.inr e)
      · exact Or.inr e
    rcases hu' with e | e
    · exact (((h4 u e).alloc _).alloc _).kept kk
    · subst e
      exact ((Box.new w _ _).alloc _).kept kk
  refine ⟨⟨?_, fun i hi => ?_⟩, ?_, fun u hu => ?_, hnew, ?_, ?_⟩
  · rw [List.map_append, h1, List.take_succ_eq_append_getElem hj]; rfl
  · by_cases e : i < Ts.length
    · rw [List.getElem_append_left e]; exact h1' i e
    · have e' : i = j := by simp at hi; omega
      subst e'
      rw [List.getElem_append_right (by omega)]
      simp
  · refine apart_snoc h2 (fun u hu => ?_) (fun u hu => ?_)
    · rcases List.mem_cons.1 hu with e | e
      · subst e; rw [ho]; exact fun q => hpos _ (List.getElem_mem hj) q.symm
      · intro q
        dsimp only at q
        have hm : u.id ∈ ids.take j := h1 ▸ List.mem_map_of_mem e
        obtain ⟨i, hi, hq⟩ := List.getElem_of_mem hm
        have hi2 : i < j := by simp at hi; omega
        rw [List.getElem_take] at hq
        have := hids i j (by omega) hj (hq.trans q)
        omega
    · have := (h4 u hu).lt
      dsimp only; omega
  · have hu' : u ∈ o :: Ts ∨ u = ⟨ids[j], (j : Int), w.heap.size⟩ := by
      simp only [List.mem_cons, List.mem_append, List.not_mem_nil, or_false] at hu ⊢
      rcases hu with e | e | e
      · exact Or.inl (Or.inl e)
      · exact Or.inl (Or.inr e)
      · exact Or.inr e
    rcases hu' with e | e
    · exact h3 u e
    · subst e; exact hw
  · rw [List.map_append]
    exact row_kept hown ((KeepT.set hbg1 (by decide) _).trans (KeepT.put he))
  · have hlt : bm < (w1.setCell ⟨bg, 0, none⟩ (.slice (some ⟨g, 0, none⟩) (j + 1) cap)).heap.size := (Array.getElem?_eq_some_iff.1 he).1
    refine ⟨_, _, putEnt_at hlt, ?_⟩
    rw [Array.toList_push]
    exact pents_snoc rfl rfl _ _ hpe
end Go.Proofs.YtnonfehmbabfhaaGreat
namespace Go.Proofs.YtnonfehmbabfhaaGreat
theorem rs_pair {α : Type} {f : α → Int} {next : Int} : ∀ (xs : List α) (l : Int), rsB f next l xs = true → (xs.map f).Pairwise (fun a b => a < b) := by
  intro xs
  induction xs with
  | nil => intro l _; exact List.Pairwise.nil
  | cons x xs ih =>
    intro l e
    have e' := e
    simp only [rsB, Bool.and_eq_true] at e'
    rw [List.map_cons, List.pairwise_cons]
    refine ⟨fun b hb => ?_, ih _ e'.2⟩
    obtain ⟨y, hy, rfl⟩ := List.mem_map.1 hb
    exact rs_lt xs _ e'.2 y hy
theorem lt_nodup {xs : List Int} (h : xs.Pairwise (fun a b => a < b)) : xs.Nodup := by
  have hp := List.pairwise_iff_getElem.1 h
  refine List.pairwise_iff_getElem.2 fun i j hi hj hij e => ?_
  have := hp i j hi hj hij
  omega
theorem idx_rs {h : HeapD} (e : idxB h = true) : rsB NodeD.vId h.vNext 0 h.vNodes = true ∧ rsB ObjD.vId h.vNext 0 h.vObjs = true ∧ ∀ x ∈ h.vObjs, nodeAt h x.vId = none := by
  simp only [idxB, Bool.and_eq_true] at e
  have e1 := e.1.2
  have e2 := e.2
  rw [idxN_rs] at e1
  rw [idxO_rs, Bool.and_eq_true, List.all_eq_true] at e2
  refine ⟨e1, e2.1, fun x hx => ?_⟩
  have := e2.2 x hx
  simpa using this
theorem idsU_nodup {h : HeapD} (e : idxB h = true) : (idsU h).Nodup := by
  obtain ⟨e1, e2, e3⟩ := idx_rs e
  unfold idsU
  rw [List.nodup_append]
  refine ⟨lt_nodup (rs_pair _ _ e1), lt_nodup (rs_pair _ _ e2), fun a ha b hb hab => ?_⟩
  obtain ⟨x, hx, rfl⟩ := List.mem_map.1 ha
  obtain ⟨y, hy, rfl⟩ := List.mem_map.1 hb
  have q := e3 y hy
  unfold nodeAt at q
  rw [← hab] at q
  exact mem_get _ x hx q
theorem idsD_nodup {h : HeapD} (e : idxB h = true) : (idsD h).Nodup := (List.mergeSort_perm _ _).nodup_iff.2 (idsU_nodup e)
theorem mem_idsD {h : HeapD} {k : Int} : k ∈ idsD h ↔ k ∈ idsU h := (List.mergeSort_perm _ _).mem_iff
theorem mem_idsU {h : HeapD} {k : Int} : k ∈ idsU h ↔ isT h k = true := by
  unfold idsU isT
  rw [List.mem_append, Bool.or_eq_true]
  have one : ∀ {α : Type} (f : α → Int) (xs : List α), k ∈ xs.map f ↔ (getI f xs k).isSome = true := fun f xs => by
    constructor
    · intro q
      obtain ⟨x, hx, rfl⟩ := List.mem_map.1 q
      cases hq : getI f xs (f x) with
      | none => exact absurd hq (mem_get xs x hx)
      | some y => rfl
    · intro q
      obtain ⟨x, hx⟩ := Option.isSome_iff_exists.1 q
      obtain ⟨h1, h2⟩ := get_mem xs x hx
      exact h2 ▸ List.mem_map_of_mem h1
  exact or_congr (one NodeD.vId h.vNodes) (one ObjD.vId h.vObjs)
theorem nodup_inj {α : Type} {xs : List α} (h : xs.Nodup) : ∀ a b, (ha : a < xs.length) → (hb : b < xs.length) → xs[a] = xs[b] → a = b := by
  intro a b ha hb e
  have hp := List.pairwise_iff_getElem.1 h
  rcases Nat.lt_trichotomy a b with q | q | q
  · exact absurd e (hp a b ha hb q)
  · exact q
  · exact absurd e.symm (hp b a hb ha q)
theorem ids_ne_zero {h : HeapD} (e : implB h = true) : ∀ x ∈ idsD h, x ≠ 0 := by
  intro x hx q
  subst q
  have := mem_idsU.1 (mem_idsD.1 hx)
  rw [isT_zero e] at this
  cases this
theorem things_there {h : HeapD} {Ts : List ThD} (hT : Ts.map ThD.id = idsD h) (k : Int) : (getI ThD.id Ts k).isSome = isT h k := by
  cases hq : isT h k with
  | true =>
    have hm : k ∈ Ts.map ThD.id := by rw [hT]; exact mem_idsD.2 (mem_idsU.2 hq)
    obtain ⟨t, ht, rfl⟩ := List.mem_map.1 hm
    cases hr : getI ThD.id Ts t.id with
    | none => exact absurd hr (mem_get Ts t ht)
    | some u => rfl
  | false =>
    cases hr : getI ThD.id Ts k with
    | none => rfl
    | some u =>
      obtain ⟨h1, h2⟩ := get_mem Ts u hr
      have hm : k ∈ idsD h := by rw [← hT, ← h2]; exact List.mem_map_of_mem h1
      have := mem_idsU.1 (mem_idsD.1 hm)
      rw [hq] at this
      cases this
theorem nodes_pos {h : HeapD} (e : specB h = true) : 0 < h.vNodes.length := by
  have := doc_there e
  unfold nodeAt at this
  cases hx : h.vNodes with
  | nil => rw [hx] at this; simp [getI] at this
  | cons a l => simp
theorem objs_most {h : HeapD} (e : specB h = true) : h.vObjs.length ≤ 16 := by
  simp only [specB, Bool.and_eq_true, decide_eq_true_eq] at e
  omega
theorem flat_len {α β : Type} {f : α → List β} {B : Nat} : ∀ (xs : List α), (∀ x ∈ xs, (f x).length ≤ B) → (xs.flatMap f).length ≤ xs.length * B := by
  intro xs
  induction xs with
  | nil => intro _; simp
  | cons x xs ih =>
    intro hx
    rw [List.flatMap_cons, List.length_append, List.length_cons, Nat.add_mul, Nat.one_mul]
    have h1 := hx x List.mem_cons_self
    have h2 := ih (fun y hy => hx y (List.mem_cons_of_mem _ hy))
    omega
theorem nzI_len (n : Int) : (nzI n).length ≤ 1 := by unfold nzI; split <;> simp
theorem accN_len {h : HeapD} (hs : h.small) (hN : h.vNodes.length ≤ 16) (j : Nat) : (accN (h.vNodes.take j)).length ≤ 33554432 := by
  have h1 : (accN (h.vNodes.take j)).length ≤ (h.vNodes.take j).length * 1048578 := flat_len _ fun x hx => by
    obtain ⟨i, hi, rfl⟩ := List.getElem_of_mem (List.mem_of_mem_take hx)
    obtain ⟨_, hk, _⟩ := hs.1.2 i hi
    have hk' : h.vNodes[i].vKids.length ≤ 1048576 := hk
    have n1 := nzI_len h.vNodes[i].vParent
    have n2 := nzI_len h.vNodes[i].vWrapper
    simp only [List.length_map, edgeN, List.length_append]
    omega
  have h2 : (h.vNodes.take j).length ≤ 16 := by simp; omega
  have := Nat.mul_le_mul_right 1048578 h2
  omega
theorem accO_len {h : HeapD} (hs : h.small) (hN : h.vObjs.length ≤ 16) (j : Nat) : (accO (h.vObjs.take j)).length ≤ 33554432 := by
  have h1 : (accO (h.vObjs.take j)).length ≤ (h.vObjs.take j).length * 1048578 := flat_len _ fun x hx => by
    obtain ⟨i, hi, rfl⟩ := List.getElem_of_mem (List.mem_of_mem_take hx)
    obtain ⟨hf, _⟩ := hs.2.1.2 i hi
    have hf' := hf.1
    have n1 := nzI_len h.vObjs[i].vNode
    simp only [List.length_map, edgeO, List.length_append]
    omega
  have h2 : (h.vObjs.take j).length ≤ 16 := by simp; omega
  have := Nat.mul_le_mul_right 1048578 h2
  omega
end Go.Proofs.YtnonfehmbabfhaaGreat
namespace Go.Proofs.YtnonfehmbabfhaaGreat
open Go.RowKit Go.Sort
theorem row_get {w : World} {base e n : Nat} {a : Option Addr} {cap : Nat} {xs : List Value} (h : w.ownsRow base e 1 (.slice a n cap) n xs) {j : Nat} (hj : j < n) {x : Value} (hx : xs[j]? = some x) : ∃ g, a = some ⟨g, 0, none⟩ ∧ w.cell? ⟨g, j, none⟩ = some x := by
  rcases h.2 with ⟨e1, e2⟩ | ⟨g, c, cur, e1, _, hh, _, _, h3, h4⟩
  · omega
  · injection e1 with e1 _ _
    refine ⟨g, e1, ?_⟩
    rw [blk_cell hh]
    have : (cur.toList.take (n * 1))[j]? = some x := by rw [h4]; exact hx
    rw [List.getElem?_take_of_lt (by omega)] at this
    simpa using this
set_option maxRecDepth 100000 in
set_option maxHeartbeats 4000000 in
theorem unlinked_any {w0 w : World} {lo : Nat} {cs : List Value} {h : HeapD} (hh : HeapAt w0 lo cs h) (h00 : Below w0.heap.size w0 w) (hne : 0 < h.vNodes.length) (hl1 : h.vNodes.length ≤ 16) (hl2 : h.vObjs.length ≤ 16)
    (hids : ∀ a b, (ha : a < (idsD h).length) → (hb : b < (idsD h).length) → (idsD h)[a] = (idsD h)[b] → a = b) (hpos : ∀ x ∈ idsD h, x ≠ 0) :
    Calls Tryz.prog 63 #[.agg cs.toArray] w fun e w' => ∃ (o : ThD) (Ts : List ThD) (bm g cap : Nat), e = .returned (.agg #[.slice (some ⟨g, 0, none⟩) (idsD h).length cap, .map (some bm), .pointer (some ⟨o.blk, 0, none⟩)]) ∧ o.id = 0 ∧ o.pl = 0 ∧ ThSt (idsD h) w.heap.size w' o (idsD h).length Ts bm (.slice (some ⟨g, 0, none⟩) (idsD h).length cap) ∧ w.heap.size ≤ bm ∧ Below w.heap.size w w' := by
  obtain ⟨k2, k3, k4, rfl, s2, s3, s4, rNext, rDoc, _⟩ := hh
  obtain ⟨a4, cap4, rfl⟩ := s4.form
  obtain ⟨a2, cap2, rfl, hm2, hx2⟩ := s2
  obtain ⟨a3, cap3, rfl, hm3, hx3⟩ := s3
  have hx2' : Hid _ := hx2
  have hx3' : Hid _ := hx3
  have hids' : Hid _ := hids
  have hpos' : Hid _ := hpos
  have hlen' : Hid ((idsD h).length = h.vNodes.length + h.vObjs.length) := by show _ = _; rw [idsD_len]; simp [idsU]
  clear hx2 hx3 s4 rNext rDoc hm2 hm3 hids hpos
  obtain ⟨iI, hiI, heI⟩ := Option.map_eq_some_iff.1 infoI64
  simp only [Prod.mk.injEq] at heI
  have hI : Hid _ := hiI
  have hE : Hid _ := heI
  clear hiI heI
  obtain ⟨iP, hiP, heP⟩ := Option.map_eq_some_iff.1 infoPtr
  simp only [Prod.mk.injEq] at heP
  have hIP : Hid _ := hiP
  have hEP : Hid _ := heP
  clear hiP heP
  have hb2 : Below w.heap.size w ((w.alloc (.cells #[.int .i64 h.vNext, .int .i64 h.vDoc, .slice a2 h.vNodes.length cap2, .slice a3 h.vObjs.length cap3, .slice a4 h.vGlobals.length cap4] 32)).alloc (.cells #[.slice none 0 0, .map none, .pointer none] 59)) := ((Below.refl _ _).alloc (Nat.le_refl _) _).alloc (by simp) _
  have bH0 : Hid (Box ((w.alloc (.cells #[.int .i64 h.vNext, .int .i64 h.vDoc, .slice a2 h.vNodes.length cap2, .slice a3 h.vObjs.length cap3, .slice a4 h.vGlobals.length cap4] 32)).alloc (.cells #[.slice none 0 0, .map none, .pointer none] 59)) w.heap.size [.int .i64 h.vNext, .int .i64 h.vDoc, .slice a2 h.vNodes.length cap2, .slice a3 h.vObjs.length cap3, .slice a4 h.vGlobals.length cap4] 32) := (Box.new w [.int .i64 h.vNext, .int .i64 h.vDoc, .slice a2 h.vNodes.length cap2, .slice a3 h.vObjs.length cap3, .slice a4 h.vGlobals.length cap4] 32).alloc _
  have bR0 : Hid (Box ((w.alloc (.cells #[.int .i64 h.vNext, .int .i64 h.vDoc, .slice a2 h.vNodes.length cap2, .slice a3 h.vObjs.length cap3, .slice a4 h.vGlobals.length cap4] 32)).alloc (.cells #[.slice none 0 0, .map none, .pointer none] 59)) (w.heap.size + 1) [.slice none 0 0, .map none, .pointer none] 59) := by have q := Box.new (w.alloc (.cells #[.int .i64 h.vNext, .int .i64 h.vDoc, .slice a2 h.vNodes.length cap2, .slice a3 h.vObjs.length cap3, .slice a4 h.vGlobals.length cap4] 32)) [.slice none 0 0, .map none, .pointer none] 59; simpa only [World.size_alloc, Hid] using q
  have hz2 : ((w.alloc (.cells #[.int .i64 h.vNext, .int .i64 h.vDoc, .slice a2 h.vNodes.length cap2, .slice a3 h.vObjs.length cap3, .slice a4 h.vGlobals.length cap4] 32)).alloc (.cells #[.slice none 0 0, .map none, .pointer none] 59)).heap.size = w.heap.size + 2 := by simp
  go_enter Tryz.func63, Tryz.ntmps63
  go_wp2_with fail
  obtain ⟨W0, hW0⟩ : ∃ W0, ((w.alloc (.cells #[.int .i64 h.vNext, .int .i64 h.vDoc, .slice a2 h.vNodes.length cap2, .slice a3 h.vObjs.length cap3, .slice a4 h.vGlobals.length cap4] 32)).alloc (.cells #[.slice none 0 0, .map none, .pointer none] 59)) = W0 := ⟨_, rfl⟩
  rw [hW0] at hb2 bH0 bR0 hz2 ⊢
  clear hW0
  go_loopw [3, 15] (fun v i wr => ∃ (j : Nat), j ≤ h.vNodes.length ∧ i = .int .i64 j ∧ Hid (wr.ownsRow (w.heap.size + 2) 2 1 v j (((h.vNodes.take j).map NodeD.vId).map fun n => Value.int .i64 n)) ∧ Hid (∃ a cap, v = .slice a j cap) ∧ Below (w.heap.size + 2) W0 wr) (fun _ i _ => h.vNodes.length - (intOf i).toNat)
  case atStart => exact ⟨0, by omega, rfl, World.ownsRow_nil _ _ _ _, ⟨_, _, rfl⟩, Below.refl _ _⟩
  case round =>
    obtain ⟨j, hj, rfl, hown, hform, hb⟩ := hrel
    obtain ⟨av, capv, rfl⟩ := hform.out
    clear hform
    have hz : w.heap.size + 2 ≤ wr.heap.size := by have := hb.size; omega
    have hbw : Below w.heap.size w wr := hb2.trans (hb.mono (by omega))
    by_cases hlt : j < h.vNodes.length
    · obtain ⟨b, off, rfl, hlo, hbw2, hc⟩ := hx2'.out (by omega)
      obtain ⟨cs, hcl, lie, hr⟩ := hc j hlt
      have lie1 := Lie.keep (lo := lo) (lo' := lo) lie (.of_below (h00.trans (hbw.mono h00.size))) hlo hbw2
      have hstep : Hid ((h.vNodes.take (j + 1)).map NodeD.vId = (h.vNodes.take j).map NodeD.vId ++ [h.vNodes[j].vId]) := by show _ = _; rw [List.take_succ_eq_append_getElem hlt, List.map_append]; rfl
      generalize hQ : h.vNodes[j] = Q at hr hstep
      obtain ⟨g3, g5, rfl, v3, v5, _⟩ := hr
      obtain ⟨p3, d3, rfl⟩ := v3.form
      obtain ⟨p5, d5, rfl⟩ := v5.form
      have z0 := lie_at lie1 0 rfl
      have z1 := lie_at lie1 1 rfl
      have z2 := lie_at lie1 2 rfl
      have z3 := lie_at lie1 3 rfl
      have z4 := lie_at lie1 4 rfl
      have z5 := lie_at lie1 5 rfl
      simp only [Nat.add_zero] at z0
      have n0 := (Box.new wr [.int .i64 Q.vId, .string Q.vTag, .int .i64 Q.vParent, .slice p3 Q.vKids.length d3, .int .i64 Q.vWrapper, .slice p5 Q.vListeners.length d5] 91).cell 0 rfl
      clear lie lie1 hcl hc hQ v3 v5
      obtain ⟨L, hL⟩ : ∃ L, (((h.vNodes.take j).map NodeD.vId).map fun n => Value.int .i64 n) = L := ⟨_, rfl⟩
      have hownL : Hid (wr.ownsRow (w.heap.size + 2) 2 1 (.slice av j capv) j L) := by rw [← hL]; exact hown
      have hL' : Hid _ := hL
      clear hL
      go_wp2_with (at_builtin; refine wpList_append_own _ rfl _ _ 33 rfl (w.heap.size + 2) 2 iI (.int .i64 0) 1 8 Tryz.underlying33 hI.out hE.out.1 hE.out.2.2 hE.out.2.1 rfl (by decide) _ j (L) rfl ((hownL.out.alloc _).alloc _) ⟨wr.heap.size + 1, 0, none⟩ 1 1 [.int .i64 Q.vId] rfl rfl (by intro q u hq; match q, hq with | 0, hq => simp at hq; subst hq; simp [Addr.add]) (by simp [Value.oneCell']) (by unfold maxLen; omega) (by omega) (by simp; omega) ?_)
      intro v' w1 hown' hgrow _
      have hb3 : Below (w.heap.size + 2) W0 w1 := ((hb.alloc hz _).alloc (by simp; omega) _).grown hgrow (by simp; omega) (own_block hown.out)
      obtain ⟨av', capv', rfl⟩ := own_forms hown'
      have hown1 : Hid _ := hown'
      clear hown' hgrow
      go_wp2_with fail
      go_roundw
      case rel => exact ⟨j + 1, by omega, by go_num, by rw [hstep.out, List.map_append, hL'.out]; exact hown1.out, ⟨_, _, rfl⟩, hb3⟩
      case measure => simp [intOf]; omega
    obtain rfl : j = h.vNodes.length := by omega
    have bH := bH0.out.below hb (by omega)
    have t3 := bH.cell 3 rfl
    have hown2 : Hid (wr.ownsRow (w.heap.size + 2) 2 1 (.slice av h.vNodes.length capv) (h.vNodes.length + 0) ((h.vNodes.map NodeD.vId ++ (h.vObjs.take 0).map ObjD.vId).map fun n => Value.int .i64 n)) := by show World.ownsRow _ _ _ _ _ _ _; have q := hown.out; rw [List.take_length] at q; simpa using q
    clear bH hown hx2'
    go_wp2_with fail
    go_loopw [3, 28] (fun v i wr => ∃ (j : Nat), j ≤ h.vObjs.length ∧ i = .int .i64 j ∧ Hid (wr.ownsRow (w.heap.size + 2) 2 1 v (h.vNodes.length + j) ((h.vNodes.map NodeD.vId ++ (h.vObjs.take j).map ObjD.vId).map fun n => Value.int .i64 n)) ∧ Hid (∃ a cap, v = .slice a (h.vNodes.length + j) cap) ∧ Below (w.heap.size + 2) W0 wr) (fun _ i _ => h.vObjs.length - (intOf i).toNat)
    case atStart => exact ⟨0, by omega, rfl, hown2, ⟨_, _, rfl⟩, hb⟩
    case round =>
      clear hown2 hb hbw hz
      obtain ⟨j, hj, rfl, hown, hform, hb⟩ := hrel
      obtain ⟨av, capv, rfl⟩ := hform.out
      clear hform
      have hz : w.heap.size + 2 ≤ wr.heap.size := by have := hb.size; omega
      have hbw : Below w.heap.size w wr := hb2.trans (hb.mono (by omega))
      by_cases hlt : j < h.vObjs.length
      · obtain ⟨b, off, rfl, hlo, hbw2, hc⟩ := hx3'.out (by omega)
        obtain ⟨cs, hcl, lie, hr⟩ := hc j hlt
        have lie1 := Lie.keep (lo := lo) (lo' := lo) lie (.of_below (h00.trans (hbw.mono h00.size))) hlo hbw2
        have hstep : Hid ((h.vObjs.take (j + 1)).map ObjD.vId = (h.vObjs.take j).map ObjD.vId ++ [h.vObjs[j].vId]) := by show _ = _; rw [List.take_succ_eq_append_getElem hlt, List.map_append]; rfl
        generalize hQ : h.vObjs[j] = Q at hr hstep
        obtain ⟨g2, rfl, v2, _⟩ := hr
        obtain ⟨p2, d2, rfl⟩ := v2.form
        have z0 := lie_at lie1 0 rfl
        have z1 := lie_at lie1 1 rfl
        have z2 := lie_at lie1 2 rfl
        simp only [Nat.add_zero] at z0
        have n0 := (Box.new wr [.int .i64 Q.vId, .int .i64 Q.vNode, .slice p2 Q.vFields.length d2] 95).cell 0 rfl
        clear lie lie1 hcl hc hQ v2
        obtain ⟨L, hL⟩ : ∃ L, ((h.vNodes.map NodeD.vId ++ (h.vObjs.take j).map ObjD.vId).map fun n => Value.int .i64 n) = L := ⟨_, rfl⟩
        have hownL : Hid (wr.ownsRow (w.heap.size + 2) 2 1 (.slice av (h.vNodes.length + j) capv) (h.vNodes.length + j) L) := by rw [← hL]; exact hown
        have hL' : Hid _ := hL
        clear hL
        go_wp2_with (at_builtin; refine wpList_append_own _ rfl _ _ 33 rfl (w.heap.size + 2) 2 iI (.int .i64 0) 1 8 Tryz.underlying33 hI.out hE.out.1 hE.out.2.2 hE.out.2.1 rfl (by decide) _ (h.vNodes.length + j) (L) rfl ((hownL.out.alloc _).alloc _) ⟨wr.heap.size + 1, 0, none⟩ 1 1 [.int .i64 Q.vId] rfl rfl (by intro q u hq; match q, hq with | 0, hq => simp at hq; subst hq; simp [Addr.add]) (by simp [Value.oneCell']) (by unfold maxLen; omega) (by omega) (by simp; omega) ?_)
        intro v' w1 hown' hgrow _
        have hb3 : Below (w.heap.size + 2) W0 w1 := ((hb.alloc hz _).alloc (by simp; omega) _).grown hgrow (by simp; omega) (own_block hown.out)
        obtain ⟨av', capv', rfl⟩ := own_forms hown'
        have hown1 : Hid _ := hown'
        clear hown' hgrow
        go_wp2_with fail
        go_roundw
        case rel => exact ⟨j + 1, by omega, by go_num, by rw [hstep.out, ← List.append_assoc, List.map_append, hL'.out]; exact hown1.out, ⟨_, _, rfl⟩, hb3⟩
        case measure => simp [intOf]; omega
      obtain rfl : j = h.vObjs.length := by omega
      have hrow : wr.ownsRow (w.heap.size + 2) 2 1 (.slice av (h.vNodes.length + h.vObjs.length) capv) (h.vNodes.length + h.vObjs.length) ((idsU h).map fun n => Value.int .i64 n) := by have q := hown.out; rw [List.take_length] at q; exact q
      have hUl : (idsU h).length = h.vNodes.length + h.vObjs.length := by simp [idsU]
      clear hown hx3'
      rcases hrow.2 with ⟨_, e0⟩ | ⟨gi, capi, cur, ev, hgi, hcur, hn1, hn2, hn3, hn4⟩
      · omega
      injection ev with ev1 _ ev3
      subst ev1 ev3
      rw [← hUl] at hn1 hn4
      have hsort := AnyG.slices_Sort_int sortLaid gi 0 capv (idsU h) wr (holds_of_blockI hcur (by simpa using hn4)) (Array.getElem?_eq_some_iff.1 hcur).1 (by omega)
      change Calls Tryz.prog 67 _ _ _ at hsort
      rw [hUl] at hsort
      have hsort' : Hid (Calls Tryz.prog 67 #[.slice (some ⟨gi, 0, none⟩) (h.vNodes.length + h.vObjs.length) capv] wr fun e w' => e = .returned (.tuple #[]) ∧ ∃ n os, w' = grow (putRow (Value.int .i64) (Sort.ahead wr n) gi 0 (idsD h).toArray) os) := hsort
      have hsr : Hid (∀ nn os, (grow (putRow (Value.int .i64) (Sort.ahead wr nn) gi 0 (idsD h).toArray) os).ownsRow (w.heap.size + 2) 2 1 (.slice (some ⟨gi, 0, none⟩) (h.vNodes.length + h.vObjs.length) capv) (h.vNodes.length + h.vObjs.length) ((idsD h).map (Value.int .i64))) := fun nn os => by
        have q := ownsRow_sortedI (n := nn) (os := os) (ss := idsU h) (ts := idsD h) (idsD_len h) hgi hcur hn1 hn2 (by simpa using hn3)
        rw [hUl] at q; exact q
      have hsg : Hid (∀ nn os, wr.grownBy (grow (putRow (Value.int .i64) (Sort.ahead wr nn) gi 0 (idsD h).toArray) os) (some gi)) := fun nn os => grownBy_sortedI _
      clear hcur hn1 hn2 hn3 hn4 hsort hrow
      go_wp2_with fail
      refine hsort'.out.mono ?_
      rintro e w3 ⟨rfl, nn, os, hw3⟩
      have hr3 : Hid (w3.ownsRow (w.heap.size + 2) 2 1 (.slice (some ⟨gi, 0, none⟩) (h.vNodes.length + h.vObjs.length) capv) (h.vNodes.length + h.vObjs.length) ((idsD h).map (Value.int .i64))) := by rw [hw3]; exact hsr.out nn os
      have hg3 : wr.grownBy w3 (some gi) := by rw [hw3]; exact hsg.out nn os
      have hb4 : Below (w.heap.size + 2) W0 w3 := hb.grown hg3 hz (fun k e => by cases e; exact hgi)
      have hz4 : w.heap.size + 2 ≤ w3.heap.size := by have := hb4.size; omega
      have hbw4 : Below w.heap.size w w3 := hb2.trans (hb4.mono (by omega))
      have bR4 : Hid (Box w3 (w.heap.size + 1) [.slice none 0 0, .map none, .pointer none] 59) := bR0.out.below hb4 (by omega)
      clear hw3 hsr hsg hsort' hg3 hb hbw hz
      have hmk : ∀ t u, Sem.run Tryz.prog (Instr.makeMap t none) u = .ok (.map (some u.heap.size)) (u.alloc (.map #[] 0)) := by intro t u; simp [Instr.makeMap]
      go_wp2_with fail
      have hw5 : (((w3.alloc (.map #[] 0)).alloc (.cells #[.int .i64 0, .int .i64 0, .slice none 0 0, .int .i64 0] 66)).alloc (.cells #[.slice none 0 0, .map (some w3.heap.size), .pointer (some ⟨w3.heap.size + 1, 0, none⟩)] 59)).heap.size = w3.heap.size + 3 := by simp
      have mB : Hid ((((w3.alloc (.map #[] 0)).alloc (.cells #[.int .i64 0, .int .i64 0, .slice none 0 0, .int .i64 0] 66)).alloc (.cells #[.slice none 0 0, .map (some w3.heap.size), .pointer (some ⟨w3.heap.size + 1, 0, none⟩)] 59)).heap[w3.heap.size]? = some (.map #[] 0)) := by
        show _ = _
        rw [Below.heap_alloc _ _ _ (by simp; omega), Below.heap_alloc _ _ _ (by simp)]
        exact (MapKept.heap_alloc w3 (.map #[] 0)).1
      have oB : Hid (Box (((w3.alloc (.map #[] 0)).alloc (.cells #[.int .i64 0, .int .i64 0, .slice none 0 0, .int .i64 0] 66)).alloc (.cells #[.slice none 0 0, .map (some w3.heap.size), .pointer (some ⟨w3.heap.size + 1, 0, none⟩)] 59)) (w3.heap.size + 1) [.int .i64 0, .int .i64 0, .slice none 0 0, .int .i64 0] 66) := by
        have q := (Box.new (w3.alloc (.map #[] 0)) [.int .i64 0, .int .i64 0, .slice none 0 0, .int .i64 0] 66).alloc (.cells #[.slice none 0 0, .map (some w3.heap.size), .pointer (some ⟨w3.heap.size + 1, 0, none⟩)] 59)
        simpa only [World.size_alloc, Hid] using q
      have gB : Hid (Box (((w3.alloc (.map #[] 0)).alloc (.cells #[.int .i64 0, .int .i64 0, .slice none 0 0, .int .i64 0] 66)).alloc (.cells #[.slice none 0 0, .map (some w3.heap.size), .pointer (some ⟨w3.heap.size + 1, 0, none⟩)] 59)) (w3.heap.size + 1 + 1) [.slice none 0 0, .map (some w3.heap.size), .pointer (some ⟨w3.heap.size + 1, 0, none⟩)] 59) := by
        have q := Box.new ((w3.alloc (.map #[] 0)).alloc (.cells #[.int .i64 0, .int .i64 0, .slice none 0 0, .int .i64 0] 66)) [.slice none 0 0, .map (some w3.heap.size), .pointer (some ⟨w3.heap.size + 1, 0, none⟩)] 59
        simpa only [World.size_alloc, Hid] using q
      have rB : Hid (Box (((w3.alloc (.map #[] 0)).alloc (.cells #[.int .i64 0, .int .i64 0, .slice none 0 0, .int .i64 0] 66)).alloc (.cells #[.slice none 0 0, .map (some w3.heap.size), .pointer (some ⟨w3.heap.size + 1, 0, none⟩)] 59)) (w.heap.size + 1) [.slice none 0 0, .map none, .pointer none] 59) := ((bR4.out.alloc _).alloc _).alloc _
      have iR : Hid ((((w3.alloc (.map #[] 0)).alloc (.cells #[.int .i64 0, .int .i64 0, .slice none 0 0, .int .i64 0] 66)).alloc (.cells #[.slice none 0 0, .map (some w3.heap.size), .pointer (some ⟨w3.heap.size + 1, 0, none⟩)] 59)).ownsRow (w.heap.size + 2) 2 1 (.slice (some ⟨gi, 0, none⟩) (h.vNodes.length + h.vObjs.length) capv) (h.vNodes.length + h.vObjs.length) ((idsD h).map (Value.int .i64))) := ((hr3.out.alloc _).alloc _).alloc _
      have hb5 : Hid (Below w.heap.size w (((w3.alloc (.map #[] 0)).alloc (.cells #[.int .i64 0, .int .i64 0, .slice none 0 0, .int .i64 0] 66)).alloc (.cells #[.slice none 0 0, .map (some w3.heap.size), .pointer (some ⟨w3.heap.size + 1, 0, none⟩)] 59))) := ((hbw4.alloc (by omega) _).alloc (by simp; omega) _).alloc (by simp; omega) _
      obtain ⟨W5, hW5⟩ : ∃ W5, (((w3.alloc (.map #[] 0)).alloc (.cells #[.int .i64 0, .int .i64 0, .slice none 0 0, .int .i64 0] 66)).alloc (.cells #[.slice none 0 0, .map (some w3.heap.size), .pointer (some ⟨w3.heap.size + 1, 0, none⟩)] 59)) = W5 := ⟨_, rfl⟩
      rw [hW5] at mB oB gB rB iR hb5 hw5 ⊢
      clear hW5 hr3 bR4 hbw4 hb4 hmk
      have st0 : Hid (ThSt (idsD h) w.heap.size W5 ⟨0, 0, w3.heap.size + 1⟩ 0 [] w3.heap.size (.slice none 0 0)) := by
        refine ⟨⟨rfl, fun i hi => absurd hi (by simp)⟩, ⟨fun a ha b hb _ => ?_, fun a ha b hb _ => ?_⟩, fun u hu => ?_, fun u hu => ?_, World.ownsRow_nil _ _ _ _, #[], 0, mB.out, trivial⟩
        · simp at ha hb; rw [ha, hb]
        · simp at ha hb; rw [ha, hb]
        · simp at hu; subst hu; dsimp only; omega
        · simp at hu; subst hu; exact oB.out
      go_loopw [46] (fun i wr => ∃ (j : Nat) (Ts : List ThD) (v : Value), j ≤ h.vNodes.length + h.vObjs.length ∧ i = .int .i64 j ∧ Hid (ThSt (idsD h) w.heap.size wr ⟨0, 0, w3.heap.size + 1⟩ j Ts w3.heap.size v) ∧ Hid (Box wr (w3.heap.size + 1 + 1) [v, .map (some w3.heap.size), .pointer (some ⟨w3.heap.size + 1, 0, none⟩)] 59) ∧ Hid (∃ a cap, v = .slice a j cap) ∧ Hid (wr.ownsRow (w.heap.size + 2) 2 1 (.slice (some ⟨gi, 0, none⟩) (h.vNodes.length + h.vObjs.length) capv) (h.vNodes.length + h.vObjs.length) ((idsD h).map (Value.int .i64))) ∧ Hid (Box wr (w.heap.size + 1) [.slice none 0 0, .map none, .pointer none] 59) ∧ Hid (Below w.heap.size w wr)) (fun i _ => h.vNodes.length + h.vObjs.length - (intOf i).toNat)
      case atStart => exact ⟨0, [], _, by omega, rfl, st0, gB, ⟨_, _, rfl⟩, iR, rB, hb5⟩
      case round =>
        clear mB oB gB rB iR hb5 st0 hw5
        obtain ⟨j, Ts, v, hj, rfl, hst, bGr, hform, hrow, bRr, hbw⟩ := hrel
        obtain ⟨av, capv2, rfl⟩ := hform.out
        clear hform
        have hzr : w3.heap.size + 1 + 1 < wr.heap.size := bGr.out.lt
        by_cases hlt : j < h.vNodes.length + h.vObjs.length
        · have hltD : j < (idsD h).length := by have := hlen'.out; omega
          obtain ⟨g', eg, z0⟩ := row_get hrow.out hlt (x := .int .i64 (idsD h)[j]) (by simp [hltD])
          injection eg with eg
          injection eg with eg _ _
          subst eg
          have hrv : wr.ownsRow w.heap.size 57 1 (.slice av j capv2) j (Ts.map fun t => .pointer (some ⟨t.blk, 0, none⟩)) := hst.out.2.2.2.2.1
          obtain ⟨es, clock, hes, hpe⟩ := hst.out.2.2.2.2.2
          have hTl : Ts.length = j := by have := congrArg List.length hst.out.1.1; simp at this; omega
          have hnone : getI ThD.id Ts (idsD h)[j] = none := getI_none fun i hi he => by
            have hi2 : i < j := by omega
            have e1 : (Ts.map ThD.id)[i]? = ((idsD h).take j)[i]? := by rw [hst.out.1.1]
            rw [List.getElem?_map, List.getElem?_eq_getElem hi, List.getElem?_take_of_lt hi2, List.getElem?_eq_getElem (by omega)] at e1
            simp only [Option.map_some, Option.some.injEq] at e1
            have := hids'.out i j (by omega) hltD (e1.symm.trans he)
            omega
          have hsn : Hid (∀ (g capg : Nat) (w1 : World), _ → _ → _ → _ → _) := fun g capg w1 q1 q2 q3 q4 => hst.out.snoc (g := g) (cap := capg) (w1 := w1) (bg := w3.heap.size + 1 + 1) (gs := [.slice av j capv2, .map (some w3.heap.size), .pointer (some ⟨w3.heap.size + 1, 0, none⟩)]) (es := es) (clock := clock) hltD hids'.out hpos'.out rfl (by have := hbw.out.size; omega) q1 q2 q3 q4 hpe
          generalize hX : (idsD h)[j] = X at z0 hnone hsn
          have bGa := (bGr.out.alloc (.cells #[.int .i64 X, .int .i64 (j : Int), .slice none 0 0, .int .i64 0] 66))
          have bGb := bGa.alloc (.cells #[.pointer (some ⟨wr.heap.size, 0, none⟩)] 57)
          have ca0 := bGa.cell 0 rfl
          have hrvb : Hid (((wr.alloc (.cells #[.int .i64 X, .int .i64 (j : Int), .slice none 0 0, .int .i64 0] 66)).alloc (.cells #[.pointer (some ⟨wr.heap.size, 0, none⟩)] 57)).ownsRow w.heap.size 57 1 (.slice av j capv2) j (Ts.map fun t => .pointer (some ⟨t.blk, 0, none⟩))) := (hrv.alloc _).alloc _
          obtain ⟨L, hL⟩ : ∃ L, (Ts.map fun t => Value.pointer (some ⟨t.blk, 0, none⟩)) = L := ⟨_, rfl⟩
          rw [hL] at hrvb hsn
          have bGb' : Hid _ := bGb
          have hes' : Hid (wr.heap[w3.heap.size]? = some (.map es clock)) := hes
          have hpe' : Hid (PEnts es.toList Ts) := hpe
          have hnone' : Hid (getI ThD.id Ts X = none) := hnone
          have hws := hbw.out.size
          clear hX bGb bGa hrv hes hpe hnone hL hTl
          go_wp2_with (at_builtin; refine wpList_append_lies _ rfl _ _ 55 rfl w.heap.size 57 iP (.pointer none) 1 8 Tryz.underlying55 hIP.out hEP.out.1 hEP.out.2.2 hEP.out.2.1 rfl (by decide) _ j L rfl hrvb.out ⟨wr.heap.size + 1, 0, none⟩ 1 1 [.pointer (some ⟨wr.heap.size, 0, none⟩)] rfl rfl (by intro q u hq; match q, hq with | 0, hq => simp at hq; subst hq; simp [Addr.add]) (by simp [Value.oneCell']) (by decide) (by unfold maxLen; omega) (by omega) (by simp; omega) (wr.heap.size + 2) (by simp) ?_)
          intro g capg w1 hown1 hgrow1 hat1 hlt1
          have bG1 : Box w1 (w3.heap.size + 1 + 1) [.slice av j capv2, .map (some w3.heap.size), .pointer (some ⟨w3.heap.size + 1, 0, none⟩)] 59 := Box.kept bGb'.out (KeepT.grown hrvb.out (by decide) hgrow1)
          have c0 := bG1.cell 0 rfl
          have f0 := bG1.unfrozen 0
          have bG2 : Box (w1.setCell ⟨w3.heap.size + 1 + 1, 0, none⟩ (.slice (some ⟨g, 0, none⟩) (j + 1) capg)) (w3.heap.size + 1 + 1) [.slice (some ⟨g, 0, none⟩) (j + 1) capg, .map (some w3.heap.size), .pointer (some ⟨w3.heap.size + 1, 0, none⟩)] 59 := bG1.set (i := 0) _
          have c1 := bG2.cell 1 rfl
          have he1 : w1.heap[w3.heap.size]? = some (.map es clock) := by
            refine (hgrow1.block _ (by simp; omega) (fun q => ?_)).trans (((Below.heap_alloc _ _ _ (by simp; omega)).trans (Below.heap_alloc _ _ _ (by omega))).trans hes'.out)
            obtain ⟨cur, hq⟩ := row_blk hrvb.out q.symm
            rw [Below.heap_alloc _ _ _ (by simp; omega), Below.heap_alloc _ _ _ (by omega), hes'.out] at hq
            cases hq
          have he : (w1.setCell ⟨w3.heap.size + 1 + 1, 0, none⟩ (.slice (some ⟨g, 0, none⟩) (j + 1) capg)).heap[w3.heap.size]? = some (.map es clock) := (set_other (by omega) _).trans he1
          have hrun := run_putP he hpe'.out Tryz.underlying56 X (.pointer (some ⟨wr.heap.size, 0, none⟩)) hnone'.out
          have hst2 : Hid (ThSt (idsD h) w.heap.size (putEnt (w1.setCell ⟨w3.heap.size + 1 + 1, 0, none⟩ (.slice (some ⟨g, 0, none⟩) (j + 1) capg)) w3.heap.size es clock X (.pointer (some ⟨wr.heap.size, 0, none⟩))) ⟨0, 0, w3.heap.size + 1⟩ (j + 1) (Ts ++ [⟨X, (j : Int), wr.heap.size⟩]) w3.heap.size (.slice (some ⟨g, 0, none⟩) (j + 1) capg)) := hsn.out g capg w1 hgrow1 hown1 bG1 he
          have bG3 : Hid (Box (putEnt (w1.setCell ⟨w3.heap.size + 1 + 1, 0, none⟩ (.slice (some ⟨g, 0, none⟩) (j + 1) capg)) w3.heap.size es clock X (.pointer (some ⟨wr.heap.size, 0, none⟩))) (w3.heap.size + 1 + 1) [.slice (some ⟨g, 0, none⟩) (j + 1) capg, .map (some w3.heap.size), .pointer (some ⟨w3.heap.size + 1, 0, none⟩)] 59) := bG2.kept (KeepT.put he)
          have hrow2 : Hid (World.ownsRow (putEnt (w1.setCell ⟨w3.heap.size + 1 + 1, 0, none⟩ (.slice (some ⟨g, 0, none⟩) (j + 1) capg)) w3.heap.size es clock X (.pointer (some ⟨wr.heap.size, 0, none⟩))) (w.heap.size + 2) 2 1 (.slice (some ⟨gi, 0, none⟩) (h.vNodes.length + h.vObjs.length) capv) (h.vNodes.length + h.vObjs.length) ((idsD h).map (Value.int .i64))) := row_kept ((hrow.out.alloc _).alloc _) (((KeepT.grown hrvb.out (by decide) hgrow1).trans (KeepT.set bG1 (by decide) _)).trans (KeepT.put he))
          have bR2 : Hid (Box (putEnt (w1.setCell ⟨w3.heap.size + 1 + 1, 0, none⟩ (.slice (some ⟨g, 0, none⟩) (j + 1) capg)) w3.heap.size es clock X (.pointer (some ⟨wr.heap.size, 0, none⟩))) (w.heap.size + 1) [.slice none 0 0, .map none, .pointer none] 59) := ((((bRr.out.alloc _).alloc _).kept (KeepT.grown hrvb.out (by decide) hgrow1)).other (by omega) _).kept (KeepT.put he)
          have hbw2 : Hid (Below w.heap.size w (putEnt (w1.setCell ⟨w3.heap.size + 1 + 1, 0, none⟩ (.slice (some ⟨g, 0, none⟩) (j + 1) capg)) w3.heap.size es clock X (.pointer (some ⟨wr.heap.size, 0, none⟩)))) := putEnt_below ((((hbw.out.alloc hws _).alloc (by simp; omega) _).grown hgrow1 (by simp; omega) (own_block hrvb.out)).setCell (p := ⟨w3.heap.size + 1 + 1, 0, none⟩) (by show w.heap.size ≤ w3.heap.size + 1 + 1; omega) _) (by omega)
          clear hown1 hgrow1 hat1 bG1 bG2 he he1 hsn
          go_wp2_with fail
          go_roundw
          case rel => exact ⟨j + 1, _, _, by omega, by go_num, hst2, bG3, ⟨_, _, rfl⟩, hrow2, bR2, hbw2⟩
          case measure => simp [intOf]; omega
        obtain rfl : j = h.vNodes.length + h.vObjs.length := by omega
        obtain ⟨g, capg, ev, _, _⟩ := World.ownsRow.form hst.out.2.2.2.2.1 (by omega)
        injection ev with ev1 _ ev3
        subst ev1 ev3
        have q0 := bGr.out.cell 0 rfl
        have q1 := bGr.out.cell 1 rfl
        have q2 := bGr.out.cell 2 rfl
        have r0 := bRr.out.cell 0 rfl
        have r1 := bRr.out.cell 1 rfl
        have r2 := bRr.out.cell 2 rfl
        have rf := bRr.out.unfrozen
        go_wp2_with fail
        have b1 := bRr.out.set (i := 0) (.slice (some ⟨g, 0, none⟩) (h.vNodes.length + h.vObjs.length) capv2)
        have b2 := b1.set (i := 1) (.map (some w3.heap.size))
        have b3 := b2.set (i := 2) (.pointer (some ⟨w3.heap.size + 1, 0, none⟩))
        have e0 := b3.cell 0 rfl
        have e1 := b3.cell 1 rfl
        have e2 := b3.cell 2 rfl
        refine bodyPost_ret (v := .agg #[.slice (some ⟨g, 0, none⟩) (h.vNodes.length + h.vObjs.length) capv2, .map (some w3.heap.size), .pointer (some ⟨w3.heap.size + 1, 0, none⟩)]) (by simp [results, Tryz.results63, go_sem, e0, e1, e2]) rfl ?_
        have hl := hlen'.out
        rw [hl]
        refine ⟨⟨0, 0, w3.heap.size + 1⟩, Ts, w3.heap.size, g, capv2, rfl, rfl, rfl, hst.out.keep ?_ ?_ ?_, by omega, ?_⟩
        · exact ((KeepT.set bRr.out (by decide) _).trans (KeepT.set b1 (by decide) _)).trans (KeepT.set b2 (by decide) _)
        · exact ((KeepT.set bRr.out (by decide) _).trans (KeepT.set b1 (by decide) _)).trans (KeepT.set b2 (by decide) _)
        · exact ((set_other (by omega) _).trans (set_other (by omega) _)).trans (set_other (by omega) _)
        · exact ((hbw.out.setCell (p := ⟨w.heap.size + 1, 0, none⟩) (by simp) _).setCell (p := ⟨w.heap.size + 1, 1, none⟩) (by simp) _).setCell (p := ⟨w.heap.size + 1, 2, none⟩) (by simp) _
end Go.Proofs.YtnonfehmbabfhaaGreat
