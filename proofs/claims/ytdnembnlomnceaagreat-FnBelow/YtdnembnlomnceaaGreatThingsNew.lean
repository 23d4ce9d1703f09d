/- The program's things of a heap, not linked yet: walked. -/
import Derived.Test.YtdnembnlomnceaaGreatGraphFields
import Derived.Test.YtdnembnlomnceaaGreatShelf
import Derived.Sort.OwnSortedInts
namespace Go.Proofs.YtdnembnlomnceaaGreat
open Go.RowKit
/-- all Ids, as they come, and rising -/
def idsU (h : HeapD) : List Int := h.vNodes.map NodeD.vId ++ h.vObjs.map ObjD.vId
def idsD (h : HeapD) : List Int := (idsU h).mergeSort fun x y => decide (x ≤ y)
theorem idsD_len (h : HeapD) : (idsD h).length = (idsU h).length := List.length_mergeSort _
/-- blocks of records of this type are as they were -/
def KeepT (T : TypeId) (w w' : World) : Prop := ∀ (b : Nat) (cs : Array Value) (fr : Nat × Nat), w.heap[b]? = some (.cells cs T fr) → w'.heap[b]? = some (.cells cs T fr)
theorem KeepT.trans {T : TypeId} {a b c : World} (h : KeepT T a b) (k : KeepT T b c) : KeepT T a c := fun x cs fr e => k x cs fr (h x cs fr e)
theorem KeepT.below {T : TypeId} {w w' : World} (h : Below w.heap.size w w') : KeepT T w w' := fun b _ _ e => (h.block b (Array.getElem?_eq_some_iff.1 e).1).trans e
theorem KeepT.grown {T e : TypeId} {w w' : World} {base size n : Nat} {v : Value} {xs : List Value} (hr : w.ownsRow base e size v n xs) (hT : e ≠ T) (hg : w.grownBy w' v.ownBlock) : KeepT T w w' := fun b cs fr q => by
 refine (hg.block b (Array.getElem?_eq_some_iff.1 q).1 (fun k => ?_)).trans q
 obtain ⟨cur, hh⟩ := row_blk hr k.symm
 rw [hh] at q
 injection q with q
 injection q with _ q2 _
 exact hT q2
theorem KeepT.set {T T' : TypeId} {w : World} {b i : Nat} {cs : List Value} (hB : Box w b cs T') (hT : T' ≠ T) (v : Value) : KeepT T w (w.setCell ⟨b, i, none⟩ v) := fun x cs' fr q => by
 refine (set_other (fun k : x = b => ?_) v).trans q
 subst k
 rw [show w.heap[x]? = _ from hB] at q
 injection q with q
 injection q with _ q2 _
 exact hT q2
theorem KeepT.put {T : TypeId} {w : World} {b : Nat} {es : Array MapEntry} {clock : Nat} {id : Int} {v : Value} (hm : w.heap[b]? = some (.map es clock)) : KeepT T w (putEnt w b es clock id v) := fun x cs' fr q => by
 refine (putEnt_other (fun k : x = b => ?_)).trans q
 subst k
 rw [hm] at q
 cases q
theorem Box.kept {w w' : World} {b : Nat} {cs : List Value} {T : TypeId} (h : Box w b cs T) (k : KeepT T w w') : Box w' b cs T := k b _ _ h
theorem row_kept {w w' : World} {base e size n : Nat} {v : Value} {xs : List Value} (h : w.ownsRow base e size v n xs) (k : KeepT e w w') : w'.ownsRow base e size v n xs := row_keep h (fun g q => by
 obtain ⟨cur, hh⟩ := row_blk h q
 rw [hh]; exact k g _ _ hh)
/-- things that hold nobody yet -/
def ThNew (w : World) (Ts : List ThD) : Prop := ∀ t ∈ Ts, Box w t.blk [.int .i64 t.id, .int .i64 t.pl, .slice none 0 0, .int .i64 0] 65
theorem ThNew.gst {w : World} {o : ThD} {Ts : List ThD} {base : Nat} {K : Nat → Prop} (h : ThNew w (o :: Ts)) (hK : ∀ t ∈ o :: Ts, ¬ K t.blk) (hl : ∀ b, K b → b < w.heap.size) : GSt K base w o Ts [] :=
 ⟨fun _ => .slice none 0 0, fun t ht => ⟨h t ht, World.ownsRow_nil _ _ _ _, hK t ht, fun g q => (by cases q)⟩, fun _ _ _ _ _ g q => (by cases q), hl⟩
/-- the first j things -/
def ThSt (ids : List Int) (base : Nat) (w : World) (o : ThD) (j : Nat) (Ts : List ThD) (bm : Nat) (v : Value) : Prop :=
 (Ts.map ThD.id = ids.take j ∧ (∀ i, (hi : i < Ts.length) → Ts[i].pl = (i : Int))) ∧ Apart (o :: Ts) ∧ (∀ t ∈ o :: Ts, base ≤ t.blk) ∧ ThNew w (o :: Ts) ∧ w.ownsRow base 58 1 v j (Ts.map fun t => .pointer (some ⟨t.blk, 0, none⟩)) ∧ PMap w bm Ts
theorem ThSt.keep {ids : List Int} {base : Nat} {w w' : World} {o : ThD} {j : Nat} {Ts : List ThD} {bm : Nat} {v : Value} (h : ThSt ids base w o j Ts bm v) (k1 : KeepT 65 w w') (k2 : KeepT 58 w w') (k3 : w'.heap[bm]? = w.heap[bm]?) : ThSt ids base w' o j Ts bm v :=
 ⟨h.1, h.2.1, h.2.2.1, fun t ht => (h.2.2.2.1 t ht).kept k1, row_kept h.2.2.2.2.1 k2, h.2.2.2.2.2.keep k3⟩
theorem apart_snoc {o : ThD} {Ts : List ThD} {t : ThD} (h : Apart (o :: Ts)) (h1 : ∀ u ∈ o :: Ts, u.id ≠ t.id) (h2 : ∀ u ∈ o :: Ts, u.blk ≠ t.blk) : Apart (o :: (Ts ++ [t])) := by
 have mem : ∀ u, u ∈ o :: (Ts ++ [t]) → u ∈ o :: Ts ∨ u = t := fun u hu => by
  simp only [List.mem_cons, List.mem_append, List.not_mem_nil, or_false] at hu ⊢
  rcases hu with e | e | e
  · exact Or.inl (Or.inl e)
  · exact Or.inl (Or.inr e)
  · exact Or.inr e
 refine ⟨fun a ha b hb e => ?_, fun a ha b hb e => ?_⟩
 · rcases mem a ha with ka | ka <;> rcases mem b hb with kb | kb
   · exact h.1 a ka b kb e
   · subst kb; exact absurd e (h1 a ka)
   · subst ka; exact absurd e.symm (h1 b kb)
   · rw [ka, kb]
 · rcases mem a ha with ka | ka <;> rcases mem b hb with kb | kb
   · exact h.2 a ka b kb e
   · subst kb; exact absurd e (h2 a ka)
   · subst ka; exact absurd e.symm (h2 b kb)
   · rw [ka, kb]
/-- one more thing -/
theorem ThSt.snoc {ids : List Int} {base : Nat} {w w1 : World} {o : ThD} {j : Nat} {Ts : List ThD} {bm g cap : Nat} {v : Value} {es : Array MapEntry} {clock : Nat} {bg : Nat} {gs : List Value} (h : ThSt ids base w o j Ts bm v) (hj : j < ids.length) (hids : ∀ a b, (ha : a < ids.length) → (hb : b < ids.length) → ids[a] = ids[b] → a = b) (hpos : ∀ x ∈ ids, x ≠ 0) (ho : o.id = 0) (hw : base ≤ w.heap.size)
 (hgrow : (((w.alloc (.cells (List.toArray [.int .i64 ids[j], .int .i64 (j : Int), .slice none 0 0, .int .i64 0]) 65))).alloc (.cells #[.pointer (some ⟨w.heap.size, 0, none⟩)] 58)).grownBy w1 v.ownBlock)
 (hown : w1.ownsRow base 58 1 (.slice (some ⟨g, 0, none⟩) (j + 1) cap) (j + 1) ((Ts.map fun t => .pointer (some ⟨t.blk, 0, none⟩)) ++ [.pointer (some ⟨w.heap.size, 0, none⟩)]))
 (hbg1 : Box w1 bg gs 60) (he : (w1.setCell ⟨bg, 0, none⟩ (.slice (some ⟨g, 0, none⟩) (j + 1) cap)).heap[bm]? = some (.map es clock)) (hpe : PEnts es.toList Ts) :
 ThSt ids base (putEnt (w1.setCell ⟨bg, 0, none⟩ (.slice (some ⟨g, 0, none⟩) (j + 1) cap)) bm es clock ids[j] (.pointer (some ⟨w.heap.size, 0, none⟩))) o (j + 1) (Ts ++ [⟨ids[j], (j : Int), w.heap.size⟩]) bm (.slice (some ⟨g, 0, none⟩) (j + 1) cap) := by
 obtain ⟨⟨h1, h1'⟩, h2, h3, h4, h5, h6⟩ := h
 have hlen : Ts.length = j := by have := congrArg List.length h1; simp at this; omega
 have hv : ((w.alloc (.cells (List.toArray [.int .i64 ids[j], .int .i64 (j : Int), .slice none 0 0, .int .i64 0]) 65))).ownsRow base 58 1 v j (Ts.map fun t => .pointer (some ⟨t.blk, 0, none⟩)) := row_keep h5 (fun g q => Below.heap_alloc _ _ _ (row_lt' h5 q))
 have hv2 : (((w.alloc (.cells (List.toArray [.int .i64 ids[j], .int .i64 (j : Int), .slice none 0 0, .int .i64 0]) 65))).alloc (.cells #[.pointer (some ⟨w.heap.size, 0, none⟩)] 58)).ownsRow base 58 1 v j (Ts.map fun t => .pointer (some ⟨t.blk, 0, none⟩)) := row_keep hv (fun g q => Below.heap_alloc _ _ _ (row_lt' hv q))
 have kk : KeepT 65 (((w.alloc (.cells (List.toArray [.int .i64 ids[j], .int .i64 (j : Int), .slice none 0 0, .int .i64 0]) 65))).alloc (.cells #[.pointer (some ⟨w.heap.size, 0, none⟩)] 58)) (putEnt (w1.setCell ⟨bg, 0, none⟩ (.slice (some ⟨g, 0, none⟩) (j + 1) cap)) bm es clock ids[j] (.pointer (some ⟨w.heap.size, 0, none⟩))) :=
  ((KeepT.grown hv2 (by decide) hgrow).trans (KeepT.set hbg1 (by decide) _)).trans (KeepT.put he)
 have hnew : ThNew (putEnt (w1.setCell ⟨bg, 0, none⟩ (.slice (some ⟨g, 0, none⟩) (j + 1) cap)) bm es clock ids[j] (.pointer (some ⟨w.heap.size, 0, none⟩))) (o :: (Ts ++ [⟨ids[j], (j : Int), w.heap.size⟩])) := by
  intro u hu
  have hu' : u ∈ o :: Ts ∨ u = ⟨ids[j], (j : Int), w.heap.size⟩ := by
   simp only [List.mem_cons, List.mem_append, List.not_mem_nil, or_false] at hu ⊢
   rcases hu with e | e | e
   · exact Or.inl (Or.inl e)
   · exact Or.inl (Or.inr e)
   · exact Or.inr e
  rcases hu' with e | e
  · exact (((h4 u e).alloc _).alloc _).kept kk
  · subst e
    exact ((Box.new w _ _).alloc _).kept kk
 refine ⟨⟨?_, fun i hi => ?_⟩, ?_, fun u hu => ?_, hnew, ?_, ?_⟩
 · rw [List.map_append, h1, List.take_succ_eq_append_getElem hj]; rfl
 · by_cases e : i < Ts.length
   · rw [List.getElem_append_left e]; exact h1' i e
   · have e' : i = j := by simp at hi; omega
     subst e'
     rw [List.getElem_append_right (by omega)]
     simp
 · refine apart_snoc h2 (fun u hu => ?_) (fun u hu => ?_)
   · rcases List.mem_cons.1 hu with e | e
     · subst e; rw [ho]; exact fun q => hpos _ (List.getElem_mem hj) q.symm
     · intro q
       dsimp only at q
       have hm : u.id ∈ ids.take j := h1 ▸ List.mem_map_of_mem e
       obtain ⟨i, hi, hq⟩ := List.getElem_of_mem hm
       have hi2 : i < j := by simp at hi; omega
       rw [List.getElem_take] at hq
       have := hids i j (by omega) hj (hq.trans q)
       omega
   · have := (h4 u hu).lt
     dsimp only; omega
 · have hu' : u ∈ o :: Ts ∨ u = ⟨ids[j], (j : Int), w.heap.size⟩ := by
    simp only [List.mem_cons, List.mem_append, List.not_mem_nil, or_false] at hu ⊢
    rcases hu with e | e | e
    · exact Or.inl (Or.inl e)
    · exact Or.inl (Or.inr e)
    · exact Or.inr e
   rcases hu' with e | e
   · exact h3 u e
   · subst e; exact hw
 · rw [List.map_append]
   exact row_kept hown ((KeepT.set hbg1 (by decide) _).trans (KeepT.put he))
 · have hlt : bm < (w1.setCell ⟨bg, 0, none⟩ (.slice (some ⟨g, 0, none⟩) (j + 1) cap)).heap.size := (Array.getElem?_eq_some_iff.1 he).1
   refine ⟨_, _, putEnt_at hlt, ?_⟩
   rw [Array.toList_push]
   exact pents_snoc rfl rfl _ _ hpe
end Go.Proofs.YtdnembnlomnceaaGreat
