/- Rows that grow while a reader draws. -/
import Derived.Test.YtbodeijffpepfaaGrowOwn
import Derived.Test.YtbodeijffpepfaaDraws
namespace Go.Proofs.Ytbodeijffpepfaa
open Go.RowKit Go.Deep
/-- one more; what lies from base on has stayed -/
theorem GrowOwn.snocK {α : Type} {T c : Nat} {R : World → List Value → α → List Nat → Prop} (hR : OwnStays R) {base : Nat} {w w2 w3 : World} {v : Value} {xs : List α} {bss : List (List Nat)} {css : List (List Value)} {x : α} {fs : List Nat} {cs : List Value} {g n1 cap : Nat}
    (h : GrowOwn T c R base w v xs bss css) (hs2 : w.heap.size ≤ w2.heap.size) (hk2 : ∀ b, base ≤ b → b < w.heap.size → w2.heap[b]? = w.heap[b]?) (hbase : base ≤ w.heap.size) (hcl : cs.length = c) (hr : R w2 cs x fs) (hnd : fs.Nodup) (hlo : ∀ b ∈ fs, w.heap.size ≤ b) (hhi : ∀ b ∈ fs, b < w2.heap.size)
    (hn1 : n1 = xs.length + 1) (hown : w3.ownsRow base T c (.slice (some ⟨g, 0, none⟩) n1 cap) n1 (css.flatten ++ cs)) (hgrow : w2.grownBy w3 v.ownBlock) (hat : v.ownBlock = some g ∨ g = w2.heap.size) :
    GrowOwn T c R base w3 (.slice (some ⟨g, 0, none⟩) n1 cap) (xs ++ [x]) (bss ++ [fs]) (css ++ [cs]) := by
  subst hn1
  have hrow := h.2.2.2.1
  obtain ⟨h1, h2, h3, h4, h5, h6, h7⟩ := h
  have hvlt := row_lt hrow
  have hfl : (bss ++ [fs]).flatten = bss.flatten ++ fs := by simp
  have keep : ∀ b, b < w2.heap.size → v.ownBlock ≠ some b → w3.heap[b]? = w2.heap[b]? := fun b q1 q2 => hgrow.block b q1 (fun e => q2 e.symm)
  have fsne : ∀ b ∈ fs, v.ownBlock ≠ some b := fun b q e => by have := hvlt b e; have := hlo b q; omega
  refine ⟨by simp [h1], by simp [h2], fun z hz => ?_, by simpa using hown, fun i q q1 q2 => ?_, ?_, fun b q => ?_⟩
  · rcases List.mem_append.1 hz with e | e
    · exact h3 z e
    · simp at e; subst e; exact hcl
  · by_cases e : i < xs.length
    · rw [List.getElem_append_left (by omega), List.getElem_append_left e, List.getElem_append_left (by omega)]
      refine hR _ _ _ _ _ (fun b hq => ?_) (h5 i e (by omega) (by omega))
      have hm := h7 b (flat_mem (by omega) hq)
      exact (keep b (by omega) hm.2.2).trans (hk2 b hm.1 hm.2.1)
    · have e' : i = xs.length := by simp at q; omega
      subst e'
      rw [List.getElem_append_right (by omega), List.getElem_append_right (Nat.le_refl _), List.getElem_append_right (by omega)]
      simp only [h1, h2, Nat.sub_self, List.getElem_cons_zero]
      exact hR _ _ _ _ _ (fun b hq => keep b (hhi b hq) (fsne b hq)) hr
  · rw [hfl]
    exact nodup_two (q := w.heap.size) h6 hnd (fun b q => (h7 b q).2.1) hlo
  · rw [hfl] at q
    have hs3 := hgrow.size
    rcases List.mem_append.1 q with e | e
    · have hm := h7 b e
      refine ⟨hm.1, by omega, fun q' => ?_⟩
      simp only [Value.ownBlock, Option.some.injEq] at q'
      rcases hat with k | k
      · exact hm.2.2 (by rw [k, q'])
      · omega
    · have l1 := hlo b e
      have l2 := hhi b e
      refine ⟨by omega, by omega, fun q' => ?_⟩
      simp only [Value.ownBlock, Option.some.injEq] at q'
      rcases hat with k | k
      · exact fsne b e (by rw [k, q'])
      · omega
/-- what lies from base on has stayed: so has the row -/
theorem GrowOwn.stay {α : Type} {T c : Nat} {R : World → List Value → α → List Nat → Prop} (hR : OwnStays R) {base : Nat} {w w' : World} {v : Value} {xs : List α} {bss : List (List Nat)} {css : List (List Value)} (h : GrowOwn T c R base w v xs bss css) (hs : w.heap.size ≤ w'.heap.size) (hk : ∀ b, base ≤ b → b < w.heap.size → w'.heap[b]? = w.heap[b]?) : GrowOwn T c R base w' v xs bss css := by
  obtain ⟨h1, h2, h3, h4, h5, h6, h7⟩ := h
  refine ⟨h1, h2, h3, ?_, fun j q q1 q2 => hR _ _ _ _ _ (fun b hq => hk b (h7 b (flat_mem q2 hq)).1 (h7 b (flat_mem q2 hq)).2.1) (h5 j q q1 q2), h6, fun b q => ⟨(h7 b q).1, by have := (h7 b q).2.1; omega, (h7 b q).2.2⟩⟩
  refine ⟨h4.1, ?_⟩
  rcases h4.2 with q | ⟨g', cap, cur, hv, hg', hh, r⟩
  · exact Or.inl q
  · have hlt : g' < w.heap.size := by
      rcases Nat.lt_or_ge g' w.heap.size with q | q
      · exact q
      · rw [Array.getElem?_eq_none q] at hh; cases hh
    exact Or.inr ⟨g', cap, cur, hv, hg', (hk g' hg' hlt).trans hh, r⟩
theorem GrowOwn.row {α : Type} {T c : Nat} {R : World → List Value → α → List Nat → Prop} {base : Nat} {w : World} {v : Value} {xs : List α} {bss : List (List Nat)} {css : List (List Value)} (h : GrowOwn T c R base w v xs bss css) : w.ownsRow base T c v xs.length css.flatten := h.2.2.2.1
theorem GrowOwn.form {α : Type} {T c : Nat} {R : World → List Value → α → List Nat → Prop} {base : Nat} {w : World} {v : Value} {xs : List α} {bss : List (List Nat)} {css : List (List Value)} (h : GrowOwn T c R base w v xs bss css) : ∃ a cap, v = .slice a xs.length cap := by
  rcases h.2.2.2.1.2 with ⟨q, hn⟩ | ⟨g, cap, cur, q, _⟩
  · exact ⟨none, 0, by rw [q, hn]⟩
  · exact ⟨_, _, q⟩
/-- one more behind a row that stands in a field of the block T, drawn by a reader g -/
theorem grow_fin {α : Type} {ET c : Nat} {R : World → List Value → α → List Nat → Prop} (hR : OwnStays R) {base T g n1 capn gg f BT nn cap : Nat} {a : Option Addr} {w wr w1 w3 : World} {o : Obj} {v : Value} {xs : List α} {bss : List (List Nat)} {css : List (List Value)} {x : α} {fs : List Nat} {cs tc : List Value}
    (hgr : GrowOwn ET c R base wr v xs bss css) (hg1 : wr.grownBy w1 (some g)) (hgT : g < T) (hTb : T < base) (hbw : base ≤ wr.heap.size)
    (hcl : cs.length = c) (hr : R w1 cs x fs) (hnd : fs.Nodup) (hlo : ∀ b ∈ fs, wr.heap.size ≤ b) (hhi : ∀ b ∈ fs, b < w1.heap.size) (hn1 : n1 = xs.length + 1)
    (hown : w3.ownsRow base ET c (.slice (some ⟨gg, 0, none⟩) n1 capn) n1 (css.flatten ++ cs)) (hgrow : (w1.alloc o).grownBy w3 v.ownBlock) (hat : v.ownBlock = some gg ∨ gg = (w1.alloc o).heap.size)
    (bT : Box wr T tc BT) (hrd : RdAt w1 g a nn cap) (hw : w.grownBy wr (some g)) (hwT : w.heap.size ≤ T) :
    GrowOwn ET c R base (w3.setCell ⟨T, f, none⟩ (.slice (some ⟨gg, 0, none⟩) n1 capn)) (.slice (some ⟨gg, 0, none⟩) n1 capn) (xs ++ [x]) (bss ++ [fs]) (css ++ [cs]) ∧
    Box (w3.setCell ⟨T, f, none⟩ (.slice (some ⟨gg, 0, none⟩) n1 capn)) T (tc.set f (.slice (some ⟨gg, 0, none⟩) n1 capn)) BT ∧ RdAt (w3.setCell ⟨T, f, none⟩ (.slice (some ⟨gg, 0, none⟩) n1 capn)) g a nn cap ∧
    w.grownBy (w3.setCell ⟨T, f, none⟩ (.slice (some ⟨gg, 0, none⟩) n1 capn)) (some g) ∧
    (∀ b, b < base → b ≠ g → b ≠ T → (w3.setCell ⟨T, f, none⟩ (.slice (some ⟨gg, 0, none⟩) n1 capn)).heap[b]? = wr.heap[b]?) ∧ base ≤ (w3.setCell ⟨T, f, none⟩ (.slice (some ⟨gg, 0, none⟩) n1 capn)).heap.size := by
  have s1 := hg1.size
  have s2 : w1.heap.size + 1 = (w1.alloc o).heap.size := by simp
  have s3 := hgrow.size
  have sw := hw.size
  have hal : ∀ b, b < w1.heap.size → (w1.alloc o).heap[b]? = w1.heap[b]? := fun b hb => Below.heap_alloc _ _ _ hb
  have hvb : ∀ k, v.ownBlock = some k → base ≤ k := by
    intro k e
    rcases hgr.row.2 with ⟨q, _⟩ | ⟨g', cap', cur, q, hb, _⟩
    · rw [q] at e; cases e
    · rw [q] at e; simp [Value.ownBlock] at e; omega
  have low : ∀ b, b < base → b ≠ g → w3.heap[b]? = wr.heap[b]? := fun b hb hne => by
    rw [hgrow.block b (by omega) (fun e => by have := hvb b e.symm; omega), hal b (by omega), hg1.block b (by omega) (fun e => hne (by injection e))]
  have lowg : ∀ b, b < base → w3.heap[b]? = w1.heap[b]? := fun b hb => by
    rw [hgrow.block b (by omega) (fun e => by have := hvb b e.symm; omega), hal b (by omega)]
  refine ⟨?_, ?_, ?_, ?_, ?_, ?_⟩
  · refine GrowOwn.set hR ?_ hTb
    refine GrowOwn.snocK hR (w2 := w1.alloc o) hgr (by omega) (fun b h1 h2 => ?_) hbw hcl (hR _ _ _ _ _ (fun b hb => hal b (hhi b hb)) hr) hnd hlo (fun b hb => by have := hhi b hb; omega) hn1 hown hgrow hat
    rw [hal b (by omega), hg1.block b h2 (fun e => by injection e; omega)]
  · exact Box.set ((low T hTb (by omega)).trans bT) _
  · exact hrd.keep (fun b hb => (set_other (by omega) _).trans (lowg b (by omega)))
  · refine ⟨hgrow.os.trans (hg1.os.trans hw.os), hgrow.tape.trans (hg1.tape.trans hw.tape), hgrow.output.trans (hg1.output.trans hw.output), by rw [set_size]; omega, fun b hb hne => ?_⟩
    rw [set_other (by omega), low b (by omega) (fun e => hne (by rw [e])), hw.block b hb hne]
  · intro b hb h1 h2
    rw [set_other h2, low b hb h1]
  · rw [set_size]; omega
theorem cell_grown {w w' : World} {b i : Nat} {v : Value} {r : Option Nat} (h : w.cell? ⟨b, i, none⟩ = some v) (hg : w.grownBy w' r) (hne : r ≠ some b) : w'.cell? ⟨b, i, none⟩ = some v := by
  rw [World.cell?_of_block (w := w) (w' := w') (hg.block b (World.block_lt_of_cell? _ _ h) (fun e => hne e.symm))]; exact h
theorem cell_alloc {w : World} {b i : Nat} {v : Value} (h : w.cell? ⟨b, i, none⟩ = some v) (o : Obj) : (w.alloc o).cell? ⟨b, i, none⟩ = some v := by
  rw [World.cell?_of_block (w := w) (w' := w.alloc o) (Below.heap_alloc _ _ _ (World.block_lt_of_cell? _ _ h))]; exact h
theorem cell_set {w : World} {b i T f : Nat} {v : Value} (h : w.cell? ⟨b, i, none⟩ = some v) (hne : b ≠ T) (u : Value) : (w.setCell ⟨T, f, none⟩ u).cell? ⟨b, i, none⟩ = some v := by
  rw [World.cell?_of_block (w := w) (set_other hne _)]; exact h
theorem own_ge {α : Type} {ET c : Nat} {R : World → List Value → α → List Nat → Prop} {base : Nat} {w : World} {v : Value} {xs : List α} {bss : List (List Nat)} {css : List (List Value)} (h : GrowOwn ET c R base w v xs bss css) : ∀ k, v.ownBlock = some k → base ≤ k := by
  intro k e
  rcases h.row.2 with ⟨q, _⟩ | ⟨g', cap', cur, q, hb, _⟩
  · rw [q] at e; cases e
  · rw [q] at e; simp [Value.ownBlock] at e; omega
end Go.Proofs.Ytbodeijffpepfaa
