/- A new row of records that own their memory, filled from its head on. -/
import Derived.Test.YtbodeijffpepfaaOwn
namespace Go.Proofs.Ytbodeijffpepfaa
open Go.RowKit Go.Deep
theorem SeqOwn.below {α : Type} {c : Nat} {R : World → List Value → α → List Nat → Prop} (hR : OwnStays R) (hL : OwnLt R) {w w' : World} {k : Value} {xs : List α} {fs : List Nat} (h : SeqOwn c R w k xs fs) (hb : Below w.heap.size w w') : SeqOwn c R w' k xs fs :=
  h.stays hR fun b q => hb.block b (h.lt hL b q)
theorem SeqOwn.put {α : Type} {c : Nat} {R : World → List Value → α → List Nat → Prop} (hR : OwnStays R) {w : World} {g o : Nat} {vs : List Value} {k : Value} {xs : List α} {fs : List Nat} (h : SeqOwn c R w k xs fs) (hg : ∀ b ∈ fs, b ≠ g) : SeqOwn c R (putCells w g o vs) k xs fs :=
  h.stays hR fun b q => putCells_other _ _ _ _ _ (hg b q)
def FilledO {α : Type} (T c : Nat) (R : World → List Value → α → List Nat → Prop) (w wr : World) (xs : List α) (g j : Nat) (bss : List (List Nat)) : Prop :=
  Below w.heap.size w wr ∧ g < wr.heap.size ∧ bss.length = j ∧ (g :: bss.flatten).Nodup ∧ (∀ b ∈ bss.flatten, g < b ∧ b < wr.heap.size) ∧
  ∃ C : Array Value, wr.heap[g]? = some (.cells C T (0, 0)) ∧ C.size = xs.length * c ∧ ∀ j', (h : j' < xs.length) → (h' : j' < bss.length) → ∃ cs, cs.length = c ∧ (∀ m, m < c → C[j' * c + m]? = cs[m]?) ∧ R wr cs xs[j'] bss[j']
theorem FilledO.start {α : Type} {T c : Nat} {R : World → List Value → α → List Nat → Prop} {w : World} {xs : List α} {C : Array Value} (hC : C.size = xs.length * c) : FilledO T c R w (w.alloc (.cells C T)) xs w.heap.size 0 [] :=
  ⟨(Below.refl _ _).alloc (Nat.le_refl _) _, by simp, rfl, by simp, by simp, C, (MapKept.heap_alloc w _).1, hC, fun j' _ h => absurd h (by simp)⟩
theorem FilledO.facts {α : Type} {T c : Nat} {R : World → List Value → α → List Nat → Prop} {w wr w1 : World} {xs : List α} {g j : Nat} {bss : List (List Nat)} (h : FilledO T c R w wr xs g j bss) (hj : j < xs.length) (hb1 : Below wr.heap.size wr w1) :
    (∀ m, m < c → ∃ v, w1.cell? ⟨g, j * c + m, none⟩ = some v) ∧ ∀ i, w1.frozen? ⟨g, i, none⟩ = false := by
  obtain ⟨hb, hg, _, _, _, C, hC, hCs, hall⟩ := h
  have hC1 : w1.heap[g]? = some (.cells C T (0, 0)) := (hb1.block g hg).trans hC
  have := idx_le (c := c) hj
  exact ⟨fun m hm => ⟨C[j * c + m]'(by omega), by rw [blk_cell hC1]; exact Array.getElem?_eq_getElem (by omega)⟩, fun i => blk_unfrozen hC1 i⟩
theorem FilledO.step {α : Type} {T c : Nat} {R : World → List Value → α → List Nat → Prop} (hR : OwnStays R) {w wr w1 : World} {xs : List α} {g j : Nat} {bss : List (List Nat)} (h : FilledO T c R w wr xs g j bss) (hj : j < xs.length) (hwg : w.heap.size ≤ g) (hb1 : Below wr.heap.size wr w1)
    {cs : List Value} {fs : List Nat} (hcl : cs.length = c) (hr : R w1 cs xs[j] fs) (hlo : ∀ b ∈ fs, wr.heap.size ≤ b) (hhi : ∀ b ∈ fs, b < w1.heap.size) (hnd : fs.Nodup) : FilledO T c R w (putCells w1 g (j * c) cs) xs g (j + 1) (bss ++ [fs]) := by
  obtain ⟨hb, hg, hbl, hbn, hbb, C, hC, hCs, hall⟩ := h
  have hC1 : w1.heap[g]? = some (.cells C T (0, 0)) := (hb1.block g hg).trans hC
  have hjc := idx_le (c := c) hj
  obtain ⟨C', hC', hs', hold, hnew⟩ := putCells_block cs w1 g (j * c) C T hC1 (by omega)
  have hs1 := hb1.size
  have hsz := putCells_size cs w1 g (j * c)
  have hfl : (bss ++ [fs]).flatten = bss.flatten ++ fs := by simp
  refine ⟨putCells_below cs _ _ _ g _ hwg (hb.trans (hb1.mono hb.size)), by omega, by simp [hbl], ?_, ?_, C', hC', by omega, fun j' hj' hlt => ?_⟩
  · rw [hfl]
    rw [List.nodup_cons] at hbn ⊢
    refine ⟨?_, List.nodup_append.2 ⟨hbn.2, hnd, fun a ha b hb' e => ?_⟩⟩
    · intro hm
      rcases List.mem_append.1 hm with q | q
      · exact hbn.1 q
      · have := hlo g q; omega
    · subst e
      have h1 := (hbb a ha).2
      have h2 := hlo a hb'
      omega
  · rw [hfl, hsz]
    intro b hm
    rcases List.mem_append.1 hm with q | q
    · have := hbb b q; omega
    · have h1 := hlo b q; have h2 := hhi b q; omega
  · by_cases e : j' = j
    · subst e
      have eb : (bss ++ [fs])[j'] = fs := by rw [List.getElem_append_right (by omega)]; simp [hbl]
      refine ⟨cs, hcl, fun m hm => hnew m (by omega), ?_⟩
      rw [eb]
      exact hR _ _ _ _ _ (fun b q => putCells_other _ _ _ _ _ (by have := hlo b q; omega)) hr
    · have hlt' : j' < bss.length := by simp at hlt; omega
      have eb : (bss ++ [fs])[j'] = bss[j'] := List.getElem_append_left hlt'
      obtain ⟨cs', hl', hc', r⟩ := hall j' hj' hlt'
      refine ⟨cs', hl', fun m hm => ?_, ?_⟩
      · rw [← hc' m hm]
        have := idx_apart e hm
        exact hold _ (by omega)
      · rw [eb]
        refine hR _ _ _ _ _ (fun b q => ?_) r
        have hq := hbb b (flat_mem hlt' q)
        exact (putCells_other _ _ _ _ _ (by omega)).trans (hb1.block b hq.2)
theorem FilledO.done {α : Type} {T c : Nat} {R : World → List Value → α → List Nat → Prop} {w wr : World} {xs : List α} {g : Nat} {bss : List (List Nat)} (h : FilledO T c R w wr xs g xs.length bss) (hwg : w.heap.size ≤ g) (hm : xs.length ≤ maxLen) :
    SeqOwn c R wr (.slice (some ⟨g, 0, none⟩) xs.length xs.length) xs (g :: bss.flatten) ∧ ∀ b ∈ g :: bss.flatten, w.heap.size ≤ b := by
  obtain ⟨hb, hg, hbl, hbn, hbb, C, hC, hCs, hall⟩ := h
  refine ⟨⟨_, _, rfl, ⟨hm, Nat.le_refl _⟩, Or.inr ⟨g, 0, rfl, C, T, bss, hC, by omega, hbl, rfl, hbn, fun i hi hi' => ?_⟩⟩, fun b hq => ?_⟩
  · obtain ⟨cs, hl, hc, r⟩ := hall i hi hi'
    exact ⟨cs, hl, fun m hm => by rw [Nat.zero_add]; exact hc m hm, r⟩
  · rcases List.mem_cons.1 hq with e | e
    · omega
    · have := hbb b e; omega
theorem nodup_two {f1 f2 : List Nat} {q : Nat} (h1 : f1.Nodup) (h2 : f2.Nodup) (l1 : ∀ b ∈ f1, b < q) (l2 : ∀ b ∈ f2, q ≤ b) : (f1 ++ f2).Nodup :=
  List.nodup_append.2 ⟨h1, h2, fun a ha b hb e => by subst e; have := l1 a ha; have := l2 a hb; omega⟩
end Go.Proofs.Ytbodeijffpepfaa
