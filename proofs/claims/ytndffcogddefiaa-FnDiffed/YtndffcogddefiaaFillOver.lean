/- A row that was copied and is filled anew, from its head on, by records that own their memory. -/
import Derived.Test.YtndffcogddefiaaGrowAppB
namespace Go.Proofs.Ytndffcogddefiaa
open Go.RowKit Go.Deep
def FilledC {α : Type} (T c : Nat) (R : World → List Value → α → List Nat → Prop) (O : List Value → α → Prop) (base : Nat) (w wr : World) (xs : List α) (g j : Nat) (bss : List (List Nat)) : Prop :=
  Below base w wr ∧ g < wr.heap.size ∧ bss.length = j ∧ (g :: bss.flatten).Nodup ∧ (∀ b ∈ bss.flatten, g < b ∧ b < wr.heap.size) ∧
  ∃ C : Array Value, wr.heap[g]? = some (.cells C T (0, 0)) ∧ xs.length * c ≤ C.size ∧ (∀ j', (h : j' < xs.length) → (h' : j' < bss.length) → ∃ cs, cs.length = c ∧ (∀ m, m < c → C[j' * c + m]? = cs[m]?) ∧ R wr cs xs[j'] bss[j']) ∧
    ∀ j', (h : j' < xs.length) → j ≤ j' → ∃ cs, cs.length = c ∧ (∀ m, m < c → C[j' * c + m]? = cs[m]?) ∧ O cs xs[j']
/-- what a row copied from another one is, ahead of all -/
theorem FilledC.start {α : Type} {T c : Nat} {R : World → List Value → α → List Nat → Prop} {O : List Value → α → Prop} {base : Nat} {w wr : World} {xs : List α} {g cap : Nat} {css : List (List Value)} (hb : Below base w wr) (hown : wr.ownsRow base T c (.slice (some ⟨g, 0, none⟩) xs.length cap) xs.length css.flatten)
    (hl : css.length = xs.length) (hc : ∀ cs ∈ css, cs.length = c) (hO : ∀ i, (h : i < xs.length) → (h1 : i < css.length) → O css[i] xs[i]) : FilledC T c R O base w wr xs g 0 [] ∧ base ≤ g := by
  obtain ⟨_, ho⟩ := hown
  rcases ho with ⟨e, _⟩ | ⟨g', cap', cur, e, hg, hh, q1, q2, q3, q4⟩
  · cases e
  · injection e with e1 e2 e3
    injection e1 with e1
    injection e1 with e1 _
    subst e1 e3
    refine ⟨⟨hb, (Array.getElem?_eq_some_iff.1 hh).1, rfl, by simp, by simp, cur, hh, ?_, fun j' _ h => absurd h (by simp), fun j' h _ => ⟨css[j']'(by omega), hc _ (List.getElem_mem _), fun m hm => ?_, hO j' h (by omega)⟩⟩, hg⟩
    · rw [q3]; exact Nat.mul_le_mul_right c q1
    · have e : (cur.toList.take (xs.length * c))[j' * c + m]? = (css[j']'(by omega))[m]? := by rw [q4]; exact flat_get hc (by omega) hm
      have hlt : j' * c + m < xs.length * c := by have := idx_le (c := c) h; omega
      rw [List.getElem?_take_of_lt hlt] at e
      simpa using e
theorem FilledC.at {α : Type} {T c : Nat} {R : World → List Value → α → List Nat → Prop} {O : List Value → α → Prop} {base : Nat} {w wr : World} {xs : List α} {g j : Nat} {bss : List (List Nat)} (h : FilledC T c R O base w wr xs g j bss) (hj : j < xs.length) : ∃ cs, cs.length = c ∧ Lie wr g (j * c) cs ∧ O cs xs[j] := by
  obtain ⟨_, _, _, _, _, C, hC, _, _, h2⟩ := h
  obtain ⟨cs, hl, hc, ho⟩ := h2 j hj (Nat.le_refl _)
  exact ⟨cs, hl, fun m hm => by rw [blk_cell hC]; exact hc m (by omega), ho⟩
theorem FilledC.facts {α : Type} {T c : Nat} {R : World → List Value → α → List Nat → Prop} {O : List Value → α → Prop} {base : Nat} {w wr w1 : World} {xs : List α} {g j : Nat} {bss : List (List Nat)} (h : FilledC T c R O base w wr xs g j bss) (hj : j < xs.length) (hb1 : Below wr.heap.size wr w1) :
    (∀ m, m < c → ∃ v, w1.cell? ⟨g, j * c + m, none⟩ = some v) ∧ ∀ i, w1.frozen? ⟨g, i, none⟩ = false := by
  obtain ⟨hb, hg, _, _, _, C, hC, hCs, hall, _⟩ := h
  have hC1 : w1.heap[g]? = some (.cells C T (0, 0)) := (hb1.block g hg).trans hC
  have := idx_le (c := c) hj
  exact ⟨fun m hm => ⟨C[j * c + m]'(by omega), by rw [blk_cell hC1]; exact Array.getElem?_eq_getElem (by omega)⟩, fun i => blk_unfrozen hC1 i⟩
theorem FilledC.step {α : Type} {T c : Nat} {R : World → List Value → α → List Nat → Prop} {O : List Value → α → Prop} (hR : OwnStays R) {base : Nat} {w wr w1 : World} {xs : List α} {g j : Nat} {bss : List (List Nat)} (h : FilledC T c R O base w wr xs g j bss) (hj : j < xs.length) (hwg : base ≤ g) (hb1 : Below wr.heap.size wr w1)
    {cs : List Value} {fs : List Nat} (hcl : cs.length = c) (hr : R w1 cs xs[j] fs) (hlo : ∀ b ∈ fs, wr.heap.size ≤ b) (hhi : ∀ b ∈ fs, b < w1.heap.size) (hnd : fs.Nodup) : FilledC T c R O base w (putCells w1 g (j * c) cs) xs g (j + 1) (bss ++ [fs]) := by
  obtain ⟨hb, hg, hbl, hbn, hbb, C, hC, hCs, hall, horig⟩ := h
  have hC1 : w1.heap[g]? = some (.cells C T (0, 0)) := (hb1.block g hg).trans hC
  have hjc := idx_le (c := c) hj
  obtain ⟨C', hC', hs', hold, hnew⟩ := putCells_block cs w1 g (j * c) C T hC1 (by omega)
  have hs1 := hb1.size
  have hsz := putCells_size cs w1 g (j * c)
  have hfl : (bss ++ [fs]).flatten = bss.flatten ++ fs := by simp
  refine ⟨putCells_below cs _ _ _ g _ hwg (hb.trans (hb1.mono (by omega))), by omega, by simp [hbl], ?_, ?_, C', hC', by omega, fun j' hj' hlt => ?_, fun j' hj' hle => ?_⟩
  · rw [hfl]
    rw [List.nodup_cons] at hbn ⊢
    refine ⟨?_, List.nodup_append.2 ⟨hbn.2, hnd, fun a ha b hb' e => ?_⟩⟩
    · intro hm
      rcases List.mem_append.1 hm with q | q
      · exact hbn.1 q
      · have := hlo g q; omega
    · subst e
      have h1 := (hbb a ha).2
      have h2 := hlo a hb'
      omega
  · rw [hfl, hsz]
    intro b hm
    rcases List.mem_append.1 hm with q | q
    · have := hbb b q; omega
    · have h1 := hlo b q; have h2 := hhi b q; omega
  · by_cases e : j' = j
    · subst e
      have eb : (bss ++ [fs])[j'] = fs := by rw [List.getElem_append_right (by omega)]; simp [hbl]
      refine ⟨cs, hcl, fun m hm => hnew m (by omega), ?_⟩
      rw [eb]
      exact hR _ _ _ _ _ (fun b q => putCells_other _ _ _ _ _ (by have := hlo b q; omega)) hr
    · have hlt' : j' < bss.length := by simp at hlt; omega
      have eb : (bss ++ [fs])[j'] = bss[j'] := List.getElem_append_left hlt'
      obtain ⟨cs', hl', hc', r⟩ := hall j' hj' hlt'
      refine ⟨cs', hl', fun m hm => ?_, ?_⟩
      · rw [← hc' m hm]
        have := idx_apart e hm
        exact hold _ (by omega)
      · rw [eb]
        refine hR _ _ _ _ _ (fun b q => ?_) r
        have hq := hbb b (flat_mem hlt' q)
        exact (putCells_other _ _ _ _ _ (by omega)).trans (hb1.block b hq.2)
  · obtain ⟨cs', hl', hc', r⟩ := horig j' hj' (by omega)
    refine ⟨cs', hl', fun m hm => ?_, r⟩
    rw [← hc' m hm]
    have := idx_apart (j := j) (j' := j') (c := c) (m := m) (by omega) hm
    exact hold _ (by omega)
theorem FilledC.done {α : Type} {T c : Nat} {R : World → List Value → α → List Nat → Prop} {O : List Value → α → Prop} {base : Nat} {w wr : World} {xs : List α} {g cap : Nat} {bss : List (List Nat)} (h : FilledC T c R O base w wr xs g xs.length bss) (hwg : base ≤ g) (hm : xs.length ≤ maxLen) (hcap : xs.length ≤ cap) :
    SeqOwn c R wr (.slice (some ⟨g, 0, none⟩) xs.length cap) xs (g :: bss.flatten) ∧ ∀ b ∈ g :: bss.flatten, base ≤ b := by
  obtain ⟨hb, hg, hbl, hbn, hbb, C, hC, hCs, hall, _⟩ := h
  refine ⟨⟨_, _, rfl, ⟨hm, hcap⟩, Or.inr ⟨g, 0, rfl, C, T, bss, hC, by omega, hbl, rfl, hbn, fun i hi hi' => ?_⟩⟩, fun b hq => ?_⟩
  · obtain ⟨cs, hl, hc, r⟩ := hall i hi hi'
    exact ⟨cs, hl, fun m hm => by rw [Nat.zero_add]; exact hc m hm, r⟩
  · rcases List.mem_cons.1 hq with e | e
    · omega
    · have := hbb b e; omega
theorem FilledC.below {α : Type} {T c : Nat} {R : World → List Value → α → List Nat → Prop} {O : List Value → α → Prop} (hR : OwnStays R) {base : Nat} {w wr w1 : World} {xs : List α} {g j : Nat} {bss : List (List Nat)} (h : FilledC T c R O base w wr xs g j bss) (hbg : base ≤ g) (hb1 : Below wr.heap.size wr w1) : FilledC T c R O base w w1 xs g j bss := by
  obtain ⟨hb, hg, hbl, hbn, hbb, C, hC, hCs, hall, horig⟩ := h
  have hs1 := hb1.size
  refine ⟨hb.trans (hb1.mono (by omega)), by omega, hbl, hbn, fun b q => by have := hbb b q; omega, C, (hb1.block g hg).trans hC, hCs, fun j' hj' hlt => ?_, horig⟩
  obtain ⟨cs, hl, hc, r⟩ := hall j' hj' hlt
  exact ⟨cs, hl, hc, hR _ _ _ _ _ (fun b q => hb1.block b (hbb b (flat_mem hlt q)).2) r⟩
/-- a copy of a row that is empty: by append to nothing -/
theorem run_append_none {P : Program} (w : World) (t ty e : TypeId) (i : TypeInfo) (ht : P.underlying t = some (.slice e)) (hi : P.info? e = some i) (a : Option Addr) (c : Nat) :
    (Builtin.append_ #[t, t] ty #[.slice none 0 0, .slice a 0 c]).run P w = .ok (.slice none 0 0) w := by
  cases a <;> simp [Builtin.append_, run_underlying ht, sizeOf, typeInfo, hi, Builtin.lenOf, Builtin.firstCells, loadCells, loadCellsFrom]
end Go.Proofs.Ytndffcogddefiaa
