/- A row that grows by append, of records that own their memory. -/
import Derived.Test.YtbodeijffpepfaaOwnFill
import Derived.Deep.AppendLies
namespace Go.Proofs.Ytbodeijffpepfaa
open Go.RowKit Go.Deep
theorem flat_len {css : List (List Value)} {c : Nat} (h : ∀ cs ∈ css, cs.length = c) : css.flatten.length = css.length * c := by
  induction css with
  | nil => simp
  | cons x xs ih =>
    have h1 := h x (by simp)
    have h2 := ih (fun cs q => h cs (List.mem_cons_of_mem _ q))
    simp only [List.flatten_cons, List.length_append, List.length_cons, h1, h2, Nat.add_mul, Nat.one_mul]
    omega
theorem flat_get {css : List (List Value)} {c : Nat} (h : ∀ cs ∈ css, cs.length = c) : ∀ {i m : Nat}, (hi : i < css.length) → m < c → css.flatten[i * c + m]? = css[i][m]? := by
  induction css with
  | nil => intro i m hi; simp at hi
  | cons x xs ih =>
    intro i m hi hm
    have h1 := h x (by simp)
    cases i with
    | zero => simp only [List.flatten_cons, Nat.zero_mul, Nat.zero_add, List.getElem_cons_zero]; rw [List.getElem?_append_left (by omega)]
    | succ i =>
      simp only [List.flatten_cons, List.getElem_cons_succ]
      rw [List.getElem?_append_right (by rw [Nat.add_mul, Nat.one_mul]; omega), show (i + 1) * c + m - x.length = i * c + m by rw [Nat.add_mul, Nat.one_mul]; omega]
      exact ih (fun cs q => h cs (List.mem_cons_of_mem _ q)) (by simp at hi; omega) hm
def GrowOwn {α : Type} (T c : Nat) (R : World → List Value → α → List Nat → Prop) (base : Nat) (w : World) (v : Value) (xs : List α) (bss : List (List Nat)) (css : List (List Value)) : Prop :=
  css.length = xs.length ∧ bss.length = xs.length ∧ (∀ cs ∈ css, cs.length = c) ∧ w.ownsRow base T c v xs.length css.flatten ∧ (∀ i, (h : i < xs.length) → (h1 : i < css.length) → (h2 : i < bss.length) → R w css[i] xs[i] bss[i]) ∧ bss.flatten.Nodup ∧ ∀ b ∈ bss.flatten, base ≤ b ∧ b < w.heap.size ∧ v.ownBlock ≠ some b
theorem GrowOwn.nil {α : Type} {T c : Nat} {R : World → List Value → α → List Nat → Prop} {base : Nat} {w : World} : GrowOwn T c R base w (.slice none 0 0) ([] : List α) [] [] :=
  ⟨rfl, rfl, by simp, World.ownsRow_nil _ _ _ _, fun i h => absurd h (by simp), by simp, by simp⟩
theorem row_lt {w : World} {base e size n : Nat} {v : Value} {xs : List Value} (h : w.ownsRow base e size v n xs) : ∀ k, v.ownBlock = some k → k < w.heap.size := by
  intro k hk
  rcases h.2 with ⟨rfl, _⟩ | ⟨g, cap, cur, rfl, _, hh, _⟩
  · cases hk
  · simp only [Value.ownBlock, Option.some.injEq] at hk
    subst hk
    exact (Array.getElem?_eq_some_iff.1 hh).1
theorem row_below {w w' : World} {base e size n : Nat} {v : Value} {xs : List Value} (h : w.ownsRow base e size v n xs) (hb : Below w.heap.size w w') : w'.ownsRow base e size v n xs := by
  refine ⟨h.1, ?_⟩
  rcases h.2 with h2 | ⟨g, cap, cur, hv, hg, hh, r⟩
  · exact Or.inl h2
  · exact Or.inr ⟨g, cap, cur, hv, hg, (hb.block g (Array.getElem?_eq_some_iff.1 hh).1).trans hh, r⟩
theorem GrowOwn.below {α : Type} {T c : Nat} {R : World → List Value → α → List Nat → Prop} (hR : OwnStays R) {base : Nat} {w w' : World} {v : Value} {xs : List α} {bss : List (List Nat)} {css : List (List Value)} (h : GrowOwn T c R base w v xs bss css) (hb : Below w.heap.size w w') : GrowOwn T c R base w' v xs bss css := by
  obtain ⟨h1, h2, h3, h4, h5, h6, h7⟩ := h
  refine ⟨h1, h2, h3, row_below h4 hb, fun i q q1 q2 => hR _ _ _ _ _ (fun b hq => hb.block b (h7 b (flat_mem q2 hq)).2.1) (h5 i q q1 q2), h6, fun b q => ?_⟩
  have := h7 b q
  have := hb.size
  exact ⟨by omega, by omega, (h7 b q).2.2⟩
theorem GrowOwn.set {α : Type} {T c : Nat} {R : World → List Value → α → List Nat → Prop} (hR : OwnStays R) {base : Nat} {w : World} {v u : Value} {g i : Nat} {xs : List α} {bss : List (List Nat)} {css : List (List Value)} (h : GrowOwn T c R base w v xs bss css) (hg : g < base) : GrowOwn T c R base (w.setCell ⟨g, i, none⟩ u) v xs bss css := by
  obtain ⟨h1, h2, h3, h4, h5, h6, h7⟩ := h
  refine ⟨h1, h2, h3, ?_, fun j q q1 q2 => hR _ _ _ _ _ (fun b hq => set_other (by have := (h7 b (flat_mem q2 hq)).1; omega) u) (h5 j q q1 q2), h6, fun b q => by rw [set_size]; exact h7 b q⟩
  refine ⟨h4.1, ?_⟩
  rcases h4.2 with q | ⟨g', cap, cur, hv, hg', hh, r⟩
  · exact Or.inl q
  · exact Or.inr ⟨g', cap, cur, hv, hg', (set_other (by omega) u).trans hh, r⟩
/-- one more -/
theorem GrowOwn.snoc {α : Type} {T c : Nat} {R : World → List Value → α → List Nat → Prop} (hR : OwnStays R) {base : Nat} {w w2 w3 : World} {v : Value} {xs : List α} {bss : List (List Nat)} {css : List (List Value)} {x : α} {fs : List Nat} {cs : List Value} {g n1 cap : Nat}
    (h : GrowOwn T c R base w v xs bss css) (hb2 : Below w.heap.size w w2) (hbase : base ≤ w.heap.size) (hcl : cs.length = c) (hr : R w2 cs x fs) (hnd : fs.Nodup) (hlo : ∀ b ∈ fs, w.heap.size ≤ b) (hhi : ∀ b ∈ fs, b < w2.heap.size)
    (hn1 : n1 = xs.length + 1) (hown : w3.ownsRow base T c (.slice (some ⟨g, 0, none⟩) n1 cap) n1 (css.flatten ++ cs)) (hgrow : w2.grownBy w3 v.ownBlock) (hat : v.ownBlock = some g ∨ g = w2.heap.size) :
    GrowOwn T c R base w3 (.slice (some ⟨g, 0, none⟩) n1 cap) (xs ++ [x]) (bss ++ [fs]) (css ++ [cs]) := by
  subst hn1
  have hrow := h.2.2.2.1
  obtain ⟨h1, h2, h3, h4, h5, h6, h7⟩ := h
  have hs2 := hb2.size
  have hvlt := row_lt hrow
  have hfl : (bss ++ [fs]).flatten = bss.flatten ++ fs := by simp
  have keep : ∀ b, b < w2.heap.size → v.ownBlock ≠ some b → w3.heap[b]? = w2.heap[b]? := fun b q1 q2 => hgrow.block b q1 (fun e => q2 e.symm)
  have fsne : ∀ b ∈ fs, v.ownBlock ≠ some b := fun b q e => by have := hvlt b e; have := hlo b q; omega
  refine ⟨by simp [h1], by simp [h2], fun z hz => ?_, by simpa using hown, fun i q q1 q2 => ?_, ?_, fun b q => ?_⟩
  · rcases List.mem_append.1 hz with e | e
    · exact h3 z e
    · simp at e; subst e; exact hcl
  · by_cases e : i < xs.length
    · rw [List.getElem_append_left (by omega), List.getElem_append_left e, List.getElem_append_left (by omega)]
      refine hR _ _ _ _ _ (fun b hq => ?_) (h5 i e (by omega) (by omega))
      have hm := h7 b (flat_mem (by omega) hq)
      exact (keep b (by omega) hm.2.2).trans (hb2.block b hm.2.1)
    · have e' : i = xs.length := by simp at q; omega
      subst e'
      rw [List.getElem_append_right (by omega), List.getElem_append_right (Nat.le_refl _), List.getElem_append_right (by omega)]
      simp only [h1, h2, Nat.sub_self, List.getElem_cons_zero]
      exact hR _ _ _ _ _ (fun b hq => keep b (hhi b hq) (fsne b hq)) hr
  · rw [hfl]
    exact nodup_two (q := w.heap.size) h6 hnd (fun b q => (h7 b q).2.1) hlo
  · rw [hfl] at q
    have hs3 := hgrow.size
    rcases List.mem_append.1 q with e | e
    · have hm := h7 b e
      refine ⟨hm.1, by omega, fun q' => ?_⟩
      simp only [Value.ownBlock, Option.some.injEq] at q'
      rcases hat with k | k
      · exact hm.2.2 (by rw [k, q'])
      · omega
    · have l1 := hlo b e
      have l2 := hhi b e
      refine ⟨by omega, by omega, fun q' => ?_⟩
      simp only [Value.ownBlock, Option.some.injEq] at q'
      rcases hat with k | k
      · exact fsne b e (by rw [k, q'])
      · omega
theorem GrowOwn.done {α : Type} {T c : Nat} {R : World → List Value → α → List Nat → Prop} {base : Nat} {w : World} {v : Value} {xs : List α} {bss : List (List Nat)} {css : List (List Value)} (h : GrowOwn T c R base w v xs bss css) : ∃ fs, SeqOwn c R w v xs fs ∧ ∀ b ∈ fs, base ≤ b := by
  obtain ⟨h1, h2, h3, h4, h5, h6, h7⟩ := h
  obtain ⟨hl, ho⟩ := h4
  rcases ho with ⟨rfl, hn⟩ | ⟨g, cap, cur, rfl, hg, hh, q1, q2, q3, q4⟩
  · exact ⟨[], ⟨none, 0, by rw [hn], ⟨by omega, by omega⟩, Or.inl ⟨hn, rfl⟩⟩, by simp⟩
  · refine ⟨g :: bss.flatten, ⟨_, _, rfl, ⟨Nat.le_trans q1 q2, q1⟩, Or.inr ⟨g, 0, rfl, cur, T, bss, hh, ?_, h2, rfl, ?_, fun i hi hi' => ⟨css[i], h3 _ (List.getElem_mem _), fun m hm => ?_, h5 i hi (by omega) hi'⟩⟩⟩, fun b q => ?_⟩
    · rw [q3, Nat.zero_add]; exact Nat.mul_le_mul_right c q1
    · rw [List.nodup_cons]
      exact ⟨fun q => (h7 g q).2.2 rfl, h6⟩
    · have e : (cur.toList.take (xs.length * c))[i * c + m]? = css[i][m]? := by rw [q4]; exact flat_get h3 (by omega) hm
      have hlt : i * c + m < xs.length * c := by have := idx_le (c := c) hi; omega
      rw [List.getElem?_take_of_lt hlt] at e
      rw [Nat.zero_add]
      simpa using e
    · rcases List.mem_cons.1 q with e | e
      · omega
      · exact (h7 b e).1
end Go.Proofs.Ytbodeijffpepfaa
