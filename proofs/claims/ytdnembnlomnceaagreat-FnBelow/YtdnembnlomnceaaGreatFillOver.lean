/- A row that was copied and is filled anew, from its head on, by records that own their memory. -/
import Derived.Test.YtdnembnlomnceaaGreatOwnRows
import Derived.Deep.AppendLies
import Derived.Maps.AppendAt
namespace Go.Proofs.YtdnembnlomnceaaGreat
open Go.RowKit Go.Deep
theorem flat_get {css : List (List Value)} {c : Nat} (h : ∀ cs ∈ css, cs.length = c) : ∀ {i m : Nat}, (hi : i < css.length) → m < c → css.flatten[i * c + m]? = css[i][m]? := by
 induction css with
 | nil => intro i m hi; simp at hi
 | cons x xs ih =>
  intro i m hi hm
  have h1 := h x (by simp)
  cases i with
  | zero => simp only [List.flatten_cons, Nat.zero_mul, Nat.zero_add, List.getElem_cons_zero]; rw [List.getElem?_append_left (by omega)]
  | succ i =>
   simp only [List.flatten_cons, List.getElem_cons_succ]
   rw [List.getElem?_append_right (by rw [Nat.add_mul, Nat.one_mul]; omega), show (i + 1) * c + m - x.length = i * c + m by rw [Nat.add_mul, Nat.one_mul]; omega]
   exact ih (fun cs q => h cs (List.mem_cons_of_mem _ q)) (by simp at hi; omega) hm
def GrowOwn {α : Type} (T c : Nat) (R : World → List Value → α → List Nat → Prop) (base : Nat) (w : World) (v : Value) (xs : List α) (bss : List (List Nat)) (css : List (List Value)) : Prop :=
 css.length = xs.length ∧ bss.length = xs.length ∧ (∀ cs ∈ css, cs.length = c) ∧ w.ownsRow base T c v xs.length css.flatten ∧ (∀ i, (h : i < xs.length) → (h1 : i < css.length) → (h2 : i < bss.length) → R w css[i] xs[i] bss[i]) ∧ bss.flatten.Nodup ∧ ∀ b ∈ bss.flatten, base ≤ b ∧ b < w.heap.size ∧ v.ownBlock ≠ some b
theorem GrowOwn.nil {α : Type} {T c : Nat} {R : World → List Value → α → List Nat → Prop} {base : Nat} {w : World} : GrowOwn T c R base w (.slice none 0 0) ([] : List α) [] [] :=
 ⟨rfl, rfl, by simp, World.ownsRow_nil _ _ _ _, fun i h => absurd h (by simp), by simp, by simp⟩
theorem row_lt {w : World} {base e size n : Nat} {v : Value} {xs : List Value} (h : w.ownsRow base e size v n xs) : ∀ k, v.ownBlock = some k → k < w.heap.size := by
 intro k hk
 rcases h.2 with ⟨rfl, _⟩ | ⟨g, cap, cur, rfl, _, hh, _⟩
 · cases hk
 · simp only [Value.ownBlock, Option.some.injEq] at hk
   subst hk
   exact (Array.getElem?_eq_some_iff.1 hh).1
theorem row_below {w w' : World} {base e size n : Nat} {v : Value} {xs : List Value} (h : w.ownsRow base e size v n xs) (hb : Below w.heap.size w w') : w'.ownsRow base e size v n xs := by
 refine ⟨h.1, ?_⟩
 rcases h.2 with h2 | ⟨g, cap, cur, hv, hg, hh, r⟩
 · exact Or.inl h2
 · exact Or.inr ⟨g, cap, cur, hv, hg, (hb.block g (Array.getElem?_eq_some_iff.1 hh).1).trans hh, r⟩
theorem GrowOwn.below {α : Type} {T c : Nat} {R : World → List Value → α → List Nat → Prop} (hR : OwnStays R) {base : Nat} {w w' : World} {v : Value} {xs : List α} {bss : List (List Nat)} {css : List (List Value)} (h : GrowOwn T c R base w v xs bss css) (hb : Below w.heap.size w w') : GrowOwn T c R base w' v xs bss css := by
 obtain ⟨h1, h2, h3, h4, h5, h6, h7⟩ := h
 refine ⟨h1, h2, h3, row_below h4 hb, fun i q q1 q2 => hR _ _ _ _ _ (fun b hq => hb.block b (h7 b (flat_mem q2 hq)).2.1) (h5 i q q1 q2), h6, fun b q => ?_⟩
 have := h7 b q
 have := hb.size
 exact ⟨by omega, by omega, (h7 b q).2.2⟩
theorem GrowOwn.set {α : Type} {T c : Nat} {R : World → List Value → α → List Nat → Prop} (hR : OwnStays R) {base : Nat} {w : World} {v u : Value} {g i : Nat} {xs : List α} {bss : List (List Nat)} {css : List (List Value)} (h : GrowOwn T c R base w v xs bss css) (hg : g < base) : GrowOwn T c R base (w.setCell ⟨g, i, none⟩ u) v xs bss css := by
 obtain ⟨h1, h2, h3, h4, h5, h6, h7⟩ := h
 refine ⟨h1, h2, h3, ?_, fun j q q1 q2 => hR _ _ _ _ _ (fun b hq => set_other (by have := (h7 b (flat_mem q2 hq)).1; omega) u) (h5 j q q1 q2), h6, fun b q => by rw [set_size]; exact h7 b q⟩
 refine ⟨h4.1, ?_⟩
 rcases h4.2 with q | ⟨g', cap, cur, hv, hg', hh, r⟩
 · exact Or.inl q
 · exact Or.inr ⟨g', cap, cur, hv, hg', (set_other (by omega) u).trans hh, r⟩
/-- one more -/
theorem GrowOwn.snoc {α : Type} {T c : Nat} {R : World → List Value → α → List Nat → Prop} (hR : OwnStays R) {base : Nat} {w w2 w3 : World} {v : Value} {xs : List α} {bss : List (List Nat)} {css : List (List Value)} {x : α} {fs : List Nat} {cs : List Value} {g n1 cap : Nat}
 (h : GrowOwn T c R base w v xs bss css) (hb2 : Below w.heap.size w w2) (hbase : base ≤ w.heap.size) (hcl : cs.length = c) (hr : R w2 cs x fs) (hnd : fs.Nodup) (hlo : ∀ b ∈ fs, w.heap.size ≤ b) (hhi : ∀ b ∈ fs, b < w2.heap.size)
 (hn1 : n1 = xs.length + 1) (hown : w3.ownsRow base T c (.slice (some ⟨g, 0, none⟩) n1 cap) n1 (css.flatten ++ cs)) (hgrow : w2.grownBy w3 v.ownBlock) (hat : v.ownBlock = some g ∨ g = w2.heap.size) :
 GrowOwn T c R base w3 (.slice (some ⟨g, 0, none⟩) n1 cap) (xs ++ [x]) (bss ++ [fs]) (css ++ [cs]) := by
 subst hn1
 have hrow := h.2.2.2.1
 obtain ⟨h1, h2, h3, h4, h5, h6, h7⟩ := h
 have hs2 := hb2.size
 have hvlt := row_lt hrow
 have hfl : (bss ++ [fs]).flatten = bss.flatten ++ fs := by simp
 have keep : ∀ b, b < w2.heap.size → v.ownBlock ≠ some b → w3.heap[b]? = w2.heap[b]? := fun b q1 q2 => hgrow.block b q1 (fun e => q2 e.symm)
 have fsne : ∀ b ∈ fs, v.ownBlock ≠ some b := fun b q e => by have := hvlt b e; have := hlo b q; omega
 refine ⟨by simp [h1], by simp [h2], fun z hz => ?_, by simpa using hown, fun i q q1 q2 => ?_, ?_, fun b q => ?_⟩
 · rcases List.mem_append.1 hz with e | e
   · exact h3 z e
   · simp at e; subst e; exact hcl
 · by_cases e : i < xs.length
   · rw [List.getElem_append_left (by omega), List.getElem_append_left e, List.getElem_append_left (by omega)]
     refine hR _ _ _ _ _ (fun b hq => ?_) (h5 i e (by omega) (by omega))
     have hm := h7 b (flat_mem (by omega) hq)
     exact (keep b (by omega) hm.2.2).trans (hb2.block b hm.2.1)
   · have e' : i = xs.length := by simp at q; omega
     subst e'
     rw [List.getElem_append_right (by omega), List.getElem_append_right (Nat.le_refl _), List.getElem_append_right (by omega)]
     simp only [h1, h2, Nat.sub_self, List.getElem_cons_zero]
     exact hR _ _ _ _ _ (fun b hq => keep b (hhi b hq) (fsne b hq)) hr
 · rw [hfl]
   exact nodup_two (q := w.heap.size) h6 hnd (fun b q => (h7 b q).2.1) hlo
 · rw [hfl] at q
   have hs3 := hgrow.size
   rcases List.mem_append.1 q with e | e
   · have hm := h7 b e
     refine ⟨hm.1, by omega, fun q' => ?_⟩
     simp only [Value.ownBlock, Option.some.injEq] at q'
     rcases hat with k | k
     · exact hm.2.2 (by rw [k, q'])
     · omega
   · have l1 := hlo b e
     have l2 := hhi b e
     refine ⟨by omega, by omega, fun q' => ?_⟩
     simp only [Value.ownBlock, Option.some.injEq] at q'
     rcases hat with k | k
     · exact fsne b e (by rw [k, q'])
     · omega
theorem GrowOwn.done {α : Type} {T c : Nat} {R : World → List Value → α → List Nat → Prop} {base : Nat} {w : World} {v : Value} {xs : List α} {bss : List (List Nat)} {css : List (List Value)} (h : GrowOwn T c R base w v xs bss css) : ∃ fs, SeqOwn c R w v xs fs ∧ ∀ b ∈ fs, base ≤ b := by
 obtain ⟨h1, h2, h3, h4, h5, h6, h7⟩ := h
 obtain ⟨hl, ho⟩ := h4
 rcases ho with ⟨rfl, hn⟩ | ⟨g, cap, cur, rfl, hg, hh, q1, q2, q3, q4⟩
 · exact ⟨[], ⟨none, 0, by rw [hn], ⟨by omega, by omega⟩, Or.inl ⟨hn, rfl⟩⟩, by simp⟩
 · refine ⟨g :: bss.flatten, ⟨_, _, rfl, ⟨Nat.le_trans q1 q2, q1⟩, Or.inr ⟨g, 0, rfl, cur, T, bss, hh, ?_, h2, rfl, ?_, fun i hi hi' => ⟨css[i], h3 _ (List.getElem_mem _), fun m hm => ?_, h5 i hi (by omega) hi'⟩⟩⟩, fun b q => ?_⟩
   · rw [q3, Nat.zero_add]; exact Nat.mul_le_mul_right c q1
   · rw [List.nodup_cons]
     exact ⟨fun q => (h7 g q).2.2 rfl, h6⟩
   · have e : (cur.toList.take (xs.length * c))[i * c + m]? = css[i][m]? := by rw [q4]; exact flat_get h3 (by omega) hm
     have hlt : i * c + m < xs.length * c := by have := idx_le (c := c) hi; omega
     rw [List.getElem?_take_of_lt hlt] at e
     rw [Nat.zero_add]
     simpa using e
   · rcases List.mem_cons.1 q with e | e
     · omega
     · exact (h7 b e).1
end Go.Proofs.YtdnembnlomnceaaGreat
namespace Go.Proofs.YtdnembnlomnceaaGreat
open Go.RowKit Go.Deep
theorem own_block2 {w : World} {base e size n : Nat} {v : Value} {xs : List Value} (h : w.ownsRow base e size v n xs) : ∀ k, v.ownBlock = some k → base ≤ k := by
 intro k hk
 rcases h.2 with ⟨rfl, _⟩ | ⟨g, cap, cur, rfl, hg, _⟩
 · cases hk
 · simp only [Value.ownBlock, Option.some.injEq] at hk
   omega
theorem wpList_append_grow {α : Type} {P : Program} {ops : Array Oper} {rest : List Oper} {o : Oper} {a : Act} {Q : Exit → Act → World → Prop} {T c : Nat} {R : World → List Value → α → List Nat → Prop} (hR : OwnStays R) (hgd : o.guard = none) (s x : Operand) (t : TypeId)
 (ho : o.op = .call { callee := .builtin .append, args := #[s, x], argTypes := #[t, t] }) (base : Nat) (i : TypeInfo) (z : Value) (bytes : Nat) (ht : P.underlying t = some (.slice T)) (hi : P.info? T = some i) (hz : i.zero = some z) (hsize : i.size = c) (hby : i.bytes = bytes) (hzs : z.cells.size = c) (hc : 0 < c)
 {w w2 : World} {v : Value} {xs : List α} {bss : List (List Nat)} {css : List (List Value)} (hs : a.eval s = v) (hgr : GrowOwn T c R base w v xs bss css) (hb2 : Below w.heap.size w w2) (hbase : base ≤ w.heap.size)
 (ad : Addr) (cap1 : Nat) {cs : List Value} {y : α} {fs : List Nat} (hx : a.eval x = .slice (some ad) 1 cap1) (hl : cs.length = c) (hnews : ∀ j u, cs[j]? = some u → w2.cell? (ad.add j) = some u) (h1 : ∀ u ∈ cs, u.oneCell' = true)
 (hr : R w2 cs y fs) (hnd : fs.Nodup) (hlo : ∀ b ∈ fs, w.heap.size ≤ b) (hhi : ∀ b ∈ fs, b < w2.heap.size) (h63 : xs.length + 1 ≤ maxLen) (hbytes : (xs.length + 1) * bytes ≤ 140737488355328)
 (h : ∀ g cap w3, GrowOwn T c R base w3 (.slice (some ⟨g, 0, none⟩) (xs.length + 1) cap) (xs ++ [y]) (bss ++ [fs]) (css ++ [cs]) → w2.grownBy w3 v.ownBlock → Below base w2 w3 → wpList P ops Q rest (a.put o.dst (.slice (some ⟨g, 0, none⟩) (xs.length + 1) cap)) w3) : wpList P ops Q (o :: rest) a w2 := by
 have hrow := hgr.2.2.2.1
 have hs2 := hb2.size
 refine wpList_append_own_at w2 hgd s x t ho base T i z c bytes ht hi hz hsize hby hzs hc v xs.length css.flatten hs (row_below hrow hb2) ad 1 cap1 cs hx (by simp [hl]) hnews h1 h63 hbytes (by omega) fun v' w3 hown hgrow hnil hat => ?_
 have hown' := hown
 rcases hown.2 with ⟨_, hn⟩ | ⟨g, cap, cur, rfl, _⟩
 · omega
 · refine h g cap w3 (GrowOwn.snoc hR hgr hb2 hbase hl hr hnd hlo hhi rfl hown' hgrow ?_) hgrow ((Below.refl _ _).grown hgrow (by omega) (fun k e => own_block2 hrow k e))
   rcases hat with q | q
   · exact Or.inl q.symm
   · right; simpa [Value.ownBlock] using q
/-- a row of one -/
theorem GrowOwn.one {α : Type} {T c : Nat} {R : World → List Value → α → List Nat → Prop} {base g : Nat} {w : World} {cs : List Value} {x : α} {fs : List Nat} (hb : Box w g cs T) (hl : cs.length = c) (hg : base ≤ g) (hr : R w cs x fs) (hnd : fs.Nodup) (hlo : ∀ b ∈ fs, base ≤ b ∧ b < w.heap.size ∧ b ≠ g) :
 GrowOwn T c R base w (.slice (some ⟨g, 0, none⟩) 1 1) [x] [fs] [cs] := by
 refine ⟨rfl, rfl, by simpa using hl, ⟨by simp [hl], Or.inr ⟨g, 1, cs.toArray, rfl, hg, hb, Nat.le_refl _, by unfold maxLen; omega, by simp [hl], by rw [List.take_of_length_le (by simp [hl])]; simp⟩⟩, fun i h h1 h2 => ?_, by simpa using hnd, fun b q => ?_⟩
 · have : i = 0 := by simp at h; exact h
   subst this
   exact hr
 · have q' : b ∈ fs := by simpa using q
   obtain ⟨z1, z2, z3⟩ := hlo b q'
   refine ⟨z1, z2, fun e => ?_⟩
   simp only [Value.ownBlock, Option.some.injEq] at e
   omega
theorem GrowOwn.len {α : Type} {T c : Nat} {R : World → List Value → α → List Nat → Prop} {base : Nat} {w : World} {v : Value} {xs : List α} {bss : List (List Nat)} {css : List (List Value)} (h : GrowOwn T c R base w v xs bss css) : ∃ a cap, v = .slice a xs.length cap := by
 obtain ⟨_, _, _, h4, _⟩ := h
 rcases h4.2 with ⟨rfl, hn⟩ | ⟨g, cap, cur, rfl, _⟩
 · exact ⟨none, 0, by rw [hn]⟩
 · exact ⟨_, _, rfl⟩
end Go.Proofs.YtdnembnlomnceaaGreat
namespace Go.Proofs.YtdnembnlomnceaaGreat
open Go.RowKit Go.Deep
def FilledC {α : Type} (T c : Nat) (R : World → List Value → α → List Nat → Prop) (O : List Value → α → Prop) (base : Nat) (w wr : World) (xs : List α) (g j : Nat) (bss : List (List Nat)) : Prop :=
 Below base w wr ∧ g < wr.heap.size ∧ bss.length = j ∧ (g :: bss.flatten).Nodup ∧ (∀ b ∈ bss.flatten, g < b ∧ b < wr.heap.size) ∧
 ∃ C : Array Value, wr.heap[g]? = some (.cells C T (0, 0)) ∧ xs.length * c ≤ C.size ∧ (∀ j', (h : j' < xs.length) → (h' : j' < bss.length) → ∃ cs, cs.length = c ∧ (∀ m, m < c → C[j' * c + m]? = cs[m]?) ∧ R wr cs xs[j'] bss[j']) ∧
  ∀ j', (h : j' < xs.length) → j ≤ j' → ∃ cs, cs.length = c ∧ (∀ m, m < c → C[j' * c + m]? = cs[m]?) ∧ O cs xs[j']
/-- what a row copied from another one is, ahead of all -/
theorem FilledC.start {α : Type} {T c : Nat} {R : World → List Value → α → List Nat → Prop} {O : List Value → α → Prop} {base : Nat} {w wr : World} {xs : List α} {g cap : Nat} {css : List (List Value)} (hb : Below base w wr) (hown : wr.ownsRow base T c (.slice (some ⟨g, 0, none⟩) xs.length cap) xs.length css.flatten)
 (hl : css.length = xs.length) (hc : ∀ cs ∈ css, cs.length = c) (hO : ∀ i, (h : i < xs.length) → (h1 : i < css.length) → O css[i] xs[i]) : FilledC T c R O base w wr xs g 0 [] ∧ base ≤ g := by
 obtain ⟨_, ho⟩ := hown
 rcases ho with ⟨e, _⟩ | ⟨g', cap', cur, e, hg, hh, q1, q2, q3, q4⟩
 · cases e
 · injection e with e1 e2 e3
   injection e1 with e1
   injection e1 with e1 _
   subst e1 e3
   refine ⟨⟨hb, (Array.getElem?_eq_some_iff.1 hh).1, rfl, by simp, by simp, cur, hh, ?_, fun j' _ h => absurd h (by simp), fun j' h _ => ⟨css[j']'(by omega), hc _ (List.getElem_mem _), fun m hm => ?_, hO j' h (by omega)⟩⟩, hg⟩
   · rw [q3]; exact Nat.mul_le_mul_right c q1
   · have e : (cur.toList.take (xs.length * c))[j' * c + m]? = (css[j']'(by omega))[m]? := by rw [q4]; exact flat_get hc (by omega) hm
     have hlt : j' * c + m < xs.length * c := by have := idx_le (c := c) h; omega
     rw [List.getElem?_take_of_lt hlt] at e
     simpa using e
theorem FilledC.at {α : Type} {T c : Nat} {R : World → List Value → α → List Nat → Prop} {O : List Value → α → Prop} {base : Nat} {w wr : World} {xs : List α} {g j : Nat} {bss : List (List Nat)} (h : FilledC T c R O base w wr xs g j bss) (hj : j < xs.length) : ∃ cs, cs.length = c ∧ Lie wr g (j * c) cs ∧ O cs xs[j] := by
 obtain ⟨_, _, _, _, _, C, hC, _, _, h2⟩ := h
 obtain ⟨cs, hl, hc, ho⟩ := h2 j hj (Nat.le_refl _)
 exact ⟨cs, hl, fun m hm => by rw [blk_cell hC]; exact hc m (by omega), ho⟩
theorem FilledC.facts {α : Type} {T c : Nat} {R : World → List Value → α → List Nat → Prop} {O : List Value → α → Prop} {base : Nat} {w wr w1 : World} {xs : List α} {g j : Nat} {bss : List (List Nat)} (h : FilledC T c R O base w wr xs g j bss) (hj : j < xs.length) (hb1 : Below wr.heap.size wr w1) :
 (∀ m, m < c → ∃ v, w1.cell? ⟨g, j * c + m, none⟩ = some v) ∧ ∀ i, w1.frozen? ⟨g, i, none⟩ = false := by
 obtain ⟨hb, hg, _, _, _, C, hC, hCs, hall, _⟩ := h
 have hC1 : w1.heap[g]? = some (.cells C T (0, 0)) := (hb1.block g hg).trans hC
 have := idx_le (c := c) hj
 exact ⟨fun m hm => ⟨C[j * c + m]'(by omega), by rw [blk_cell hC1]; exact Array.getElem?_eq_getElem (by omega)⟩, fun i => blk_unfrozen hC1 i⟩
theorem FilledC.step {α : Type} {T c : Nat} {R : World → List Value → α → List Nat → Prop} {O : List Value → α → Prop} (hR : OwnStays R) {base : Nat} {w wr w1 : World} {xs : List α} {g j : Nat} {bss : List (List Nat)} (h : FilledC T c R O base w wr xs g j bss) (hj : j < xs.length) (hwg : base ≤ g) (hb1 : Below wr.heap.size wr w1)
 {cs : List Value} {fs : List Nat} (hcl : cs.length = c) (hr : R w1 cs xs[j] fs) (hlo : ∀ b ∈ fs, wr.heap.size ≤ b) (hhi : ∀ b ∈ fs, b < w1.heap.size) (hnd : fs.Nodup) : FilledC T c R O base w (putCells w1 g (j * c) cs) xs g (j + 1) (bss ++ [fs]) := by
 obtain ⟨hb, hg, hbl, hbn, hbb, C, hC, hCs, hall, horig⟩ := h
 have hC1 : w1.heap[g]? = some (.cells C T (0, 0)) := (hb1.block g hg).trans hC
 have hjc := idx_le (c := c) hj
 obtain ⟨C', hC', hs', hold, hnew⟩ := putCells_block cs w1 g (j * c) C T hC1 (by omega)
 have hs1 := hb1.size
 have hsz := putCells_size cs w1 g (j * c)
 have hfl : (bss ++ [fs]).flatten = bss.flatten ++ fs := by simp
 refine ⟨putCells_below cs _ _ _ g _ hwg (hb.trans (hb1.mono (by omega))), by omega, by simp [hbl], ?_, ?_, C', hC', by omega, fun j' hj' hlt => ?_, fun j' hj' hle => ?_⟩
 · rw [hfl]
   rw [List.nodup_cons] at hbn ⊢
   refine ⟨?_, List.nodup_append.2 ⟨hbn.2, hnd, fun a ha b hb' e => ?_⟩⟩
   · intro hm
     rcases List.mem_append.1 hm with q | q
     · exact hbn.1 q
     · have := hlo g q; omega
   · subst e
     have h1 := (hbb a ha).2
     have h2 := hlo a hb'
     omega
 · rw [hfl, hsz]
   intro b hm
   rcases List.mem_append.1 hm with q | q
   · have := hbb b q; omega
   · have h1 := hlo b q; have h2 := hhi b q; omega
 · by_cases e : j' = j
   · subst e
     have eb : (bss ++ [fs])[j'] = fs := by rw [List.getElem_append_right (by omega)]; simp [hbl]
     refine ⟨cs, hcl, fun m hm => hnew m (by omega), ?_⟩
     rw [eb]
     exact hR _ _ _ _ _ (fun b q => putCells_other _ _ _ _ _ (by have := hlo b q; omega)) hr
   · have hlt' : j' < bss.length := by simp at hlt; omega
     have eb : (bss ++ [fs])[j'] = bss[j'] := List.getElem_append_left hlt'
     obtain ⟨cs', hl', hc', r⟩ := hall j' hj' hlt'
     refine ⟨cs', hl', fun m hm => ?_, ?_⟩
     · rw [← hc' m hm]
       have := idx_apart e hm
       exact hold _ (by omega)
     · rw [eb]
       refine hR _ _ _ _ _ (fun b q => ?_) r
       have hq := hbb b (flat_mem hlt' q)
       exact (putCells_other _ _ _ _ _ (by omega)).trans (hb1.block b hq.2)
 · obtain ⟨cs', hl', hc', r⟩ := horig j' hj' (by omega)
   refine ⟨cs', hl', fun m hm => ?_, r⟩
   rw [← hc' m hm]
   have := idx_apart (j := j) (j' := j') (c := c) (m := m) (by omega) hm
   exact hold _ (by omega)
theorem FilledC.done {α : Type} {T c : Nat} {R : World → List Value → α → List Nat → Prop} {O : List Value → α → Prop} {base : Nat} {w wr : World} {xs : List α} {g cap : Nat} {bss : List (List Nat)} (h : FilledC T c R O base w wr xs g xs.length bss) (hwg : base ≤ g) (hm : xs.length ≤ maxLen) (hcap : xs.length ≤ cap) :
 SeqOwn c R wr (.slice (some ⟨g, 0, none⟩) xs.length cap) xs (g :: bss.flatten) ∧ ∀ b ∈ g :: bss.flatten, base ≤ b := by
 obtain ⟨hb, hg, hbl, hbn, hbb, C, hC, hCs, hall, _⟩ := h
 refine ⟨⟨_, _, rfl, ⟨hm, hcap⟩, Or.inr ⟨g, 0, rfl, C, T, bss, hC, by omega, hbl, rfl, hbn, fun i hi hi' => ?_⟩⟩, fun b hq => ?_⟩
 · obtain ⟨cs, hl, hc, r⟩ := hall i hi hi'
   exact ⟨cs, hl, fun m hm => by rw [Nat.zero_add]; exact hc m hm, r⟩
 · rcases List.mem_cons.1 hq with e | e
   · omega
   · have := hbb b e; omega
theorem FilledC.below {α : Type} {T c : Nat} {R : World → List Value → α → List Nat → Prop} {O : List Value → α → Prop} (hR : OwnStays R) {base : Nat} {w wr w1 : World} {xs : List α} {g j : Nat} {bss : List (List Nat)} (h : FilledC T c R O base w wr xs g j bss) (hbg : base ≤ g) (hb1 : Below wr.heap.size wr w1) : FilledC T c R O base w w1 xs g j bss := by
 obtain ⟨hb, hg, hbl, hbn, hbb, C, hC, hCs, hall, horig⟩ := h
 have hs1 := hb1.size
 refine ⟨hb.trans (hb1.mono (by omega)), by omega, hbl, hbn, fun b q => by have := hbb b q; omega, C, (hb1.block g hg).trans hC, hCs, fun j' hj' hlt => ?_, horig⟩
 obtain ⟨cs, hl, hc, r⟩ := hall j' hj' hlt
 exact ⟨cs, hl, hc, hR _ _ _ _ _ (fun b q => hb1.block b (hbb b (flat_mem hlt q)).2) r⟩
end Go.Proofs.YtdnembnlomnceaaGreat
