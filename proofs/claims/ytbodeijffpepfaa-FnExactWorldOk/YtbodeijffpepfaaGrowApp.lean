/- One more at the end of a row that grows, by append, where no order is drawn. -/
import Derived.Test.YtbodeijffpepfaaGrowOwn
import Derived.Maps.AppendAt
namespace Go.Proofs.Ytbodeijffpepfaa
open Go.RowKit Go.Deep
theorem own_block2 {w : World} {base e size n : Nat} {v : Value} {xs : List Value} (h : w.ownsRow base e size v n xs) : ∀ k, v.ownBlock = some k → base ≤ k := by
  intro k hk
  rcases h.2 with ⟨rfl, _⟩ | ⟨g, cap, cur, rfl, hg, _⟩
  · cases hk
  · simp only [Value.ownBlock, Option.some.injEq] at hk
    omega
theorem wpList_append_grow {α : Type} {P : Program} {ops : Array Oper} {rest : List Oper} {o : Oper} {a : Act} {Q : Exit → Act → World → Prop} {T c : Nat} {R : World → List Value → α → List Nat → Prop} (hR : OwnStays R) (hgd : o.guard = none) (s x : Operand) (t : TypeId)
    (ho : o.op = .call { callee := .builtin .append, args := #[s, x], argTypes := #[t, t] }) (base : Nat) (i : TypeInfo) (z : Value) (bytes : Nat) (ht : P.underlying t = some (.slice T)) (hi : P.info? T = some i) (hz : i.zero = some z) (hsize : i.size = c) (hby : i.bytes = bytes) (hzs : z.cells.size = c) (hc : 0 < c)
    {w w2 : World} {v : Value} {xs : List α} {bss : List (List Nat)} {css : List (List Value)} (hs : a.eval s = v) (hgr : GrowOwn T c R base w v xs bss css) (hb2 : Below w.heap.size w w2) (hbase : base ≤ w.heap.size)
    (ad : Addr) (cap1 : Nat) {cs : List Value} {y : α} {fs : List Nat} (hx : a.eval x = .slice (some ad) 1 cap1) (hl : cs.length = c) (hnews : ∀ j u, cs[j]? = some u → w2.cell? (ad.add j) = some u) (h1 : ∀ u ∈ cs, u.oneCell' = true)
    (hr : R w2 cs y fs) (hnd : fs.Nodup) (hlo : ∀ b ∈ fs, w.heap.size ≤ b) (hhi : ∀ b ∈ fs, b < w2.heap.size) (h63 : xs.length + 1 ≤ maxLen) (hbytes : (xs.length + 1) * bytes ≤ 140737488355328)
    (h : ∀ g cap w3, GrowOwn T c R base w3 (.slice (some ⟨g, 0, none⟩) (xs.length + 1) cap) (xs ++ [y]) (bss ++ [fs]) (css ++ [cs]) → w2.grownBy w3 v.ownBlock → Below base w2 w3 → wpList P ops Q rest (a.put o.dst (.slice (some ⟨g, 0, none⟩) (xs.length + 1) cap)) w3) : wpList P ops Q (o :: rest) a w2 := by
  have hrow := hgr.2.2.2.1
  have hs2 := hb2.size
  refine wpList_append_own_at w2 hgd s x t ho base T i z c bytes ht hi hz hsize hby hzs hc v xs.length css.flatten hs (row_below hrow hb2) ad 1 cap1 cs hx (by simp [hl]) hnews h1 h63 hbytes (by omega) fun v' w3 hown hgrow hnil hat => ?_
  have hown' := hown
  rcases hown.2 with ⟨_, hn⟩ | ⟨g, cap, cur, rfl, _⟩
  · omega
  · refine h g cap w3 (GrowOwn.snoc hR hgr hb2 hbase hl hr hnd hlo hhi rfl hown' hgrow ?_) hgrow ((Below.refl _ _).grown hgrow (by omega) (fun k e => own_block2 hrow k e))
    rcases hat with q | q
    · exact Or.inl q.symm
    · right; simpa [Value.ownBlock] using q
/-- a row of one -/
theorem GrowOwn.one {α : Type} {T c : Nat} {R : World → List Value → α → List Nat → Prop} {base g : Nat} {w : World} {cs : List Value} {x : α} {fs : List Nat} (hb : Box w g cs T) (hl : cs.length = c) (hg : base ≤ g) (hr : R w cs x fs) (hnd : fs.Nodup) (hlo : ∀ b ∈ fs, base ≤ b ∧ b < w.heap.size ∧ b ≠ g) :
    GrowOwn T c R base w (.slice (some ⟨g, 0, none⟩) 1 1) [x] [fs] [cs] := by
  refine ⟨rfl, rfl, by simpa using hl, ⟨by simp [hl], Or.inr ⟨g, 1, cs.toArray, rfl, hg, hb, Nat.le_refl _, by unfold maxLen; omega, by simp [hl], by rw [List.take_of_length_le (by simp [hl])]; simp⟩⟩, fun i h h1 h2 => ?_, by simpa using hnd, fun b q => ?_⟩
  · have : i = 0 := by simp at h; exact h
    subst this
    exact hr
  · have q' : b ∈ fs := by simpa using q
    obtain ⟨z1, z2, z3⟩ := hlo b q'
    refine ⟨z1, z2, fun e => ?_⟩
    simp only [Value.ownBlock, Option.some.injEq] at e
    omega
theorem GrowOwn.len {α : Type} {T c : Nat} {R : World → List Value → α → List Nat → Prop} {base : Nat} {w : World} {v : Value} {xs : List α} {bss : List (List Nat)} {css : List (List Value)} (h : GrowOwn T c R base w v xs bss css) : ∃ a cap, v = .slice a xs.length cap := by
  obtain ⟨_, _, _, h4, _⟩ := h
  rcases h4.2 with ⟨rfl, hn⟩ | ⟨g, cap, cur, rfl, _⟩
  · exact ⟨none, 0, by rw [hn]⟩
  · exact ⟨_, _, rfl⟩
end Go.Proofs.Ytbodeijffpepfaa
