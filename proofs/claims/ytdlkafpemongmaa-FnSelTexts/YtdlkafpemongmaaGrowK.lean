/- One more appended to a row that grows, where what lies from a bound on has stayed. -/
import Derived.Test.YtdlkafpemongmaaGrowApp
import Derived.Test.YtdlkafpemongmaaGrowDraw
namespace Go.Proofs.Ytdlkafpemongmaa
open Go.RowKit Go.Deep
/-- one more appended, where what lies from base on has stayed -/
theorem wpList_append_growK {α : Type} {P : Program} {ops : Array Oper} {rest : List Oper} {o : Oper} {a : Act} {Q : Exit → Act → World → Prop} {T c : Nat} {R : World → List Value → α → List Nat → Prop} (hR : OwnStays R) (hgd : o.guard = none) (s x : Operand) (t : TypeId)
    (ho : o.op = .call { callee := .builtin .append, args := #[s, x], argTypes := #[t, t] }) (base : Nat) (i : TypeInfo) (z : Value) (bytes : Nat) (ht : P.underlying t = some (.slice T)) (hi : P.info? T = some i) (hz : i.zero = some z) (hsize : i.size = c) (hby : i.bytes = bytes) (hzs : z.cells.size = c) (hc : 0 < c)
    {w w2 : World} {v : Value} {xs : List α} {bss : List (List Nat)} {css : List (List Value)} (hs : a.eval s = v) (hgr : GrowOwn T c R base w v xs bss css) (hs2 : w.heap.size ≤ w2.heap.size) (hk2 : ∀ b, base ≤ b → b < w.heap.size → w2.heap[b]? = w.heap[b]?) (hbase : base ≤ w.heap.size)
    (ad : Addr) (cap1 : Nat) {cs : List Value} {y : α} {fs : List Nat} (hx : a.eval x = .slice (some ad) 1 cap1) (hl : cs.length = c) (hnews : ∀ j u, cs[j]? = some u → w2.cell? (ad.add j) = some u) (h1 : ∀ u ∈ cs, u.oneCell' = true)
    (hr : R w2 cs y fs) (hnd : fs.Nodup) (hlo : ∀ b ∈ fs, w.heap.size ≤ b) (hhi : ∀ b ∈ fs, b < w2.heap.size) (h63 : xs.length + 1 ≤ maxLen) (hbytes : (xs.length + 1) * bytes ≤ 140737488355328)
    (h : ∀ g cap w3, GrowOwn T c R base w3 (.slice (some ⟨g, 0, none⟩) (xs.length + 1) cap) (xs ++ [y]) (bss ++ [fs]) (css ++ [cs]) → w2.grownBy w3 v.ownBlock → Below base w2 w3 → wpList P ops Q rest (a.put o.dst (.slice (some ⟨g, 0, none⟩) (xs.length + 1) cap)) w3) : wpList P ops Q (o :: rest) a w2 := by
  have hrow := hgr.2.2.2.1
  have hrow2 := (GrowOwn.stay hR hgr hs2 hk2).row
  refine wpList_append_own_at w2 hgd s x t ho base T i z c bytes ht hi hz hsize hby hzs hc v xs.length css.flatten hs hrow2 ad 1 cap1 cs hx (by simp [hl]) hnews h1 h63 hbytes (by omega) fun v' w3 hown hgrow hnil hat => ?_
  have hown' := hown
  rcases hown.2 with ⟨_, hn⟩ | ⟨g, cap, cur, rfl, _⟩
  · omega
  · refine h g cap w3 (GrowOwn.snocK hR hgr hs2 hk2 hbase hl hr hnd hlo hhi rfl hown' hgrow ?_) hgrow ((Below.refl _ _).grown hgrow (by omega) (fun k e => own_block2 hrow k e))
    rcases hat with q | q
    · exact Or.inl q.symm
    · right; simpa [Value.ownBlock] using q
end Go.Proofs.Ytdlkafpemongmaa
