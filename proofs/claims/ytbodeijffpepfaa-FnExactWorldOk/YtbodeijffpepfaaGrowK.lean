/- One more appended to a row that grows, where what lies from a bound on has stayed. -/
import Derived.Test.YtbodeijffpepfaaGrowApp
import Derived.Test.YtbodeijffpepfaaGrowDraw
namespace Go.Proofs.Ytbodeijffpepfaa
open Go.RowKit Go.Deep
/-- one more behind a row that stands in a field of the block T, while only g of what was there has turned -/
theorem grow_fin2 {α : Type} {ET c : Nat} {R : World → List Value → α → List Nat → Prop} (hR : OwnStays R) {base T g n1 capn gg f BT : Nat} {w wr w1 w3 : World} {o : Obj} {v : Value} {xs : List α} {bss : List (List Nat)} {css : List (List Value)} {x : α} {fs : List Nat} {cs tc : List Value}
    (hgr : GrowOwn ET c R base wr v xs bss css) (hg1 : wr.grownBy w1 (some g)) (hgT : g < T) (hTb : T < base) (hbw : base ≤ wr.heap.size)
    (hcl : cs.length = c) (hr : R w1 cs x fs) (hnd : fs.Nodup) (hlo : ∀ b ∈ fs, wr.heap.size ≤ b) (hhi : ∀ b ∈ fs, b < w1.heap.size) (hn1 : n1 = xs.length + 1)
    (hown : w3.ownsRow base ET c (.slice (some ⟨gg, 0, none⟩) n1 capn) n1 (css.flatten ++ cs)) (hgrow : (w1.alloc o).grownBy w3 v.ownBlock) (hat : v.ownBlock = some gg ∨ gg = (w1.alloc o).heap.size)
    (bT : Box wr T tc BT) (hw : w.grownBy wr (some g)) (hwT : w.heap.size ≤ T) :
    GrowOwn ET c R base (w3.setCell ⟨T, f, none⟩ (.slice (some ⟨gg, 0, none⟩) n1 capn)) (.slice (some ⟨gg, 0, none⟩) n1 capn) (xs ++ [x]) (bss ++ [fs]) (css ++ [cs]) ∧
    Box (w3.setCell ⟨T, f, none⟩ (.slice (some ⟨gg, 0, none⟩) n1 capn)) T (tc.set f (.slice (some ⟨gg, 0, none⟩) n1 capn)) BT ∧
    w.grownBy (w3.setCell ⟨T, f, none⟩ (.slice (some ⟨gg, 0, none⟩) n1 capn)) (some g) ∧
    (∀ b, b < base → b ≠ T → (w3.setCell ⟨T, f, none⟩ (.slice (some ⟨gg, 0, none⟩) n1 capn)).heap[b]? = w1.heap[b]?) ∧ base ≤ (w3.setCell ⟨T, f, none⟩ (.slice (some ⟨gg, 0, none⟩) n1 capn)).heap.size := by
  have s1 := hg1.size
  have s2 : w1.heap.size + 1 = (w1.alloc o).heap.size := by simp
  have s3 := hgrow.size
  have sw := hw.size
  have hal : ∀ b, b < w1.heap.size → (w1.alloc o).heap[b]? = w1.heap[b]? := fun b hb => Below.heap_alloc _ _ _ hb
  have hvb : ∀ k, v.ownBlock = some k → base ≤ k := own_ge hgr
  have lowg : ∀ b, b < base → w3.heap[b]? = w1.heap[b]? := fun b hb => by
    rw [hgrow.block b (by omega) (fun e => by have := hvb b e.symm; omega), hal b (by omega)]
  have low : ∀ b, b < base → b ≠ g → w3.heap[b]? = wr.heap[b]? := fun b hb hne => by
    rw [lowg b hb, hg1.block b (by omega) (fun e => hne (by injection e))]
  refine ⟨?_, ?_, ?_, ?_, ?_⟩
  · refine GrowOwn.set hR ?_ hTb
    refine GrowOwn.snocK hR (w2 := w1.alloc o) hgr (by omega) (fun b h1 h2 => ?_) hbw hcl (hR _ _ _ _ _ (fun b hb => hal b (hhi b hb)) hr) hnd hlo (fun b hb => by have := hhi b hb; omega) hn1 hown hgrow hat
    rw [hal b (by omega), hg1.block b h2 (fun e => by injection e; omega)]
  · exact Box.set ((low T hTb (by omega)).trans bT) _
  · refine ⟨hgrow.os.trans (hg1.os.trans hw.os), hgrow.tape.trans (hg1.tape.trans hw.tape), hgrow.output.trans (hg1.output.trans hw.output), by rw [set_size]; omega, fun b hb hne => ?_⟩
    rw [set_other (by omega), low b (by omega) (fun e => hne (by rw [e])), hw.block b hb hne]
  · intro b hb h2
    rw [set_other h2, lowg b hb]
  · rw [set_size]; omega
/-- one more appended, where what lies from base on has stayed -/
theorem wpList_append_growK {α : Type} {P : Program} {ops : Array Oper} {rest : List Oper} {o : Oper} {a : Act} {Q : Exit → Act → World → Prop} {T c : Nat} {R : World → List Value → α → List Nat → Prop} (hR : OwnStays R) (hgd : o.guard = none) (s x : Operand) (t : TypeId)
    (ho : o.op = .call { callee := .builtin .append, args := #[s, x], argTypes := #[t, t] }) (base : Nat) (i : TypeInfo) (z : Value) (bytes : Nat) (ht : P.underlying t = some (.slice T)) (hi : P.info? T = some i) (hz : i.zero = some z) (hsize : i.size = c) (hby : i.bytes = bytes) (hzs : z.cells.size = c) (hc : 0 < c)
    {w w2 : World} {v : Value} {xs : List α} {bss : List (List Nat)} {css : List (List Value)} (hs : a.eval s = v) (hgr : GrowOwn T c R base w v xs bss css) (hs2 : w.heap.size ≤ w2.heap.size) (hk2 : ∀ b, base ≤ b → b < w.heap.size → w2.heap[b]? = w.heap[b]?) (hbase : base ≤ w.heap.size)
    (ad : Addr) (cap1 : Nat) {cs : List Value} {y : α} {fs : List Nat} (hx : a.eval x = .slice (some ad) 1 cap1) (hl : cs.length = c) (hnews : ∀ j u, cs[j]? = some u → w2.cell? (ad.add j) = some u) (h1 : ∀ u ∈ cs, u.oneCell' = true)
    (hr : R w2 cs y fs) (hnd : fs.Nodup) (hlo : ∀ b ∈ fs, w.heap.size ≤ b) (hhi : ∀ b ∈ fs, b < w2.heap.size) (h63 : xs.length + 1 ≤ maxLen) (hbytes : (xs.length + 1) * bytes ≤ 140737488355328)
    (h : ∀ g cap w3, GrowOwn T c R base w3 (.slice (some ⟨g, 0, none⟩) (xs.length + 1) cap) (xs ++ [y]) (bss ++ [fs]) (css ++ [cs]) → w2.grownBy w3 v.ownBlock → Below base w2 w3 → wpList P ops Q rest (a.put o.dst (.slice (some ⟨g, 0, none⟩) (xs.length + 1) cap)) w3) : wpList P ops Q (o :: rest) a w2 := by
  have hrow := hgr.2.2.2.1
  have hrow2 := (GrowOwn.stay hR hgr hs2 hk2).row
  refine wpList_append_own_at w2 hgd s x t ho base T i z c bytes ht hi hz hsize hby hzs hc v xs.length css.flatten hs hrow2 ad 1 cap1 cs hx (by simp [hl]) hnews h1 h63 hbytes (by omega) fun v' w3 hown hgrow hnil hat => ?_
  have hown' := hown
  rcases hown.2 with ⟨_, hn⟩ | ⟨g, cap, cur, rfl, _⟩
  · omega
  · refine h g cap w3 (GrowOwn.snocK hR hgr hs2 hk2 hbase hl hr hnd hlo hhi rfl hown' hgrow ?_) hgrow ((Below.refl _ _).grown hgrow (by omega) (fun k e => own_block2 hrow k e))
    rcases hat with q | q
    · exact Or.inl q.symm
    · right; simpa [Value.ownBlock] using q
end Go.Proofs.Ytbodeijffpepfaa
