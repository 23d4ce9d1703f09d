/- One more at the end of a row that grows, in a region that draws. -/
import Derived.Test.YtndffcogddefiaaGrowAppB
import Derived.Test.YtndffcogddefiaaDfPlain
import Derived.Test.YtndffcogddefiaaPathTo
import Derived.Deep.RegionLaw
namespace Go.Proofs.Ytndffcogddefiaa
open Go.RowKit Go.Deep
theorem step_append_grow {α : Type} {P : Program} {ops : Array Oper} {o : Oper} {a : Act} {K : Act → World → Prop} {Q : Exit → Act → World → Prop} {E : Prop} {T c : Nat} {R : World → List Value → α → List Nat → Prop} (hR : OwnStays R) (hgd : o.guard = none) (s x : Operand) (t : TypeId)
    (ho : o.op = .call { callee := .builtin .append, args := #[s, x], argTypes := #[t, t] }) (base : Nat) (i : TypeInfo) (z : Value) (bytes : Nat) (ht : P.underlying t = some (.slice T)) (hi : P.info? T = some i) (hz : i.zero = some z) (hsize : i.size = c) (hby : i.bytes = bytes) (hzs : z.cells.size = c) (hc : 0 < c)
    {w w2 : World} {v : Value} {xs : List α} {bss : List (List Nat)} {css : List (List Value)} (hs : a.eval s = v) (hgr : GrowOwn T c R base w v xs bss css) (hb2 : Below w.heap.size w w2) (hbase : base ≤ w.heap.size)
    (ad : Addr) (cap1 : Nat) {cs : List Value} {y : α} {fs : List Nat} (hx : a.eval x = .slice (some ad) 1 cap1) (hl : cs.length = c) (hnews : ∀ j u, cs[j]? = some u → w2.cell? (ad.add j) = some u) (h1 : ∀ u ∈ cs, u.oneCell' = true)
    (hr : R w2 cs y fs) (hnd : fs.Nodup) (hlo : ∀ b ∈ fs, w.heap.size ≤ b) (hhi : ∀ b ∈ fs, b < w2.heap.size) (h63 : xs.length + 1 ≤ maxLen) (hbytes : (xs.length + 1) * bytes ≤ 140737488355328)
    (h : ∀ g cap w3, GrowOwn T c R base w3 (.slice (some ⟨g, 0, none⟩) (xs.length + 1) cap) (xs ++ [y]) (bss ++ [fs]) (css ++ [cs]) → w2.grownBy w3 v.ownBlock → Below base w2 w3 → (v.ownBlock = some g ∨ g = w2.heap.size) → K (a.put o.dst (.slice (some ⟨g, 0, none⟩) (xs.length + 1) cap)) w3) : if Region.wanted o (yielded ops a.tmps) = true then Oper.wp P o a w2 K Q else E := by
  rw [if_pos (by simp [Region.wanted, hgd])]
  have hrow := hgr.2.2.2.1
  have hs2 := hb2.size
  obtain ⟨v', w3, hrun, hown, hgrow, hnil, hat⟩ := run_append_own_at (P := P) w2 base t o.type T i z c bytes ht hi hz hsize hby hzs hc v xs.length css.flatten (row_below hrow hb2) ad 1 cap1 cs (by simp [hl]) hnews h1 h63 hbytes (by omega)
  have hown' := hown
  rcases hown.2 with ⟨_, hn⟩ | ⟨g, cap, cur, rfl, _⟩
  · omega
  · have hat' : v.ownBlock = some g ∨ g = w2.heap.size := by
      rcases hat with q | q
      · exact Or.inl q.symm
      · right; simpa [Value.ownBlock] using q
    unfold Oper.wp
    simp [execOp, ho, resolve, invoke, builtin, hs, hx, hrun, Result.andThen]
    exact h g cap w3 (GrowOwn.snoc hR hgr hb2 hbase hl hr hnd hlo hhi rfl hown' hgrow hat') hgrow ((Below.refl _ _).grown hgrow (by omega) (fun k e => own_block2 hrow k e)) hat'
theorem infoEdF : ((Try.prog.info? 29).map fun i => (i.zero, i.size, i.bytes)) = some (some (.agg #[.int .i64 0, .slice none 0 0, .string ByteArray.empty, .string ByteArray.empty, .slice none 0 0]), 5, 88) := by kernel_rfl
/-- what stands in memory behind a call that told some edits more -/
def DfAns (base m : Nat) (w w' : World) (vout : Value) (e : Ending) (ys : List EditD) : Prop := ∃ (v : Value) (bss : List (List Nat)) (css : List (List Value)), e = .returned v ∧ GrowOwn 29 5 (EditO m) base w' v ys bss css ∧ w.grownBy w' vout.ownBlock ∧ (v.ownBlock = vout.ownBlock ∨ ∃ g, v.ownBlock = some g ∧ w.heap.size ≤ g)
def GrI (w0 : World) (lo base m : Nat) (n : Nat) : Prop := ∀ (w wg : World) (ta ka tb kb kp vout : Value) (a b : TD) (p : List Int) (fp : List Nat) (xs : List EditD) (bss : List (List Nat)) (css : List (List Value)), TreeAt w0 lo n ta ka a → TreeAt w0 lo n tb kb b → RightT b → Below w0.heap.size w0 w → w0.heap.size ≤ base → base ≤ wg.heap.size → n ≤ m →
    GrowOwn 29 5 (EditO m) base wg vout xs bss css → Below wg.heap.size wg w → SeqOwn 1 IntOwn w kp p fp → (∀ x ∈ fp, wg.heap.size ≤ x) → p.length + cntTree (n + 1) b ≤ 100000 → xs.length + cntTree (n + 1) b ≤ 100000 →
    Calls Try.prog 45 #[vout, kp, .agg #[ta, ka], .agg #[tb, kb]] w fun e w' => DfAns base m w w' vout e (xs ++ growD n a b p)
end Go.Proofs.Ytndffcogddefiaa
