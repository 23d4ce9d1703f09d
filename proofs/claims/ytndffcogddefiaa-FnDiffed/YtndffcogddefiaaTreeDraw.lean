/- Rows that grow while a reader draws. -/
import Derived.Test.YtndffcogddefiaaGrowOwn
import Derived.Test.YtndffcogddefiaaDrawsNum
import Derived.Test.YtndffcogddefiaaTrees
import Derived.Test.YtndffcogddefiaaTakeLit
namespace Go.Proofs.Ytndffcogddefiaa
open Go.RowKit Go.Deep
/-- one more; what lies from base on has stayed -/
theorem GrowOwn.snocK {α : Type} {T c : Nat} {R : World → List Value → α → List Nat → Prop} (hR : OwnStays R) {base : Nat} {w w2 w3 : World} {v : Value} {xs : List α} {bss : List (List Nat)} {css : List (List Value)} {x : α} {fs : List Nat} {cs : List Value} {g n1 cap : Nat}
    (h : GrowOwn T c R base w v xs bss css) (hs2 : w.heap.size ≤ w2.heap.size) (hk2 : ∀ b, base ≤ b → b < w.heap.size → w2.heap[b]? = w.heap[b]?) (hbase : base ≤ w.heap.size) (hcl : cs.length = c) (hr : R w2 cs x fs) (hnd : fs.Nodup) (hlo : ∀ b ∈ fs, w.heap.size ≤ b) (hhi : ∀ b ∈ fs, b < w2.heap.size)
    (hn1 : n1 = xs.length + 1) (hown : w3.ownsRow base T c (.slice (some ⟨g, 0, none⟩) n1 cap) n1 (css.flatten ++ cs)) (hgrow : w2.grownBy w3 v.ownBlock) (hat : v.ownBlock = some g ∨ g = w2.heap.size) :
    GrowOwn T c R base w3 (.slice (some ⟨g, 0, none⟩) n1 cap) (xs ++ [x]) (bss ++ [fs]) (css ++ [cs]) := by
  subst hn1
  have hrow := h.2.2.2.1
  obtain ⟨h1, h2, h3, h4, h5, h6, h7⟩ := h
  have hvlt := row_lt hrow
  have hfl : (bss ++ [fs]).flatten = bss.flatten ++ fs := by simp
  have keep : ∀ b, b < w2.heap.size → v.ownBlock ≠ some b → w3.heap[b]? = w2.heap[b]? := fun b q1 q2 => hgrow.block b q1 (fun e => q2 e.symm)
  have fsne : ∀ b ∈ fs, v.ownBlock ≠ some b := fun b q e => by have := hvlt b e; have := hlo b q; omega
  refine ⟨by simp [h1], by simp [h2], fun z hz => ?_, by simpa using hown, fun i q q1 q2 => ?_, ?_, fun b q => ?_⟩
  · rcases List.mem_append.1 hz with e | e
    · exact h3 z e
    · simp at e; subst e; exact hcl
  · by_cases e : i < xs.length
    · rw [List.getElem_append_left (by omega), List.getElem_append_left e, List.getElem_append_left (by omega)]
      refine hR _ _ _ _ _ (fun b hq => ?_) (h5 i e (by omega) (by omega))
      have hm := h7 b (flat_mem (by omega) hq)
      exact (keep b (by omega) hm.2.2).trans (hk2 b hm.1 hm.2.1)
    · have e' : i = xs.length := by simp at q; omega
      subst e'
      rw [List.getElem_append_right (by omega), List.getElem_append_right (Nat.le_refl _), List.getElem_append_right (by omega)]
      simp only [h1, h2, Nat.sub_self, List.getElem_cons_zero]
      exact hR _ _ _ _ _ (fun b hq => keep b (hhi b hq) (fsne b hq)) hr
  · rw [hfl]
    exact nodup_two (q := w.heap.size) h6 hnd (fun b q => (h7 b q).2.1) hlo
  · rw [hfl] at q
    have hs3 := hgrow.size
    rcases List.mem_append.1 q with e | e
    · have hm := h7 b e
      refine ⟨hm.1, by omega, fun q' => ?_⟩
      simp only [Value.ownBlock, Option.some.injEq] at q'
      rcases hat with k | k
      · exact hm.2.2 (by rw [k, q'])
      · omega
    · have l1 := hlo b e
      have l2 := hhi b e
      refine ⟨by omega, by omega, fun q' => ?_⟩
      simp only [Value.ownBlock, Option.some.injEq] at q'
      rcases hat with k | k
      · exact fsne b e (by rw [k, q'])
      · omega
/-- what lies from base on has stayed: so has the row -/
theorem GrowOwn.stay {α : Type} {T c : Nat} {R : World → List Value → α → List Nat → Prop} (hR : OwnStays R) {base : Nat} {w w' : World} {v : Value} {xs : List α} {bss : List (List Nat)} {css : List (List Value)} (h : GrowOwn T c R base w v xs bss css) (hs : w.heap.size ≤ w'.heap.size) (hk : ∀ b, base ≤ b → b < w.heap.size → w'.heap[b]? = w.heap[b]?) : GrowOwn T c R base w' v xs bss css := by
  obtain ⟨h1, h2, h3, h4, h5, h6, h7⟩ := h
  refine ⟨h1, h2, h3, ?_, fun j q q1 q2 => hR _ _ _ _ _ (fun b hq => hk b (h7 b (flat_mem q2 hq)).1 (h7 b (flat_mem q2 hq)).2.1) (h5 j q q1 q2), h6, fun b q => ⟨(h7 b q).1, by have := (h7 b q).2.1; omega, (h7 b q).2.2⟩⟩
  refine ⟨h4.1, ?_⟩
  rcases h4.2 with q | ⟨g', cap, cur, hv, hg', hh, r⟩
  · exact Or.inl q
  · have hlt : g' < w.heap.size := by
      rcases Nat.lt_or_ge g' w.heap.size with q | q
      · exact q
      · rw [Array.getElem?_eq_none q] at hh; cases hh
    exact Or.inr ⟨g', cap, cur, hv, hg', (hk g' hg' hlt).trans hh, r⟩
theorem GrowOwn.row {α : Type} {T c : Nat} {R : World → List Value → α → List Nat → Prop} {base : Nat} {w : World} {v : Value} {xs : List α} {bss : List (List Nat)} {css : List (List Value)} (h : GrowOwn T c R base w v xs bss css) : w.ownsRow base T c v xs.length css.flatten := h.2.2.2.1
theorem GrowOwn.form {α : Type} {T c : Nat} {R : World → List Value → α → List Nat → Prop} {base : Nat} {w : World} {v : Value} {xs : List α} {bss : List (List Nat)} {css : List (List Value)} (h : GrowOwn T c R base w v xs bss css) : ∃ a cap, v = .slice a xs.length cap := by
  rcases h.2.2.2.1.2 with ⟨q, hn⟩ | ⟨g, cap, cur, q, _⟩
  · exact ⟨none, 0, by rw [q, hn]⟩
  · exact ⟨_, _, q⟩
/-- one more behind a row that stands in a field of the block T, drawn by a reader g -/
theorem grow_fin {α : Type} {ET c : Nat} {R : World → List Value → α → List Nat → Prop} (hR : OwnStays R) {base T g n1 capn gg f BT nn cap : Nat} {a : Option Addr} {w wr w1 w3 : World} {o : Obj} {v : Value} {xs : List α} {bss : List (List Nat)} {css : List (List Value)} {x : α} {fs : List Nat} {cs tc : List Value}
    (hgr : GrowOwn ET c R base wr v xs bss css) (hg1 : wr.grownBy w1 (some g)) (hgT : g < T) (hTb : T < base) (hbw : base ≤ wr.heap.size)
    (hcl : cs.length = c) (hr : R w1 cs x fs) (hnd : fs.Nodup) (hlo : ∀ b ∈ fs, wr.heap.size ≤ b) (hhi : ∀ b ∈ fs, b < w1.heap.size) (hn1 : n1 = xs.length + 1)
    (hown : w3.ownsRow base ET c (.slice (some ⟨gg, 0, none⟩) n1 capn) n1 (css.flatten ++ cs)) (hgrow : (w1.alloc o).grownBy w3 v.ownBlock) (hat : v.ownBlock = some gg ∨ gg = (w1.alloc o).heap.size)
    (bT : Box wr T tc BT) (hrd : RdAt w1 g a nn cap) (hw : w.grownBy wr (some g)) (hwT : w.heap.size ≤ T) :
    GrowOwn ET c R base (w3.setCell ⟨T, f, none⟩ (.slice (some ⟨gg, 0, none⟩) n1 capn)) (.slice (some ⟨gg, 0, none⟩) n1 capn) (xs ++ [x]) (bss ++ [fs]) (css ++ [cs]) ∧
    Box (w3.setCell ⟨T, f, none⟩ (.slice (some ⟨gg, 0, none⟩) n1 capn)) T (tc.set f (.slice (some ⟨gg, 0, none⟩) n1 capn)) BT ∧ RdAt (w3.setCell ⟨T, f, none⟩ (.slice (some ⟨gg, 0, none⟩) n1 capn)) g a nn cap ∧
    w.grownBy (w3.setCell ⟨T, f, none⟩ (.slice (some ⟨gg, 0, none⟩) n1 capn)) (some g) ∧
    (∀ b, b < base → b ≠ g → b ≠ T → (w3.setCell ⟨T, f, none⟩ (.slice (some ⟨gg, 0, none⟩) n1 capn)).heap[b]? = wr.heap[b]?) ∧ base ≤ (w3.setCell ⟨T, f, none⟩ (.slice (some ⟨gg, 0, none⟩) n1 capn)).heap.size := by
  have s1 := hg1.size
  have s2 : w1.heap.size + 1 = (w1.alloc o).heap.size := by simp
  have s3 := hgrow.size
  have sw := hw.size
  have hal : ∀ b, b < w1.heap.size → (w1.alloc o).heap[b]? = w1.heap[b]? := fun b hb => Below.heap_alloc _ _ _ hb
  have hvb : ∀ k, v.ownBlock = some k → base ≤ k := by
    intro k e
    rcases hgr.row.2 with ⟨q, _⟩ | ⟨g', cap', cur, q, hb, _⟩
    · rw [q] at e; cases e
    · rw [q] at e; simp [Value.ownBlock] at e; omega
  have low : ∀ b, b < base → b ≠ g → w3.heap[b]? = wr.heap[b]? := fun b hb hne => by
    rw [hgrow.block b (by omega) (fun e => by have := hvb b e.symm; omega), hal b (by omega), hg1.block b (by omega) (fun e => hne (by injection e))]
  have lowg : ∀ b, b < base → w3.heap[b]? = w1.heap[b]? := fun b hb => by
    rw [hgrow.block b (by omega) (fun e => by have := hvb b e.symm; omega), hal b (by omega)]
  refine ⟨?_, ?_, ?_, ?_, ?_, ?_⟩
  · refine GrowOwn.set hR ?_ hTb
    refine GrowOwn.snocK hR (w2 := w1.alloc o) hgr (by omega) (fun b h1 h2 => ?_) hbw hcl (hR _ _ _ _ _ (fun b hb => hal b (hhi b hb)) hr) hnd hlo (fun b hb => by have := hhi b hb; omega) hn1 hown hgrow hat
    rw [hal b (by omega), hg1.block b h2 (fun e => by injection e; omega)]
  · exact Box.set ((low T hTb (by omega)).trans bT) _
  · exact hrd.keep (fun b hb => (set_other (by omega) _).trans (lowg b (by omega)))
  · refine ⟨hgrow.os.trans (hg1.os.trans hw.os), hgrow.tape.trans (hg1.tape.trans hw.tape), hgrow.output.trans (hg1.output.trans hw.output), by rw [set_size]; omega, fun b hb hne => ?_⟩
    rw [set_other (by omega), low b (by omega) (fun e => hne (by rw [e])), hw.block b hb hne]
  · intro b hb h1 h2
    rw [set_other h2, low b hb h1]
  · rw [set_size]; omega
theorem cell_grown {w w' : World} {b i : Nat} {v : Value} {r : Option Nat} (h : w.cell? ⟨b, i, none⟩ = some v) (hg : w.grownBy w' r) (hne : r ≠ some b) : w'.cell? ⟨b, i, none⟩ = some v := by
  rw [World.cell?_of_block (w := w) (w' := w') (hg.block b (World.block_lt_of_cell? _ _ h) (fun e => hne e.symm))]; exact h
theorem cell_alloc {w : World} {b i : Nat} {v : Value} (h : w.cell? ⟨b, i, none⟩ = some v) (o : Obj) : (w.alloc o).cell? ⟨b, i, none⟩ = some v := by
  rw [World.cell?_of_block (w := w) (w' := w.alloc o) (Below.heap_alloc _ _ _ (World.block_lt_of_cell? _ _ h))]; exact h
theorem cell_set {w : World} {b i T f : Nat} {v : Value} (h : w.cell? ⟨b, i, none⟩ = some v) (hne : b ≠ T) (u : Value) : (w.setCell ⟨T, f, none⟩ u).cell? ⟨b, i, none⟩ = some v := by
  rw [World.cell?_of_block (w := w) (set_other hne _)]; exact h
theorem own_ge {α : Type} {ET c : Nat} {R : World → List Value → α → List Nat → Prop} {base : Nat} {w : World} {v : Value} {xs : List α} {bss : List (List Nat)} {css : List (List Value)} (h : GrowOwn ET c R base w v xs bss css) : ∀ k, v.ownBlock = some k → base ≤ k := by
  intro k e
  rcases h.row.2 with ⟨q, _⟩ | ⟨g', cap', cur, q, hb, _⟩
  · rw [q] at e; cases e
  · rw [q] at e; simp [Value.ownBlock] at e; omega
end Go.Proofs.Ytndffcogddefiaa
namespace Go.Proofs.Ytndffcogddefiaa
open Go.RowKit Go.Deep
/-- a tree as data -/
abbrev TD : Type := DataW Unit
def mkT (s : ByteArray) (ks : List TD) : TD := .agg [.lit (.string s.data.toList), .slice ks []]
theorem mkT_tag (s : ByteArray) (ks : List TD) : tagOf (mkT s ks) = s.data.toList := rfl
theorem mkT_kids (s : ByteArray) (ks : List TD) : kidsOf (mkT s ks) = ks := rfl
def TreeOwn : Nat → World → List Value → TD → List Nat → Prop
  | 0, _, _, _, _ => False
  | n + 1, w, cs, x, fs => ∃ (s : ByteArray) (k : Value), cs = [.string s, k] ∧ s.size ≤ maxLen ∧ tagOf x = s.data.toList ∧ SeqOwn 2 (TreeOwn n) w k (kidsOf x) fs
theorem TreeOwn_stays : ∀ n, OwnStays (TreeOwn n) := by
  intro n
  induction n with
  | zero => intro w w' cs x fs _ h; exact h
  | succ n ih =>
    intro w w' cs x fs q h
    obtain ⟨s, k, e, h1, h2, h3⟩ := h
    exact ⟨s, k, e, h1, h2, h3.stays ih q⟩
theorem TreeOwn_lt : ∀ n, OwnLt (TreeOwn n) := by
  intro n
  induction n with
  | zero => intro w cs x fs h; exact h.elim
  | succ n ih =>
    intro w cs x fs h
    obtain ⟨s, k, e, h1, h2, h3⟩ := h
    exact h3.lt ih
/-- it lies there as the elder texts say -/
def TreeLies (n : Nat) (w : World) (lo : Nat) (cs : List Value) (x : TD) : Prop := ∃ t k, cs = [t, k] ∧ TreeAt w lo n t k x
theorem row_of_seq {n : Nat} {w : World} {lo : Nat} {k : Value} {xs : List TD} (h : SeqAt 2 (TreeLies n) w lo k xs) : RowAt (TreeAt w lo n) w lo k xs := by
  obtain ⟨a, cap, e, hm, hx⟩ := h
  refine ⟨a, cap, e, hm.1, fun h0 => ?_⟩
  obtain ⟨b, off, ha, h1, h2, hc⟩ := hx h0
  refine ⟨b, off, ha, h1, h2, fun i hi => ?_⟩
  obtain ⟨cs, hl, lie, t, k, rfl, r⟩ := hc i hi
  have z0 := lie 0 (by simp)
  have z1 := lie 1 (by simp)
  simp only [List.getElem?_cons_zero, List.getElem?_cons_succ, Nat.add_zero] at z0 z1
  refine ⟨t, k, z0, z1, ?_⟩
  have : nth xs i = xs[i] := by simp [nth, List.getD, List.getElem?_eq_getElem hi]
  rw [this]; exact r
theorem TreeOwn_at {lo : Nat} : ∀ (n : Nat) (w : World) (cs : List Value) (x : TD) (fs : List Nat), TreeOwn n w cs x fs → (∀ b ∈ fs, lo ≤ b) → TreeLies n w lo cs x := by
  intro n
  induction n with
  | zero => intro w cs x fs h _; exact h.elim
  | succ n ih =>
    intro w cs x fs h q
    obtain ⟨s, k, e, h1, h2, h3⟩ := h
    exact ⟨_, _, e, ⟨s, rfl, h1, h2⟩, row_of_seq (h3.at ih q)⟩
abbrev resT : List Value := [.string ⟨#[]⟩, .slice none 0 0]
/-- its kids are drawn -/
def KtSt (n : Nat) (w : World) (g : Nat) (a : Option Addr) (nn cap T base : Nat) (tag : ByteArray) (vk : Value) (xs : List TD) (wr : World) : Prop :=
  (∃ bss css, GrowOwn 26 2 (TreeOwn n) base wr vk xs bss css) ∧ Box wr T [.string tag, vk] 26 ∧ Box wr w.heap.size resT 26 ∧ RdAt wr g a nn cap ∧ w.grownBy wr (some g) ∧ base ≤ wr.heap.size ∧ g < w.heap.size ∧ w.heap.size < T ∧ T < base
theorem KtSt.grown {n : Nat} {w : World} {g : Nat} {a : Option Addr} {nn cap T base : Nat} {tag : ByteArray} {vk : Value} {xs : List TD} {wr w2 : World} (h : KtSt n w g a nn cap T base tag vk xs wr) (hg : wr.grownBy w2 (some g)) (hr : RdAt w2 g a nn cap) : KtSt n w g a nn cap T base tag vk xs w2 := by
  obtain ⟨⟨bss, css, h1⟩, h2, h4, h5, h6, h7, h8, h9, h10⟩ := h
  have s := hg.size
  exact ⟨⟨bss, css, h1.stay (TreeOwn_stays n) s (fun b q1 q2 => hg.block b q2 (fun e => by injection e; omega))⟩, box_other h2 (by omega) hg, box_other h4 (by omega) hg, hr, h6.trans hg, by omega, h8, h9, h10⟩
theorem KtSt.step {n : Nat} {w : World} {g : Nat} {a : Option Addr} {nn cap T base n1 capn gg : Nat} {tag : ByteArray} {vk : Value} {xs : List TD} {wr w1 w3 : World} {o : Obj} {x : TD} {cs : List Value} {fs : List Nat} {css : List (List Value)} {bss : List (List Nat)} (h : KtSt n w g a nn cap T base tag vk xs wr) (hgr : GrowOwn 26 2 (TreeOwn n) base wr vk xs bss css) (hg1 : wr.grownBy w1 (some g)) (hrd : RdAt w1 g a nn cap)
    (hr : TreeOwn n w1 cs x fs) (hnd : fs.Nodup) (hlo : ∀ b ∈ fs, wr.heap.size ≤ b) (hcl : cs.length = 2) (hn1 : n1 = xs.length + 1) (hown : w3.ownsRow base 26 2 (.slice (some ⟨gg, 0, none⟩) n1 capn) n1 (css.flatten ++ cs)) (hgrow : (w1.alloc o).grownBy w3 vk.ownBlock) (hat : vk.ownBlock = some gg ∨ gg = (w1.alloc o).heap.size) :
    KtSt n w g a nn cap T base tag (.slice (some ⟨gg, 0, none⟩) n1 capn) (xs ++ [x]) (w3.setCell ⟨T, 1, none⟩ (.slice (some ⟨gg, 0, none⟩) n1 capn)) := by
  obtain ⟨_, h2, h4, h5, h6, h7, h8, h9, h10⟩ := h
  obtain ⟨q1, q2, q3, q4, q5, q6⟩ := grow_fin (f := 1) (TreeOwn_stays n) hgr hg1 (by omega) (by omega) h7 hcl hr hnd hlo (TreeOwn_lt n _ _ _ _ hr) hn1 hown hgrow hat h2 hrd h6 (by omega)
  exact ⟨⟨_, _, q1⟩, q2, (q5 w.heap.size (by omega) (by omega) (by omega)).trans h4, q3, q4, q6, h8, h9, h10⟩
theorem KtSt.done {n : Nat} {w : World} {g : Nat} {a : Option Addr} {nn cap T base : Nat} {tag : ByteArray} {vk : Value} {xs : List TD} {wr w' : World} (h : KtSt n w g a nn cap T base tag vk xs wr) (ht : tag.size ≤ maxLen) (hk : ∀ b, b ≠ w.heap.size → w'.heap[b]? = wr.heap[b]?) (hs : wr.heap.size ≤ w'.heap.size) (ho : w'.os = wr.os ∧ w'.tape = wr.tape ∧ w'.output = wr.output) :
    ∃ (x : TD) (fs : List Nat), TreeOwn (n + 1) w' [.string tag, vk] x fs ∧ fs.Nodup ∧ (∀ b ∈ fs, w.heap.size + 1 ≤ b) ∧ RdAt w' g a nn cap ∧ w.grownBy w' (some g) := by
  obtain ⟨⟨bss, css, h1⟩, h2, h4, h5, h6, h7, h8, h9, h10⟩ := h
  obtain ⟨f3, q3, q3b⟩ := h1.done
  refine ⟨mkT tag xs, f3, ⟨tag, vk, rfl, ht, rfl, ?_⟩, q3.nodup, fun b q => by have := q3b b q; omega, h5.keep (fun b q => hk b (by omega)), ?_⟩
  · rw [mkT_kids]; exact q3.stays (TreeOwn_stays n) (fun b q => hk b (by have := q3b b q; omega))
  · exact ⟨ho.1.trans h6.os, ho.2.1.trans h6.tape, ho.2.2.trans h6.output, Nat.le_trans h6.size hs, fun b hb hne => (hk b (by omega)).trans (h6.block b hb hne)⟩
end Go.Proofs.Ytndffcogddefiaa
namespace Go.Proofs.Ytndffcogddefiaa
open Go.RowKit
theorem infoTr : ((Try.prog.info? 26).map fun i => (i.zero, i.bytes, i.size)) = some (some (.agg #[.string ByteArray.empty, .slice none 0 0]), 40, 2) := by kernel_rfl
def tags4 : List ByteArray := [⟨#[97]⟩, ⟨#[100, 105, 118]⟩, ⟨#[112]⟩, ⟨#[97, 98, 99, 100, 101, 102]⟩]
def DrT (n : Nat) : Prop := 1 ≤ n → n ≤ 5 → ∀ (w : World) (g : Nat) (a : Option Addr) (nn cap : Nat) (deep : Int), RdAt w g a nn cap → deep = 5 - (n : Int) →
  Calls Try.prog 41 #[.pointer (some ⟨g, 0, none⟩), .int .i64 deep] w fun e w' => ∃ (cs : List Value) (x : TD) (fs : List Nat), e = .returned (.agg cs.toArray) ∧ TreeOwn n w' cs x fs ∧ fs.Nodup ∧ (∀ b ∈ fs, w.heap.size + 1 ≤ b) ∧ RdAt w' g a nn cap ∧ w.grownBy w' (some g)
set_option maxRecDepth 100000 in
set_option maxHeartbeats 4000000 in
theorem drT_of (n : Nat) (hS : Hid (DrT n)) : DrT (n + 1) := by
  intro _ hn4 w g a nn cap deep hrd hdeep
  have hlt := hrd.lt
  have hrd' : Hid (RdAt w g a nn cap) := hrd
  have hdeep' : Hid (deep = 4 - (n : Int)) := by show _ = _; rw [hdeep]; omega
  have hd0 : 0 ≤ deep := by omega
  have hd9 : deep ≤ 5 := by omega
  have hn4' : Hid (n + 1 ≤ 5) := hn4
  have hwd : IntKind.i64.wrap (deep + 1) = deep + 1 := by rw [IntKind.wrap_i64]; omega
  clear hrd hdeep hn4
  obtain ⟨iT, hiT0, heT0⟩ := Option.map_eq_some_iff.1 infoTr
  simp only [Prod.mk.injEq] at heT0
  have hiT : Hid (Try.prog.info? 26 = some iT) := hiT0
  have heT : Hid (iT.zero = some (.agg #[.string ByteArray.empty, .slice none 0 0]) ∧ iT.bytes = 40 ∧ iT.size = 2) := heT0
  clear hiT0 heT0
  have hb0 : Hid (Below w.heap.size w ((w.alloc (.cells #[.string ⟨#[]⟩, .slice none 0 0] 26)).alloc (.cells (tags4.map Value.string).toArray 9))) := ((Below.refl _ _).alloc (Nat.le_refl _) _).alloc (by simp) _
  have bx0 : Hid (Box ((w.alloc (.cells #[.string ⟨#[]⟩, .slice none 0 0] 26)).alloc (.cells (tags4.map Value.string).toArray 9)) (w.heap.size + 1) (tags4.map Value.string) 9) := by have := Box.new (w.alloc (.cells #[.string ⟨#[]⟩, .slice none 0 0] 26)) (tags4.map Value.string) 9; simpa [Hid] using this
  have br0 : Hid (Box ((w.alloc (.cells #[.string ⟨#[]⟩, .slice none 0 0] 26)).alloc (.cells (tags4.map Value.string).toArray 9)) w.heap.size resT 26) := (Box.new w _ _).alloc _
  go_enter Try.func41, Try.ntmps41
  go_wp2_with fail
  refine (below_any (RdAt.below hrd'.out hb0.out) 4 (by omega) (by omega)).mono ?_
  rintro e w1 ⟨v, rfl, v0, v1, hr1, hg1⟩
  have hr1' : Hid (RdAt w1 g a nn cap) := hr1
  have hg1' : Hid (w.grownBy w1 (some g)) := (grown_of_below hb0.out _).trans hg1
  have hz1 : w.heap.size + 2 ≤ w1.heap.size := by have := hg1.size; simpa using this
  have br1 : Hid (Box w1 w.heap.size resT 26) := box_other br0.out (by omega) hg1
  have bx1 : Hid (Box w1 (w.heap.size + 1) (tags4.map Value.string) 9) := box_other bx0.out (by omega) hg1
  obtain ⟨k, rfl⟩ := Int.eq_ofNat_of_zero_le v0
  have hk : k < tags4.length := by show k < 4; omega
  have hc := box_str bx1.out k hk
  have hsz : Hid (tags4[k].size ≤ 6) := mem_le (by decide) k hk
  generalize tags4[k] = tag at hc hsz
  have hk4 : (k : Int) < 4 := by omega
  clear hr1 hg1
  go_wp2_with fail
  have hbA : Below w1.heap.size w1 (w1.alloc (.cells #[.string tag, .slice none 0 0] 26)) := (Below.refl _ _).alloc (Nat.le_refl _) _
  have hk0 : Hid (KtSt n w g a nn cap w1.heap.size (w1.heap.size + 1) tag (.slice none 0 0) [] (w1.alloc (.cells #[.string tag, .slice none 0 0] 26))) := ⟨⟨[], [], GrowOwn.nil⟩, Box.new w1 _ _, br1.out.alloc _, RdAt.below hr1'.out hbA, hg1'.out.trans (grown_of_below hbA _), by simp, hlt, by omega, by omega⟩
  refine (below_any hk0.out.2.2.2.1 4 (by omega) (by omega)).mono ?_
  rintro e w7 ⟨u, rfl, u0, u1, hr7, hg7⟩
  have hk7 : Hid (KtSt n w g a nn cap w1.heap.size (w1.heap.size + 1) tag (.slice none 0 0) [] w7) := KtSt.grown hk0.out hg7 hr7
  generalize hbase : w1.heap.size + 1 = base at hk7
  clear hbase hr7 hg7 hk0 hbA hc
  go_wp2_with fail
  go_loopw [6] (fun iv wr => ∃ (i : Int) (vk : Value) (xs : List TD), 0 ≤ i ∧ i ≤ u ∧ iv = .int .i64 i ∧ Hid ((xs.length : Int) ≤ u - i) ∧ Hid (KtSt n w g a nn cap w1.heap.size base tag vk xs wr)) (fun iv _ => (intOf iv).toNat)
  case atStart => exact ⟨u, .slice none 0 0, [], u0, by omega, rfl, by show ((0 : Nat) : Int) ≤ u - u; omega, hk7⟩
  case round =>
    obtain ⟨i, vk, xs, i0, i1, rfl, hxl, hst⟩ := hrel
    by_cases hi : 0 < i
    · by_cases hd : deep < 4
      · have hst2 : Hid (KtSt n w g a nn cap w1.heap.size base tag vk xs wr) := hst
        have hrd2 : Hid (RdAt wr g a nn cap) := hst.out.2.2.2.1
        generalize wr = w2 at *
        obtain ⟨⟨bss, css, hgr⟩, bTr0, _, _, _, hbs, hgw, hwT, hTb⟩ := id hst2.out
        obtain ⟨av, capv, rfl⟩ := hgr.form
        have bTr : Hid (Box w2 w1.heap.size [.string tag, .slice av xs.length capv] 26) := bTr0
        have hvb := own_ge hgr
        clear bTr0
        go_wp2_with fail
        refine wp_region_held_drew (S := fun w' => True) (by kernel_rfl) trivial (fun hHeld => ?_)
        refine tq (i := 0) (d := 23) ?_
        simp only [sz, ss]
        refine tq (i := 2) (d := 25) ?_
        simp only [sz, ss]
        refine tq (i := 3) (d := 26) ?_
        simp only [sz, ss]
        refine tq (i := 4) (d := 27) ?_
        simp only [sz, ss]
        refine wpAnyH_ready (rs := [1, 5]) (by kernel_rfl) (by simp) ?_
        refine (AllReadyH.cons rfl (fun K hK => ?_) (AllReadyH.cons rfl (fun K hK => ?_) AllReadyH.nil))
        · have cT : w2.drew.cell? ⟨w1.heap.size, 1, none⟩ = some (.slice av xs.length capv) := bTr.out.cell 1 rfl
          go_simp
          clear cT
          refine hK.out _ _ trivial (fun hHeld => ?_)
          clear hK K
          refine wpAnyH_ready (rs := [5]) (by kernel_rfl) (by simp) ?_
          refine AllReadyH.cons rfl (fun K hK => ?_) AllReadyH.nil
          go_simp
          refine (hS.out (by have := hdeep'.out; omega) (by have := hn4'.out; omega) _ g a nn cap (deep + 1) (by exact hrd2.out) (by have := hdeep'.out; omega)).mono ?_
          rintro e w4 ⟨csk, xk, fsk, rfl, hok, hndk, hlok, hr4, hg4⟩
          obtain ⟨kt, b3, l3, c3, rfl⟩ : ∃ (kt : ByteArray) (b3 : Option Addr) (l3 c3 : Nat), csk = [.string kt, .slice b3 l3 c3] := by cases n with | zero => exact hok.elim | succ n => (obtain ⟨s, k, e, _, _, h3⟩ := hok; obtain ⟨y1, y2, y3⟩ := h3.form; exact ⟨s, y1, _, y2, by rw [e, y3]⟩)
          have hok' : Hid (TreeOwn n w4 _ xk fsk) := hok
          have hndk' : Hid (fsk.Nodup) := hndk
          have hlok' : Hid (∀ b ∈ fsk, w2.heap.size ≤ b) := fun b hb => Nat.le_of_succ_le (hlok b hb)
          clear hok hndk hlok
          have hg4' : Hid (w2.grownBy w4 (some g)) := ⟨hg4.os, hg4.tape, hg4.output, hg4.size, hg4.block⟩
          have hr4' : Hid (RdAt w4 g a nn cap) := hr4
          have bT4 : Hid (Box w4 (w1.heap.size) [.string tag, .slice av xs.length capv] 26) := box_other bTr.out (by omega) hg4'.out
          have hz4 := hg4'.out.size
          clear hg4 hr4
          refine hK.out _ _ trivial (fun hHeld => ?_)
          clear hK K
          refine wpAnyH_ready (rs := [6]) (by kernel_rfl) (by simp) ?_
          refine AllReadyH.cons rfl (fun K hK => ?_) AllReadyH.nil
          go_simp
          refine hK.out _ _ trivial (fun hHeld => ?_)
          clear hK K
          refine wpAnyH_ready (rs := [7]) (by kernel_rfl) (by simp) ?_
          refine AllReadyH.cons rfl (fun K hK => ?_) AllReadyH.nil
          refine step_append_lies (w4.alloc (.cells #[.string kt, .slice b3 l3 c3] 26)) rfl _ _ 24 rfl _ 26 iT _ 2 40 Try.underlying24 hiT.out heT.out.1 heT.out.2.2 heT.out.2.1 rfl (by decide) (.slice av xs.length capv) xs.length css.flatten rfl ((GrowOwn.stay (TreeOwn_stays n) hgr (w' := (w4.alloc (.cells #[.string kt, .slice b3 l3 c3] 26))) (by simp; omega) (fun b q1 q2 => by rw [Below.heap_alloc _ _ _ (by omega), hg4'.out.block b q2 (fun e => by injection e with e; omega)])).row) ⟨w4.heap.size, 0, none⟩ 1 1 [.string kt, .slice b3 l3 c3] rfl rfl (by intro i u hu; match i, hu with | 0, hu => (simp at hu; subst hu; simp [Addr.add]) | 1, hu => (simp at hu; subst hu; simp [Addr.add]) | i + 2, hu => simp at hu) (by intro u hu; simp at hu; rcases hu with rfl | rfl <;> rfl) (by omega) (by have := hxl.out; unfold maxLen; omega) (by have := hxl.out; omega) (by simp; omega) _ rfl ?_
          intro g3 capg w5 hown5 hgrow5 hat5 hlt5
          have bT5 : Hid (Box w5 (w1.heap.size) [.string tag, .slice av xs.length capv] 26) := (hgrow5.block (w1.heap.size) (by simp; omega) (by intro e; have := hvb _ e.symm; omega)).trans (bT4.out.alloc _)
          go_simp
          refine hK.out _ _ trivial (fun hHeld => ?_)
          clear hK K
          refine tq (i := 8) (d := 31) ?_
          simp only [sz, ss]
          refine wpAnyH_ready (rs := [9]) (by kernel_rfl) (by simp) ?_
          refine AllReadyH.cons rfl (fun K hK => ?_) AllReadyH.nil
          have cT5 := bT5.out.cell 1 rfl
          have fT5 := bT5.out.unfrozen 1
          go_simp
          refine hK.out _ _ trivial (fun hHeld => ?_)
          clear hK K
          refine wpAnyH_done (by kernel_rfl) ?_ _
          have hst4 : Hid (KtSt n w g a nn cap w1.heap.size base tag _ _ _) := KtSt.step hst2.out hgr hg4'.out hr4'.out hok'.out hndk'.out hlok'.out rfl rfl hown5 hgrow5 hat5
          go_wp2_with fail
          go_roundw
          case rel => exact ⟨i - 1, _, xs ++ [_], by omega, by omega, by go_num, by show _ ≤ _; have := hxl.out; simp; omega, hst4⟩
          case measure => simp [intOf]; omega
        · go_simp
          refine (hS.out (by have := hdeep'.out; omega) (by have := hn4'.out; omega) _ g a nn cap (deep + 1) (by exact hrd2.out) (by have := hdeep'.out; omega)).mono ?_
          rintro e w4 ⟨csk, xk, fsk, rfl, hok, hndk, hlok, hr4, hg4⟩
          obtain ⟨kt, b3, l3, c3, rfl⟩ : ∃ (kt : ByteArray) (b3 : Option Addr) (l3 c3 : Nat), csk = [.string kt, .slice b3 l3 c3] := by cases n with | zero => exact hok.elim | succ n => (obtain ⟨s, k, e, _, _, h3⟩ := hok; obtain ⟨y1, y2, y3⟩ := h3.form; exact ⟨s, y1, _, y2, by rw [e, y3]⟩)
          have hok' : Hid (TreeOwn n w4 _ xk fsk) := hok
          have hndk' : Hid (fsk.Nodup) := hndk
          have hlok' : Hid (∀ b ∈ fsk, w2.heap.size ≤ b) := fun b hb => Nat.le_of_succ_le (hlok b hb)
          clear hok hndk hlok
          have hg4' : Hid (w2.grownBy w4 (some g)) := ⟨hg4.os, hg4.tape, hg4.output, hg4.size, hg4.block⟩
          have hr4' : Hid (RdAt w4 g a nn cap) := hr4
          have bT4 : Hid (Box w4 (w1.heap.size) [.string tag, .slice av xs.length capv] 26) := box_other bTr.out (by omega) hg4'.out
          have hz4 := hg4'.out.size
          clear hg4 hr4
          refine hK.out _ _ trivial (fun hHeld => ?_)
          clear hK K
          refine wpAnyH_ready (rs := [1, 6]) (by kernel_rfl) (by simp) ?_
          refine (AllReadyH.cons rfl (fun K hK => ?_) (AllReadyH.cons rfl (fun K hK => ?_) AllReadyH.nil))
          · have cT : w4.cell? ⟨w1.heap.size, 1, none⟩ = some (.slice av xs.length capv) := bT4.out.cell 1 rfl
            go_simp
            clear cT
            refine hK.out _ _ trivial (fun hHeld => ?_)
            clear hK K
            refine wpAnyH_ready (rs := [6]) (by kernel_rfl) (by simp) ?_
            refine AllReadyH.cons rfl (fun K hK => ?_) AllReadyH.nil
            go_simp
            refine hK.out _ _ trivial (fun hHeld => ?_)
            clear hK K
            refine wpAnyH_ready (rs := [7]) (by kernel_rfl) (by simp) ?_
            refine AllReadyH.cons rfl (fun K hK => ?_) AllReadyH.nil
            refine step_append_lies (w4.alloc (.cells #[.string kt, .slice b3 l3 c3] 26)) rfl _ _ 24 rfl _ 26 iT _ 2 40 Try.underlying24 hiT.out heT.out.1 heT.out.2.2 heT.out.2.1 rfl (by decide) (.slice av xs.length capv) xs.length css.flatten rfl ((GrowOwn.stay (TreeOwn_stays n) hgr (w' := (w4.alloc (.cells #[.string kt, .slice b3 l3 c3] 26))) (by simp; omega) (fun b q1 q2 => by rw [Below.heap_alloc _ _ _ (by omega), hg4'.out.block b q2 (fun e => by injection e with e; omega)])).row) ⟨w4.heap.size, 0, none⟩ 1 1 [.string kt, .slice b3 l3 c3] rfl rfl (by intro i u hu; match i, hu with | 0, hu => (simp at hu; subst hu; simp [Addr.add]) | 1, hu => (simp at hu; subst hu; simp [Addr.add]) | i + 2, hu => simp at hu) (by intro u hu; simp at hu; rcases hu with rfl | rfl <;> rfl) (by omega) (by have := hxl.out; unfold maxLen; omega) (by have := hxl.out; omega) (by simp; omega) _ rfl ?_
            intro g3 capg w5 hown5 hgrow5 hat5 hlt5
            have bT5 : Hid (Box w5 (w1.heap.size) [.string tag, .slice av xs.length capv] 26) := (hgrow5.block (w1.heap.size) (by simp; omega) (by intro e; have := hvb _ e.symm; omega)).trans (bT4.out.alloc _)
            go_simp
            refine hK.out _ _ trivial (fun hHeld => ?_)
            clear hK K
            refine tq (i := 8) (d := 31) ?_
            simp only [sz, ss]
            refine wpAnyH_ready (rs := [9]) (by kernel_rfl) (by simp) ?_
            refine AllReadyH.cons rfl (fun K hK => ?_) AllReadyH.nil
            have cT5 := bT5.out.cell 1 rfl
            have fT5 := bT5.out.unfrozen 1
            go_simp
            refine hK.out _ _ trivial (fun hHeld => ?_)
            clear hK K
            refine wpAnyH_done (by kernel_rfl) ?_ _
            have hst4 : Hid (KtSt n w g a nn cap w1.heap.size base tag _ _ _) := KtSt.step hst2.out hgr hg4'.out hr4'.out hok'.out hndk'.out hlok'.out rfl rfl hown5 hgrow5 hat5
            go_wp2_with fail
            go_roundw
            case rel => exact ⟨i - 1, _, xs ++ [_], by omega, by omega, by go_num, by show _ ≤ _; have := hxl.out; simp; omega, hst4⟩
            case measure => simp [intOf]; omega
          · go_simp
            refine hK.out _ _ trivial (fun hHeld => ?_)
            clear hK K
            refine wpAnyH_ready (rs := [1]) (by kernel_rfl) (by simp) ?_
            refine AllReadyH.cons rfl (fun K hK => ?_) AllReadyH.nil
            have cT : (w4.alloc (.cells #[.string kt, .slice b3 l3 c3] 26)).cell? ⟨w1.heap.size, 1, none⟩ = some (.slice av xs.length capv) := (bT4.out.alloc _).cell 1 rfl
            go_simp
            clear cT
            refine hK.out _ _ trivial (fun hHeld => ?_)
            clear hK K
            refine wpAnyH_ready (rs := [7]) (by kernel_rfl) (by simp) ?_
            refine AllReadyH.cons rfl (fun K hK => ?_) AllReadyH.nil
            refine step_append_lies (w4.alloc (.cells #[.string kt, .slice b3 l3 c3] 26)) rfl _ _ 24 rfl _ 26 iT _ 2 40 Try.underlying24 hiT.out heT.out.1 heT.out.2.2 heT.out.2.1 rfl (by decide) (.slice av xs.length capv) xs.length css.flatten rfl ((GrowOwn.stay (TreeOwn_stays n) hgr (w' := (w4.alloc (.cells #[.string kt, .slice b3 l3 c3] 26))) (by simp; omega) (fun b q1 q2 => by rw [Below.heap_alloc _ _ _ (by omega), hg4'.out.block b q2 (fun e => by injection e with e; omega)])).row) ⟨w4.heap.size, 0, none⟩ 1 1 [.string kt, .slice b3 l3 c3] rfl rfl (by intro i u hu; match i, hu with | 0, hu => (simp at hu; subst hu; simp [Addr.add]) | 1, hu => (simp at hu; subst hu; simp [Addr.add]) | i + 2, hu => simp at hu) (by intro u hu; simp at hu; rcases hu with rfl | rfl <;> rfl) (by omega) (by have := hxl.out; unfold maxLen; omega) (by have := hxl.out; omega) (by simp; omega) _ rfl ?_
            intro g3 capg w5 hown5 hgrow5 hat5 hlt5
            have bT5 : Hid (Box w5 (w1.heap.size) [.string tag, .slice av xs.length capv] 26) := (hgrow5.block (w1.heap.size) (by simp; omega) (by intro e; have := hvb _ e.symm; omega)).trans (bT4.out.alloc _)
            go_simp
            refine hK.out _ _ trivial (fun hHeld => ?_)
            clear hK K
            refine tq (i := 8) (d := 31) ?_
            simp only [sz, ss]
            refine wpAnyH_ready (rs := [9]) (by kernel_rfl) (by simp) ?_
            refine AllReadyH.cons rfl (fun K hK => ?_) AllReadyH.nil
            have cT5 := bT5.out.cell 1 rfl
            have fT5 := bT5.out.unfrozen 1
            go_simp
            refine hK.out _ _ trivial (fun hHeld => ?_)
            clear hK K
            refine wpAnyH_done (by kernel_rfl) ?_ _
            have hst4 : Hid (KtSt n w g a nn cap w1.heap.size base tag _ _ _) := KtSt.step hst2.out hgr hg4'.out hr4'.out hok'.out hndk'.out hlok'.out rfl rfl hown5 hgrow5 hat5
            go_wp2_with fail
            go_roundw
            case rel => exact ⟨i - 1, _, xs ++ [_], by omega, by omega, by go_num, by show _ ≤ _; have := hxl.out; simp; omega, hst4⟩
            case measure => simp [intOf]; omega
      · obtain ⟨⟨bss, css, hgr⟩, bT8, br8, _, _, hbs, hgw, hwT, hTb⟩ := id hst.out
        obtain ⟨av, capv, rfl⟩ := hgr.form
        have r0 := br8.cell 0 rfl
        have r1 := br8.cell 1 rfl
        have fR := br8.unfrozen
        have c0 := bT8.cell 0 rfl
        have c1 := bT8.cell 1 rfl
        have hne : ¬ w1.heap.size = w.heap.size := by omega
        have htm : Hid (tag.size ≤ maxLen) := by show _ ≤ _; have := hsz.out; unfold maxLen; omega
        clear bT8 br8 hgr
        go_wp2_with fail
        obtain ⟨x, fs, q1, q2, q3, q4, q5⟩ := KtSt.done (w' := putCells wr w.heap.size 0 [.string tag, .slice av xs.length capv]) hst.out htm.out (fun b h2 => putCells_other _ _ _ _ _ h2) (by rw [putCells_size]; exact Nat.le_refl _) ⟨rfl, rfl, rfl⟩
        exact bodyPost_ret (v := .agg (List.toArray [.string tag, .slice av xs.length capv])) (by simp [results, Try.results41, go_sem, r0, r1]) rfl ⟨_, rfl, x, fs, q1, q2, q3, q4, q5⟩
    · obtain ⟨⟨bss, css, hgr⟩, bT8, br8, _, _, hbs, hgw, hwT, hTb⟩ := id hst.out
      obtain ⟨av, capv, rfl⟩ := hgr.form
      have r0 := br8.cell 0 rfl
      have r1 := br8.cell 1 rfl
      have fR := br8.unfrozen
      have c0 := bT8.cell 0 rfl
      have c1 := bT8.cell 1 rfl
      have hne : ¬ w1.heap.size = w.heap.size := by omega
      have htm : Hid (tag.size ≤ maxLen) := by show _ ≤ _; have := hsz.out; unfold maxLen; omega
      clear bT8 br8 hgr
      go_wp2_with fail
      obtain ⟨x, fs, q1, q2, q3, q4, q5⟩ := KtSt.done (w' := putCells wr w.heap.size 0 [.string tag, .slice av xs.length capv]) hst.out htm.out (fun b h2 => putCells_other _ _ _ _ _ h2) (by rw [putCells_size]; exact Nat.le_refl _) ⟨rfl, rfl, rfl⟩
      exact bodyPost_ret (v := .agg (List.toArray [.string tag, .slice av xs.length capv])) (by simp [results, Try.results41, go_sem, r0, r1]) rfl ⟨_, rfl, x, fs, q1, q2, q3, q4, q5⟩
theorem drT_all : ∀ n, DrT n := by
  intro n
  induction n with
  | zero => intro h; omega
  | succ n ih => exact drT_of n ih
end Go.Proofs.Ytndffcogddefiaa
