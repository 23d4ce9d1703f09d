/- Trees that own their memory, level by level, and lie there. -/
import Derived.Test.YtpmmekfgcapdgaaRtSt
namespace Go.Proofs.Ytpmmekfgcapdgaa
open Go.RowKit Go.Deep
def TreeOwn : Nat → World → List Value → TD → List Nat → Prop
  | 0, _, _, _, _ => False
  | n + 1, w, cs, x, fs => ∃ (s : ByteArray) (k : Value), cs = [.string s, k] ∧ s.size ≤ maxLen ∧ tagOf x = s.data.toList ∧ SeqOwn 2 (TreeOwn n) w k (kidsOf x) fs
theorem TreeOwn_stays : ∀ n, OwnStays (TreeOwn n) := by
  intro n
  induction n with
  | zero => intro w w' cs x fs _ h; exact h
  | succ n ih =>
    intro w w' cs x fs q h
    obtain ⟨s, k, e, h1, h2, h3⟩ := h
    exact ⟨s, k, e, h1, h2, h3.stays ih q⟩
theorem TreeOwn_lt : ∀ n, OwnLt (TreeOwn n) := by
  intro n
  induction n with
  | zero => intro w cs x fs h; exact h.elim
  | succ n ih =>
    intro w cs x fs h
    obtain ⟨s, k, e, h1, h2, h3⟩ := h
    exact h3.lt ih
/-- it lies there as the elder texts say -/
def TreeLies (n : Nat) (w : World) (lo : Nat) (cs : List Value) (x : TD) : Prop := ∃ t k, cs = [t, k] ∧ TreeAt w lo n t k x
theorem row_of_seq {n : Nat} {w : World} {lo : Nat} {k : Value} {xs : List TD} (h : SeqAt 2 (TreeLies n) w lo k xs) : RowAt (TreeAt w lo n) w lo k xs := by
  obtain ⟨a, cap, e, hm, hx⟩ := h
  refine ⟨a, cap, e, hm.1, fun h0 => ?_⟩
  obtain ⟨b, off, ha, h1, h2, hc⟩ := hx h0
  refine ⟨b, off, ha, h1, h2, fun i hi => ?_⟩
  obtain ⟨cs, hl, lie, t, k, rfl, r⟩ := hc i hi
  have z0 := lie 0 (by simp)
  have z1 := lie 1 (by simp)
  simp only [List.getElem?_cons_zero, List.getElem?_cons_succ, Nat.add_zero] at z0 z1
  refine ⟨t, k, z0, z1, ?_⟩
  have : nth xs i = xs[i] := by simp [nth, List.getD, List.getElem?_eq_getElem hi]
  rw [this]; exact r
theorem TreeOwn_at {lo : Nat} : ∀ (n : Nat) (w : World) (cs : List Value) (x : TD) (fs : List Nat), TreeOwn n w cs x fs → (∀ b ∈ fs, lo ≤ b) → TreeLies n w lo cs x := by
  intro n
  induction n with
  | zero => intro w cs x fs h _; exact h.elim
  | succ n ih =>
    intro w cs x fs h q
    obtain ⟨s, k, e, h1, h2, h3⟩ := h
    exact ⟨_, _, e, ⟨s, rfl, h1, h2⟩, row_of_seq (h3.at ih q)⟩
/-- its kids are drawn -/
def KtSt (n : Nat) (w : World) (g : Nat) (a : Option Addr) (nn cap T base : Nat) (tag : ByteArray) (vk : Value) (xs : List TD) (wr : World) : Prop :=
  (∃ bss css, GrowOwn 26 2 (TreeOwn n) base wr vk xs bss css) ∧ Box wr T [.string tag, vk] 26 ∧ Box wr w.heap.size resT 26 ∧ RdAt wr g a nn cap ∧ w.grownBy wr (some g) ∧ base ≤ wr.heap.size ∧ g < w.heap.size ∧ w.heap.size < T ∧ T < base
theorem KtSt.grown {n : Nat} {w : World} {g : Nat} {a : Option Addr} {nn cap T base : Nat} {tag : ByteArray} {vk : Value} {xs : List TD} {wr w2 : World} (h : KtSt n w g a nn cap T base tag vk xs wr) (hg : wr.grownBy w2 (some g)) (hr : RdAt w2 g a nn cap) : KtSt n w g a nn cap T base tag vk xs w2 := by
  obtain ⟨⟨bss, css, h1⟩, h2, h4, h5, h6, h7, h8, h9, h10⟩ := h
  have s := hg.size
  exact ⟨⟨bss, css, h1.stay (TreeOwn_stays n) s (fun b q1 q2 => hg.block b q2 (fun e => by injection e; omega))⟩, box_other h2 (by omega) hg, box_other h4 (by omega) hg, hr, h6.trans hg, by omega, h8, h9, h10⟩
theorem KtSt.step {n : Nat} {w : World} {g : Nat} {a : Option Addr} {nn cap T base n1 capn gg : Nat} {tag : ByteArray} {vk : Value} {xs : List TD} {wr w1 w3 : World} {o : Obj} {x : TD} {cs : List Value} {fs : List Nat} {css : List (List Value)} {bss : List (List Nat)} (h : KtSt n w g a nn cap T base tag vk xs wr) (hgr : GrowOwn 26 2 (TreeOwn n) base wr vk xs bss css) (hg1 : wr.grownBy w1 (some g)) (hrd : RdAt w1 g a nn cap)
    (hr : TreeOwn n w1 cs x fs) (hnd : fs.Nodup) (hlo : ∀ b ∈ fs, wr.heap.size ≤ b) (hcl : cs.length = 2) (hn1 : n1 = xs.length + 1) (hown : w3.ownsRow base 26 2 (.slice (some ⟨gg, 0, none⟩) n1 capn) n1 (css.flatten ++ cs)) (hgrow : (w1.alloc o).grownBy w3 vk.ownBlock) (hat : vk.ownBlock = some gg ∨ gg = (w1.alloc o).heap.size) :
    KtSt n w g a nn cap T base tag (.slice (some ⟨gg, 0, none⟩) n1 capn) (xs ++ [x]) (w3.setCell ⟨T, 1, none⟩ (.slice (some ⟨gg, 0, none⟩) n1 capn)) := by
  obtain ⟨_, h2, h4, h5, h6, h7, h8, h9, h10⟩ := h
  obtain ⟨q1, q2, q3, q4, q5, q6⟩ := grow_fin (f := 1) (TreeOwn_stays n) hgr hg1 (by omega) (by omega) h7 hcl hr hnd hlo (TreeOwn_lt n _ _ _ _ hr) hn1 hown hgrow hat h2 hrd h6 (by omega)
  exact ⟨⟨_, _, q1⟩, q2, (q5 w.heap.size (by omega) (by omega) (by omega)).trans h4, q3, q4, q6, h8, h9, h10⟩
theorem KtSt.done {n : Nat} {w : World} {g : Nat} {a : Option Addr} {nn cap T base : Nat} {tag : ByteArray} {vk : Value} {xs : List TD} {wr w' : World} (h : KtSt n w g a nn cap T base tag vk xs wr) (ht : tag.size ≤ maxLen) (hk : ∀ b, b ≠ w.heap.size → w'.heap[b]? = wr.heap[b]?) (hs : wr.heap.size ≤ w'.heap.size) (ho : w'.os = wr.os ∧ w'.tape = wr.tape ∧ w'.output = wr.output) :
    ∃ (x : TD) (fs : List Nat), TreeOwn (n + 1) w' [.string tag, vk] x fs ∧ fs.Nodup ∧ (∀ b ∈ fs, w.heap.size + 1 ≤ b) ∧ RdAt w' g a nn cap ∧ w.grownBy w' (some g) := by
  obtain ⟨⟨bss, css, h1⟩, h2, h4, h5, h6, h7, h8, h9, h10⟩ := h
  obtain ⟨f3, q3, q3b⟩ := h1.done
  refine ⟨mkT tag xs, f3, ⟨tag, vk, rfl, ht, rfl, ?_⟩, q3.nodup, fun b q => by have := q3b b q; omega, h5.keep (fun b q => hk b (by omega)), ?_⟩
  · rw [mkT_kids]; exact q3.stays (TreeOwn_stays n) (fun b q => hk b (by have := q3b b q; omega))
  · exact ⟨ho.1.trans h6.os, ho.2.1.trans h6.tape, ho.2.2.trans h6.output, Nat.le_trans h6.size hs, fun b hb hne => (hk b (by omega)).trans (h6.block b hb hne)⟩
end Go.Proofs.Ytpmmekfgcapdgaa
