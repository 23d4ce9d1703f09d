/- What lies in memory while a mark is drawn: its attributes, then its kids. -/
import Derived.Test.YtlcddndpfhdakaaDoorMarkOwn
namespace Go.Proofs.YtlcddndpfhdakaaDoor
open Go.RowKit
abbrev resC : List Value := [.string ⟨#[]⟩, .string ⟨#[]⟩, .slice none 0 0, .slice none 0 0]
def names3 : List ByteArray := [⟨#[99, 108, 97, 115, 115]⟩, ⟨#[105, 100]⟩, ⟨#[115, 114, 99]⟩]
/-- its attributes are drawn -/
def AtSt (w : World) (g : Nat) (a : Option Addr) (nn cap T : Nat) (tag : ByteArray) (va : Value) (xs : List AttrD) (wr : World) : Prop :=
  (∃ bss css, GrowOwn 70 2 AttrOwn (T + 2) wr va xs bss css) ∧ Box wr T [.string tag, .string ⟨#[]⟩, va, .slice none 0 0] 27 ∧ Box wr (T + 1) (names3.map Value.string) 9 ∧ Box wr w.heap.size resC 27 ∧ RdAt wr g a nn cap ∧ w.grownBy wr (some g) ∧ T + 2 ≤ wr.heap.size ∧ g < w.heap.size ∧ w.heap.size < T
theorem AtSt.grown {w : World} {g : Nat} {a : Option Addr} {nn cap T : Nat} {tag : ByteArray} {va : Value} {xs : List AttrD} {wr w2 : World} (h : AtSt w g a nn cap T tag va xs wr) (hg : wr.grownBy w2 (some g)) (hr : RdAt w2 g a nn cap) : AtSt w g a nn cap T tag va xs w2 := by
  obtain ⟨⟨bss, css, h1⟩, h2, h3, h4, h5, h6, h7, h8, h9⟩ := h
  have s := hg.size
  exact ⟨⟨bss, css, h1.stay AttrOwn_stays s (fun b q1 q2 => hg.block b q2 (fun e => by injection e; omega))⟩, box_other h2 (by omega) hg, box_other h3 (by omega) hg, box_other h4 (by omega) hg, hr, h6.trans hg, by omega, h8, h9⟩
theorem AtSt.step {w : World} {g : Nat} {a : Option Addr} {nn cap T n1 capn gg : Nat} {tag : ByteArray} {va : Value} {xs : List AttrD} {wr w1 w3 : World} {o : Obj} {x : AttrD} {cs : List Value} {css : List (List Value)} {bss : List (List Nat)} (h : AtSt w g a nn cap T tag va xs wr) (hgr : GrowOwn 70 2 AttrOwn (T + 2) wr va xs bss css) (hg1 : wr.grownBy w1 (some g)) (hrd : RdAt w1 g a nn cap)
    (hr : AttrAt w1 0 cs x) (hcl : cs.length = 2) (hn1 : n1 = xs.length + 1) (hown : w3.ownsRow (T + 2) 70 2 (.slice (some ⟨gg, 0, none⟩) n1 capn) n1 (css.flatten ++ cs)) (hgrow : (w1.alloc o).grownBy w3 va.ownBlock) (hat : va.ownBlock = some gg ∨ gg = (w1.alloc o).heap.size) :
    AtSt w g a nn cap T tag (.slice (some ⟨gg, 0, none⟩) n1 capn) (xs ++ [x]) (w3.setCell ⟨T, 2, none⟩ (.slice (some ⟨gg, 0, none⟩) n1 capn)) := by
  obtain ⟨_, h2, h3, h4, h5, h6, h7, h8, h9⟩ := h
  obtain ⟨q1, q2, q3, q4, q5, q6⟩ := grow_fin (f := 2) AttrOwn_stays hgr hg1 (by omega) (by omega) h7 hcl ⟨hr, rfl⟩ List.nodup_nil (by intro b hb; cases hb) (by intro b hb; cases hb) hn1 hown hgrow hat h2 hrd h6 (by omega)
  exact ⟨⟨_, _, q1⟩, q2, (q5 (T + 1) (by omega) (by omega) (by omega)).trans h3, (q5 w.heap.size (by omega) (by omega) (by omega)).trans h4, q3, q4, q6, h8, h9⟩
/-- its kids are drawn -/
def KdSt (n : Nat) (w : World) (g : Nat) (a : Option Addr) (nn cap T base : Nat) (tag : ByteArray) (va : Value) (ats : List AttrD) (vk : Value) (xs : List MarkD) (wr : World) : Prop :=
  (∃ bss css, GrowOwn 27 4 (MarkOwn n) base wr vk xs bss css) ∧ Box wr T [.string tag, .string ⟨#[]⟩, va, vk] 27 ∧ (∃ f2, SeqOwn 2 AttrOwn wr va ats f2 ∧ ∀ b ∈ f2, T + 2 ≤ b ∧ b < base) ∧ Box wr w.heap.size resC 27 ∧ RdAt wr g a nn cap ∧ w.grownBy wr (some g) ∧ base ≤ wr.heap.size ∧ g < w.heap.size ∧ w.heap.size < T ∧ T + 2 ≤ base
theorem KdSt.start {n : Nat} {w : World} {g : Nat} {a : Option Addr} {nn cap T : Nat} {tag : ByteArray} {va : Value} {xs : List AttrD} {wr : World} (h : AtSt w g a nn cap T tag va xs wr) : KdSt n w g a nn cap T wr.heap.size tag va xs (.slice none 0 0) [] wr := by
  obtain ⟨⟨bss, css, h1⟩, h2, h3, h4, h5, h6, h7, h8, h9⟩ := h
  obtain ⟨fs, ho, hb⟩ := h1.done
  exact ⟨⟨[], [], GrowOwn.nil⟩, h2, ⟨fs, ho, fun b q => ⟨hb b q, ho.lt AttrOwn_lt b q⟩⟩, h4, h5, h6, Nat.le_refl _, h8, h9, h7⟩
theorem KdSt.grown {n : Nat} {w : World} {g : Nat} {a : Option Addr} {nn cap T base : Nat} {tag : ByteArray} {va vk : Value} {ats : List AttrD} {xs : List MarkD} {wr w2 : World} (h : KdSt n w g a nn cap T base tag va ats vk xs wr) (hg : wr.grownBy w2 (some g)) (hr : RdAt w2 g a nn cap) : KdSt n w g a nn cap T base tag va ats vk xs w2 := by
  obtain ⟨⟨bss, css, h1⟩, h2, ⟨f2, h3, h3b⟩, h4, h5, h6, h7, h8, h9, h10⟩ := h
  have s := hg.size
  exact ⟨⟨bss, css, h1.stay (MarkOwn_stays n) s (fun b q1 q2 => hg.block b q2 (fun e => by injection e; omega))⟩, box_other h2 (by omega) hg, ⟨f2, h3.stays AttrOwn_stays (fun b q => hg.block b (by have := h3b b q; omega) (fun e => by injection e with e; have := h3b b q; omega)), h3b⟩, box_other h4 (by omega) hg, hr, h6.trans hg, by omega, h8, h9, h10⟩
theorem KdSt.step {n : Nat} {w : World} {g : Nat} {a : Option Addr} {nn cap T base n1 capn gg : Nat} {tag : ByteArray} {va vk : Value} {ats : List AttrD} {xs : List MarkD} {wr w1 w3 : World} {o : Obj} {x : MarkD} {cs : List Value} {fs : List Nat} {css : List (List Value)} {bss : List (List Nat)} (h : KdSt n w g a nn cap T base tag va ats vk xs wr) (hgr : GrowOwn 27 4 (MarkOwn n) base wr vk xs bss css) (hg1 : wr.grownBy w1 (some g)) (hrd : RdAt w1 g a nn cap)
    (hr : MarkOwn n w1 cs x fs) (hnd : fs.Nodup) (hlo : ∀ b ∈ fs, wr.heap.size ≤ b) (hcl : cs.length = 4) (hn1 : n1 = xs.length + 1) (hown : w3.ownsRow base 27 4 (.slice (some ⟨gg, 0, none⟩) n1 capn) n1 (css.flatten ++ cs)) (hgrow : (w1.alloc o).grownBy w3 vk.ownBlock) (hat : vk.ownBlock = some gg ∨ gg = (w1.alloc o).heap.size) :
    KdSt n w g a nn cap T base tag va ats (.slice (some ⟨gg, 0, none⟩) n1 capn) (xs ++ [x]) (w3.setCell ⟨T, 3, none⟩ (.slice (some ⟨gg, 0, none⟩) n1 capn)) := by
  obtain ⟨_, h2, ⟨f2, h3, h3b⟩, h4, h5, h6, h7, h8, h9, h10⟩ := h
  obtain ⟨q1, q2, q3, q4, q5, q6⟩ := grow_fin (f := 3) (MarkOwn_stays n) hgr hg1 (by omega) (by omega) h7 hcl hr hnd hlo (MarkOwn_lt n _ _ _ _ hr) hn1 hown hgrow hat h2 hrd h6 (by omega)
  exact ⟨⟨_, _, q1⟩, q2, ⟨f2, h3.stays AttrOwn_stays (fun b q => q5 b (h3b b q).2 (by have := h3b b q; omega) (by have := h3b b q; omega)), h3b⟩, (q5 w.heap.size (by omega) (by omega) (by omega)).trans h4, q3, q4, q6, h8, h9, h10⟩
/-- what is drawn, once its text is set or not -/
theorem KdSt.done {n : Nat} {w : World} {g : Nat} {a : Option Addr} {nn cap T base : Nat} {tag txt : ByteArray} {va vk : Value} {ats : List AttrD} {xs : List MarkD} {wr w' : World} (h : KdSt n w g a nn cap T base tag va ats vk xs wr) (ht : tag.size ≤ maxLen) (hx : txt.size ≤ maxLen) (hk : ∀ b, b ≠ T → b ≠ w.heap.size → w'.heap[b]? = wr.heap[b]?) (hs : wr.heap.size ≤ w'.heap.size) (ho : w'.os = wr.os ∧ w'.tape = wr.tape ∧ w'.output = wr.output) :
    ∃ (x : MarkD) (fs : List Nat), MarkOwn (n + 1) w' [.string tag, .string txt, va, vk] x fs ∧ fs.Nodup ∧ (∀ b ∈ fs, w.heap.size ≤ b) ∧ RdAt w' g a nn cap ∧ w.grownBy w' (some g) := by
  obtain ⟨⟨bss, css, h1⟩, h2, ⟨f2, h3, h3b⟩, h4, h5, h6, h7, h8, h9, h10⟩ := h
  obtain ⟨f3, q3, q3b⟩ := h1.done
  refine ⟨MarkD.mk tag txt ats xs, f2 ++ f3, ⟨va, vk, f2, f3, by rw [MarkD.mk_tag, MarkD.mk_text], ?_, ?_, by rw [MarkD.mk_tag]; exact ht, by rw [MarkD.mk_text]; exact hx, rfl⟩, ?_, ?_, h5.keep (fun b q => hk b (by omega) (by omega)), ?_⟩
  · rw [MarkD.mk_attrs]; exact h3.stays AttrOwn_stays (fun b q => hk b (by have := h3b b q; omega) (by have := h3b b q; omega))
  · rw [MarkD.mk_kids]; exact q3.stays (MarkOwn_stays n) (fun b q => hk b (by have := q3b b q; omega) (by have := q3b b q; omega))
  · exact nodup_two h3.nodup q3.nodup (fun b q => (h3b b q).2) q3b
  · intro b q
    rcases List.mem_append.1 q with q | q
    · have := h3b b q; omega
    · have := q3b b q; omega
  · exact ⟨ho.1.trans h6.os, ho.2.1.trans h6.tape, ho.2.2.trans h6.output, Nat.le_trans h6.size hs, fun b hb hne => (hk b (by omega) (by omega)).trans (h6.block b hb hne)⟩
end Go.Proofs.YtlcddndpfhdakaaDoor
