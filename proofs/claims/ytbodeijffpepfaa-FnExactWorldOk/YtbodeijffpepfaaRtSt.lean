/- Kids that a reader reads: the row that grows meanwhile; where there is no tree. -/
import Derived.Test.YtbodeijffpepfaaRdPlain
import Derived.Test.YtbodeijffpepfaaRtSmall
import Derived.Test.YtbodeijffpepfaaGrowK
namespace Go.Proofs.Ytbodeijffpepfaa
open Go.RowKit Go.Deep
abbrev resT : List Value := [.string ⟨#[]⟩, .slice none 0 0]
/-- its kids are read: tag and kids in the block T, what is handed back in the block of w's size -/
def KrSt (n : Nat) (w : World) (g T base : Nat) (tag : ByteArray) (vk : Value) (xs : List TD) (wr : World) : Prop :=
  (∃ bss css, GrowOwn 48 2 (TreeO n) base wr vk xs bss css) ∧ Box wr T [.string tag, vk] 48 ∧ Box wr w.heap.size resT 48 ∧ w.grownBy wr (some g) ∧ base ≤ wr.heap.size ∧ g < w.heap.size ∧ w.heap.size < T ∧ T < base
theorem box_grown {w w' : World} {b g : Nat} {cs : List Value} {T : TypeId} (h : Box w b cs T) (hne : b ≠ g) (hg : w.grownBy w' (some g)) : Box w' b cs T := (hg.block b h.lt (fun e => hne (by injection e))).trans h
theorem KrSt.grown {n : Nat} {w : World} {g T base : Nat} {tag : ByteArray} {vk : Value} {xs : List TD} {wr w2 : World} (h : KrSt n w g T base tag vk xs wr) (hg : wr.grownBy w2 (some g)) : KrSt n w g T base tag vk xs w2 := by
  obtain ⟨⟨bss, css, h1⟩, h2, h4, h6, h7, h8, h9, h10⟩ := h
  have s := hg.size
  exact ⟨⟨bss, css, h1.stay (TreeO_stays n) s (fun b q1 q2 => hg.block b q2 (fun e => by injection e; omega))⟩, box_grown h2 (by omega) hg, box_grown h4 (by omega) hg, h6.trans hg, by omega, h8, h9, h10⟩
theorem KrSt.step {n : Nat} {w : World} {g T base n1 capn gg : Nat} {tag : ByteArray} {vk : Value} {xs : List TD} {wr w1 w3 : World} {o : Obj} {x : TD} {cs : List Value} {fs : List Nat} {css : List (List Value)} {bss : List (List Nat)} (h : KrSt n w g T base tag vk xs wr) (hgr : GrowOwn 48 2 (TreeO n) base wr vk xs bss css) (hg1 : wr.grownBy w1 (some g))
    (hr : TreeO n w1 cs x fs) (hnd : fs.Nodup) (hlo : ∀ b ∈ fs, wr.heap.size ≤ b) (hcl : cs.length = 2) (hn1 : n1 = xs.length + 1) (hown : w3.ownsRow base 48 2 (.slice (some ⟨gg, 0, none⟩) n1 capn) n1 (css.flatten ++ cs)) (hgrow : (w1.alloc o).grownBy w3 vk.ownBlock) (hat : vk.ownBlock = some gg ∨ gg = (w1.alloc o).heap.size) :
    KrSt n w g T base tag (.slice (some ⟨gg, 0, none⟩) n1 capn) (xs ++ [x]) (w3.setCell ⟨T, 1, none⟩ (.slice (some ⟨gg, 0, none⟩) n1 capn)) ∧ (w3.setCell ⟨T, 1, none⟩ (.slice (some ⟨gg, 0, none⟩) n1 capn)).heap[g]? = w1.heap[g]? := by
  obtain ⟨_, h2, h4, h6, h7, h8, h9, h10⟩ := h
  obtain ⟨q1, q2, q4, q5, q6⟩ := grow_fin2 (f := 1) (TreeO_stays n) hgr hg1 (by omega) (by omega) h7 hcl hr hnd hlo (TreeO_lt n _ _ _ _ hr) hn1 hown hgrow hat h2 h6 (by omega)
  exact ⟨⟨⟨_, _, q1⟩, q2, (q5 w.heap.size (by omega) (by omega)).trans (box_grown h4 (by omega) hg1), q4, q6, h8, h9, h10⟩, q5 g (by omega) (by omega)⟩
theorem KrSt.done {n : Nat} {w : World} {g T base : Nat} {tag : ByteArray} {vk : Value} {xs : List TD} {wr w' : World} (h : KrSt n w g T base tag vk xs wr) (ht : tag.size ≤ maxLen) (hk : ∀ b, b ≠ w.heap.size → w'.heap[b]? = wr.heap[b]?) (hs : wr.heap.size ≤ w'.heap.size) (ho : w'.os = wr.os ∧ w'.tape = wr.tape ∧ w'.output = wr.output) :
    ∃ fs : List Nat, TreeO (n + 1) w' [.string tag, vk] (mkT tag xs) fs ∧ fs.Nodup ∧ (∀ b ∈ fs, w.heap.size + 1 ≤ b) ∧ w.grownBy w' (some g) := by
  obtain ⟨⟨bss, css, h1⟩, h2, h4, h6, h7, h8, h9, h10⟩ := h
  obtain ⟨f3, q3, q3b⟩ := h1.done
  refine ⟨f3, ⟨vk, f3, by rw [mkT_str], ?_, by rw [mkT_str]; exact ht, rfl⟩, q3.nodup, fun b q => by have := q3b b q; omega, ?_⟩
  · rw [mkT_kids]; exact q3.stays (TreeO_stays n) (fun b q => hk b (by have := q3b b q; omega))
  · exact ⟨ho.1.trans h6.os, ho.2.1.trans h6.tape, ho.2.2.trans h6.output, Nat.le_trans h6.size hs, fun b hb hne => (hk b (by omega)).trans (h6.block b hb hne)⟩
theorem KrSt.step2 {n : Nat} {w : World} {g T base : Nat} {tag : ByteArray} {vk vk' : Value} {xs ys : List TD} {w1 w2 w3 : World} {bss : List (List Nat)} {css : List (List Value)} (h : KrSt n w g T base tag vk xs w1) (hb2 : Below w1.heap.size w1 w2) (hgr3 : GrowOwn 48 2 (TreeO n) base w3 vk' ys bss css) (hgrow : w2.grownBy w3 vk.ownBlock) :
    KrSt n w g T base tag vk' ys (w3.setCell ⟨T, 1, none⟩ vk') ∧ (w3.setCell ⟨T, 1, none⟩ vk').heap[g]? = w1.heap[g]? := by
  obtain ⟨⟨bss0, css0, h1⟩, h2, h4, h6, h7, h8, h9, h10⟩ := h
  have hvb := own_ge h1
  have s2 := hb2.size
  have s3 := hgrow.size
  have s6 := h6.size
  have low : ∀ b, b < base → w3.heap[b]? = w1.heap[b]? := fun b hb => (hgrow.block b (by omega) (fun e => by have := hvb b e.symm; omega)).trans (hb2.block b (by omega))
  refine ⟨⟨⟨bss, css, GrowOwn.set (TreeO_stays n) hgr3 h10⟩, Box.set (i := 1) ((low T h10).trans h2) _, Box.other ((low _ (by omega)).trans h4) (by omega) _, ?_, by rw [set_size]; omega, h8, h9, h10⟩, (set_other (by omega) _).trans (low g (by omega))⟩
  refine ⟨hgrow.os.trans (hb2.os.trans h6.os), hgrow.tape.trans (hb2.tape.trans h6.tape), hgrow.output.trans (hb2.output.trans h6.output), by rw [set_size]; omega, fun b hb hne => ?_⟩
  rw [set_other (by omega), low b (by omega), h6.block b hb hne]
theorem KrSt.tagged {n : Nat} {w : World} {g T base : Nat} {tag : ByteArray} {vk : Value} {xs : List TD} {wr : World} (h : KrSt n w g T base tag vk xs wr) (t : ByteArray) : KrSt n w g T base t vk xs (wr.setCell ⟨T, 0, none⟩ (.string t)) := by
  obtain ⟨⟨bss, css, h1⟩, h2, h4, h6, h7, h8, h9, h10⟩ := h
  refine ⟨⟨bss, css, GrowOwn.set (TreeO_stays n) h1 h10⟩, Box.set (i := 0) h2 _, Box.other h4 (by omega) _, ?_, by rw [set_size]; exact h7, h8, h9, h10⟩
  have s6 := h6.size
  exact ⟨h6.os, h6.tape, h6.output, by rw [set_size]; exact h6.size, fun b hb hne => (set_other (by omega) _).trans (h6.block b hb hne)⟩
theorem KrSt.alloc {n : Nat} {w : World} {g T base : Nat} {tag : ByteArray} {vk : Value} {xs : List TD} {wr : World} (h : KrSt n w g T base tag vk xs wr) (o : Obj) : KrSt n w g T base tag vk xs (wr.alloc o) := h.grown (grown_of_below ((Below.refl _ _).alloc (Nat.le_refl _) _) _)
/-! ### where there is no tree -/
theorem rest_of {s sign : ByteArray} {p : Nat} (h : preP sign.data.toList (rest s p) = true) : rest s p = sign.data.toList ++ rest s (p + sign.size) := by
  have h' : (rest s p).take sign.size = sign.data.toList := by rw [preP, bd_len] at h; simpa using h
  have := rest_app (s := s) (p := p) (n := sign.size)
  rw [h'] at this; exact this
theorem rest_lw {s : ByteArray} {p : Nat} : rest s p = lw (rest s p) ++ rest s (p + (lw (rest s p)).length) := by
  have e := rest_app (s := s) (p := p) (n := (lw (rest s p)).length)
  have hp : (rest s p).take (lw (rest s p)).length = lw (rest s p) := (List.prefix_iff_eq_take.1 (List.takeWhile_prefix _)).symm
  rw [hp] at e; exact e
theorem no_open {l : List UInt8} (h : preP [60] l = false) : ∀ m x c r, ¬ Gd m x c l r := by
  intro m x c r g
  cases m with
  | zero => exact g
  | succ m => obtain ⟨s, ks, m', c', _, _, _, h4, _⟩ := g; exact preP_no h _ h4
theorem lw_name {t l1 m : List UInt8} (hn : nameB t = true) (h : l1 = t ++ 62 :: m) : lw l1 = t := by
  rw [h]; exact lw_of (name_lets hn) (fun c r e => by injection e with e _; rw [← e]; exact let62)
theorem no_name {l l1 : List UInt8} (hl : l = 60 :: l1) (h : nameB (lw l1) = false) : ∀ m x c r, ¬ Gd m x c l r := by
  intro m x c r g
  cases m with
  | zero => exact g
  | succ m =>
    obtain ⟨s, ks, m', c', _, h2, _, h4, _⟩ := g
    rw [hl] at h4
    simp only [List.cons.injEq, true_and] at h4
    rw [lw_name h2 h4, h2] at h; cases h
theorem no_close {l l1 l2 : List UInt8} (hl : l = 60 :: l1) (h1 : l1 = lw l1 ++ l2) (h : preP [62] l2 = false) : ∀ m x c r, ¬ Gd m x c l r := by
  intro m x c r g
  cases m with
  | zero => exact g
  | succ m =>
    obtain ⟨s, ks, m', c', _, h2, _, h4, _⟩ := g
    rw [hl] at h4
    simp only [List.cons.injEq, true_and] at h4
    have e := lw_name h2 h4
    rw [e, h4] at h1
    exact preP_no h _ (List.append_cancel_left h1).symm
/-- what a tree is whose tag has been read -/
theorem gd_inner {l t m0 : List UInt8} (hl : l = 60 :: (t ++ 62 :: m0)) (ht : nameB t = true) {m : Nat} {x : TD} {c : Nat} {r : List UInt8} (g : Gd m x c l r) :
    ∃ (s : ByteArray) (ks : List TD) (c' m' : Nat), s.data.toList = t ∧ x = mkT s ks ∧ c = c' + 1 ∧ m = m' + 1 ∧ GdK (Gd m') ks c' m0 (60 :: 47 :: (t ++ 62 :: r)) := by
  cases m with
  | zero => exact g.elim
  | succ m =>
    obtain ⟨s, ks, m', c', h1, h2, h3, h4, h5⟩ := g
    rw [hl] at h4
    simp only [List.cons.injEq, true_and] at h4
    obtain ⟨e1, _, e3⟩ := lets_one let62 let62 _ _ _ _ (name_lets ht) (name_lets h2) h4
    exact ⟨s, ks, c', m, e1.symm, h1, h3, rfl, by rw [e3, e1]; exact h5⟩
/-- no tree: a kid is none -/
theorem no_kid {n j : Nat} {l t m0 m1 : List UInt8} {xs : List TD} {c1 : Nat} (hl : l = 60 :: (t ++ 62 :: m0)) (ht : nameB t = true) (hk : GdK (Gd n) xs c1 m0 m1) (hp : preP [60, 47] m1 = false) (hno : ∀ m x c r, Gd m x c m1 r → ¬ c ≤ j) : ∀ m x c r, Gd m x c l r → ¬ c ≤ c1 + 1 + j := by
  intro m x c r g hc
  obtain ⟨s, ks, c', m', e1, e2, e3, e4, e5⟩ := gd_inner hl ht g
  obtain ⟨re, c2, q1, q2, q3⟩ := Gd.split hk e5
  cases re with
  | nil => obtain ⟨_, q⟩ := q3; exact preP_no hp _ q
  | cons k ks' =>
    obtain ⟨d1, d2, m'', w1, w2, w3⟩ := q3
    exact hno _ _ _ _ w2 (by omega)
/-- no tree: its end is none -/
theorem no_end {n : Nat} {l t m0 m1 : List UInt8} {xs : List TD} {c1 : Nat} (hl : l = 60 :: (t ++ 62 :: m0)) (ht : nameB t = true) (hk : GdK (Gd n) xs c1 m0 m1) (hp : preP [60, 47] m1 = true) (hno : preP ([60, 47] ++ t ++ [62]) m1 = false) : ∀ m x c r, ¬ Gd m x c l r := by
  intro m x c r g
  obtain ⟨s, ks, c', m', e1, e2, e3, e4, e5⟩ := gd_inner hl ht g
  obtain ⟨re, c2, q1, q2, q3⟩ := Gd.split hk e5
  obtain ⟨y, hy⟩ := preP_yes hp
  rw [hy] at q3
  obtain ⟨z1, z2, z3⟩ := Gd.stop q3
  refine preP_no hno r ?_
  have z3' : y = t ++ 62 :: r := z3
  rw [hy, z3']; simp
/-- a tree is read -/
theorem gd_made {n : Nat} {s : ByteArray} {l m0 m1 r : List UInt8} {xs : List TD} {c1 : Nat} (hl : l = 60 :: (s.data.toList ++ 62 :: m0)) (ht : nameB s.data.toList = true) (hk : GdK (Gd n) xs c1 m0 m1) (he : m1 = [60, 47] ++ s.data.toList ++ [62] ++ r) : Gd (n + 1) (mkT s xs) (c1 + 1) l r :=
  ⟨s, xs, m0, c1, rfl, ht, rfl, hl, by have : m1 = 60 :: 47 :: (s.data.toList ++ 62 :: r) := by rw [he]; simp
                                       rw [← this]; exact hk⟩
end Go.Proofs.Ytbodeijffpepfaa
