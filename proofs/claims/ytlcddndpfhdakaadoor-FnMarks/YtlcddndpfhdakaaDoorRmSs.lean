/- A mark that the specification's reader reads: plain facts; what memory holds meanwhile. -/
import Derived.Test.YtlcddndpfhdakaaDoorRmUntil
import Derived.Test.YtlcddndpfhdakaaDoorRmSt
import Derived.Test.YtlcddndpfhdakaaDoorUnSpec
import Derived.Test.YtlcddndpfhdakaaDoorGrowApp
import Derived.Test.YtlcddndpfhdakaaDoorTakeLit
namespace Go.Proofs.YtlcddndpfhdakaaDoor
open Go.RowKit Go.Deep
theorem box_low {w w' : World} {B g : Nat} {cs : List Value} {T : TypeId} (hb : Below B w w') (hg : g < B) (h : Box w g cs T) : Box w' g cs T := (hb.block g hg).trans h
/-- what is told behind a try to read a mark -/
def SmRes (n : Nat) (s : ByteArray) (p p' : Nat) (x : MarkD) (b : Bool) : Prop := CanM (n + 1) x ∧ p ≤ p' ∧ p' ≤ s.size ∧ (b = true → p < p') ∧ ∀ y c r, Md n y c (rest s p) r → b = true ∧ x = y ∧ rest s p' = r
/-- no mark begins at p -/
def NoM (n : Nat) (s : ByteArray) (p : Nat) : Prop := ∀ y c r, ¬ Md n y c (rest s p) r
/-- whatever mark there is has this tag, these attributes and further ones from q on -/
def AttS (n : Nat) (tag : ByteArray) (xs : List AttrD) (s : ByteArray) (p q : Nat) : Prop := ∀ y c r, Md (n + 1) y c (rest s p) r → ∃ (as1 : List AttrD) (ks : List MarkD) (c1 : Nat) (m0 : List UInt8), y = MarkD.mk tag ⟨#[]⟩ (xs ++ as1) ks ∧ nmsB as1 = true ∧ rest s q = catK attT as1 ++ 62 :: m0 ∧ MdK (Md n) ks c1 m0 (60 :: 47 :: (tag.data.toList ++ 62 :: r))
theorem pre60 {l r : List UInt8} (h : l = 60 :: r) : preP [60] l = true := by rw [h]; exact preP_of (p := [60]) (r := r) rfl
theorem attS_zero {n : Nat} {tag s : ByteArray} {p : Nat} (h1 : rest s p = 60 :: rest s (p + 1)) (ht : tag.data.toList = lw (rest s (p + 1))) (h2 : rest s (p + 1) = tag.data.toList ++ rest s (p + 1 + tag.size)) : AttS n tag [] s p (p + 1 + tag.size) := by
  intro y c r g
  rcases g with ⟨t, _, _, _, _, hp, _⟩ | ⟨s', as0, ks, m, c', e1, e2, e3, e4, e5, e6⟩
  · rw [pre60 h1] at hp; cases hp
  · rw [h1] at e5
    simp only [List.cons.injEq, true_and] at e5
    have e : lw (rest s (p + 1)) = s'.data.toList := by rw [e5]; exact lw_of (name_lets e2) (att_head as0 m)
    rw [← ht] at e
    obtain rfl := ba_of e
    rw [h2] at e5
    exact ⟨as0, ks, c', m, by rw [e1]; rfl, e3, List.append_cancel_left e5, e6⟩
theorem noM_open {n : Nat} {s : ByteArray} {p : Nat} (h0 : ¬ p < s.size ∨ preP [60] (rest s p) = false) (h1 : p < s.size → preP [60] (rest s p) = true) : NoM n s p := by
  intro y c r g
  cases n with
  | zero => exact g
  | succ n =>
    have hn : ¬ p < s.size := by
      rcases h0 with h | h
      · exact h
      · intro q; rw [h1 q] at h; cases h
    have e : rest s p = [] := by unfold rest; rw [List.drop_of_length_le (by rw [bd_len]; omega)]
    rcases g with ⟨_, _, _, _, h, _⟩ | ⟨_, _, _, _, _, _, _, _, _, h, _⟩
    · exact h e
    · rw [e] at h; cases h
theorem AttS.void {n : Nat} {tag s : ByteArray} {xs : List AttrD} {p q : Nat} (h : NoM (n + 1) s p) : AttS n tag xs s p q := fun y c r g => (h y c r g).elim
theorem att32 (as1 : List AttrD) (m0 : List UInt8) : (as1 = [] ∧ preP [32] (catK attT as1 ++ 62 :: m0) = false) ∨ (∃ a as2 l, as1 = a :: as2 ∧ catK attT as1 ++ 62 :: m0 = 32 :: l ∧ 32 :: l = attT a ++ (catK attT as2 ++ 62 :: m0) ∧ preP [32] (catK attT as1 ++ 62 :: m0) = true) := by
  cases as1 with
  | nil => exact Or.inl ⟨rfl, rfl⟩
  | cons a as2 =>
    obtain ⟨l, hl⟩ : ∃ l, attT a ++ (catK attT as2 ++ 62 :: m0) = 32 :: l := ⟨_, by simp [attT]; rfl⟩
    have e : catK attT (a :: as2) ++ 62 :: m0 = 32 :: l := by rw [← hl]; simp [catK]
    exact Or.inr ⟨a, as2, l, rfl, e, hl.symm, by rw [e]; exact preP_of (p := [32]) (r := l) rfl⟩
theorem AttS.next {n : Nat} {tag s : ByteArray} {xs : List AttrD} {p q : Nat} (h : AttS n tag xs s p q) (hp : preP [32] (rest s q) = true) : ∀ y c r, Md (n + 1) y c (rest s p) r → ∃ (a : AttrD) (as2 : List AttrD) (ks : List MarkD) (c1 : Nat) (m0 : List UInt8), rdAtt ((rest s q).drop 1) = some (a, catK attT as2 ++ 62 :: m0) ∧ y = MarkD.mk tag ⟨#[]⟩ (xs ++ a :: as2) ks ∧ nmsB as2 = true ∧ MdK (Md n) ks c1 m0 (60 :: 47 :: (tag.data.toList ++ 62 :: r)) := by
  intro y c r g
  obtain ⟨as1, ks, c1, m0, e1, e2, e3, e4⟩ := h y c r g
  rcases att32 as1 m0 with ⟨_, hq⟩ | ⟨a, as2, l, rfl, f1, f2, _⟩
  · rw [e3, hq] at hp; cases hp
  · simp only [nmsB, List.all_cons, Bool.and_eq_true] at e2
    refine ⟨a, as2, ks, c1, m0, ?_, e1, e2.2, e4⟩
    rw [e3, f1]
    exact rdAtt_of e2.1 _ f2
theorem noM_att {n : Nat} {tag s : ByteArray} {xs : List AttrD} {p q : Nat} (h : AttS n tag xs s p q) (hp : preP [32] (rest s q) = true) (hn : rdAtt ((rest s q).drop 1) = none) : NoM (n + 1) s p := by
  intro y c r g
  obtain ⟨a, as2, ks, c1, m0, e1, _⟩ := h.next hp y c r g
  rw [hn] at e1; cases e1
theorem AttS.more {n : Nat} {tag s : ByteArray} {xs : List AttrD} {a : AttrD} {p q q' : Nat} (h : AttS n tag xs s p q) (hp : preP [32] (rest s q) = true) (hn : rdAtt ((rest s q).drop 1) = some (a, rest s q')) : AttS n tag (xs ++ [a]) s p q' := by
  intro y c r g
  obtain ⟨a', as2, ks, c1, m0, e1, e2, e3, e4⟩ := h.next hp y c r g
  rw [hn] at e1
  simp only [Option.some.injEq, Prod.mk.injEq] at e1
  obtain ⟨rfl, e5⟩ := e1
  exact ⟨as2, ks, c1, m0, by rw [e2]; simp, e3, e5, e4⟩
/-- whatever mark there is has this tag, these attributes, and its kids from p0 on -/
def InS (n : Nat) (tag : ByteArray) (as0 : List AttrD) (s : ByteArray) (p p0 : Nat) : Prop := ∀ y c r, Md (n + 1) y c (rest s p) r → ∃ ks c1, y = MarkD.mk tag ⟨#[]⟩ as0 ks ∧ MdK (Md n) ks c1 (rest s p0) (60 :: 47 :: (tag.data.toList ++ 62 :: r))
theorem AttS.last {n : Nat} {tag s : ByteArray} {xs : List AttrD} {p q : Nat} (h : AttS n tag xs s p q) (hp : preP [32] (rest s q) = false) : ∀ y c r, Md (n + 1) y c (rest s p) r → ∃ ks c1 m0, y = MarkD.mk tag ⟨#[]⟩ xs ks ∧ rest s q = 62 :: m0 ∧ MdK (Md n) ks c1 m0 (60 :: 47 :: (tag.data.toList ++ 62 :: r)) := by
  intro y c r g
  obtain ⟨as1, ks, c1, m0, e1, e2, e3, e4⟩ := h y c r g
  rcases att32 as1 m0 with ⟨rfl, _⟩ | ⟨a, as2, l, rfl, f1, f2, f3⟩
  · exact ⟨ks, c1, m0, by rw [e1]; simp, by rw [e3]; rfl, e4⟩
  · rw [e3, f3] at hp; cases hp
theorem noM_close {n : Nat} {tag s : ByteArray} {xs : List AttrD} {p q : Nat} (h : AttS n tag xs s p q) (hp : preP [32] (rest s q) = false) (hq : preP [62] (rest s q) = false) : NoM (n + 1) s p := by
  intro y c r g
  obtain ⟨ks, c1, m0, _, e2, _⟩ := h.last hp y c r g
  exact preP_no hq m0 e2
theorem inS_of {n : Nat} {tag s : ByteArray} {xs : List AttrD} {p q : Nat} (h : AttS n tag xs s p q) (hp : preP [32] (rest s q) = false) (hq : preP [62] (rest s q) = true) : InS n tag xs s p (q + 1) := by
  intro y c r g
  obtain ⟨ks, c1, m0, e1, e2, e3⟩ := h.last hp y c r g
  have e : rest s q = 62 :: rest s (q + 1) := rest_of (sign := ⟨#[62]⟩) hq
  rw [e] at e2
  simp only [List.cons.injEq, true_and] at e2
  exact ⟨ks, c1, e1, by rw [e2]; exact e3⟩
/-- kids so far are the first ones of whatever mark there is -/
def RestS (n : Nat) (xs : List MarkD) (s : ByteArray) (p0 q : Nat) : Prop := ∀ ks c z, MdK (Md n) ks c (rest s p0) (60 :: 47 :: z) → ∃ re c2, ks = xs ++ re ∧ MdK (Md n) re c2 (rest s q) (60 :: 47 :: z)
theorem RestS.more {n : Nat} {xs : List MarkD} {s : ByteArray} {p0 q q' : Nat} {x : MarkD} (h : RestS n xs s p0 q) (hp : preP [60, 47] (rest s q) = false) (hk : ∀ y c r, Md n y c (rest s q) r → x = y ∧ rest s q' = r) : RestS n (xs ++ [x]) s p0 q' := by
  intro ks c z hg
  obtain ⟨re, c2, e1, e2⟩ := h ks c z hg
  cases re with
  | nil => exact (preP_no hp _ e2.2).elim
  | cons k re =>
    obtain ⟨d1, d2, m, f1, f2, f3⟩ := e2
    obtain ⟨rfl, rfl⟩ := hk _ _ _ f2
    exact ⟨re, d2, by rw [e1]; simp, f3⟩
theorem noM_kid {n : Nat} {tag s : ByteArray} {as0 : List AttrD} {p p0 q : Nat} {xs : List MarkD} (hi : InS n tag as0 s p p0) (hr : RestS n xs s p0 q) (hp : preP [60, 47] (rest s q) = false) (hk : NoM n s q) : NoM (n + 1) s p := by
  intro y c r g
  obtain ⟨ks, c1, _, e2⟩ := hi y c r g
  obtain ⟨re, c2, f1, f2⟩ := hr _ _ _ e2
  cases re with
  | nil => exact preP_no hp _ f2.2
  | cons k re => obtain ⟨d1, d2, m, _, f2, _⟩ := f2; exact hk _ _ _ f2
theorem doneSM {n : Nat} {tag s : ByteArray} {as0 : List AttrD} {p p0 q : Nat} {xs : List MarkD} (hi : InS n tag as0 s p p0) (hr : RestS n xs s p0 q) (hq : rest s q = 60 :: 47 :: rest s (q + 2)) : ∀ y c r, Md (n + 1) y c (rest s p) r → MarkD.mk tag ⟨#[]⟩ as0 xs = y ∧ (preP tag.data.toList (rest s (q + 2)) = true ∧ preP [62] (rest s (q + 2 + tag.size)) = true) ∧ rest s (q + 2 + tag.size + 1) = r := by
  intro y c r g
  obtain ⟨ks, c1, e1, e2⟩ := hi y c r g
  obtain ⟨re, c2, f1, f2⟩ := hr _ _ _ e2
  rw [hq] at f2
  obtain ⟨rfl, _, z3⟩ := Md.stop f2
  have h1 := preP_of z3
  have h2 := rest_of h1
  rw [z3] at h2
  have h3 := List.append_cancel_left h2
  have h4 : preP [62] (rest s (q + 2 + tag.size)) = true := preP_of (r := r) h3.symm
  have h5 : rest s (q + 2 + tag.size) = [62] ++ rest s (q + 2 + tag.size + 1) := rest_of (sign := ⟨#[62]⟩) h4
  rw [h5] at h3
  simp only [List.cons_append, List.nil_append, List.cons.injEq, true_and] at h3
  exact ⟨by rw [e1, f1]; simp, ⟨h1, h4⟩, h3.symm⟩
/-- a text: what the reader says of it -/
theorem text_smRes {n : Nat} {s t : ByteArray} {p : Nat} {b : Bool} (hlt : p < s.size) (h60 : preP [60] (rest s p) = false) (hu : (b = true ∧ unL (upto 60 (rest s p)) = some t.data.toList) ∨ (b = false ∧ unL (upto 60 (rest s p)) = none)) : SmRes n s p (p + (upto 60 (rest s p)).length) (MarkD.mk ⟨#[]⟩ t [] []) b := by
  have hl := upto_len 60 (rest s p)
  rw [rest_len] at hl
  have hne : rest s p ≠ [] := fun e => by have := congrArg List.length e; rw [rest_len, List.length_nil] at this; omega
  refine ⟨canM_mk (by simp), by omega, by omega, fun _ => ?_, fun y c r g => ?_⟩
  · have : 1 ≤ (upto 60 (rest s p)).length := by
      cases hq : rest s p with
      | nil => exact absurd hq hne
      | cons d l =>
        have : d ≠ 60 := fun e => by rw [hq, e, pre60 rfl] at h60; cases h60
        have h2 : (d != 60) = true := by simpa using this
        simp [upto, h2]
    omega
  · obtain ⟨t', e1, e2, e3, e4, _⟩ := md_text g h60
    rw [e3] at hu
    rcases hu with ⟨rfl, hu⟩ | ⟨rfl, hu⟩
    · rw [unL_esc] at hu
      injection hu with hu
      have := ba_of hu
      subst this
      refine ⟨rfl, e1.symm, ?_⟩
      have e5 : rest s (p + (upto 60 (rest s p)).length) = (rest s p).drop (upto 60 (rest s p)).length := by unfold rest; rw [List.drop_drop]
      rw [e5, e3]
      conv => lhs; rw [e4]
      simp
    · rw [unL_esc] at hu; cases hu
/-! ### while attributes are read -/
def KaSt (w : World) (g T base : Nat) (tag : ByteArray) (va : Value) (xs : List AttrD) (wr : World) : Prop :=
  (∃ bss css, GrowOwn 70 2 AttrOwn base wr va xs bss css) ∧ Box wr T [.string tag, .string ⟨#[]⟩, va, .slice none 0 0] 27 ∧ Box wr w.heap.size zM4 27 ∧ w.grownBy wr (some g) ∧ base ≤ wr.heap.size ∧ g < w.heap.size ∧ w.heap.size < T ∧ T < base
theorem KaSt.grown {w : World} {g T base : Nat} {tag : ByteArray} {va : Value} {xs : List AttrD} {wr w2 : World} (h : KaSt w g T base tag va xs wr) (hg : wr.grownBy w2 (some g)) : KaSt w g T base tag va xs w2 := by
  obtain ⟨⟨bss, css, h1⟩, h2, h4, h6, h7, h8, h9, h10⟩ := h
  have s := hg.size
  exact ⟨⟨bss, css, h1.stay AttrOwn_stays s (fun b q1 q2 => hg.block b q2 (fun e => by injection e; omega))⟩, box_grown h2 (by omega) hg, box_grown h4 (by omega) hg, h6.trans hg, by omega, h8, h9, h10⟩
theorem KaSt.step2 {w : World} {g T base : Nat} {tag : ByteArray} {va va' : Value} {xs ys : List AttrD} {w1 w2 w3 : World} {bss : List (List Nat)} {css : List (List Value)} (h : KaSt w g T base tag va xs w1) (hb2 : Below w1.heap.size w1 w2) (hgr3 : GrowOwn 70 2 AttrOwn base w3 va' ys bss css) (hgrow : w2.grownBy w3 va.ownBlock) :
    KaSt w g T base tag va' ys (w3.setCell ⟨T, 2, none⟩ va') ∧ (w3.setCell ⟨T, 2, none⟩ va').heap[g]? = w1.heap[g]? := by
  obtain ⟨⟨bss0, css0, h1⟩, h2, h4, h6, h7, h8, h9, h10⟩ := h
  have hvb := own_ge h1
  have s2 := hb2.size
  have s3 := hgrow.size
  have s6 := h6.size
  have low : ∀ b, b < base → w3.heap[b]? = w1.heap[b]? := fun b hb => (hgrow.block b (by omega) (fun e => by have := hvb b e.symm; omega)).trans (hb2.block b (by omega))
  refine ⟨⟨⟨bss, css, GrowOwn.set AttrOwn_stays hgr3 h10⟩, Box.set (i := 2) ((low T h10).trans h2) _, Box.other ((low _ (by omega)).trans h4) (by omega) _, ?_, by rw [set_size]; omega, h8, h9, h10⟩, (set_other (by omega) _).trans (low g (by omega))⟩
  refine ⟨hgrow.os.trans (hb2.os.trans h6.os), hgrow.tape.trans (hb2.tape.trans h6.tape), hgrow.output.trans (hb2.output.trans h6.output), by rw [set_size]; omega, fun b hb hne => ?_⟩
  rw [set_other (by omega), low b (by omega), h6.block b hb hne]
/-- behind the attributes kids come -/
theorem KaSt.kids {n : Nat} {w : World} {g T base : Nat} {tag : ByteArray} {va : Value} {xs : List AttrD} {wr : World} (h : KaSt w g T base tag va xs wr) : ∃ fa, KmSt n w g T wr.heap.size tag va xs fa (.slice none 0 0) [] wr := by
  obtain ⟨⟨bss, css, h1⟩, h2, h4, h6, h7, h8, h9, h10⟩ := h
  obtain ⟨fa, o1, o2⟩ := h1.done
  exact ⟨fa, ⟨[], [], GrowOwn.nil⟩, h2, h4, h6, Nat.le_refl _, h8, h9, by omega, o1, o1.nodup, fun b q => ⟨by have := o2 b q; omega, o1.lt AttrOwn_lt b q⟩⟩
/-- what is handed back of it so far -/
theorem KaSt.done {n : Nat} {w : World} {g T base : Nat} {tag : ByteArray} {va : Value} {xs : List AttrD} {wr w' : World} (h : KaSt w g T base tag va xs wr) (ht : tag.size ≤ maxLen) (hk : ∀ b, b ≠ w.heap.size → w'.heap[b]? = wr.heap[b]?) (hs : wr.heap.size ≤ w'.heap.size) (ho : w'.os = wr.os ∧ w'.tape = wr.tape ∧ w'.output = wr.output) :
    ∃ fs : List Nat, MarkOwn (n + 1) w' [.string tag, .string ⟨#[]⟩, va, .slice none 0 0] (MarkD.mk tag ⟨#[]⟩ xs []) fs ∧ fs.Nodup ∧ (∀ b ∈ fs, w.heap.size + 1 ≤ b) ∧ w.grownBy w' (some g) := by
  obtain ⟨fa, hq⟩ := h.kids (n := n)
  exact hq.done ht hk hs ho
end Go.Proofs.YtlcddndpfhdakaaDoor
