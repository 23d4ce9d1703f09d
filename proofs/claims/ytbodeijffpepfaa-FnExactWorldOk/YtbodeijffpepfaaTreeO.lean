/- Trees as data, as owners of their memory, and as rows that lie there: level by level. -/
import Derived.Test.YtbodeijffpepfaaOwn
import Derived.Test.YtbodeijffpepfaaOwnFill
import Derived.Test.YtbodeijffpepfaaMarks
import Derived.Test.YtbodeijffpepfaaPathsPlain
namespace Go.Proofs.Ytbodeijffpepfaa
open Go.RowKit
/-- a tree as data -/
abbrev TD : Type := DataW Unit
def mkT (s : ByteArray) (ks : List TD) : TD := .agg [.lit (.string s.data.toList), .slice ks []]
theorem mkT_tag (s : ByteArray) (ks : List TD) : tagOf (mkT s ks) = s.data.toList := rfl
theorem mkT_kids (s : ByteArray) (ks : List TD) : kidsOf (mkT s ks) = ks := rfl
theorem mkT_str (s : ByteArray) (ks : List TD) : strT (mkT s ks) = s := rfl
/-- a tree of less than n levels owns its memory: these blocks -/
def TreeO : Nat → World → List Value → TD → List Nat → Prop
  | 0, _, _, _, _ => False
  | n + 1, w, cs, x, fs => ∃ k1 : Value, ∃ f1 : List Nat, cs = [.string (strT x), k1] ∧ SeqOwn 2 (TreeO n) w k1 (kidsOf x) f1 ∧ (strT x).size ≤ maxLen ∧ fs = f1
/-- it lies in blocks from lo on -/
def TreeL : Nat → World → Nat → List Value → TD → Prop
  | 0, _, _, _, _ => False
  | n + 1, w, lo, cs, x => ∃ k1 : Value, cs = [.string (strT x), k1] ∧ SeqAt 2 (TreeL n) w lo k1 (kidsOf x) ∧ (strT x).size ≤ maxLen ∧ True
theorem TreeO_stays : ∀ n, OwnStays (TreeO n) := by
  intro n
  induction n with
  | zero => intro w w' cs x fs _ h; exact h
  | succ n ih =>
    intro w w' cs x fs q h
    obtain ⟨k1, f1, e, h1, r0, rfl⟩ := h
    exact ⟨k1, _, e, h1.stays ih (fun b hb => q b hb), r0, rfl⟩
theorem TreeO_lt : ∀ n, OwnLt (TreeO n) := by
  intro n
  induction n with
  | zero => intro w cs x fs h; exact h.elim
  | succ n ih =>
    intro w cs x fs h
    obtain ⟨k1, f1, e, h1, r0, rfl⟩ := h
    exact h1.lt ih
theorem TreeL_stays : ∀ n, Stays (TreeL n) := by
  intro n
  induction n with
  | zero => intro w w' lo lo' cs x _ h; exact h
  | succ n ih =>
    intro w w' lo lo' cs x q h
    obtain ⟨k1, e, h1, r0, _⟩ := h
    exact ⟨k1, e, h1.keep ih q, r0, trivial⟩
theorem TreeL.below {n : Nat} {w w' : World} {lo : Nat} {cs : List Value} {x : TD} (h : TreeL n w lo cs x) (hb : Below w.heap.size w w') : TreeL n w' lo cs x := TreeL_stays n _ _ _ lo _ _ (.of_below hb) h
theorem TreeO_at {lo : Nat} : ∀ (n : Nat) (w : World) (cs : List Value) (x : TD) (fs : List Nat), TreeO n w cs x fs → (∀ b ∈ fs, lo ≤ b) → TreeL n w lo cs x := by
  intro n
  induction n with
  | zero => intro w cs x fs h _; exact h.elim
  | succ n ih =>
    intro w cs x fs h q
    obtain ⟨k1, f1, e, h1, r0, rfl⟩ := h
    exact ⟨k1, e, h1.at ih q, r0, trivial⟩
theorem TreeL.opened {n : Nat} {w : World} {lo : Nat} {cs : List Value} {x : TD} (h : TreeL n w lo cs x) : ∃ k1 : Value, cs = [.string (strT x), k1] ∧ SeqAt 2 (TreeL (n - 1)) w lo k1 (kidsOf x) ∧ (strT x).size ≤ maxLen := by
  cases n with
  | zero => exact h.elim
  | succ n => obtain ⟨k1, e, h1, r0, _⟩ := h; exact ⟨k1, e, h1, r0⟩
theorem TreeO.opened {n : Nat} {w : World} {cs : List Value} {x : TD} {fs : List Nat} (h : TreeO n w cs x fs) : ∃ k1 : Value, cs = [.string (strT x), k1] ∧ SeqOwn 2 (TreeO (n - 1)) w k1 (kidsOf x) fs ∧ (strT x).size ≤ maxLen := by
  cases n with
  | zero => exact h.elim
  | succ n => obtain ⟨k1, f1, e, h1, r0, rfl⟩ := h; exact ⟨k1, e, h1, r0⟩
theorem SeqAt.imply {α : Type} {c : Nat} {R S : World → Nat → List Value → α → Prop} {w : World} {lo : Nat} {k : Value} {xs : List α} (h : SeqAt c R w lo k xs) (hRS : ∀ cs x, R w lo cs x → S w lo cs x) : SeqAt c S w lo k xs := by
  obtain ⟨a, cap, hk, hm, hx⟩ := h
  refine ⟨a, cap, hk, hm, fun h0 => ?_⟩
  obtain ⟨b, off, ha, h1, h2, hc⟩ := hx h0
  refine ⟨b, off, ha, h1, h2, fun i hi => ?_⟩
  obtain ⟨cs, hl, lie, r⟩ := hc i hi
  exact ⟨cs, hl, lie, hRS _ _ r⟩
theorem TreeL.more : ∀ (n : Nat) {w : World} {lo : Nat} (cs : List Value) (x : TD), TreeL n w lo cs x → TreeL (n + 1) w lo cs x := by
  intro n
  induction n with
  | zero => intro w lo cs x h; exact h.elim
  | succ n ih =>
    intro w lo cs x h
    obtain ⟨k1, e, h1, r⟩ := h
    exact ⟨k1, e, h1.imply ih, r⟩
/-- it lies there as the elder texts say -/
theorem TreeL.at : ∀ (n : Nat) {w : World} {lo : Nat} (t k : Value) (x : TD), TreeL n w lo [t, k] x → TreeAt w lo n t k x := by
  intro n
  induction n with
  | zero => intro w lo t k x h; exact h.elim
  | succ n ih =>
    intro w lo t k x h
    obtain ⟨k1, e, h1, r, _⟩ := h
    injection e with e1 e2
    injection e2 with e2 _
    subst e1 e2
    refine ⟨⟨strT x, rfl, r, rfl⟩, ?_⟩
    obtain ⟨a, cap, hk, hm, hx⟩ := h1
    refine ⟨a, cap, hk, hm.1, fun h0 => ?_⟩
    obtain ⟨b, off, ha, q1, q2, hc⟩ := hx h0
    refine ⟨b, off, ha, q1, q2, fun i hi => ?_⟩
    obtain ⟨cs, hl, lie, hr⟩ := hc i hi
    match cs, hl with
    | [t', k'], _ =>
      have z0 := lie 0 (by simp)
      have z1 := lie 1 (by simp)
      simp only [List.getElem?_cons_zero, List.getElem?_cons_succ, Nat.add_zero] at z0 z1
      have e : nth (kidsOf x) i = (kidsOf x)[i] := by simp [nth, List.getD, List.getElem?_eq_getElem hi]
      exact ⟨t', k', z0, z1, by rw [e]; exact ih _ _ _ hr⟩
theorem seqOwn_zero {w : World} {k : Value} {xs : List TD} {fs : List Nat} (h : SeqOwn 2 (TreeO 0) w k xs fs) : xs = [] := by
  obtain ⟨a, cap, _, _, h⟩ := h
  rcases h with ⟨h, _⟩ | ⟨b, off, _, C, T, bss, _, _, hl, _, _, h6⟩
  · exact List.length_eq_zero_iff.1 h
  · rcases Nat.eq_zero_or_pos xs.length with e | e
    · exact List.length_eq_zero_iff.1 e
    · obtain ⟨_, _, _, hf⟩ := h6 0 e (by omega)
      exact hf.elim
theorem seqAt_zero {w : World} {lo : Nat} {k : Value} {xs : List TD} (h : SeqAt 2 (TreeL 0) w lo k xs) : xs = [] := by
  obtain ⟨a, cap, _, _, h⟩ := h
  rcases Nat.eq_zero_or_pos xs.length with e | e
  · exact List.length_eq_zero_iff.1 e
  · obtain ⟨b, off, _, _, _, h6⟩ := h e
    obtain ⟨_, _, _, hf⟩ := h6 0 e
    exact hf.elim
theorem TreeO_more : ∀ (n : Nat) (w : World) (cs : List Value) (x : TD) (fs : List Nat), TreeO n w cs x fs → TreeO (n + 1) w cs x fs := by
  intro n
  induction n with
  | zero => intro w cs x fs h; exact h.elim
  | succ n ih =>
    intro w cs x fs h
    obtain ⟨k1, f1, e, h1, r0, rfl⟩ := h
    refine ⟨k1, _, e, ?_, r0, rfl⟩
    obtain ⟨a, cap, e1, e2, h2⟩ := h1
    refine ⟨a, cap, e1, e2, Or.elim h2 Or.inl fun h3 => Or.inr ?_⟩
    obtain ⟨b, off, e3, C, T, bss, c1, c2, c3, c4, c5, c6⟩ := h3
    exact ⟨b, off, e3, C, T, bss, c1, c2, c3, c4, c5, fun i hi hi' => by obtain ⟨cs, d1, d2, d3⟩ := c6 i hi hi'; exact ⟨cs, d1, d2, ih _ _ _ _ d3⟩⟩
theorem TreeO_mono {n m : Nat} (h : n ≤ m) {w : World} {cs : List Value} {x : TD} {fs : List Nat} (q : TreeO n w cs x fs) : TreeO m w cs x fs := by
  induction h with
  | refl => exact q
  | step _ ih => exact TreeO_more _ _ _ _ _ ih
def cntTree : Nat → TD → Nat
  | 0, _ => 0
  | n + 1, x => 1 + cntL (cntTree n) (kidsOf x)
def mkTree : Nat → TD → Int → TD
  | 0, x, _ => x
  | n + 1, x, m => mkT (markT (m)) (mkL (cntTree n) (mkTree n) (kidsOf x) (m + 1))
/-- no list of it is longer than 2^20 -/
def SmallO : Nat → TD → Prop
  | 0, _ => True
  | n + 1, x => (strT x).size ≤ 1048576 ∧ AllS (SmallO n) (kidsOf x)
theorem SmallO.opened {n : Nat} {w : World} {lo : Nat} {cs : List Value} {x : TD} (h : TreeL n w lo cs x) (hs : SmallO n x) : (strT x).size ≤ 1048576 ∧ AllS (SmallO (n - 1)) (kidsOf x) := by
  cases n with
  | zero => exact h.elim
  | succ n => exact hs
end Go.Proofs.Ytbodeijffpepfaa
