/- Paths in a tree: plain facts. -/
import Derived.Test.YtbodeijffpepfaaTrees
namespace Go.Proofs.Ytbodeijffpepfaa
/-- is there a kid at that place? -/
def inBP {H : Type} (d : DataW H) (p : Int) : Bool := decide (0 ≤ p) && decide (p < ((kidsOf d).length : Int))
def kidP {H : Type} (d : DataW H) (p : Int) : DataW H := nth (kidsOf d) p.toNat
/-- where a path leads -/
def endP {H : Type} (d : DataW H) (path : List Int) : DataW H := path.foldl kidP d
/-- does it lead anywhere? -/
def okP {H : Type} : DataW H → List Int → Bool
  | _, [] => true
  | d, p :: ps => inBP d p && okP (kidP d p) ps
theorem okP_snoc {H : Type} (a : List Int) : ∀ (d : DataW H) (p : Int), okP d (a ++ [p]) = (okP d a && inBP (endP d a) p) := by
  induction a with
  | nil => intro d p; simp [okP, endP]
  | cons x xs ih => intro d p; simp only [List.cons_append, okP, ih, Bool.and_assoc]; rfl
theorem okP_append {H : Type} (a b : List Int) : ∀ (d : DataW H), okP d (a ++ b) = (okP d a && okP (endP d a) b) := by
  induction a with
  | nil => intro d; simp [okP, endP]
  | cons x xs ih => intro d; simp only [List.cons_append, okP, ih, Bool.and_assoc]; rfl
theorem endP_snoc {H : Type} (a : List Int) (d : DataW H) (p : Int) : endP d (a ++ [p]) = kidP (endP d a) p := by simp [endP]
theorem endP_append {H : Type} (a b : List Int) (d : DataW H) : endP d (a ++ b) = endP (endP d a) b := by simp [endP]
theorem okP_take {H : Type} {d : DataW H} {path : List Int} (h : okP d path = true) (j : Nat) : okP d (path.take j) = true := by
  have : path = path.take j ++ path.drop j := (List.take_append_drop j path).symm
  rw [this, okP_append] at h
  simp only [Bool.and_eq_true] at h
  exact h.1
theorem okP_step {H : Type} {d : DataW H} {path : List Int} {j : Nat} (hj : j < path.length) : okP d (path.take (j + 1)) = (okP d (path.take j) && inBP (endP d (path.take j)) path[j]) := by
  rw [List.take_succ_eq_append_getElem hj, okP_snoc]
theorem endP_step {H : Type} {d : DataW H} {path : List Int} {j : Nat} (hj : j < path.length) : endP d (path.take (j + 1)) = kidP (endP d (path.take j)) path[j] := by
  rw [List.take_succ_eq_append_getElem hj, endP_snoc]
theorem okP_take_false {H : Type} {d : DataW H} {path : List Int} (j : Nat) (h : okP d (path.take j) = false) : okP d path = false := by
  cases h' : okP d path
  · rfl
  · rw [okP_take h' j] at h; cases h
theorem inB_yes {H : Type} {d : DataW H} {p : Int} (h0 : 0 ≤ p) (h1 : p < ((kidsOf d).length : Int)) : inBP d p = true := by simp [inBP, h0, h1]
theorem inB_low {H : Type} {d : DataW H} {p : Int} (h0 : ¬ 0 ≤ p) : inBP d p = false := by simp [inBP]; omega
theorem inB_high {H : Type} {d : DataW H} {p : Int} (h1 : ¬ p < ((kidsOf d).length : Int)) : inBP d p = false := by simp [inBP]; omega
/-- the tag as a text -/
def strT {H : Type} (d : DataW H) : ByteArray := ⟨(tagOf d).toArray⟩
theorem strT_of {H : Type} {d : DataW H} {s : ByteArray} (h : tagOf d = s.data.toList) : strT d = s := by
  cases s
  unfold strT
  rw [h]
theorem TreeAt.tag {H : Type} {w : World} {lo n : Nat} {t k : Value} {d : DataW H} (h : TreeAt w lo n t k d) : t = .string (strT d) ∧ (strT d).size ≤ maxLen := by
  cases n with
  | zero => exact h.elim
  | succ n =>
    obtain ⟨⟨s, hs, hm, he⟩, _⟩ := h
    rw [strT_of he]
    exact ⟨hs, hm⟩
/-- one kid of a tree that lies in memory -/
theorem TreeAt.kid {H : Type} {w : World} {lo n : Nat} {t : Value} {a : Option Addr} {m cap : Nat} {d : DataW H} (h : TreeAt w lo n t (.slice a m cap) d) {p : Nat} (hp : p < (kidsOf d).length) :
    ∃ b off t' k', a = some ⟨b, off, none⟩ ∧ b < w.heap.size ∧ w.cell? ⟨b, off + p * 2, none⟩ = some t' ∧ w.cell? ⟨b, off + p * 2 + 1, none⟩ = some k' ∧ TreeAt w lo (n - 1) t' k' (nth (kidsOf d) p) := by
  cases n with
  | zero => exact h.elim
  | succ n =>
    obtain ⟨_, a', cap', hk, hm, hx⟩ := h
    injection hk with e1 e2 e3
    subst e1
    obtain ⟨b, off, ha, h1, h2, hc⟩ := hx (by omega)
    obtain ⟨t', k', c1, c2, r⟩ := hc p hp
    exact ⟨b, off, t', k', ha, h2, c1, c2, r⟩
theorem TreeAt.many {H : Type} {w : World} {lo n : Nat} {t k : Value} {d : DataW H} (h : TreeAt w lo n t k d) : (kidsOf d).length ≤ maxLen := by
  cases n with
  | zero => exact h.elim
  | succ n => obtain ⟨_, a', cap', hk, hm, hx⟩ := h; exact hm
end Go.Proofs.Ytbodeijffpepfaa
