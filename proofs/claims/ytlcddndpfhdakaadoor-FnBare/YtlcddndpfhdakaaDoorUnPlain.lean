/- What texts are when they are unescaped: plain facts on lists of bytes. -/
import Derived.Test.YtlcddndpfhdakaaDoorEscPlain
namespace Go.Proofs.YtlcddndpfhdakaaDoor
/-- l begins with p -/
def preB (p l : List UInt8) : Bool := l.take p.length == p
abbrev ampL : List UInt8 := [38, 97, 109, 112, 59]
abbrev ltL : List UInt8 := [38, 108, 116, 59]
abbrev gtL : List UInt8 := [38, 103, 116, 59]
abbrev quotL : List UInt8 := [38, 113, 117, 111, 116, 59]
/-- a byte that does not stand for itself -/
def bareB (c : UInt8) : Bool := c == 38 || c == 60 || c == 62 || c == 34
/-- the byte for which the beginning stands, and how many bytes that has -/
def firstU (l : List UInt8) : Option (UInt8 × Nat) :=
  if preB ampL l then some (38, 5) else if preB ltL l then some (60, 4) else if preB gtL l then some (62, 4) else if preB quotL l then some (34, 6) else
    match l with
    | [] => none
    | c :: _ => if bareB c then none else some (c, 1)
def unE : Nat → List UInt8 → Option (List UInt8)
  | 0, [] => some []
  | 0, _ :: _ => none
  | n + 1, l => if l = [] then some [] else match firstU l with
    | none => none
    | some (c, k) => (unE n (l.drop k)).map (c :: ·)
theorem preB_length {p l : List UInt8} (h : preB p l = true) : p.length ≤ l.length := by
  have h' : l.take p.length = p := by simpa [preB] using h
  have := congrArg List.length h'
  rw [List.length_take] at this
  omega
theorem firstU_range {l : List UInt8} {c : UInt8} {k : Nat} (h : firstU l = some (c, k)) : 1 ≤ k ∧ k ≤ 6 ∧ k ≤ l.length := by
  unfold firstU at h
  split at h
  · rename_i q; have := preB_length q; cases h; simp at this; omega
  split at h
  · rename_i q; have := preB_length q; cases h; simp at this; omega
  split at h
  · rename_i q; have := preB_length q; cases h; simp at this; omega
  split at h
  · rename_i q; have := preB_length q; cases h; simp at this; omega
  split at h
  · cases h
  · split at h
    · cases h
    · cases h; simp
theorem unE_more : ∀ (n m : Nat) (l : List UInt8), l.length ≤ n → l.length ≤ m → unE n l = unE m l := by
  intro n
  induction n with
  | zero =>
    intro m l h1 h2
    have : l = [] := List.eq_nil_of_length_eq_zero (by omega)
    subst this
    cases m <;> simp [unE]
  | succ n ih =>
    intro m l h1 h2
    cases m with
    | zero =>
      have : l = [] := List.eq_nil_of_length_eq_zero (by omega)
      subst this
      simp [unE]
    | succ m =>
      unfold unE
      split
      · rfl
      · split
        · rfl
        · rename_i c k hq
          have := firstU_range hq
          rw [ih m (l.drop k) (by simp; omega) (by simp; omega)]
/-- the text that escaped is l -/
def unL (l : List UInt8) : Option (List UInt8) := unE l.length l
theorem unL_nil : unL [] = some [] := rfl
theorem unL_none {l : List UInt8} (hl : l ≠ []) (h : firstU l = none) : unL l = none := by
  cases hn : l.length with
  | zero => exact absurd (List.eq_nil_of_length_eq_zero hn) hl
  | succ n => unfold unL; rw [hn]; unfold unE; rw [if_neg hl, h]
theorem unL_some {l : List UInt8} {c : UInt8} {k : Nat} (h : firstU l = some (c, k)) : unL l = (unL (l.drop k)).map (c :: ·) := by
  have hr := firstU_range h
  cases hn : l.length with
  | zero => omega
  | succ n =>
    have hl : l ≠ [] := by intro e; rw [e] at hn; cases hn
    unfold unL
    rw [hn]
    conv => lhs; unfold unE
    rw [if_neg hl, h]
    simp only []
    rw [unE_more n (l.drop k).length (l.drop k) (by simp; omega) (Nat.le_refl _)]
/-- one step of a reader: what was read, and what is left -/
theorem unL_step {l l0 acc : List UInt8} {c : UInt8} {k : Nat} (h0 : unL l0 = (unL l).map (acc ++ ·)) (h : firstU l = some (c, k)) : unL l0 = (unL (l.drop k)).map ((acc ++ [c]) ++ ·) := by
  rw [h0, unL_some h]
  cases unL (l.drop k) <;> simp
theorem unL_end {l0 acc : List UInt8} (h0 : unL l0 = (unL []).map (acc ++ ·)) : unL l0 = some acc := by
  rw [h0, unL_nil]; simp
theorem unL_no {l l0 acc : List UInt8} (h0 : unL l0 = (unL l).map (acc ++ ·)) (hl : l ≠ []) (h : firstU l = none) : unL l0 = none := by
  rw [h0, unL_none hl h]; rfl
theorem preB_head {p l : List UInt8} {a c : UInt8} {r : List UInt8} (hp : p = a :: r) (hl : l = c :: l.tail) (hac : ¬ c = a) : preB p l = false := by
  rw [hp, hl]
  simp [preB, hac]
theorem firstU_amp {l : List UInt8} (h : preB ampL l = true) : firstU l = some (38, 5) := by simp [firstU, h]
theorem firstU_lt {l : List UInt8} (h1 : preB ampL l = false) (h : preB ltL l = true) : firstU l = some (60, 4) := by simp [firstU, h1, h]
theorem firstU_gt {l : List UInt8} (h1 : preB ampL l = false) (h2 : preB ltL l = false) (h : preB gtL l = true) : firstU l = some (62, 4) := by simp [firstU, h1, h2, h]
theorem firstU_quot {l : List UInt8} (h1 : preB ampL l = false) (h2 : preB ltL l = false) (h3 : preB gtL l = false) (h : preB quotL l = true) : firstU l = some (34, 6) := by simp [firstU, h1, h2, h3, h]
theorem firstU_else {c : UInt8} {r : List UInt8} (h1 : preB ampL (c :: r) = false) (h2 : preB ltL (c :: r) = false) (h3 : preB gtL (c :: r) = false) (h4 : preB quotL (c :: r) = false) : firstU (c :: r) = if bareB c then none else some (c, 1) := by simp [firstU, h1, h2, h3, h4]
theorem firstU_other {c : UInt8} {r : List UInt8} (h : ¬ c = 38) : firstU (c :: r) = if bareB c then none else some (c, 1) := by
  apply firstU_else <;> exact preB_head (c := c) rfl rfl h
theorem bareB_no {c : UInt8} (h1 : ¬ (c.toNat : Int) = 38) (h2 : ¬ (c.toNat : Int) = 60) (h3 : ¬ (c.toNat : Int) = 62) (h4 : ¬ (c.toNat : Int) = 34) : bareB c = false := by
  have e1 := u8_eq (c := c) (n := 38) (by decide)
  have e2 := u8_eq (c := c) (n := 60) (by decide)
  have e3 := u8_eq (c := c) (n := 62) (by decide)
  have e4 := u8_eq (c := c) (n := 34) (by decide)
  have k1 : ¬ c = 38 := fun h => h1 (e1.2 h)
  have k2 : ¬ c = 60 := fun h => h2 (e2.2 h)
  have k3 : ¬ c = 62 := fun h => h3 (e3.2 h)
  have k4 : ¬ c = 34 := fun h => h4 (e4.2 h)
  simp [bareB, k1, k2, k3, k4]
theorem bareB_yes {c : UInt8} (h : (c.toNat : Int) = 38 ∨ (c.toNat : Int) = 60 ∨ (c.toNat : Int) = 62 ∨ (c.toNat : Int) = 34) : bareB c = true := by
  rcases h with h | h | h | h
  · have := (u8_eq (c := c) (n := 38) (by decide)).1 h; subst this; rfl
  · have := (u8_eq (c := c) (n := 60) (by decide)).1 h; subst this; rfl
  · have := (u8_eq (c := c) (n := 62) (by decide)).1 h; subst this; rfl
  · have := (u8_eq (c := c) (n := 34) (by decide)).1 h; subst this; rfl
end Go.Proofs.YtlcddndpfhdakaaDoor
