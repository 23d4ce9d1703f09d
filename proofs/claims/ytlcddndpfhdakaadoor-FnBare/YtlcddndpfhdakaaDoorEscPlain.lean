/- What escaped texts are: plain facts on lists of bytes. -/
import Derived.WalkKit
namespace Go.Proofs.YtlcddndpfhdakaaDoor
theorem eb_app (a b : ByteArray) : (a ++ b).data.toList = a.data.toList ++ b.data.toList := by simp
theorem eb_len (a : ByteArray) : a.data.toList.length = a.size := by simp
theorem eb_eq {a b : ByteArray} (h : a.data.toList = b.data.toList) : a = b := by
  cases a; cases b; simp at h; rw [h]
/-- what stands for a byte in markup -/
def escB (c : UInt8) : List UInt8 :=
  if c = 38 then [38, 97, 109, 112, 59] else if c = 60 then [38, 108, 116, 59] else if c = 62 then [38, 103, 116, 59] else if c = 34 then [38, 113, 117, 111, 116, 59] else [c]
/-- a text escaped -/
def escL : List UInt8 → List UInt8
  | [] => []
  | c :: r => escB c ++ escL r
theorem escL_append (a b : List UInt8) : escL (a ++ b) = escL a ++ escL b := by
  induction a with
  | nil => rfl
  | cons c r ih => simp [escL, ih, List.append_assoc]
theorem escB_length (c : UInt8) : (escB c).length ≤ 6 ∧ 1 ≤ (escB c).length := by
  unfold escB; repeat' split
  all_goals simp
theorem escL_length (l : List UInt8) : (escL l).length ≤ 6 * l.length := by
  induction l with
  | nil => simp [escL]
  | cons c r ih => have := (escB_length c).1; simp only [escL, List.length_append, List.length_cons]; omega
theorem eb_snoc (s : ByteArray) (k : Nat) (h : k < s.size) : s.data.toList.take (k + 1) = s.data.toList.take k ++ [s[k]] := by
  rw [List.take_succ_eq_append_getElem (by simpa using h)]; rfl
theorem escL_snoc (s : ByteArray) (k : Nat) (h : k < s.size) : escL (s.data.toList.take (k + 1)) = escL (s.data.toList.take k) ++ escB s[k] := by
  rw [eb_snoc s k h, escL_append]; simp [escL]
theorem escL_take_length (s : ByteArray) (k : Nat) (hk : k ≤ s.size) : (escL (s.data.toList.take k)).length ≤ 6 * k := by
  have := escL_length (s.data.toList.take k)
  rw [List.length_take, eb_len] at this
  omega
theorem u8_eq {c : UInt8} {n : Nat} (hn : n < 256) : ((c.toNat : Int) = n) ↔ c = UInt8.ofNat n := by
  constructor
  · intro h
    have h' : c.toNat = n := by omega
    apply UInt8.toNat.inj
    rw [h', show (UInt8.ofNat n).toNat = n from by simp; omega]
  · rintro rfl
    have : (UInt8.ofNat n).toNat = n := by simp; omega
    omega
/-- the five kinds of a byte -/
theorem byte_kinds (c : UInt8) : ((c.toNat : Int) = 38 ∧ escB c = [38, 97, 109, 112, 59]) ∨ ((c.toNat : Int) = 60 ∧ escB c = [38, 108, 116, 59]) ∨ ((c.toNat : Int) = 62 ∧ escB c = [38, 103, 116, 59]) ∨ ((c.toNat : Int) = 34 ∧ escB c = [38, 113, 117, 111, 116, 59]) ∨
    (¬ (c.toNat : Int) = 38 ∧ ¬ (c.toNat : Int) = 60 ∧ ¬ (c.toNat : Int) = 62 ∧ ¬ (c.toNat : Int) = 34 ∧ escB c = [c]) := by
  have e1 := u8_eq (c := c) (n := 38) (by decide)
  have e2 := u8_eq (c := c) (n := 60) (by decide)
  have e3 := u8_eq (c := c) (n := 62) (by decide)
  have e4 := u8_eq (c := c) (n := 34) (by decide)
  by_cases h1 : c = 38
  · subst h1; exact .inl ⟨rfl, rfl⟩
  by_cases h2 : c = 60
  · subst h2; exact .inr (.inl ⟨rfl, rfl⟩)
  by_cases h3 : c = 62
  · subst h3; exact .inr (.inr (.inl ⟨rfl, rfl⟩))
  by_cases h4 : c = 34
  · subst h4; exact .inr (.inr (.inr (.inl ⟨rfl, rfl⟩)))
  refine .inr (.inr (.inr (.inr ⟨fun h => h1 (e1.1 h), fun h => h2 (e2.1 h), fun h => h3 (e3.1 h), fun h => h4 (e4.1 h), ?_⟩)))
  simp [escB, h1, h2, h3, h4]
end Go.Proofs.YtlcddndpfhdakaaDoor
