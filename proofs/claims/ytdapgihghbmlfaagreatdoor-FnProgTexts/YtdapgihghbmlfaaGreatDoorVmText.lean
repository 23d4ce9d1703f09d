/- The text of an instruction and of a program: plain facts. -/
import Derived.Test.YtdapgihghbmlfaaGreatDoorVmDep
import Derived.Lib.ItoaNum
import Derived.Lib.Join
namespace Go.Proofs.YtdapgihghbmlfaaGreatDoor
open Go.RowKit
theorem stx_app (a b : ByteArray) : (a ++ b).data.toList = a.data.toList ++ b.data.toList := by
  rw [ByteArray.data_append, Array.toList_append]
theorem stx_size (a b : ByteArray) : (a ++ b).size = a.size + b.size := ByteArray.size_append
theorem stx_len (a : ByteArray) : a.data.toList.length = a.size := by rfl
/-- a number's text -/
def decT (n : Int) : ByteArray := ⟨(Lib.itoa n).toArray⟩
/-- an instruction's text -/
def instrT (x : InstrD) : ByteArray := if opT x.vKind = 0 then wordT x.vKind else if opT x.vKind = 3 then wordT x.vKind ++ ⟨#[32]⟩ ++ x.vName else wordT x.vKind ++ ⟨#[32]⟩ ++ decT x.vN
theorem instrT_none {x : InstrD} (h : opT x.vKind = 0) : instrT x = wordT x.vKind := by unfold instrT; rw [if_pos h]
theorem instrT_name {x : InstrD} (h : opT x.vKind = 3) : instrT x = wordT x.vKind ++ ⟨#[32]⟩ ++ x.vName := by unfold instrT; rw [if_neg (by omega), if_pos h]
theorem instrT_num {x : InstrD} (h : opT x.vKind = 1 ∨ opT x.vKind = 2) : instrT x = wordT x.vKind ++ ⟨#[32]⟩ ++ decT x.vN := by unfold instrT; rw [if_neg (by omega), if_neg (by omega)]
/-- a program's text -/
def joinT (l : List InstrD) : List UInt8 := Lib.join ((l.map instrT).map (·.data.toList)) [59, 32]
def progT (l : List InstrD) (b : Bool) : ByteArray := if b = true then ⟨(joinT l).toArray⟩ else ⟨#[]⟩
theorem joinT_take (l : List InstrD) (j : Nat) (h : j < l.length) : joinT (l.take (j + 1)) = joinT (l.take j) ++ ((if 0 < j then [59, 32] else []) ++ (instrT l[j]).data.toList) := by
  cases l with
  | nil => simp at h
  | cons x r =>
    cases j with
    | zero => simp [joinT, Lib.join_one, Lib.join_nil]
    | succ k =>
      have hk : k < r.length := by simpa using h
      simp only [joinT, List.take_succ_cons, List.map_cons, Lib.join_cons, List.getElem_cons_succ]
      rw [List.map_take, List.map_take, List.map_take, List.map_take, Lib.joinTail_take_succ _ _ k ((instrT r[k]).data.toList) (by simp [hk])]
      simp
theorem ite_six {c : Prop} [Decidable c] {a b : ByteArray} (h1 : a.size ≤ 6) (h2 : b.size ≤ 6) : (if c then a else b).size ≤ 6 := by
  by_cases h : c
  · rw [if_pos h]; exact h1
  · rw [if_neg h]; exact h2
theorem wordT_small (k : Int) : (wordT k).size ≤ 6 := by
  unfold wordT
  repeat refine ite_six (by decide) ?_
  decide
theorem nDigits_small7 {u : Nat} (h : u ≤ 1000000) : Lib.nDigits u ≤ 7 := by
  rcases Nat.lt_or_ge 7 (Lib.nDigits u) with q | q
  · exfalso
    have key : ∀ (k u : Nat), k < Lib.nDigits u → 10 ^ k ≤ u ∨ k = 0 := by
      intro k
      induction k with
      | zero => intro u _; exact Or.inr rfl
      | succ k ih =>
        intro u hu
        rcases Nat.lt_or_ge u 10 with hl | hl
        · rw [Lib.nDigits_small hl] at hu; omega
        · rw [Lib.nDigits_big (by omega)] at hu
          rcases ih (u / 10) (by omega) with h1 | h1
          · left; rw [Nat.pow_succ]; omega
          · subst h1; left; omega
    rcases key 7 u q with h1 | h1
    · omega
    · omega
  · exact q
theorem decT_small {n : Int} (h0 : -1000000 ≤ n) (h1 : n ≤ 1000000) : (decT n).size ≤ 8 := by
  rw [← stx_len]
  show (Lib.itoa n).length ≤ 8
  unfold Lib.itoa
  split
  · rw [List.length_cons, Lib.decDigits_length]; have := nDigits_small7 (u := n.natAbs) (by omega); omega
  · rw [Lib.decDigits_length]; have := nDigits_small7 (u := n.toNat) (by omega); omega
/-- the number of a right instruction is one that may be told, and its name is short -/
theorem instrB_num {x : InstrD} (h : instrB x = true) : -1000000 ≤ x.vN ∧ x.vN ≤ 1000000 := by
  have hk : 1 ≤ x.vKind ∧ x.vKind ≤ 15 := by
    by_cases q : 1 ≤ x.vKind ∧ x.vKind ≤ 15
    · exact q
    · rw [instrB_none q] at h; cases h
  rw [instrB_some hk] at h
  rcases opT_range x.vKind with q | q | q | q <;> rw [q] at h
  · rw [opdB_none] at h; simp at h; omega
  · rw [opdB_num] at h; simp [numB] at h; omega
  · rw [opdB_place] at h; simp at h; omega
  · rw [opdB_name] at h; simp at h; omega
theorem instrB_kind {x : InstrD} (h : instrB x = true) : 1 ≤ x.vKind ∧ x.vKind ≤ 15 := by
  by_cases q : 1 ≤ x.vKind ∧ x.vKind ≤ 15
  · exact q
  · rw [instrB_none q] at h; cases h
theorem instrB_nm {x : InstrD} (h : instrB x = true) : x.vName.size ≤ 6 := by
  have hk := instrB_kind h
  rw [instrB_some hk] at h
  have em : emB x.vName = true → x.vName.size ≤ 6 := fun e => by simp [emB] at e; rw [e]; show 0 ≤ 6; omega
  rcases opT_range x.vKind with q | q | q | q <;> rw [q] at h
  · rw [opdB_none] at h; simp at h; exact em h.2
  · rw [opdB_num] at h; simp at h; exact em h.2
  · rw [opdB_place] at h; simp at h; exact em h.2
  · rw [opdB_name] at h; simp at h
    rw [← stx_len]
    rcases Nat.lt_or_ge 6 x.vName.data.toList.length with q | q
    · rw [nameB_long _ q] at h; cases h.2
    · exact q
theorem instrT_small {x : InstrD} (h : instrB x = true) : (instrT x).size ≤ 15 := by
  have h1 := wordT_small x.vKind
  have h2 := decT_small (instrB_num h).1 (instrB_num h).2
  have h3 := instrB_nm h
  unfold instrT
  split
  · omega
  · split <;> rw [stx_size, stx_size] <;> (have : (ByteArray.mk #[32]).size = 1 := rfl) <;> omega
theorem joinT_small {l : List InstrD} (h : allB l = true) : ∀ j, j ≤ l.length → (joinT (l.take j)).length ≤ 17 * j := by
  intro j
  induction j with
  | zero => intro _; simp [joinT, Lib.join_nil]
  | succ j ih =>
    intro hj
    have h1 := ih (by omega)
    have h2 := instrT_small (allB_get h j hj)
    rw [joinT_take l j hj, List.length_append, List.length_append, stx_len]
    split <;> simp <;> omega
theorem ans_right {l : List InstrD} {ys : List Int} (h : Ans l true ys) : 1 ≤ l.length ∧ l.length ≤ 20 ∧ allB l = true := by
  rcases h with ⟨h, _⟩ | ⟨_, h, _⟩
  · simp [rightB] at h; exact ⟨by omega, by omega, h.2⟩
  · cases h
theorem decDigits_step {u : Nat} (h : 10 ≤ u) (t : List UInt8) : Lib.decDigits (u / 10) ++ ([UInt8.ofNat (48 + u % 10)] ++ t) = Lib.decDigits u ++ t := by
  rw [Lib.decDigits.eq_def u, dif_neg (by omega), List.append_assoc]
end Go.Proofs.YtdapgihghbmlfaaGreatDoor
