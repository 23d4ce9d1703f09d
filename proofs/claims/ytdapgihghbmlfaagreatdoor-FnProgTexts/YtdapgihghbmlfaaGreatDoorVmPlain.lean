/- Instructions: plain facts on what is right, what each takes and gives, and what it is called. -/
import Derived.Test.YtdapgihghbmlfaaGreatDoorInRecs
import Derived.Test.YtdapgihghbmlfaaGreatDoorNames
namespace Go.Proofs.YtdapgihghbmlfaaGreatDoor
open Go.RowKit
/-- what an instruction names beside itself: 1 a number, 2 a place, 3 a name, 0 nothing -/
def opT (k : Int) : Int := if k = 1 then 1 else if k = 10 ∨ k = 11 then 2 else if 3 ≤ k ∧ k ≤ 6 then 3 else 0
def takesT (k : Int) : Int := if k = 4 ∨ k = 13 ∨ k = 14 ∨ k = 11 then 1 else if k = 5 ∨ k = 12 then 1 else if k = 6 ∨ k = 8 ∨ k = 9 then 2 else 0
def givesT (k : Int) : Int := if k = 1 ∨ k = 2 ∨ k = 3 ∨ k = 7 then 1 else if k = 5 ∨ k = 8 ∨ k = 9 then 1 else if k = 12 then 2 else 0
/-- its word -/
def wordT (k : Int) : ByteArray :=
  if k = 1 then ⟨#[110, 117, 109]⟩ else if k = 2 then ⟨#[110, 105, 108]⟩ else if k = 3 then ⟨#[108, 111, 97, 100]⟩ else if k = 4 then ⟨#[115, 116, 111, 114, 101]⟩ else
  if k = 5 then ⟨#[103, 101, 116]⟩ else if k = 6 then ⟨#[115, 101, 116]⟩ else if k = 7 then ⟨#[110, 101, 119]⟩ else if k = 8 then ⟨#[97, 100, 100]⟩ else
  if k = 9 then ⟨#[108, 101, 115, 115]⟩ else if k = 10 then ⟨#[106, 117, 109, 112]⟩ else if k = 11 then ⟨#[117, 110, 108, 101, 115, 115]⟩ else if k = 12 then ⟨#[100, 117, 112]⟩ else
  if k = 13 then ⟨#[112, 111, 112]⟩ else if k = 14 then ⟨#[116, 101, 108, 108]⟩ else if k = 15 then ⟨#[104, 97, 108, 116]⟩ else ⟨#[]⟩
/-- a number that may be told -/
def numB (n : Int) : Bool := decide (-1000000 ≤ n) && decide (n ≤ 1000000)
def emB (s : ByteArray) : Bool := decide (s = ⟨#[]⟩)
/-- is what it names beside itself right? -/
def opdB (o : Int) (x : InstrD) : Bool :=
  if o = 1 then numB x.vN && emB x.vName else if o = 2 then decide (0 ≤ x.vN) && decide (x.vN < 20) && emB x.vName else if o = 3 then decide (x.vN = 0) && nameB x.vName.data.toList else decide (x.vN = 0) && emB x.vName
/-- a right instruction -/
def instrB (x : InstrD) : Bool := (decide (1 ≤ x.vKind) && decide (x.vKind ≤ 15)) && opdB (opT x.vKind) x
def namedB (k : Int) : Bool := decide (3 ≤ k) && decide (k ≤ 6)
theorem instrB_none {x : InstrD} (h : ¬ (1 ≤ x.vKind ∧ x.vKind ≤ 15)) : instrB x = false := by
  unfold instrB
  have : (decide (1 ≤ x.vKind) && decide (x.vKind ≤ 15)) = false := by simp only [Bool.and_eq_false_iff, decide_eq_false_iff_not]; omega
  rw [this]; rfl
theorem instrB_some {x : InstrD} (h : 1 ≤ x.vKind ∧ x.vKind ≤ 15) : instrB x = opdB (opT x.vKind) x := by simp [instrB, h.1, h.2]
theorem opT_range (k : Int) : opT k = 0 ∨ opT k = 1 ∨ opT k = 2 ∨ opT k = 3 := by unfold opT; (repeat' split) <;> simp
theorem opT_num {k : Int} (h : k = 1) : opT k = 1 := by simp [opT, h]
theorem opT_place {k : Int} (h : k = 10 ∨ k = 11) : opT k = 2 := by rcases h with rfl | rfl <;> simp [opT]
theorem opT_name {k : Int} (h : 3 ≤ k ∧ k ≤ 6) : opT k = 3 := by unfold opT; rw [if_neg (by omega), if_neg (by omega), if_pos h]
theorem opT_none {k : Int} (h1 : ¬ k = 1) (h2 : ¬ (k = 10 ∨ k = 11)) (h3 : ¬ (3 ≤ k ∧ k ≤ 6)) : opT k = 0 := by unfold opT; rw [if_neg h1, if_neg h2, if_neg h3]
theorem opdB_num (x : InstrD) : opdB 1 x = (numB x.vN && emB x.vName) := by simp [opdB]
theorem opdB_place (x : InstrD) : opdB 2 x = (decide (0 ≤ x.vN) && decide (x.vN < 20) && emB x.vName) := by simp [opdB]
theorem opdB_name (x : InstrD) : opdB 3 x = (decide (x.vN = 0) && nameB x.vName.data.toList) := by simp [opdB]
theorem opdB_none (x : InstrD) : opdB 0 x = (decide (x.vN = 0) && emB x.vName) := by simp [opdB]
theorem takesT_range (k : Int) : 0 ≤ takesT k ∧ takesT k ≤ 2 := by unfold takesT; (repeat' split) <;> omega
theorem givesT_range (k : Int) : 0 ≤ givesT k ∧ givesT k ≤ 2 := by unfold givesT; (repeat' split) <;> omega
end Go.Proofs.YtdapgihghbmlfaaGreatDoor
