/- What hasKid and wayTo of the program return. -/
import Derived.Test.YtfncmndgdomjiaaPathsPlain
import Derived.Test.YtfncmndgdomjiaaOkWalks
import Derived.Test.YtfncmndgdomjiaaGrowApp
import Derived.Test.YtfncmndgdomjiaaTakeLit
namespace Go.Proofs.Ytfncmndgdomjiaa
open Go.RowKit
theorem hasKid_any (t : Value) (a : Option Addr) (n cap : Nat) (P : Int) (w : World) :
    Calls Try.prog 78 #[.agg #[t, .slice a n cap], .int .i64 P] w fun e w' => e = .returned (.bool (decide (0 ≤ P) && decide (P < (n : Int)))) ∧ Below w.heap.size w w' := by
  have hb0 : Below w.heap.size w (w.alloc (.cells #[t, .slice a n cap] 33)) := (Below.refl _ _).alloc (Nat.le_refl _) _
  by_cases h1 : 0 ≤ P
  · by_cases h2 : P < (n : Int)
    · go_enter Try.func78, Try.ntmps78
      go_wp2_with fail
      go_ret
      exact ⟨ret_bool (by simp [h1, h2]), hb0⟩
    · go_enter Try.func78, Try.ntmps78
      go_wp2_with fail
      go_ret
      exact ⟨ret_bool (by rw [decide_eq_false (p := P < (n : Int)) (by omega)]), hb0⟩
  · go_enter Try.func78, Try.ntmps78
    go_wp2_with fail
    go_ret
    exact ⟨ret_bool (by rw [decide_eq_false (by omega)]; rfl), hb0⟩
/-- one on the way: its tag, its kids, in an elder world -/
def WayC {H : Type} (w : World) (lo n : Nat) (cs : List Value) (D : DataW H) : Prop :=
  ∃ (m : Nat) (a : Option Addr) (c : Nat), cs = [.string (strT D), .slice a (kidsOf D).length c] ∧ TreeAt w lo m (.string (strT D)) (.slice a (kidsOf D).length c) D ∧ m ≤ n
def WayO {H : Type} (w : World) (lo n : Nat) (_ : World) (cs : List Value) (D : DataW H) (fs : List Nat) : Prop := WayC w lo n cs D ∧ fs = []
def WayA {H : Type} (w : World) (lo n : Nat) (_ : World) (_ : Nat) (cs : List Value) (D : DataW H) : Prop := WayC w lo n cs D
theorem wayO_stays {H : Type} (w : World) (lo n : Nat) : OwnStays (WayO (H := H) w lo n) := fun _ _ _ _ _ _ h => h
theorem wayA_stays {H : Type} (w : World) (lo n : Nat) : Stays (WayA (H := H) w lo n) := fun _ _ _ _ _ _ _ h => h
/-- all on the way, as far as the j-th -/
def wayJ {H : Type} (d : DataW H) (path : List Int) (j : Nat) : List (DataW H) := (List.range (j + 1)).map fun i => endP d (path.take i)
theorem wayJ_succ {H : Type} (d : DataW H) (path : List Int) (j : Nat) : wayJ d path (j + 1) = wayJ d path j ++ [endP d (path.take (j + 1))] := by
  unfold wayJ
  rw [List.range_succ, List.map_append]; rfl
theorem wayJ_length {H : Type} (d : DataW H) (path : List Int) (j : Nat) : (wayJ d path j).length = j + 1 := by simp [wayJ]
theorem wayJ_get {H : Type} (d : DataW H) (path : List Int) (j i : Nat) (h : i < (wayJ d path j).length) : (wayJ d path j)[i] = endP d (path.take i) := by simp [wayJ]
theorem infoTree : ((Try.prog.info? 33).map fun i => (i.zero, i.size, i.bytes)) = some (some (.agg #[.string ByteArray.empty, .slice none 0 0]), 2, 40) := by kernel_rfl
theorem info_parts {P : Program} {T : TypeId} {z : Value} {s b : Nat} (h : ((P.info? T).map fun i => (i.zero, i.size, i.bytes)) = some (some z, s, b)) : ∃ i, P.info? T = some i ∧ i.zero = some z ∧ i.size = s ∧ i.bytes = b := by
  obtain ⟨i, hi, he⟩ := Option.map_eq_some_iff.1 h
  simp only [Prod.mk.injEq] at he
  exact ⟨i, hi, he.1, he.2.1, he.2.2⟩
/-- what wayTo tells -/
def WayRes {H : Type} (w w' : World) (lo n : Nat) (ok : Bool) (d : DataW H) (path : List Int) (e : Ending) : Prop :=
  (ok = true ∧ okP d path = true ∧ ∃ kw, e = .returned (.tuple #[kw, .bool true]) ∧ SeqAt 2 (WayA w lo n) w' w.heap.size kw (wayJ d path path.length)) ∨
  ((ok && okP d path) = false ∧ e = .returned (.tuple #[.slice none 0 0, .bool false]))
end Go.Proofs.Ytfncmndgdomjiaa
