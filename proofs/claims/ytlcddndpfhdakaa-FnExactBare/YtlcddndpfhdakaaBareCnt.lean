/- How much is marked of a bare tree: little. -/
import Derived.Test.YtlcddndpfhdakaaBareTop
import Derived.Test.YtlcddndpfhdakaaTreeMarks
namespace Go.Proofs.Ytlcddndpfhdakaa
open Go.RowKit
theorem cntLB_cons {α : Type} (cnt : α → Nat) (x : α) (xs : List α) : cntL cnt (x :: xs) = cnt x + cntL cnt xs := by simp [cntL, pos]
theorem cntLB_nil {α : Type} (cnt : α → Nat) : cntL cnt [] = 0 := by simp [cntL, pos]
theorem mzF_bare {f : MarkD → Int → Option Int} {g : MarkD → TD} {cnt : TD → Nat} (hf : ∀ k r q, f k r = some q → 0 ≤ q ∧ (cnt (g k) : Int) ≤ q) : ∀ (ks : List MarkD) (p : Bool) (room size m : Int), mzF f p ks room size = some m → size + (cntL cnt ((ks.filter fun k => !isT k).map g) : Int) ≤ m := by
  intro ks
  induction ks with
  | nil => intro p room size m h; simp [mzF] at h; rw [List.filter_nil, List.map_nil, cntLB_nil]; omega
  | cons k ks ih =>
    intro p room size m h
    unfold mzF at h
    split at h
    · cases h
    · rename_i q hq
      split at h
      · cases h
      · have h1 := ih _ _ _ _ h
        have h2 := hf _ _ _ hq
        cases hT : isT k
        · rw [List.filter_cons_of_pos (by simp [hT]), List.map_cons, cntLB_cons]; omega
        · rw [List.filter_cons_of_neg (by simp [hT])]; omega
theorem bare_cnt : ∀ (n : Nat) (x : MarkD) (room m : Int), mzD n x room = some m → ∀ L, (cntTree L (bareD n x) : Int) ≤ m ∧ (cntL (cntTree L) (kidsOf (bareD n x)) : Int) ≤ m := by
  intro n
  induction n with
  | zero => intro x room m h; simp [mzD] at h
  | succ n ih =>
    intro x room m h L
    have hr := mzD_range _ _ _ _ h
    unfold mzD at h
    split at h
    · cases h
    · have key : ∀ L, (1 : Int) + (cntL (cntTree L) (kidsOf (bareD (n + 1) x)) : Int) ≤ m := fun L => by
        have := mzF_bare (f := mzD n) (g := bareD n) (cnt := cntTree L) (fun k r q hq => ⟨by have := mzD_range _ _ _ _ hq; omega, (ih k r q hq L).1⟩) _ _ _ _ _ h
        exact this
      refine ⟨?_, by have := key L; omega⟩
      cases L with
      | zero => simp only [cntTree]; omega
      | succ L => have := key L; simp only [cntTree]; omega
theorem bareR_cnt (n : Nat) (x : MarkD) (L : Nat) : cntL (cntTree L) (kidsOf (bareR n x).1) ≤ 30 := by
  by_cases h : okM (mzD n x 30) = true ∧ isT x = false
  · rw [bareR_yes h]
    show cntL (cntTree L) (kidsOf (bareD n x)) ≤ 30
    cases hq : mzD n x 30 with
    | none => rw [hq] at h; cases h.1
    | some m => have h1 := (bare_cnt n x 30 m hq L).2; have h2 := mzD_range _ _ _ _ hq; omega
  · rw [bareR_no h]
    show cntL (cntTree L) [] ≤ 30
    rw [cntLB_nil]; omega
end Go.Proofs.Ytlcddndpfhdakaa
