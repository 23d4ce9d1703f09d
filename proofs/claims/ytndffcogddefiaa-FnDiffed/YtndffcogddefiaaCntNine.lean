/- How many nodes a right tree has: few. -/
import Derived.Test.YtndffcogddefiaaTreeDraw
import Derived.Test.YtndffcogddefiaaRightPlain
namespace Go.Proofs.Ytndffcogddefiaa
open Go.RowKit
theorem cntL_cons {α : Type} (cnt : α → Nat) (x : α) (xs : List α) : cntL cnt (x :: xs) = cnt x + cntL cnt xs := by simp [cntL, pos]
theorem cntL_nil {α : Type} (cnt : α → Nat) : cntL cnt [] = 0 := by simp [cntL, pos]
def cntTree : Nat → TD → Nat
  | 0, _ => 0
  | n + 1, x => 1 + cntL (cntTree n) (kidsOf x)
theorem szF_cnt {f : TD → Int → Option Int} {cnt : TD → Nat} (hf : ∀ d r q, f d r = some q → (cnt d : Int) ≤ q) : ∀ (ds : List TD) (room size m : Int), szF f ds room size = some m → size + (cntL cnt ds : Int) ≤ m := by
  intro ds
  induction ds with
  | nil => intro room size m h; simp [szF] at h; rw [cntL_nil]; simp; omega
  | cons d ds ih =>
    intro room size m h
    unfold szF at h
    split at h
    · cases h
    · rename_i q hq
      have h1 := hf _ _ _ hq
      have h2 := ih _ _ _ h
      rw [cntL_cons]
      omega
theorem szD_cnt : ∀ (n : Nat) (d : TD) (room m : Int), szD n d room = some m → ∀ L, (cntTree L d : Int) ≤ m := by
  intro n
  induction n with
  | zero => intro d room m h; simp [szD] at h
  | succ n ih =>
    intro d room m h L
    have hm := szD_range _ _ _ _ h
    cases L with
    | zero => simp [cntTree]; omega
    | succ L =>
      unfold szD at h
      split at h
      · cases h
      · have := szF_cnt (fun d r q hq => ih d r q hq L) _ _ _ _ h
        simp only [cntTree]
        omega
theorem RightT.cnt {d : TD} (h : RightT d) (L : Nat) : cntL (cntTree L) (kidsOf d) ≤ 30 := by
  obtain ⟨n, room, m, e, hr⟩ := h
  have h1 := szD_cnt n d room m e (L + 1)
  have h2 := szD_range _ _ _ _ e
  simp only [cntTree] at h1
  omega
end Go.Proofs.Ytndffcogddefiaa
