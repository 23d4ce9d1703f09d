/- The small functions of the specification's second chapter, walked. -/
import Derived.Test.YtmffdjdgoddnjaaHeap
import Derived.Test.YtmffdjdgoddnjaaNameWalks
import Derived.Test.YtmffdjdgoddnjaaTakeLit
import Derived.WalkKit
namespace Go.Proofs.Ytmffdjdgoddnjaa
open Go.RowKit
theorem l1In_any (n low high : Int) (w : World) : Calls Try.prog 15 #[.int .i64 n, .int .i64 low, .int .i64 high] w fun e w' => e = .returned (.bool (inB n low high)) ∧ w' = w := by
  by_cases h1 : low ≤ n
  · by_cases h2 : n ≤ high
    · go_enter Try.func15, Try.ntmps15
      go_wp2_with fail
      go_ret
      exact ⟨ret_bool (by simp [inB, h1, h2]), rfl⟩
    · go_enter Try.func15, Try.ntmps15
      go_wp2_with fail
      go_ret
      exact ⟨ret_bool (by simp [inB, h1, h2]), rfl⟩
  · go_enter Try.func15, Try.ntmps15
    go_wp2_with fail
    go_ret
    exact ⟨ret_bool (by simp [inB]; omega), rfl⟩
theorem lie_at {w : World} {b o : Nat} {cs : List Value} (h : Lie w b o cs) (m : Nat) {v : Value} (e : cs[m]? = some v) : w.cell? ⟨b, o + m, none⟩ = some v := by
  have hm : m < cs.length := by
    rcases Nat.lt_or_ge m cs.length with h | h
    · exact h
    · rw [List.getElem?_eq_none h] at e; cases e
  rw [h m hm]; exact e
end Go.Proofs.Ytmffdjdgoddnjaa
