/- What SizeOf of the program returns. -/
import Derived.Test.YtndffcogddefiaaOkWalks
namespace Go.Proofs.Ytndffcogddefiaa
open Go.RowKit
set_option maxHeartbeats 400000 in
theorem implSizeOf_any {H : Type} {n : Nat} {w : World} {lo : Nat} {t k : Value} {d : DataW H} (ht : TreeAt w lo n t k d) :
    Calls Try.prog 14 #[.agg #[t, k]] w fun e w' => e = .returned (.int .i64 (resI (szD n d 30))) ∧ Below w.heap.size w w' := by
  have hb0 : Below w.heap.size w (w.alloc (.cells #[t, k] 26)) := (Below.refl _ _).alloc (Nat.le_refl _) _
  have ht' : Hid _ := ht.below hb0
  clear ht
  go_enter Try.func14, Try.ntmps14
  go_wp2_with fail
  refine (swS_all n _ lo _ _ d _ ht'.out (by omega) (by omega)).mono ?_
  rintro e w1 ⟨rfl, hb1⟩
  cases hq : szD n d 30 with
  | none =>
    rw [show resP none = .tuple #[.int .i64 0, .bool false] from rfl]
    have HQ : Hid _ := hq
    clear hq
    go_wp2_with fail
    go_ret
    exact ⟨by rw [HQ.out]; rfl, hb0.trans (hb1.mono hb0.size)⟩
  | some q =>
    have HQ : Hid _ := hq
    clear hq
    rw [show resP (some q) = .tuple #[.int .i64 q, .bool true] from rfl]
    go_wp2_with fail
    go_ret
    exact ⟨by rw [HQ.out]; rfl, hb0.trans (hb1.mono hb0.size)⟩
end Go.Proofs.Ytndffcogddefiaa
