/- What TreeOk returns, those of the specification and those of the program. -/
import Derived.Test.YtbodeijffpepfaaSizeSpec
namespace Go.Proofs.Ytbodeijffpepfaa
open Go.RowKit
def okB : Option Int → Bool
  | none => false
  | some _ => true
set_option maxHeartbeats 400000 in
theorem specTreeOk_any {H : Type} {n : Nat} {w : World} {lo : Nat} {t k : Value} {d : DataW H} (ht : TreeAt w lo n t k d) :
    Calls Try.prog 45 #[.agg #[t, k]] w fun e w' => e = .returned (.bool (okB (szD n d 30))) ∧ Below w.heap.size w w' := by
  have hb0 : Below w.heap.size w (w.alloc (.cells #[t, k] 48)) := (Below.refl _ _).alloc (Nat.le_refl _) _
  have ht' : Hid _ := ht.below hb0
  clear ht
  go_enter Try.func45, Try.ntmps45
  go_wp2_with fail
  refine (l1S_all n _ lo _ _ d _ ht'.out (by omega) (by omega)).mono ?_
  rintro e w1 ⟨rfl, hb1⟩
  cases hq : szD n d 30 with
  | none =>
    rw [show resI none = -1 from rfl]
    have HQ : Hid _ := hq
    clear hq
    go_wp2_with fail
    go_ret
    exact ⟨by rw [HQ.out]; rfl, hb0.trans (hb1.mono hb0.size)⟩
  | some q =>
    have hqr := szD_range _ _ _ _ hq
    have HQ : Hid _ := hq
    clear hq
    rw [show resI (some q) = q from rfl]
    have hp : 0 < q := by omega
    go_wp2_with fail
    go_ret
    refine ⟨?_, hb0.trans (hb1.mono hb0.size)⟩
    rw [HQ.out]
    simp [okB]
end Go.Proofs.Ytbodeijffpepfaa
