/- Whether a number is in a row: walked. -/
import Derived.Test.YtdnembnlomnceaaHeapSmall
import Derived.Test.YtdnembnlomnceaaNameWalks
namespace Go.Proofs.Ytdnembnlomnceaa
open Go.RowKit
theorem hasB_hitW {xs : List Int} {x : Int} {j : Nat} (h : j < xs.length) (e : xs[j] = x) : hasB (xs.drop j) x = true := by
 rw [drop_cons xs j h]; simp [hasB, e]
theorem hasB_missW {xs : List Int} {x : Int} {j : Nat} (h : j < xs.length) (e : ¬ xs[j] = x) : hasB (xs.drop j) x = hasB (xs.drop (j + 1)) x := by
 rw [drop_cons xs j h]; simp [hasB, e]
set_option maxHeartbeats 400000 in
theorem has_any {w : World} {lo : Nat} {k : Value} {xs : List Int} {x : Int} (hk : SeqAt 1 IntAt w lo k xs) :
 Calls Try.prog 20 #[k, .int .i64 x] w fun e w' => e = .returned (.bool (hasB xs x)) ∧ w' = w := by
 obtain ⟨a, cap, rfl, hm, hx⟩ := hk
 unfold maxLen at hm
 have hx' : Hid _ := hx
 clear hx
 go_enter Try.func20, Try.ntmps20
 go_wp2_with fail
 go_loop [5] (fun i => ∃ (j : Nat), j ≤ xs.length ∧ i = .int .i64 j ∧ Hid (hasB xs x = hasB (xs.drop j) x)) (fun i => xs.length - (intOf i).toNat)
 case atStart => exact ⟨0, by omega, rfl, rfl⟩
 case round =>
  obtain ⟨j, hj, rfl, hrem⟩ := hrel
  by_cases hlt : j < xs.length
  · obtain ⟨b, off, rfl, hlo, hbw, hc⟩ := hx'.out (by omega)
    obtain ⟨cs, hcl, lie, hr⟩ := hc j hlt
    have Hh : Hid _ := hasB_hitW (x := x) hlt
    have Hm : Hid _ := hasB_missW (x := x) hlt
    generalize xs[j] = Q at hr Hh Hm
    obtain ⟨rfl, _⟩ := hr
    have z0 := lie_at lie 0 rfl
    simp only [Nat.mul_one, Nat.add_zero] at z0
    clear lie hcl hx' hc
    by_cases hq : Q = x
    · have H2 : Hid (hasB xs x = true) := by show _ = _; rw [hrem.out, Hh.out hq]
      subst hq
      clear Hh Hm hrem
      go_wp2_with fail
      go_ret
      exact ⟨by rw [H2.out] <;> rfl, rfl⟩
    · have H2 : Hid _ := Hm.out hq
      go_wp2_with fail
      go_round
      case rel => exact ⟨j + 1, by omega, by go_num, by show _ = _; rw [hrem.out, H2.out]⟩
      case measure => simp [intOf]; omega
  · have H2 : Hid (hasB xs x = false) := by show _ = _; rw [hrem.out, List.drop_of_length_le (by omega)]; rfl
    go_wp2_with fail
    go_ret
    exact ⟨by rw [H2.out] <;> rfl, rfl⟩
end Go.Proofs.Ytdnembnlomnceaa
