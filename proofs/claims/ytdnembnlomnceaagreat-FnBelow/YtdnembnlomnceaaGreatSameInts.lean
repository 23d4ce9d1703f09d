/- sameInts of the laws, of a row that is the same. -/
import Derived.Test.YtdnembnlomnceaaGreatHeapSmall
import Derived.Test.YtdnembnlomnceaaGreatNameWalks
import Derived.Test.YtdnembnlomnceaaGreatTakeMore
import Derived.Deep.RegionHeld3
import Derived.ProofKit
namespace Go.Proofs.YtdnembnlomnceaaGreat
open Go.RowKit
theorem hasB_hitW {xs : List Int} {x : Int} {j : Nat} (h : j < xs.length) (e : xs[j] = x) : hasB (xs.drop j) x = true := by
 rw [drop_cons xs j h]; simp [hasB, e]
theorem hasB_missW {xs : List Int} {x : Int} {j : Nat} (h : j < xs.length) (e : ¬ xs[j] = x) : hasB (xs.drop j) x = hasB (xs.drop (j + 1)) x := by
 rw [drop_cons xs j h]; simp [hasB, e]
set_option maxHeartbeats 400000 in
theorem has_any {w : World} {lo : Nat} {k : Value} {xs : List Int} {x : Int} (hk : SeqAt 1 IntAt w lo k xs) :
 Calls Tryz.prog 10 #[k, .int .i64 x] w fun e w' => e = .returned (.bool (hasB xs x)) ∧ w' = w := by
 obtain ⟨a, cap, rfl, hm, hx⟩ := hk
 unfold maxLen at hm
 have hx' : Hid _ := hx
 clear hx
 go_enter Tryz.func10, Tryz.ntmps10
 go_wp2_with fail
 go_loop [5] (fun i => ∃ (j : Nat), j ≤ xs.length ∧ i = .int .i64 j ∧ Hid (hasB xs x = hasB (xs.drop j) x)) (fun i => xs.length - (intOf i).toNat)
 case atStart => exact ⟨0, by omega, rfl, rfl⟩
 case round =>
  obtain ⟨j, hj, rfl, hrem⟩ := hrel
  by_cases hlt : j < xs.length
  · obtain ⟨b, off, rfl, hlo, hbw, hc⟩ := hx'.out (by omega)
    obtain ⟨cs, hcl, lie, hr⟩ := hc j hlt
    have Hh : Hid _ := hasB_hitW (x := x) hlt
    have Hm : Hid _ := hasB_missW (x := x) hlt
    generalize xs[j] = Q at hr Hh Hm
    obtain ⟨rfl, _⟩ := hr
    have z0 := lie_at lie 0 rfl
    simp only [Nat.mul_one, Nat.add_zero] at z0
    clear lie hcl hx' hc
    by_cases hq : Q = x
    · have H2 : Hid (hasB xs x = true) := by show _ = _; rw [hrem.out, Hh.out hq]
      subst hq
      clear Hh Hm hrem
      go_wp2_with fail
      go_ret
      exact ⟨by rw [H2.out] <;> rfl, rfl⟩
    · have H2 : Hid _ := Hm.out hq
      go_wp2_with fail
      go_round
      case rel => exact ⟨j + 1, by omega, by go_num, by show _ = _; rw [hrem.out, H2.out]⟩
      case measure => simp [intOf]; omega
  · have H2 : Hid (hasB xs x = false) := by show _ = _; rw [hrem.out, List.drop_of_length_le (by omega)]; rfl
    go_wp2_with fail
    go_ret
    exact ⟨by rw [H2.out] <;> rfl, rfl⟩
end Go.Proofs.YtdnembnlomnceaaGreat
namespace Go.Proofs.YtdnembnlomnceaaGreat
open Go.RowKit Go.Deep
def withinB (xs ys : List Int) : Bool := xs.all fun x => hasB ys x
theorem withinB_hit {xs ys : List Int} {j : Nat} (h : j < xs.length) (e : hasB ys xs[j] = true) : withinB (xs.drop j) ys = withinB (xs.drop (j + 1)) ys := by
 unfold withinB; rw [drop_cons xs j h, List.all_cons, e, Bool.true_and]
theorem withinB_miss {xs ys : List Int} {j : Nat} (h : j < xs.length) (e : hasB ys xs[j] = false) : withinB (xs.drop j) ys = false := by
 unfold withinB; rw [drop_cons xs j h, List.all_cons, e, Bool.false_and]
set_option maxHeartbeats 400000 in
theorem within_any {w : World} {lo lo2 : Nat} {k k2 : Value} {xs ys : List Int} (hk : SeqAt 1 IntAt w lo k xs) (hk2 : SeqAt 1 IntAt w lo2 k2 ys) :
 Calls Tryz.prog 12 #[k, k2] w fun e w' => e = .returned (.bool (withinB xs ys)) ∧ w' = w := by
 obtain ⟨a, cap, rfl, hm, hx⟩ := hk
 unfold maxLen at hm
 have hx' : Hid _ := hx
 have h2 : Hid (SeqAt 1 IntAt w lo2 k2 ys) := hk2
 clear hx hk2
 go_enter Tryz.func12, Tryz.ntmps12
 go_wp2_with fail
 go_loop [5] (fun i => ∃ (j : Nat), j ≤ xs.length ∧ i = .int .i64 j ∧ Hid (withinB xs ys = withinB (xs.drop j) ys)) (fun i => xs.length - (intOf i).toNat)
 case atStart => exact ⟨0, by omega, rfl, rfl⟩
 case round =>
  obtain ⟨j, hj, rfl, hrem⟩ := hrel
  by_cases hlt : j < xs.length
  · obtain ⟨b, off, rfl, hlo, hbw, hc⟩ := hx'.out (by omega)
    obtain ⟨cs, hcl, lie, hr⟩ := hc j hlt
    have Hh : Hid _ := withinB_hit (ys := ys) hlt
    have Hm : Hid _ := withinB_miss (ys := ys) hlt
    generalize xs[j] = Q at hr Hh Hm
    obtain ⟨rfl, _⟩ := hr
    have z0 := lie_at lie 0 rfl
    simp only [Nat.mul_one, Nat.add_zero] at z0
    clear lie hcl hx' hc
    obtain ⟨r, hq⟩ : ∃ r, hasB ys Q = r := ⟨_, rfl⟩
    have hqh : Hid (hasB ys Q = r) := hq
    clear hq
    go_wp2_with fail
    refine (has_any h2.out).mono ?_
    rintro e w9 ⟨rfl, e9⟩
    have e10 := e9.symm
    clear e9
    subst e10
    rw [hqh.out]
    cases r
    · have H2 : Hid (withinB xs ys = false) := by show _ = _; rw [hrem.out, Hm.out hqh.out]
      clear Hh Hm hrem
      go_wp2_with fail
      go_ret
      exact ⟨by rw [H2.out] <;> rfl, rfl⟩
    · have H2 : Hid _ := Hh.out hqh.out
      go_wp2_with fail
      go_round
      case rel => exact ⟨j + 1, by omega, by go_num, by show _ = _; rw [hrem.out, H2.out]⟩
      case measure => simp [intOf]; omega
  · have H2 : Hid (withinB xs ys = true) := by show _ = _; rw [hrem.out, List.drop_of_length_le (by omega)]; rfl
    go_wp2_with fail
    go_ret
    exact ⟨by rw [H2.out] <;> rfl, rfl⟩
end Go.Proofs.YtdnembnlomnceaaGreat
namespace Go.Proofs.YtdnembnlomnceaaGreat
open Go.RowKit
set_option maxHeartbeats 800000 in
theorem sameInts_any {w : World} {lo lo2 : Nat} {k k2 : Value} {xs : List Int} (hk : SeqAt 1 IntAt w lo k xs) (hk2 : SeqAt 1 IntAt w lo2 k2 xs) :
 Calls Tryz.prog 8 #[k, k2] w fun e w' => e = .returned (.bool true) ∧ Below w.heap.size w w' := by
 obtain ⟨a, cap, rfl, hm, hx⟩ := hk
 obtain ⟨a2, cap2, rfl, _, hx2⟩ := hk2
 unfold maxLen at hm
 have hx' : Hid _ := hx
 have hx2' : Hid _ := hx2
 clear hx hx2
 go_enter Tryz.func8, Tryz.ntmps8
 go_wp2_with fail
 go_loopw [5] (fun i wr => ∃ (j : Nat), j ≤ xs.length ∧ i = .int .i64 j ∧ Below w.heap.size w wr) (fun i _ => xs.length - (intOf i).toNat)
 case atStart => exact ⟨0, by omega, rfl, Below.refl _ _⟩
 case round =>
  obtain ⟨j, hj, rfl, hb⟩ := hrel
  by_cases hlt : j < xs.length
  · obtain ⟨b, off, rfl, hlo, hbw, hc⟩ := hx'.out (by omega)
    obtain ⟨b2, off2, rfl, hlo2, hbw2, hc2⟩ := hx2'.out (by omega)
    obtain ⟨cs, hcl, lie, hr⟩ := hc j hlt
    obtain ⟨cs2, hcl2, lie2, hr2⟩ := hc2 j hlt
    have lie1 := Lie.keep (lo := lo) (lo' := lo) lie (.of_below hb) hlo hbw
    have lie3 := Lie.keep (lo := lo2) (lo' := lo2) lie2 (.of_below hb) hlo2 hbw2
    generalize xs[j] = X at hr hr2
    obtain ⟨rfl, hI⟩ := hr
    obtain ⟨rfl, _⟩ := hr2
    have z0 := lie1 0 (by simp)
    have z1 := lie3 0 (by simp)
    simp only [List.getElem?_cons_zero, Nat.add_zero, Nat.mul_one] at z0 z1
    have hlt' : (j : Int) < (xs.length : Int) := by omega
    have h0' : (0 : Int) ≤ (j : Int) := by omega
    clear lie lie2 lie1 lie3 hcl hcl2 hx' hx2' hc hc2
    go_wp2_with fail
    go_region_held3 (fun w' => w'.cell? ⟨b, off + j, none⟩ = some (.int .i64 X) ∧ w'.cell? ⟨b2, off2 + j, none⟩ = some (.int .i64 X)) (go_keep) (fail)
    go_wp2_with fail
    go_roundw
    case rel => exact ⟨j + 1, by omega, by go_num, hb.drew⟩
    case measure => simp [intOf]; omega
  · go_wp2_with fail
    go_ret
    exact ⟨rfl, hb⟩
end Go.Proofs.YtdnembnlomnceaaGreat
