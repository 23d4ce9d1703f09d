/- sameHandles of the laws, on two lists of the same handles; big. -/
import Derived.Test.YtcbomaflfjdmjaaArRows
import Derived.Deep.RegionHeld3
import Derived.ProofKit
namespace Go.Proofs.Ytcbomaflfjdmjaa
open Go.RowKit
set_option maxHeartbeats 800000 in
theorem sameHandles_any {w : World} {lo lo2 : Nat} {k k2 : Value} {xs : List HandleD} (hk : SeqAt 2 HandleAt w lo k xs) (hk2 : SeqAt 2 HandleAt w lo2 k2 xs) :
    Calls Try.prog 13 #[k, k2] w fun e w' => e = .returned (.bool true) ∧ Below w.heap.size w w' := by
  obtain ⟨a, cap, rfl, hm, hx⟩ := hk
  obtain ⟨a2, cap2, rfl, _, hx2⟩ := hk2
  unfold maxLen at hm
  have hx' : Hid _ := hx
  have hx2' : Hid _ := hx2
  clear hx hx2
  go_enter Try.func13, Try.ntmps13
  go_wp2_with fail
  go_loopw [5] (fun i wr => ∃ (j : Nat), j ≤ xs.length ∧ i = .int .i64 j ∧ Below w.heap.size w wr) (fun i _ => xs.length - (intOf i).toNat)
  case atStart => exact ⟨0, by omega, rfl, Below.refl _ _⟩
  case round =>
    obtain ⟨j, hj, rfl, hb⟩ := hrel
    by_cases hlt : j < xs.length
    · obtain ⟨b, off, rfl, hlo, hbw, hc⟩ := hx'.out (by omega)
      obtain ⟨b2, off2, rfl, hlo2, hbw2, hc2⟩ := hx2'.out (by omega)
      obtain ⟨cs, hcl, lie, hr⟩ := hc j hlt
      obtain ⟨cs2, hcl2, lie2, hr2⟩ := hc2 j hlt
      have lie1 := Lie.keep (lo := lo) (lo' := lo) lie (.of_below hb) hlo hbw
      have lie3 := Lie.keep (lo := lo2) (lo' := lo2) lie2 (.of_below hb) hlo2 hbw2
      generalize xs[j] = X at hr hr2
      obtain ⟨rfl, _⟩ := hr
      obtain ⟨rfl, _⟩ := hr2
      have z0 := lie1 0 (by simp)
      have z1 := lie1 1 (by simp)
      have y0 := lie3 0 (by simp)
      have y1 := lie3 1 (by simp)
      simp only [List.getElem?_cons_zero, List.getElem?_cons_succ, Nat.add_zero] at z0 z1 y0 y1
      have hlt' : (j : Int) < (xs.length : Int) := by omega
      have h0' : (0 : Int) ≤ (j : Int) := by omega
      clear lie lie2 lie1 lie3 hcl hcl2 hx' hx2' hc hc2
      go_wp2_with fail
      go_region_held3 (fun w' => w'.cell? ⟨b, off + j * 2, none⟩ = some (.int .i64 X.vAt) ∧ w'.cell? ⟨b, off + j * 2 + 1, none⟩ = some (.int .i64 X.vGen) ∧ w'.cell? ⟨b2, off2 + j * 2, none⟩ = some (.int .i64 X.vAt) ∧ w'.cell? ⟨b2, off2 + j * 2 + 1, none⟩ = some (.int .i64 X.vGen)) (go_keep) (fail)
      go_wp2_with fail
      go_roundw
      case rel => exact ⟨j + 1, by omega, by go_num, hb.drew⟩
      case measure => simp [intOf]; omega
    · go_wp2_with fail
      go_ret
      exact ⟨rfl, hb⟩
set_option maxHeartbeats 1000000 in
theorem big_any {a : Option Addr} {n cap : Nat} (w : World) : Calls Try.prog 7 #[.slice a n cap] w fun e w' => e = .returned (.bool (decide ((1048576 : Int) < (n : Int)))) ∧ w' = w := by
  go_enter Try.func7, Try.ntmps7
  go_wp2_with fail
  go_ret
  exact ⟨rfl, rfl⟩
end Go.Proofs.Ytcbomaflfjdmjaa
