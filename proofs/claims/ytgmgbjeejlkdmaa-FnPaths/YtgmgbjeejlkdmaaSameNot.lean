/- sameInts and samePath of two lists that are not one. -/
import Derived.Test.YtgmgbjeejlkdmaaSamePaths
namespace Go.Proofs.Ytgmgbjeejlkdmaa
open Go.RowKit
set_option maxHeartbeats 1000000 in
theorem sameInts_no {w : World} {lo lo2 : Nat} {k k2 : Value} {xs ys : List Int} (hk : SeqAt 1 IntAt w lo k xs) (hk2 : SeqAt 1 IntAt w lo2 k2 ys) (hne : xs ≠ ys) :
    Calls Try.prog 38 #[k, k2] w fun e w' => e = .returned (.bool false) ∧ ∃ m, w' = w.drewN m := by
  obtain ⟨a, cap, rfl, hm, hx⟩ := hk
  obtain ⟨a2, cap2, rfl, _, hx2⟩ := hk2
  unfold maxLen at hm
  have hx' : Hid (0 < xs.length → ∃ b off, a = some ⟨b, off, none⟩ ∧ lo ≤ b ∧ b < w.heap.size ∧ ∀ i, (h : i < xs.length) → ∃ cs, cs.length = 1 ∧ Lie w b (off + i * 1) cs ∧ IntAt w lo cs xs[i]) := hx
  have hx2' : Hid (0 < ys.length → ∃ b off, a2 = some ⟨b, off, none⟩ ∧ lo2 ≤ b ∧ b < w.heap.size ∧ ∀ i, (h : i < ys.length) → ∃ cs, cs.length = 1 ∧ Lie w b (off + i * 1) cs ∧ IntAt w lo2 cs ys[i]) := hx2
  have hne' : Hid (xs ≠ ys) := hne
  clear hx hx2 hne
  by_cases hl : xs.length = ys.length
  · have hle : Hid (xs.length = ys.length) := hl
    have hli : (xs.length : Int) = (ys.length : Int) := by omega
    clear hl
    go_enter Try.func38, Try.ntmps38
    go_wp2_with fail
    go_loopw [5] (fun i wr => ∃ (j m : Nat), j ≤ xs.length ∧ i = .int .i64 j ∧ wr = w.drewN m ∧ Hid (xs.take j = ys.take j)) (fun i _ => xs.length - (intOf i).toNat)
    case atStart => exact ⟨0, 0, by omega, rfl, rfl, rfl⟩
    case round =>
      obtain ⟨j, m, hj, rfl, rfl, hT⟩ := hrel
      by_cases hlt : j < xs.length
      · have hlt2 : j < ys.length := by have := hle.out; omega
        obtain ⟨b, off, rfl, hlo, hbw, hc⟩ := hx'.out (by omega)
        obtain ⟨b2, off2, rfl, hlo2, hbw2, hc2⟩ := hx2'.out (by omega)
        obtain ⟨cs, _, lie, rfl, hI⟩ := hc j hlt
        obtain ⟨cs2, _, lie2, rfl, _⟩ := hc2 j hlt2
        have z0 := lie 0 (by simp)
        have y0 := lie2 0 (by simp)
        simp only [List.getElem?_cons_zero, Nat.add_zero, Nat.mul_one] at z0 y0
        have hT1 : Hid (xs[j] = ys[j] → xs.take (j + 1) = ys.take (j + 1)) := fun e => by rw [List.take_succ_eq_append_getElem hlt, List.take_succ_eq_append_getElem hlt2, hT.out, e]
        generalize xs[j] = X at z0 hT1
        generalize ys[j] = Y at y0 hT1
        have hlt' : (j : Int) < (xs.length : Int) := by omega
        have hlt2' : (j : Int) < (ys.length : Int) := by omega
        have h0' : (0 : Int) ≤ (j : Int) := by omega
        clear lie lie2 hc hc2 hx' hx2' hI
        by_cases hXY : X = Y
        · subst hXY
          go_wp2_with fail
          go_quiet (fail)
          go_wp2_with fail
          go_roundw
          case rel => exact ⟨j + 1, m + nq, by omega, by go_num, by first | rfl | exact World.drewN_drewN _ _ _, hT1.out trivial⟩
          case measure => simp [intOf]; omega
        · go_wp2_with fail
          go_quiet (fail)
          go_wp2_with fail
          go_ret
          exact ⟨rfl, m + nq, by first | rfl | exact World.drewN_drewN _ _ _⟩
      · exfalso
        obtain rfl : j = xs.length := by omega
        refine hne'.out ?_
        have h1 := hT.out
        rw [List.take_length, hle.out, List.take_length] at h1
        exact h1
  · have hli : ¬ (xs.length : Int) = (ys.length : Int) := by omega
    clear hl
    go_enter Try.func38, Try.ntmps38
    go_wp2_with fail
    go_ret
    exact ⟨rfl, 0, rfl⟩
theorem samePath_no {w : World} {lo lo2 : Nat} {k k2 : Value} {xs ys : List Int} (hk : SeqAt 1 IntAt w lo k xs) (hk2 : SeqAt 1 IntAt w lo2 k2 ys) (hne : xs ≠ ys) :
    Calls Try.prog 17 #[k, k2] w fun e w' => e = .returned (.bool false) ∧ ∃ m, w' = w.drewN m := by
  have hk' : Hid (SeqAt 1 IntAt w lo k xs) := hk
  have hk2' : Hid (SeqAt 1 IntAt w lo2 k2 ys) := hk2
  obtain ⟨a, cap, rfl⟩ := hk.form
  obtain ⟨a2, cap2, rfl⟩ := hk2.form
  clear hk hk2
  go_enter Try.func17, Try.ntmps17
  go_wp2_with fail
  refine (sameInts_no hk'.out hk2'.out hne).mono ?_
  rintro e w1 ⟨rfl, m, rfl⟩
  go_wp2_with fail
  go_ret
  exact ⟨rfl, m, rfl⟩
end Go.Proofs.Ytgmgbjeejlkdmaa
