/- What l8Plain and wordsOk return, for every string. -/
import Derived.Test.YtlcddndpfhdakaaDoorMarkPlain
import Derived.Test.YtlcddndpfhdakaaDoorNameWalks
import Derived.WalkKit
namespace Go.Proofs.YtlcddndpfhdakaaDoor
open Go.RowKit
theorem wordB_long {most : Int} {s : ByteArray} (h : most < (s.size : Int)) : wordB most s = false := by simp [wordB]; omega
theorem wordB_short {most : Int} {s : ByteArray} (h : (s.size : Int) ≤ most) : wordB most s = plainL s.data.toList := by simp [wordB, h]
theorem wordB_bad {most : Int} {s : ByteArray} (h : plainL s.data.toList = false) : wordB most s = false := by simp [wordB, h]
theorem wordB_len {most : Int} {s : ByteArray} (h : plainL s.data.toList = true) : wordB most s = decide ((s.size : Int) ≤ most) := by simp [wordB, h]
set_option maxHeartbeats 400000 in
theorem l8Plain_any (s : ByteArray) (most : Int) (w : World) (hs : s.size ≤ maxLen) :
    Calls Tryd.prog 61 #[.string s, .int .i64 most] w fun e w' => e = .returned (.bool (wordB most s)) ∧ w' = w := by
  unfold maxLen at hs
  go_enter Tryd.func61, Tryd.ntmps61
  go_wp2
  go_loop [5] (fun i => ∃ k : Nat, k ≤ s.size ∧ i = .int .i64 k ∧ Hid (plainL (s.data.toList.take k) = true)) (fun i => s.size - (intOf i).toNat)
  case atStart => exact ⟨0, Nat.zero_le _, rfl, rfl⟩
  case round =>
    obtain ⟨k, hk, rfl, hall⟩ := hrel
    by_cases hlt : k < s.size
    · have HS : Hid (plainL (s.data.toList.take (k + 1)) = plainC (s[k].toNat : Int)) := by show _ = _; rw [plainL_snoc s k hlt, hall.out, Bool.true_and]
      by_cases hl : (s[k].toNat : Int) < 32
      · go_wp2
        go_ret
        exact ⟨ret_bool (wordB_bad (plainL_take_false _ (k + 1) (by rw [HS.out]; exact plainC_low _ hl))).symm, rfl⟩
      · by_cases hh : 126 < (s[k].toNat : Int)
        · go_wp2
          go_ret
          exact ⟨ret_bool (wordB_bad (plainL_take_false _ (k + 1) (by rw [HS.out]; exact plainC_high _ hh))).symm, rfl⟩
        · go_wp2
          go_round
          case rel => exact ⟨k + 1, by omega, by go_num, by show _ = _; rw [HS.out]; exact plainC_true _ (by omega) (by omega)⟩
          case measure => simp [intOf]; omega
    · have HP : Hid (plainL s.data.toList = true) := by
        have := hall.out
        rw [List.take_of_length_le (by simp; omega)] at this
        exact this
      go_wp2
      go_ret
      exact ⟨ret_bool (wordB_len HP.out).symm, rfl⟩
set_option maxHeartbeats 400000 in
theorem wordsOk_any (s : ByteArray) (most : Int) (w : World) (hs : s.size ≤ maxLen) :
    Calls Tryd.prog 79 #[.string s, .int .i64 most] w fun e w' => e = .returned (.bool (wordB most s)) ∧ w' = w := by
  unfold maxLen at hs
  by_cases h1 : most < (s.size : Int)
  · have H : Hid _ := wordB_long h1
    go_enter Tryd.func79, Tryd.ntmps79
    go_wp2
    go_ret
    exact ⟨ret_bool H.out.symm, rfl⟩
  have H : Hid _ := wordB_short (most := most) (s := s) (by omega)
  go_enter Tryd.func79, Tryd.ntmps79
  go_wp2
  go_loop [12] (fun i => ∃ k : Nat, k ≤ s.size ∧ i = .int .i64 k ∧ Hid (plainL (s.data.toList.take k) = true)) (fun i => s.size - (intOf i).toNat)
  case atStart => exact ⟨0, Nat.zero_le _, rfl, rfl⟩
  case round =>
    obtain ⟨k, hk, rfl, hall⟩ := hrel
    by_cases hlt : k < s.size
    · have HS : Hid (plainL (s.data.toList.take (k + 1)) = plainC (s[k].toNat : Int)) := by show _ = _; rw [plainL_snoc s k hlt, hall.out, Bool.true_and]
      by_cases hl : (s[k].toNat : Int) < 32
      · go_wp2
        go_ret
        exact ⟨ret_bool (by rw [H.out]; exact (plainL_take_false _ (k + 1) (by rw [HS.out]; exact plainC_low _ hl)).symm), rfl⟩
      · by_cases hh : 126 < (s[k].toNat : Int)
        · go_wp2
          go_ret
          exact ⟨ret_bool (by rw [H.out]; exact (plainL_take_false _ (k + 1) (by rw [HS.out]; exact plainC_high _ hh)).symm), rfl⟩
        · go_wp2
          go_round
          case rel => exact ⟨k + 1, by omega, by go_num, by show _ = _; rw [HS.out]; exact plainC_true _ (by omega) (by omega)⟩
          case measure => simp [intOf]; omega
    · go_wp2
      go_ret
      exact ⟨ret_bool (by rw [H.out]; have := hall.out; rw [List.take_of_length_le (by simp; omega)] at this; exact this.symm), rfl⟩
end Go.Proofs.YtlcddndpfhdakaaDoor
