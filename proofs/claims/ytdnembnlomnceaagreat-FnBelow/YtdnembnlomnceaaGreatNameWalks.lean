/- What isLetter and both NameOk return, for every byte and every string. -/
import Derived.WalkKit
import Derived.Test.YtdnembnlomnceaaGreatRows
namespace Go.Proofs.YtdnembnlomnceaaGreat
/-- a letter from a to z, as a number -/
def letB (c : Int) : Bool := decide (97 ≤ c) && decide (c ≤ 122)
/-- all of these bytes are letters -/
def letsB : List UInt8 → Bool
 | [] => true
 | c :: r => letB (c.toNat : Int) && letsB r
/-- a right name: one to six letters -/
def nameB (l : List UInt8) : Bool := decide (1 ≤ l.length) && decide (l.length ≤ 6) && letsB l
theorem letsB_append (a b : List UInt8) : letsB (a ++ b) = (letsB a && letsB b) := by
 induction a with
 | nil => simp [letsB]
 | cons c r ih => simp [letsB, ih, Bool.and_assoc]
theorem letsB_snoc (a : List UInt8) (c : UInt8) : letsB (a ++ [c]) = (letsB a && letB (c.toNat : Int)) := by
 rw [letsB_append]; simp [letsB]
theorem take_snoc (s : ByteArray) (k : Nat) (h : k < s.size) : s.data.toList.take (k + 1) = s.data.toList.take k ++ [s[k]] := by
 rw [List.take_succ_eq_append_getElem (by simpa using h)]; rfl
theorem letsB_take_false (l : List UInt8) (k : Nat) (h : letsB (l.take k) = false) : letsB l = false := by
 have : l = l.take k ++ l.drop k := (List.take_append_drop k l).symm
 rw [this, letsB_append, h]; rfl
theorem letB_true (c : Int) (h1 : 97 ≤ c) (h2 : c ≤ 122) : letB c = true := by simp [letB, h1, h2]
theorem letB_low (c : Int) (h1 : c < 97) : letB c = false := by simp [letB]; omega
theorem letB_high (c : Int) (h1 : 122 < c) : letB c = false := by simp [letB]; omega
theorem nameB_short (l : List UInt8) (h : l.length < 1) : nameB l = false := by simp [nameB]; omega
theorem nameB_long (l : List UInt8) (h : 6 < l.length) : nameB l = false := by simp [nameB]; omega
theorem nameB_lets (l : List UInt8) (h1 : 1 ≤ l.length) (h2 : l.length ≤ 6) : nameB l = letsB l := by simp [nameB, h1, h2]
end Go.Proofs.YtdnembnlomnceaaGreat
namespace Go.Proofs.YtdnembnlomnceaaGreat
open Go.RowKit
theorem ret_bool {a b : Bool} (h : a = b) : Ending.returned (.bool a) = .returned (.bool b) := by rw [h]
theorem isLetter_any (n : Int) (w : World) :
 Calls Tryz.prog 119 #[.int .u8 n] w fun e w' => e = .returned (.bool (letB n)) ∧ w' = w := by
 by_cases h1 : 97 ≤ n
 · by_cases h2 : n ≤ 122
   · go_enter Tryz.func119, Tryz.ntmps119
     go_wp2
     go_ret
     exact ⟨ret_bool (by simp [letB, h1, h2]), rfl⟩
   · go_enter Tryz.func119, Tryz.ntmps119
     go_wp2
     go_ret
     exact ⟨ret_bool (by simp [letB, h2]), rfl⟩
 · go_enter Tryz.func119, Tryz.ntmps119
   go_wp2
   go_ret
   exact ⟨ret_bool (by exact (letB_low _ (by omega)).symm), rfl⟩
set_option maxHeartbeats 400000 in
theorem specNameOk_any (s : ByteArray) (w : World) (hs : s.size ≤ maxLen) :
 Calls Tryz.prog 87 #[.string s] w fun e w' => e = .returned (.bool (nameB s.data.toList)) ∧ w' = w := by
 unfold maxLen at hs
 have hlen : s.data.toList.length = s.size := by simp
 by_cases h1 : s.size < 1
 · have H : Hid (nameB s.data.toList = false) := nameB_short _ (by omega)
   clear hlen
   go_enter Tryz.func87, Tryz.ntmps87
   go_wp2
   go_ret
   exact ⟨ret_bool H.out.symm, rfl⟩
 by_cases h2 : 6 < s.size
 · have H : Hid (nameB s.data.toList = false) := nameB_long _ (by omega)
   clear hlen
   go_enter Tryz.func87, Tryz.ntmps87
   go_wp2
   go_ret
   exact ⟨ret_bool H.out.symm, rfl⟩
 have H : Hid (nameB s.data.toList = letsB s.data.toList) := nameB_lets _ (by omega) (by omega)
 clear hlen
 go_enter Tryz.func87, Tryz.ntmps87
 go_wp2
 go_loop [3] (fun i => ∃ k : Nat, k ≤ s.size ∧ i = .int .i64 k ∧ Hid (letsB (s.data.toList.take k) = true)) (fun i => s.size - (intOf i).toNat)
 case atStart => exact ⟨0, Nat.zero_le _, rfl, rfl⟩
 case round =>
  obtain ⟨k, hk, rfl, hall⟩ := hrel
  by_cases hlt : k < s.size
  · have HS : Hid (letsB (s.data.toList.take (k + 1)) = letB (s[k].toNat : Int)) := by show _ = _; rw [take_snoc s k hlt, letsB_snoc, hall.out, Bool.true_and]
    by_cases hl : (s[k].toNat : Int) < 97
    · go_wp2
      go_ret
      exact ⟨ret_bool (by rw [H.out]; exact (letsB_take_false _ (k + 1) (by rw [HS.out]; exact letB_low _ hl)).symm), rfl⟩
    · by_cases hh : 122 < (s[k].toNat : Int)
      · go_wp2
        go_ret
        exact ⟨ret_bool (by rw [H.out]; exact (letsB_take_false _ (k + 1) (by rw [HS.out]; exact letB_high _ hh)).symm), rfl⟩
      · go_wp2
        go_round
        case rel => exact ⟨k + 1, by omega, by go_num, by show _ = _; rw [HS.out]; exact letB_true _ (by omega) (by omega)⟩
        case measure => simp [intOf]; omega
  · go_wp2
    go_ret
    exact ⟨ret_bool (by rw [H.out]; have := hall.out; rw [List.take_of_length_le (by simp; omega)] at this; exact this.symm), rfl⟩
set_option maxHeartbeats 400000 in
theorem implNameOk_any (s : ByteArray) (w : World) (hs : s.size ≤ maxLen) :
 Calls Tryz.prog 98 #[.string s] w fun e w' => e = .returned (.bool (nameB s.data.toList)) ∧ w' = w := by
 unfold maxLen at hs
 have hlen : s.data.toList.length = s.size := by simp
 by_cases h1 : s.size < 1
 · have H : Hid (nameB s.data.toList = false) := nameB_short _ (by omega)
   clear hlen
   go_enter Tryz.func98, Tryz.ntmps98
   go_wp2
   go_ret
   exact ⟨ret_bool H.out.symm, rfl⟩
 by_cases h2 : 6 < s.size
 · have H : Hid (nameB s.data.toList = false) := nameB_long _ (by omega)
   clear hlen
   go_enter Tryz.func98, Tryz.ntmps98
   go_wp2
   go_ret
   exact ⟨ret_bool H.out.symm, rfl⟩
 have H : Hid (nameB s.data.toList = letsB s.data.toList) := nameB_lets _ (by omega) (by omega)
 clear hlen
 go_enter Tryz.func98, Tryz.ntmps98
 go_wp2
 go_loop [14] (fun i => ∃ k : Nat, k ≤ s.size ∧ i = .int .i64 k ∧ Hid (letsB (s.data.toList.take k) = true)) (fun i => s.size - (intOf i).toNat)
 case atStart => exact ⟨0, Nat.zero_le _, rfl, rfl⟩
 case round =>
  obtain ⟨k, hk, rfl, hall⟩ := hrel
  by_cases hlt : k < s.size
  · have HS : Hid (letsB (s.data.toList.take (k + 1)) = letB (s[k].toNat : Int)) := by show _ = _; rw [take_snoc s k hlt, letsB_snoc, hall.out, Bool.true_and]
    cases hb : letB (s[k].toNat : Int)
    · have HB : Hid (letB (s[k].toNat : Int) = _) := hb
      go_wp2_with (go_at_call 119; refine (isLetter_any _ _).mono ?_; rintro e w' ⟨rfl, rfl⟩)
      go_ret
      exact ⟨ret_bool (by rw [H.out]; exact (letsB_take_false _ (k + 1) (by rw [HS.out]; exact HB.out)).symm), rfl⟩
    · have HB : Hid (letB (s[k].toNat : Int) = _) := hb
      go_wp2_with (go_at_call 119; refine (isLetter_any _ _).mono ?_; rintro e w' ⟨rfl, rfl⟩)
      go_round
      case rel => exact ⟨k + 1, by omega, by go_num, by show _ = _; rw [HS.out]; exact HB.out⟩
      case measure => simp [intOf]; omega
  · go_wp2
    go_ret
    exact ⟨ret_bool (by rw [H.out]; have := hall.out; rw [List.take_of_length_le (by simp; omega)] at this; exact this.symm), rfl⟩
end Go.Proofs.YtdnembnlomnceaaGreat
