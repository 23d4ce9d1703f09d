/- What Escaped of the specification returns. -/
import Derived.Test.YtlcddndpfhdakaaDoorEscPlain
import Derived.Test.YtlcddndpfhdakaaDoorRows
import Derived.WalkKit
import Derived.Laws.Strings2
namespace Go.Proofs.YtlcddndpfhdakaaDoor
open Go.RowKit
theorem eb_mid (s : ByteArray) (i j : Nat) : (s.extract i j).data.toList = (s.data.toList.drop i).take (j - i) := by
  rw [ByteArray.data_extract, Array.toList_extract, List.extract_eq_take_drop]
theorem eb_one (s : ByteArray) (k : Nat) (h : k < s.size) : (s.extract k (k + 1)).data.toList = [s[k]] := by
  rw [eb_mid s k (k + 1)]
  have : k < s.data.toList.length := by simpa using h
  rw [List.drop_eq_getElem_cons this, Nat.add_sub_cancel_left]
  rfl
theorem slice_run (s : ByteArray) (i j : Nat) (hij : i ≤ j) (hj : j ≤ s.size) (w : World) :
    (Instr.slice 9 (.string s) (some (.int .i64 i)) (some (.int .i64 j)) none).run Tryd.prog w = .ok (.string (s.extract i j)) w := by
  have := run_slice_string (P := Tryd.prog) w 9 s .i64 .i64 i j Tryd.underlying9 (by omega) (by omega) (by omega)
  simpa using this
theorem slice_one (s : ByteArray) (k : Nat) (h : k < s.size) (w : World) :
    (Instr.slice 9 (.string s) (some (.int .i64 k)) (some (.int .i64 ((k : Int) + 1))) none).run Tryd.prog w = .ok (.string (s.extract k (k + 1))) w := by
  have := slice_run s k (k + 1) (by omega) (by omega) w
  simpa using this
set_option maxRecDepth 100000 in
set_option maxHeartbeats 1000000 in
theorem specEscaped_any (s : ByteArray) (w : World) (hs : s.size ≤ 1048576) :
    Calls Tryd.prog 59 #[.string s] w fun e w' => (∃ r : ByteArray, e = .returned (.string r) ∧ r.data.toList = escL s.data.toList) ∧ w' = w := by
  go_enter Tryd.func59, Tryd.ntmps59
  go_wp2
  go_loop [3, 4] (fun z i => ∃ (k : Nat) (acc : ByteArray), k ≤ s.size ∧ i = .int .i64 k ∧ z = .string acc ∧ Hid (acc.data.toList = escL (s.data.toList.take k))) (fun _ i => s.size - (intOf i).toNat)
  case atStart => exact ⟨0, ⟨#[]⟩, Nat.zero_le _, rfl, rfl, rfl⟩
  case round =>
    obtain ⟨k, acc, hk, rfl, rfl, hacc⟩ := hrel
    have hsz : acc.size ≤ 6291456 := by
      rw [← eb_len, hacc.out]; have := escL_take_length s k hk; omega
    by_cases hlt : k < s.size
    · have HS : Hid (escL (s.data.toList.take (k + 1)) = escL (s.data.toList.take k) ++ escB s[k]) := escL_snoc s k hlt
      rcases byte_kinds s[k] with ⟨h, he⟩ | ⟨h, he⟩ | ⟨h, he⟩ | ⟨h, he⟩ | ⟨h1, h2, h3, h4, he⟩
      · have HE : Hid _ := he
        have hd : ¬ 9223372036854775807 < acc.size + 5 := by omega
        clear he hsz
        go_wp2
        go_round
        case rel => exact ⟨k + 1, _, by omega, by go_num, rfl, by show _ = _; rw [eb_app, HS.out, HE.out, hacc.out]⟩
        case measure => simp [intOf]; omega
      · have HE : Hid _ := he
        have hd : ¬ 9223372036854775807 < acc.size + 4 := by omega
        clear he hsz
        go_wp2
        go_round
        case rel => exact ⟨k + 1, _, by omega, by go_num, rfl, by show _ = _; rw [eb_app, HS.out, HE.out, hacc.out]⟩
        case measure => simp [intOf]; omega
      · have HE : Hid _ := he
        have hd : ¬ 9223372036854775807 < acc.size + 4 := by omega
        clear he hsz
        go_wp2
        go_round
        case rel => exact ⟨k + 1, _, by omega, by go_num, rfl, by show _ = _; rw [eb_app, HS.out, HE.out, hacc.out]⟩
        case measure => simp [intOf]; omega
      · have HE : Hid _ := he
        have hd : ¬ 9223372036854775807 < acc.size + 6 := by omega
        clear he hsz
        go_wp2
        go_round
        case rel => exact ⟨k + 1, _, by omega, by go_num, rfl, by show _ = _; rw [eb_app, HS.out, HE.out, hacc.out]⟩
        case measure => simp [intOf]; omega
      · have HE : Hid _ := he
        have HO : Hid _ := eb_one s k hlt
        have hos : (s.extract k (k + 1)).size = 1 := by rw [← eb_len, HO.out]; rfl
        have hd : ¬ 9223372036854775807 < acc.size + (s.extract k (k + 1)).size := by omega
        have hsl := slice_one s k hlt w
        clear he hsz hos
        go_wp2
        go_round
        case rel => exact ⟨k + 1, acc ++ s.extract k (k + 1), by omega, by go_num, rfl, by show _ = _; rw [eb_app, HS.out, HE.out, hacc.out, HO.out]⟩
        case measure => simp [intOf]; omega
    · go_wp2
      go_ret
      exact ⟨⟨_, rfl, by rw [hacc.out, List.take_of_length_le (by simp; omega)]⟩, rfl⟩
end Go.Proofs.YtlcddndpfhdakaaDoor
