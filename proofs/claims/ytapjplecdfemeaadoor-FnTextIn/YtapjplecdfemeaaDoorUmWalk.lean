/- What unmarked returns. -/
import Derived.Test.YtapjplecdfemeaaDoorUmPlain
import Derived.Test.YtapjplecdfemeaaDoorEscSpec
import Derived.WalkKit
namespace Go.Proofs.YtapjplecdfemeaaDoor
open Go.RowKit
theorem unm_cons (b : Bool) (c : UInt8) (r : List UInt8) : unmF b (c :: r) = if c = 60 then unmF true r else if c = 62 then unmF false r else if b then unmF b r else c :: unmF b r := by
  conv => lhs; unfold unmF
theorem u_drop (s : ByteArray) (k : Nat) (h : k < s.size) : s.data.toList.drop k = s[k] :: s.data.toList.drop (k + 1) := List.drop_eq_getElem_cons (by simpa using h)
set_option maxHeartbeats 1000000 in
theorem unmarked_any (s : ByteArray) (w : World) (hs : s.size ≤ 1048576) :
    Calls Tryd.prog 25 #[.string s] w fun e w' => (∃ r : ByteArray, e = .returned (.string r) ∧ r.data.toList = unmF false s.data.toList ∧ r.size ≤ s.size) ∧ w' = w := by
  go_enter Tryd.func25, Tryd.ntmps25
  go_wp2
  go_loop [3, 4, 5] (fun z b i => ∃ (k : Nat) (acc : ByteArray) (bb : Bool), k ≤ s.size ∧ i = .int .i64 k ∧ z = .string acc ∧ b = .bool bb ∧ Hid (acc.size ≤ k) ∧ Hid (acc.data.toList ++ unmF bb (s.data.toList.drop k) = unmF false s.data.toList)) (fun _ _ i => s.size - (intOf i).toNat)
  case atStart => exact ⟨0, ⟨#[]⟩, false, Nat.zero_le _, rfl, rfl, rfl, Nat.le_refl _, rfl⟩
  case round =>
    obtain ⟨k, acc, bb, hk, rfl, rfl, rfl, hsz, hacc⟩ := hrel
    by_cases hlt : k < s.size
    · have HS : Hid (unmF bb (s.data.toList.drop k) = _) := (congrArg (unmF bb) (u_drop s k hlt)).trans (unm_cons bb s[k] _)
      have hc60 := u8_eq (c := s[k]) (n := 60) (by decide)
      have hc62 := u8_eq (c := s[k]) (n := 62) (by decide)
      by_cases h1 : (s[k].toNat : Int) = 60
      · have HE : Hid (unmF bb (s.data.toList.drop k) = unmF true (s.data.toList.drop (k + 1))) := by show _ = _; rw [HS.out, if_pos (show s[k] = 60 from hc60.1 h1)]
        clear hc60 hc62
        go_wp2
        go_round
        case rel => exact ⟨k + 1, acc, true, by omega, by go_num, rfl, rfl, by show _ ≤ _; have := hsz.out; omega, by show _ = _; rw [← HE.out, hacc.out]⟩
        case measure => simp [intOf]; omega
      · have n1 : ¬ s[k] = 60 := fun e => h1 (hc60.2 e)
        by_cases h2 : (s[k].toNat : Int) = 62
        · have HE : Hid (unmF bb (s.data.toList.drop k) = unmF false (s.data.toList.drop (k + 1))) := by show _ = _; rw [HS.out, if_neg n1, if_pos (show s[k] = 62 from hc62.1 h2)]
          clear hc60 hc62 n1
          go_wp2
          go_round
          case rel => exact ⟨k + 1, acc, false, by omega, by go_num, rfl, rfl, by show _ ≤ _; have := hsz.out; omega, by show _ = _; rw [← HE.out, hacc.out]⟩
          case measure => simp [intOf]; omega
        · have n2 : ¬ s[k] = 62 := fun e => h2 (hc62.2 e)
          cases bb
          · have HE : Hid (unmF false (s.data.toList.drop k) = s[k] :: unmF false (s.data.toList.drop (k + 1))) := by show _ = _; rw [HS.out, if_neg n1, if_neg n2]; rfl
            have HO : Hid _ := eb_one s k hlt
            have hos : (s.extract k (k + 1)).size = 1 := by rw [← eb_len, HO.out]; rfl
            have hd : ¬ 9223372036854775807 < acc.size + (s.extract k (k + 1)).size := by have := hsz.out; omega
            have hos' : Hid _ := hos
            have hsl := slice_one s k hlt w
            clear hc60 hc62 n1 n2 hos
            go_wp2
            go_round
            case rel => exact ⟨k + 1, acc ++ s.extract k (k + 1), false, by omega, by go_num, rfl, rfl, by show _ ≤ _; have := hsz.out; have := hos'.out; simp; omega, by show _ = _; rw [eb_app, HO.out, ← hacc.out, HE.out]; simp⟩
            case measure => simp [intOf]; omega
          · have HE : Hid (unmF true (s.data.toList.drop k) = unmF true (s.data.toList.drop (k + 1))) := by show _ = _; rw [HS.out, if_neg n1, if_neg n2]; rfl
            clear hc60 hc62 n1 n2
            go_wp2
            go_round
            case rel => exact ⟨k + 1, acc, true, by omega, by go_num, rfl, rfl, by show _ ≤ _; have := hsz.out; omega, by show _ = _; rw [← HE.out, hacc.out]⟩
            case measure => simp [intOf]; omega
    · go_wp2
      go_ret
      refine ⟨⟨acc, rfl, ?_, by have := hsz.out; omega⟩, rfl⟩
      have := hacc.out
      rw [List.drop_of_length_le (by simp; omega)] at this
      rw [← this]; simp [unmF]
end Go.Proofs.YtapjplecdfemeaaDoor
