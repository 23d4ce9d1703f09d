/- appendEscaped and Escaped of the program, walked. -/
import Derived.Test.YtlcddndpfhdakaaDoorEscImpl
import Derived.Test.YtlcddndpfhdakaaDoorEscSpec
import Derived.Test.YtlcddndpfhdakaaDoorAppBytes
import Derived.Laws.IdiomStrings
namespace Go.Proofs.YtlcddndpfhdakaaDoor
open Go.RowKit
set_option maxRecDepth 100000 in
set_option maxHeartbeats 1000000 in
theorem appendEscaped_any (w0 w : World) (v : Value) (s : ByteArray) (l : List UInt8) (hsg : Signs w0) (hbw : Below w0.heap.size w0 w) (ho : OwnB w w0.heap.size v l) (hlen : l.length + 6 * s.size ≤ 16777216) :
    Calls Tryd.prog 50 #[v, .string s] w fun e w' => ∃ v', e = .returned v' ∧ OwnB w' w0.heap.size v' (l ++ escL s.data.toList) ∧ Goes w v w' v' := by
  have hbw' : Hid (Below w0.heap.size w0 w) := hbw
  have ho' : Hid (OwnB w w0.heap.size v l) := ho
  have hsg' : Hid (Signs w0) := hsg
  clear hbw ho hsg
  go_enter Tryd.func50, Tryd.ntmps50
  go_wp2_with fail
  go_loopw [0, 10] (fun z i wr => ∃ (k : Nat), k ≤ s.size ∧ i = .int .i64 k ∧ Hid (OwnB wr w0.heap.size z (l ++ escL (s.data.toList.take k))) ∧ Hid (Goes w v wr z)) (fun _ i _ => s.size - (intOf i).toNat)
  case atStart => exact ⟨0, by omega, rfl, by show OwnB _ _ _ _; rw [List.take_zero, escL, List.append_nil]; exact ho'.out, Goes.refl _ _⟩
  case round =>
    obtain ⟨k, hk, rfl, hok, hgk⟩ := hrel
    have hbk : Below w0.heap.size w0 wr := Goes.below hgk.out hbw'.out ho'.out
    have hbk' : Hid (Below w0.heap.size w0 wr) := hbk
    have hsk : Hid (Signs wr) := hsg'.out.below hbk hsg'.out.lt
    have hzk : w0.heap.size ≤ wr.heap.size := hbk.size
    clear hbk
    by_cases hlt : k < s.size
    · have HS : Hid (escL (s.data.toList.take (k + 1)) = escL (s.data.toList.take k) ++ escB s[k]) := escL_snoc s k hlt
      have HL : Hid ((l ++ escL (s.data.toList.take k)).length + 6 ≤ 16777216) := by
        show _ ≤ _
        have := escL_take_length s k hk
        rw [List.length_append]; omega
      go_wp2_with fail
      refine (escapedSign_any _ _ hsk.out).mono ?_
      rintro e w1 ⟨rfl, hb1⟩
      have hz1 := hb1.size
      have hb1' : Hid (Below wr.heap.size wr w1) := hb1
      clear hb1
      have ho1 : Hid (OwnB w1 w0.heap.size u0 (l ++ escL (s.data.toList.take k))) := OwnB.below hok.out hb1'.out
      have hg1 : Hid (Goes w v w1 u0) := Goes.after hgk.out hb1'.out
      rcases byte_kinds s[k] with ⟨h, he⟩ | ⟨h, he⟩ | ⟨h, he⟩ | ⟨h, he⟩ | ⟨h1, h2, h3, h4, he⟩
      · have HE : Hid _ := he
        rw [signN_1 h]
        clear he h
        go_wp2_with (at_builtin; refine wpList_append_at rfl _ _ rfl w0.heap.size u0 (l ++ escL (s.data.toList.take k)) _ rfl rfl ho1.out ?c2 ?c3 ?_)
        case c2 => have := HL.out; show _ + 5 ≤ _; omega
        case c3 => omega
        intro v2 w2 ho2 hg2
        have ho2' : Hid _ := ho2
        have hg2' : Hid _ := hg2
        clear ho2 hg2
        go_wp2_with fail
        go_roundw
        case rel => exact ⟨k + 1, by omega, by go_num, by show OwnB _ _ _ _; rw [HS.out, HE.out]; exact ho2'.out, Goes.trans hg1.out hg2'.out⟩
        case measure => simp [intOf]; omega
      · have HE : Hid _ := he
        rw [signN_2 h]
        clear he h
        go_wp2_with (at_builtin; refine wpList_append_at rfl _ _ rfl w0.heap.size u0 (l ++ escL (s.data.toList.take k)) _ rfl rfl ho1.out ?c2 ?c3 ?_)
        case c2 => have := HL.out; show _ + 4 ≤ _; omega
        case c3 => omega
        intro v2 w2 ho2 hg2
        have ho2' : Hid _ := ho2
        have hg2' : Hid _ := hg2
        clear ho2 hg2
        go_wp2_with fail
        go_roundw
        case rel => exact ⟨k + 1, by omega, by go_num, by show OwnB _ _ _ _; rw [HS.out, HE.out]; exact ho2'.out, Goes.trans hg1.out hg2'.out⟩
        case measure => simp [intOf]; omega
      · have HE : Hid _ := he
        rw [signN_3 h]
        clear he h
        go_wp2_with (at_builtin; refine wpList_append_at rfl _ _ rfl w0.heap.size u0 (l ++ escL (s.data.toList.take k)) _ rfl rfl ho1.out ?c2 ?c3 ?_)
        case c2 => have := HL.out; show _ + 4 ≤ _; omega
        case c3 => omega
        intro v2 w2 ho2 hg2
        have ho2' : Hid _ := ho2
        have hg2' : Hid _ := hg2
        clear ho2 hg2
        go_wp2_with fail
        go_roundw
        case rel => exact ⟨k + 1, by omega, by go_num, by show OwnB _ _ _ _; rw [HS.out, HE.out]; exact ho2'.out, Goes.trans hg1.out hg2'.out⟩
        case measure => simp [intOf]; omega
      · have HE : Hid _ := he
        rw [signN_4 h]
        clear he h
        go_wp2_with (at_builtin; refine wpList_append_at rfl _ _ rfl w0.heap.size u0 (l ++ escL (s.data.toList.take k)) _ rfl rfl ho1.out ?c2 ?c3 ?_)
        case c2 => have := HL.out; show _ + 6 ≤ _; omega
        case c3 => omega
        intro v2 w2 ho2 hg2
        have ho2' : Hid _ := ho2
        have hg2' : Hid _ := hg2
        clear ho2 hg2
        go_wp2_with fail
        go_roundw
        case rel => exact ⟨k + 1, by omega, by go_num, by show OwnB _ _ _ _; rw [HS.out, HE.out]; exact ho2'.out, Goes.trans hg1.out hg2'.out⟩
        case measure => simp [intOf]; omega
      · have HE : Hid _ := he
        rw [signN_5 h1 h2 h3 h4]
        clear he h1 h2 h3 h4
        go_wp2_with (at_builtin; refine wpList_append_one rfl _ _ rfl w0.heap.size u0 (l ++ escL (s.data.toList.take k)) s[k] rfl rfl ho1.out ?c2 ?c3 ?_)
        case c2 => have := HL.out; omega
        case c3 => omega
        intro v2 w2 ho2 hg2
        have ho2' : Hid _ := ho2
        have hg2' : Hid _ := hg2
        clear ho2 hg2
        go_wp2_with fail
        go_roundw
        case rel => exact ⟨k + 1, by omega, by go_num, by show OwnB _ _ _ _; rw [HS.out, HE.out]; exact ho2'.out, Goes.trans hg1.out hg2'.out⟩
        case measure => simp [intOf]; omega
    · go_wp2_with fail
      go_ret
      refine ⟨_, rfl, ?_, hgk.out⟩
      have := hok.out
      rw [List.take_of_length_le (by simp; omega)] at this
      exact this
end Go.Proofs.YtlcddndpfhdakaaDoor
