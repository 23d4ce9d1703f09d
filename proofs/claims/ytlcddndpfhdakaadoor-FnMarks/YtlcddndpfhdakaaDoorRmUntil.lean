/- The specification's reader: what stands ahead of a byte. -/
import Derived.Test.YtlcddndpfhdakaaDoorRsSmall
import Derived.Test.YtlcddndpfhdakaaDoorRmPlain
namespace Go.Proofs.YtlcddndpfhdakaaDoor
open Go.RowKit
theorem upto_stop {c : UInt8} {s : ByteArray} {p q : Nat} (hpq : p ≤ q) (hq : q ≤ s.size) (hall : ∀ d ∈ (rest s p).take (q - p), d ≠ c) (hst : ∀ h : q < s.size, s[q] = c) : upto c (rest s p) = (rest s p).take (q - p) := by
  have e : rest s p = (rest s p).take (q - p) ++ (rest s p).drop (q - p) := (List.take_append_drop _ _).symm
  conv => lhs; rw [e]
  refine upto_of hall (fun d r h => ?_)
  have h2 : (rest s p).drop (q - p) = s.data.toList.drop q := by unfold rest; rw [List.drop_drop, show p + (q - p) = q by omega]
  rw [h2] at h
  by_cases hl : q < s.size
  · rw [List.drop_eq_getElem_cons (by rw [bd_len]; exact hl)] at h
    injection h with h _
    rw [← h]; exact hst hl
  · rw [List.drop_of_length_le (by rw [bd_len]; omega)] at h; cases h
theorem upto_more {c : UInt8} {s : ByteArray} {p q : Nat} (hpq : p ≤ q) (hl : q < s.size) (hall : ∀ d ∈ (rest s p).take (q - p), d ≠ c) (hne : s[q] ≠ c) : ∀ d ∈ (rest s p).take (q + 1 - p), d ≠ c := by
  intro d hd
  have hlen : q - p < (rest s p).length := by unfold rest; rw [List.length_drop, bd_len]; omega
  rw [show q + 1 - p = (q - p) + 1 by omega, List.take_succ_eq_append_getElem hlen] at hd
  rcases List.mem_append.1 hd with h | h
  · exact hall d h
  · simp only [List.mem_singleton] at h
    have : (rest s p)[q - p] = s[q] := by
      unfold rest
      rw [List.getElem_drop]
      have e : p + (q - p) = q := by omega
      simp only [e]; rfl
    rw [h, this]; exact hne
set_option maxHeartbeats 4000000 in
theorem until_any {w : World} {g : Nat} {s : ByteArray} {p : Nat} (c : UInt8) (h : SrAt w g s p) (hp : p ≤ s.size) (hs : s.size ≤ 1048576) :
    Calls Tryd.prog 66 #[.pointer (some ⟨g, 0, none⟩), .int .u8 (c.toNat : Int)] w fun e w' =>
      (∃ t : ByteArray, e = .returned (.string t) ∧ t.data.toList = upto c (rest s p)) ∧ SrAt w' g s (p + (upto c (rest s p)).length) ∧ w.grownBy w' (some g) := by
  have h' : Hid (SrAt w g s p) := h
  have hpz : (p : Int) ≤ 1048576 := by omega
  have hsz : (s.size : Int) ≤ 1048576 := by omega
  have c1 := h.cell 1 rfl
  clear h
  go_enter Tryd.func66, Tryd.ntmps66
  go_wp2_with fail
  go_loopw [] (fun wr => ∃ q : Nat, p ≤ q ∧ q ≤ s.size ∧ Hid (SrAt wr g s q) ∧ Hid (w.grownBy wr (some g)) ∧ Hid (∀ d ∈ (rest s p).take (q - p), d ≠ c)) (fun wr => s.size - posW g wr)
  case atStart => exact ⟨p, Nat.le_refl _, hp, h', grown_refl _ _, by show ∀ d ∈ _, _; simp⟩
  case round =>
    obtain ⟨q, hpq, hq, hx, hgw, hall⟩ := hrel
    have hpos : Hid (posW g wr = q) := posW_at hx.out
    have key : (∀ h : q < s.size, s[q] = c) → ∃ t : ByteArray, t = s.extract p q ∧ t.data.toList = upto c (rest s p) ∧ q = p + (upto c (rest s p)).length := fun hst => by
      have e := upto_stop hpq hq hall.out hst
      refine ⟨_, rfl, by rw [bd_mid, e], ?_⟩
      rw [e, List.length_take]; unfold rest; rw [List.length_drop, bd_len]; omega
    have d0 := hx.out.cell 0 rfl
    have d1 := hx.out.cell 1 rfl
    have f1 := hx.out.unfrozen 1
    have q0 : (0 : Int) ≤ (q : Int) := by omega
    have q1 : (q : Int) ≤ 1048576 := by omega
    clear c1
    by_cases hlt : q < s.size
    · have hltI : (q : Int) < (s.size : Int) := by omega
      by_cases ha : s[q] = c
      · obtain ⟨t, ht, htl, hql⟩ := key (fun _ => ha)
        have hsl : ∀ w, (Instr.slice 9 (.string s) (some (.int .i64 (p : Int))) (some (.int .i64 (q : Int))) none).run Tryd.prog w = .ok (.string t) w := fun w => by rw [ht]; exact sl_mid s p q hpq hq w
        have htl' : Hid (t.data.toList = upto c (rest s p)) := htl
        have hql' : Hid (q = p + (upto c (rest s p)).length) := hql
        have haI : s[q].toNat = c.toNat := by rw [ha]
        clear key ht htl hql ha
        go_wp2_with fail
        go_quiet (fail)
        go_wp2_with fail
        go_quiet (fail)
        go_wp2_with fail
        go_ret
        exact ⟨⟨t, rfl, htl'.out⟩, by rw [← hql'.out]; exact hx.out, hgw.out.trans (grown_drewN.trans grown_drewN)⟩
      · have hm : Hid (∀ d ∈ (rest s p).take (q + 1 - p), d ≠ c) := upto_more hpq hlt hall.out ha
        have haI : ¬ s[q].toNat = c.toNat := fun e => ha (UInt8.toNat_inj.1 e)
        clear key ha
        go_wp2_with fail
        go_quiet (fail)
        go_wp2_with fail
        go_roundw
        case rel => exact ⟨q + 1, by omega, by omega, SrAt.set (show SrAt (wr.drewN nq) g s q from hx.out) (q + 1), hgw.out.trans (grown_drewN.trans (grown_set _)), hm⟩
        case measure =>
          have := posW_at (SrAt.set (show SrAt (wr.drewN nq) g s q from hx.out) (q + 1))
          rw [hpos.out]
          have e : ((q + 1 : Nat) : Int) = (q : Int) + 1 := by omega
          rw [e] at this
          rw [this]; omega
    · obtain ⟨t, ht, htl, hql⟩ := key (fun h => absurd h hlt)
      have hsl : ∀ w, (Instr.slice 9 (.string s) (some (.int .i64 (p : Int))) (some (.int .i64 (q : Int))) none).run Tryd.prog w = .ok (.string t) w := fun w => by rw [ht]; exact sl_mid s p q hpq hq w
      have htl' : Hid (t.data.toList = upto c (rest s p)) := htl
      have hql' : Hid (q = p + (upto c (rest s p)).length) := hql
      clear key ht htl hql
      have hltF : decide ((q : Int) < (s.size : Int)) = false := by simpa using hlt
      go_wp2_with fail
      go_quiet (fail)
      go_wp2_with fail
      go_quiet (fail)
      go_wp2_with fail
      go_ret
      exact ⟨⟨t, rfl, htl'.out⟩, by rw [← hql'.out]; exact hx.out, hgw.out.trans (grown_drewN.trans grown_drewN)⟩
end Go.Proofs.YtlcddndpfhdakaaDoor
