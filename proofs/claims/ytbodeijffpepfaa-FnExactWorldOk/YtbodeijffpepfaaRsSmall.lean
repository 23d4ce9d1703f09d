/- The specification's reader of texts: is a sign there, the letters that come. -/
import Derived.Test.YtbodeijffpepfaaRtSmall
namespace Go.Proofs.Ytbodeijffpepfaa
open Go.RowKit
/-- a reader of s at p -/
def SrAt (w : World) (g : Nat) (s : ByteArray) (p : Nat) : Prop := Box w g [.string s, .int .i64 (p : Int)] 78
theorem SrAt.lt {w : World} {g : Nat} {s : ByteArray} {p : Nat} (h : SrAt w g s p) : g < w.heap.size := Box.lt h
theorem SrAt.below {w w' : World} {g : Nat} {s : ByteArray} {p : Nat} (h : SrAt w g s p) (hb : Below w.heap.size w w') : SrAt w' g s p := Box.below h hb h.lt
theorem SrAt.set {w : World} {g : Nat} {s : ByteArray} {p : Nat} (h : SrAt w g s p) (q : Nat) : SrAt (w.setCell ⟨g, 1, none⟩ (.int .i64 (q : Int))) g s q := Box.set (i := 1) h _
theorem pre_ext {s sign : ByteArray} {p : Nat} : (s.extract p (p + sign.size) = sign) ↔ preP sign.data.toList (rest s p) = true := by
  have e : (s.extract p (p + sign.size)).data.toList = (rest s p).take sign.size := by rw [bd_mid, show p + sign.size - p = sign.size by omega]
  constructor
  · intro q
    rw [q] at e
    rw [preP, bd_len, ← e]; simp
  · intro q
    rw [preP, bd_len] at q
    exact ba_of (e.trans (by simpa using q))
theorem pre_len {s sign : ByteArray} {p : Nat} (hp : p ≤ s.size) (h : preP sign.data.toList (rest s p) = true) : p + sign.size ≤ s.size := by
  obtain ⟨r, e⟩ := preP_yes h
  have := congrArg List.length e
  rw [List.length_append, List.length_drop, bd_len, bd_len] at this
  omega
set_option maxHeartbeats 2000000 in
theorem is_yes {w : World} {g : Nat} {s sign : ByteArray} {p : Nat} (h : SrAt w g s p) (hp : p ≤ s.size) (hs : s.size ≤ 1048576) (hy : preP sign.data.toList (rest s p) = true) :
    Calls Try.prog 43 #[.pointer (some ⟨g, 0, none⟩), .string sign] w fun e w' => e = .returned (.bool true) ∧ SrAt w' g s (p + sign.size) ∧ p + sign.size ≤ s.size ∧ w.grownBy w' (some g) := by
  have h' : Hid (SrAt w g s p) := h
  have hle := pre_len hp hy
  have hle' : Hid (p + sign.size ≤ s.size) := hle
  have c0 := h.cell 0 rfl
  have c1 := h.cell 1 rfl
  have f1 := h.unfrozen 1
  have hsl : ∀ w, (Instr.slice 9 (.string s) (some (.int .i64 (p : Int))) (some (.int .i64 ((p : Int) + (sign.size : Int)))) none).run Try.prog w = .ok (.string sign) w := fun w => by
    have := sl_mid s p (p + sign.size) (by omega) hle w
    rw [pre_ext.2 hy] at this
    simpa using this
  have hge : decide ((s.size : Int) - (p : Int) < (sign.size : Int)) = false := by simp; omega
  have h1 : (p : Int) ≤ 1048576 := by omega
  have h2 : (s.size : Int) ≤ 1048576 := by omega
  have h3 : (sign.size : Int) ≤ 1048576 := by omega
  clear h hy hle hp hs
  go_enter Try.func43, Try.ntmps43
  go_wp2_with fail
  go_quiet (fail)
  go_wp2_with fail
  go_ret
  refine ⟨rfl, ?_, hle'.out, grown_drewN.trans (grown_set _)⟩
  have := SrAt.set (show SrAt (w.drewN nq) g s p from h'.out) (p + sign.size)
  simpa using this
set_option maxHeartbeats 2000000 in
theorem is_no {w : World} {g : Nat} {s sign : ByteArray} {p : Nat} (h : SrAt w g s p) (hp : p ≤ s.size) (hs : s.size ≤ 1048576) (hz : sign.size ≤ 1048576) (hy : preP sign.data.toList (rest s p) = false) :
    Calls Try.prog 43 #[.pointer (some ⟨g, 0, none⟩), .string sign] w fun e w' => e = .returned (.bool false) ∧ ∃ n, w' = w.drewN n := by
  have c0 := h.cell 0 rfl
  have c1 := h.cell 1 rfl
  have h1 : (p : Int) ≤ 1048576 := by omega
  have h2 : (s.size : Int) ≤ 1048576 := by omega
  have h3 : (sign.size : Int) ≤ 1048576 := by omega
  by_cases hle : p + sign.size ≤ s.size
  · have hge : decide ((s.size : Int) - (p : Int) < (sign.size : Int)) = false := by simp; omega
    have hne : ¬ s.extract p (p + sign.size) = sign := fun e => by rw [pre_ext.1 e] at hy; cases hy
    obtain ⟨t, ht⟩ : ∃ t, t = s.extract p (p + sign.size) := ⟨_, rfl⟩
    rw [← ht] at hne
    have hne2 : (t.toList == sign.toList) = false := by simpa using bd_ne hne
    have hne3 : (!(t.toList == sign.toList)) = true := by rw [hne2]; rfl
    have hsl : ∀ w, (Instr.slice 9 (.string s) (some (.int .i64 (p : Int))) (some (.int .i64 ((p : Int) + (sign.size : Int)))) none).run Try.prog w = .ok (.string t) w := fun w => by
      have := sl_mid s p (p + sign.size) (by omega) hle w
      rw [← ht] at this
      simpa using this
    clear h hy hle hp hs ht
    go_enter Try.func43, Try.ntmps43
    go_wp2_with fail
    go_quiet (fail)
    go_wp2_with fail
    go_ret
    exact ⟨rfl, nq, rfl⟩
  · have hge : (s.size : Int) - (p : Int) < (sign.size : Int) := by omega
    clear h hy hle hp hs
    go_enter Try.func43, Try.ntmps43
    go_wp2_with fail
    go_quiet (fail)
    go_wp2_with fail
    go_ret
    exact ⟨rfl, nq, rfl⟩
/-- where it stands, in memory -/
def posW (g : Nat) (w : World) : Nat := match w.cell? ⟨g, 1, none⟩ with
  | some v => (intOf v).toNat
  | none => 0
theorem posW_at {w : World} {g : Nat} {s : ByteArray} {p : Nat} (h : SrAt w g s p) : posW g w = p := by
  have := h.cell 1 rfl
  simp [posW, this, intOf]
set_option maxHeartbeats 4000000 in
theorem word_any {w : World} {g : Nat} {s : ByteArray} {p : Nat} (h : SrAt w g s p) (hp : p ≤ s.size) (hs : s.size ≤ 1048576) :
    Calls Try.prog 44 #[.pointer (some ⟨g, 0, none⟩)] w fun e w' =>
      (∃ t : ByteArray, e = .returned (.string t) ∧ t.data.toList = lw (rest s p)) ∧ SrAt w' g s (p + (lw (rest s p)).length) ∧ w.grownBy w' (some g) := by
  have h' : Hid (SrAt w g s p) := h
  have hpz : (p : Int) ≤ 1048576 := by omega
  have hsz : (s.size : Int) ≤ 1048576 := by omega
  have c1 := h.cell 1 rfl
  clear h
  go_enter Try.func44, Try.ntmps44
  go_wp2_with fail
  go_loopw [] (fun wr => ∃ q : Nat, p ≤ q ∧ q ≤ s.size ∧ Hid (SrAt wr g s q) ∧ Hid (w.grownBy wr (some g)) ∧ Hid (letsB ((rest s p).take (q - p)) = true)) (fun wr => s.size - posW g wr)
  case atStart => exact ⟨p, Nat.le_refl _, hp, h', grown_refl _ _, by show _ = _; simp [letsB]⟩
  case round =>
    obtain ⟨q, hpq, hq, hx, hgw, hall⟩ := hrel
    have hpos : Hid (posW g wr = q) := posW_at hx.out
    have key : (∀ h : q < s.size, letB (s[q].toNat : Int) = false) → ∃ t : ByteArray, t = s.extract p q ∧ t.data.toList = lw (rest s p) ∧ q = p + (lw (rest s p)).length := fun hst => by
      have e := lw_stop hpq hall.out hst
      refine ⟨_, rfl, by rw [bd_mid, e], ?_⟩
      rw [e, List.length_take]; unfold rest; rw [List.length_drop, bd_len]; omega
    have d0 := hx.out.cell 0 rfl
    have d1 := hx.out.cell 1 rfl
    have f1 := hx.out.unfrozen 1
    have q0 : (0 : Int) ≤ (q : Int) := by omega
    have q1 : (q : Int) ≤ 1048576 := by omega
    clear c1
    by_cases hlt : q < s.size
    · have hltI : (q : Int) < (s.size : Int) := by omega
      by_cases ha : 97 ≤ (s[q].toNat : Int)
      · by_cases hb : (s[q].toNat : Int) ≤ 122
        · have hm : Hid (letsB ((rest s p).take (q + 1 - p)) = true) := lets_more hpq hlt hall.out (letB_true _ ha hb)
          clear key
          go_wp2_with fail
          go_quiet (fail)
          go_wp2_with fail
          go_roundw
          case rel => exact ⟨q + 1, by omega, by omega, SrAt.set (show SrAt (wr.drewN nq) g s q from hx.out) (q + 1), hgw.out.trans (grown_drewN.trans (grown_set _)), hm⟩
          case measure =>
            have := posW_at (SrAt.set (show SrAt (wr.drewN nq) g s q from hx.out) (q + 1))
            rw [hpos.out]
            have e : ((q + 1 : Nat) : Int) = (q : Int) + 1 := by omega
            rw [e] at this
            rw [this]; omega
        · obtain ⟨t, ht, htl, hql⟩ := key (fun _ => letB_high _ (by omega))
          have hsl : ∀ w, (Instr.slice 9 (.string s) (some (.int .i64 (p : Int))) (some (.int .i64 (q : Int))) none).run Try.prog w = .ok (.string t) w := fun w => by rw [ht]; exact sl_mid s p q hpq hq w
          have htl' : Hid (t.data.toList = lw (rest s p)) := htl
          have hql' : Hid (q = p + (lw (rest s p)).length) := hql
          clear key ht htl hql
          have hbI : decide ((s[q].toNat : Int) ≤ 122) = false := by simpa using hb
          go_wp2_with fail
          go_quiet (fail)
          go_wp2_with fail
          go_quiet (fail)
          go_wp2_with fail
          go_ret
          exact ⟨⟨t, rfl, htl'.out⟩, by rw [← hql'.out]; exact hx.out, hgw.out.trans (grown_drewN.trans grown_drewN)⟩
      · obtain ⟨t, ht, htl, hql⟩ := key (fun _ => letB_low _ (by omega))
        have hsl : ∀ w, (Instr.slice 9 (.string s) (some (.int .i64 (p : Int))) (some (.int .i64 (q : Int))) none).run Try.prog w = .ok (.string t) w := fun w => by rw [ht]; exact sl_mid s p q hpq hq w
        have htl' : Hid (t.data.toList = lw (rest s p)) := htl
        have hql' : Hid (q = p + (lw (rest s p)).length) := hql
        clear key ht htl hql
        have haI : decide (97 ≤ (s[q].toNat : Int)) = false := by simpa using ha
        go_wp2_with fail
        go_quiet (fail)
        go_wp2_with fail
        go_quiet (fail)
        go_wp2_with fail
        go_ret
        exact ⟨⟨t, rfl, htl'.out⟩, by rw [← hql'.out]; exact hx.out, hgw.out.trans (grown_drewN.trans grown_drewN)⟩
    · obtain ⟨t, ht, htl, hql⟩ := key (fun h => absurd h hlt)
      have hsl : ∀ w, (Instr.slice 9 (.string s) (some (.int .i64 (p : Int))) (some (.int .i64 (q : Int))) none).run Try.prog w = .ok (.string t) w := fun w => by rw [ht]; exact sl_mid s p q hpq hq w
      have htl' : Hid (t.data.toList = lw (rest s p)) := htl
      have hql' : Hid (q = p + (lw (rest s p)).length) := hql
      clear key ht htl hql
      have hltF : decide ((q : Int) < (s.size : Int)) = false := by simpa using hlt
      go_wp2_with fail
      go_quiet (fail)
      go_wp2_with fail
      go_quiet (fail)
      go_wp2_with fail
      go_ret
      exact ⟨⟨t, rfl, htl'.out⟩, by rw [← hql'.out]; exact hx.out, hgw.out.trans (grown_drewN.trans grown_drewN)⟩
end Go.Proofs.Ytbodeijffpepfaa
