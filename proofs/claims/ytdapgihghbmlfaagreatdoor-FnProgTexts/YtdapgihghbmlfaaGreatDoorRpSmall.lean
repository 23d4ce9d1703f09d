/- Numbers as the program's reader reads them, and the form that bears a word: walked. -/
import Derived.Test.YtdapgihghbmlfaaGreatDoorRpPlain
import Derived.Test.YtdapgihghbmlfaaGreatDoorVmForms
import Derived.Test.YtdapgihghbmlfaaGreatDoorVmTextW
import Derived.Test.YtdapgihghbmlfaaGreatDoorShelfParse
import Derived.Test.YtdapgihghbmlfaaGreatDoorShelfFmt
namespace Go.Proofs.YtdapgihghbmlfaaGreatDoor
open Go.RowKit Go.Deep
theorem grown_below {w w' : World} {g : Nat} (h : Below w.heap.size w w') : w.grownBy w' (some g) := ⟨h.os, h.tape, h.output, h.size, fun b hb _ => h.block b hb⟩
set_option maxHeartbeats 1000000 in
theorem numSign_any (c : UInt8) (w : World) :
    Calls Tryz.prog 72 #[.int .u8 (c.toNat : Int)] w fun e w' => e = .returned (.bool (numS c)) ∧ w' = w := by
  have e45 : (c = 45) ↔ (c.toNat : Int) = 45 := by rw [← UInt8.toNat_inj]; show c.toNat = 45 ↔ _; omega
  by_cases h : (c.toNat : Int) = 45
  · have H : Hid (numS c = true) := by show _ = _; unfold numS; rw [decide_eq_true (e45.2 h)]; rfl
    go_enter Tryz.func72, Tryz.ntmps72
    clear e45
    go_wp2
    go_ret
    exact ⟨by rw [H.out]; simp [h], rfl⟩
  · have hn : ¬ c = 45 := fun q => h (e45.1 q)
    by_cases h1 : 48 ≤ (c.toNat : Int)
    · by_cases h2 : (c.toNat : Int) ≤ 57
      · have H : Hid (numS c = true) := by show _ = _; unfold numS; simp; right; omega
        go_enter Tryz.func72, Tryz.ntmps72
        clear e45 hn
        go_wp2
        go_ret
        exact ⟨by rw [H.out]; simp, rfl⟩
      · have H : Hid (numS c = false) := by show _ = _; unfold numS; simp; exact ⟨hn, by omega⟩
        go_enter Tryz.func72, Tryz.ntmps72
        clear e45 hn
        go_wp2
        go_ret
        exact ⟨by rw [H.out]; simp [h], rfl⟩
    · have H : Hid (numS c = false) := by show _ = _; unfold numS; simp; exact ⟨hn, by omega⟩
      go_enter Tryz.func72, Tryz.ntmps72
      clear e45 hn
      go_wp2
      go_ret
      exact ⟨by rw [H.out]; simp [h], rfl⟩
def numsB (l : List UInt8) : Bool := l.all numS
theorem nw_stop {s : ByteArray} {p q : Nat} (hpq : p ≤ q) (hl : numsB ((rest s p).take (q - p)) = true) (hs : ∀ h : q < s.size, numS s[q] = false) : nw (rest s p) = (rest s p).take (q - p) := by
  have e := rest_app (s := s) (p := p) (n := q - p)
  rw [show p + (q - p) = q by omega] at e
  have := nw_of (b := rest s q) (fun c hc => by rw [numsB, List.all_eq_true] at hl; exact hl c hc) (fun c r hc => by
    have hlt : q < s.size := by
      rcases Nat.lt_or_ge q s.size with h | h
      · exact h
      · unfold rest at hc; rw [List.drop_of_length_le (by rw [bd_len]; exact h)] at hc; cases hc
    rw [rest_cons hlt] at hc
    injection hc with h1 _
    rw [← h1]; exact hs hlt)
  rw [← e] at this; exact this
theorem nums_more {s : ByteArray} {p q : Nat} (hpq : p ≤ q) (hq : q < s.size) (hl : numsB ((rest s p).take (q - p)) = true) (hs : numS s[q] = true) : numsB ((rest s p).take (q + 1 - p)) = true := by
  have e : (rest s p).take (q + 1 - p) = (rest s p).take (q - p) ++ [s[q]] := by
    have hlen : q - p < (rest s p).length := by unfold rest; rw [List.length_drop, bd_len]; omega
    rw [show q + 1 - p = q - p + 1 by omega, List.take_succ_eq_append_getElem hlen]
    congr 2
    simp only [rest, List.getElem_drop, show p + (q - p) = q by omega]
    rfl
  rw [e]; unfold numsB at hl ⊢; rw [List.all_append, hl]; simp [hs]
theorem nw_len_le (l : List UInt8) : (nw l).length ≤ l.length := by
  unfold nw; exact (List.takeWhile_prefix _).length_le
/-- what number answers -/
def NumR (w : World) (g : Nat) (s : ByteArray) (p k : Nat) (e : Ending) (w' : World) : Prop :=
  (∃ (n : Int) (p' : Nat), e = .returned (.int .i64 n) ∧ rdNum (rest s p) = some (n, rest s p') ∧ p' ≤ s.size ∧ TrAt w' g s p' k ∧ w.grownBy w' (some g)) ∨ (e = .panicked gaveUp ∧ rdNum (rest s p) = none ∧ w.grownBy w' (some g))
theorem rdNum_ok {l : List UInt8} {v : Int} (h : Lib.parseIntB 64 (nw l) = .ok v) (hi : Lib.itoa v = nw l) : rdNum l = some (v, l.drop (nw l).length) := by
  unfold rdNum; rw [h]; simp only; rw [if_pos hi]
theorem rdNum_bad {l : List UInt8} {v : Int} (h : Lib.parseIntB 64 (nw l) = .ok v) (hi : ¬ Lib.itoa v = nw l) : rdNum l = none := by
  unfold rdNum; rw [h]; simp only; rw [if_neg hi]
theorem rdNum_none {l : List UInt8} (h : ∀ v, Lib.parseIntB 64 (nw l) ≠ .ok v) : rdNum l = none := by
  unfold rdNum
  split
  · rename_i v hv; exact absurd hv (h v)
  · rfl
theorem parse_in {l : List UInt8} {v : Int} (h : Lib.parseIntB 64 l = .ok v) : -9223372036854775808 ≤ v ∧ v ≤ 9223372036854775807 := by
  have := Lib.parseIntB_bounds h
  simp at this; omega
set_option maxRecDepth 100000 in
set_option maxHeartbeats 4000000 in
/-- what comes behind the signs of a number -/
theorem number_any {w : World} {g : Nat} {s : ByteArray} {p k : Nat} (h : TrAt w g s p k) (hp : p ≤ s.size) (hs : s.size ≤ 1048576) (hE : Errs w) (hK : ∀ w' : World, (∀ b, b < w.heap.size → w'.heap[b]? = w.heap[b]?) → Errs w' ∧ Pows w') :
    Calls Tryz.prog 54 #[.pointer (some ⟨g, 0, none⟩)] w fun e w' => NumR w g s p k e w' := by
  have h' : Hid (TrAt w g s p k) := h
  have hE' : Hid (Errs w) := hE
  have hK' : Hid (∀ w' : World, (∀ b, b < w.heap.size → w'.heap[b]? = w.heap[b]?) → Errs w' ∧ Pows w') := hK
  have hpz : (p : Int) ≤ 1048576 := by omega
  have hsz : (s.size : Int) ≤ 1048576 := by omega
  have c0 := h.cell 0 rfl
  have c1 := h.cell 1 rfl
  have f1 := h.unfrozen 1
  clear h hE hK
  go_enter Tryz.func54, Tryz.ntmps54
  go_wp2_with fail
  go_loop [3] (fun i => ∃ q : Nat, p ≤ q ∧ q ≤ s.size ∧ i = .int .i64 q ∧ Hid (numsB ((rest s p).take (q - p)) = true)) (fun i => s.size - (intOf i).toNat)
  case atStart => exact ⟨p, Nat.le_refl _, hp, rfl, by show _ = _; simp [numsB]⟩
  case round =>
    obtain ⟨q, hpq, hq, rfl, hall⟩ := hrel
    by_cases hgo : ∃ h : q < s.size, numS s[q] = true
    · obtain ⟨hlt, hl⟩ := hgo
      have hm : Hid (numsB ((rest s p).take (q + 1 - p)) = true) := nums_more hpq hlt hall.out hl
      go_wp2_with (go_at_call 72; refine (numSign_any _ _).mono ?_; rintro e w9 ⟨rfl, e9⟩; have e10 := e9.symm; clear e9; subst e10; rw [hl])
      go_round
      case rel => exact ⟨q + 1, by omega, by omega, by go_num, hm⟩
      case measure => simp [intOf]; omega
    · have hst : ∀ h : q < s.size, numS s[q] = false := fun h => by cases e : numS s[q] with | false => rfl | true => exact absurd ⟨h, e⟩ hgo
      have key : ∃ t : ByteArray, t = s.extract p q ∧ t.data.toList = nw (rest s p) ∧ q = p + (nw (rest s p)).length := by
        have e := nw_stop hpq hall.out hst
        refine ⟨_, rfl, by rw [bd_mid, e], ?_⟩
        rw [e, List.length_take]; unfold rest; rw [List.length_drop, bd_len]; omega
      obtain ⟨t, ht, htl, hql⟩ := key
      have hsl : ∀ w, (Instr.slice 9 (.string s) (some (.int .i64 (p : Int))) (some (.int .i64 (q : Int))) none).run Tryz.prog w = .ok (.string t) w := fun w => by rw [ht]; exact sl_mid s p q hpq hq w
      have htl' : Hid (t.data.toList = nw (rest s p)) := htl
      have hql' : Hid (q = p + (nw (rest s p)).length) := hql
      have htm : Hid (t.size ≤ 1048576) := by
        show _ ≤ _
        have := nw_len_le (rest s p); rw [← htl, bd_len] at this
        have h2 : (rest s p).length ≤ s.size := by unfold rest; rw [List.length_drop, bd_len]; omega
        omega
      have hqs : Hid (q ≤ s.size) := hq
      clear ht htl hql hall
      have hend : Hid (∀ (e0 : Value), True) := fun _ => trivial
      clear hend
      rcases Nat.lt_or_ge q s.size with hlt | hge
      · have hl := hst hlt
        clear hgo hst
        go_wp2_with (go_at_call 72; refine (numSign_any _ _).mono ?_; rintro e w9 ⟨rfl, e9⟩; have e10 := e9.symm; clear e9; subst e10; rw [hl])
        go_quiet (fail)
        go_wp2_with fail
        refine (parse_any _ htm.out _ (by exact hE'.out)).mono ?_
        rintro e w1 ⟨hpr, hb1⟩
        have hB1 : Hid (Below w.heap.size w w1) := ⟨hb1.os, hb1.tape, hb1.output, hb1.size, hb1.block⟩
        have htr1 : Hid (TrAt w1 g s p k) := TrAt.below (show TrAt (w.drewN nq) g s p k from h'.out) hb1
        have c0' := htr1.out.cell 0 rfl
        have c1' := htr1.out.cell 1 rfl
        have f1' := htr1.out.unfrozen 1
        clear hb1 c0 c1 f1
        rcases hpr with ⟨v, hv, rfl⟩ | ⟨hv, z, T, N, rfl⟩
        · have hPw : Hid (Pows w1) := (hK'.out w1 (fun b hb => hB1.out.block b hb)).2
          have hvr := parse_in hv
          have hv' : Hid (Lib.parseIntB 64 (nw (rest s p)) = .ok v) := by show _ = _; rw [← htl'.out]; exact hv
          clear hv
          by_cases hi : Lib.itoa v = nw (rest s p)
          · have hti : t = ⟨(Lib.itoa v).toArray⟩ := ba_of (by rw [htl'.out, hi])
            have hrd : Hid (rdNum (rest s p) = some (v, rest s q)) := by
              show _ = _
              rw [rdNum_ok hv'.out hi, hql'.out]; unfold rest; rw [List.drop_drop]
            subst hti
            clear hi
            go_wp2_with (go_at_call 30; refine (format_any v hvr.1 hvr.2 _ hPw.out).mono ?_; rintro e w2 ⟨rfl, hb2⟩; have htr2 : Hid (TrAt w2 g s p k) := htr1.out.below hb2; have c1'' := htr2.out.cell 1 rfl; have f1'' := htr2.out.unfrozen 1; have hg2 : Hid (w.grownBy w2 (some g)) := (grown_below hB1.out).trans (grown_below hb2); clear hb2)
            go_ret
            refine Or.inl ⟨v, q, rfl, hrd.out, hqs.out, ?_, hg2.out.trans (grown_set _)⟩
            exact TrAt.set htr2.out q
          · have hrd : Hid (rdNum (rest s p) = none) := rdNum_bad hv'.out hi
            have hti0 : ¬ (⟨(Lib.itoa v).toArray⟩ : ByteArray) = t := fun q => hi (by rw [← htl'.out, ← q])
            obtain ⟨u, hu⟩ : ∃ u : ByteArray, (⟨(Lib.itoa v).toArray⟩ : ByteArray) = u := ⟨_, rfl⟩
            have hti : ¬ u = t := by rw [← hu]; exact hti0
            clear hti0
            have hne3 : (!(u.toList == t.toList)) = true := by rw [show (u.toList == t.toList) = false from by simpa using bd_ne hti]; rfl
            have hne2 : (u.toList == t.toList) = false := by simpa using bd_ne hti
            go_wp2_with (go_at_call 30; refine (format_any v hvr.1 hvr.2 _ hPw.out).mono ?_; rintro e w2 ⟨rfl, hb2⟩; rw [hu]; clear hu; have htr2 : Hid (TrAt w2 g s p k) := htr1.out.below hb2; have c1'' := htr2.out.cell 1 rfl; have f1'' := htr2.out.unfrozen 1; have hg2 : Hid (w.grownBy w2 (some g)) := (grown_below hB1.out).trans (grown_below hb2); clear hb2)
            refine (giveUp_any _ _).mono ?_
            rintro e w3 ⟨rfl, rfl⟩
            go_wp2_with fail
            exact ⟨rfl, Or.inr ⟨rfl, hrd.out, hg2.out⟩⟩
        · have hrd : Hid (rdNum (rest s p) = none) := rdNum_none (by rw [← htl'.out]; exact hv)
          clear hv
          go_wp2_with fail
          refine (giveUp_any _ _).mono ?_
          rintro e w3 ⟨rfl, rfl⟩
          go_wp2_with fail
          exact ⟨rfl, Or.inr ⟨rfl, hrd.out, grown_below hB1.out⟩⟩

      · clear hgo hst
        have hlt : ¬ (q : Int) < (s.size : Int) := by omega
        go_wp2_with fail
        go_quiet (fail)
        go_wp2_with fail
        refine (parse_any _ htm.out _ (by exact hE'.out)).mono ?_
        rintro e w1 ⟨hpr, hb1⟩
        have hB1 : Hid (Below w.heap.size w w1) := ⟨hb1.os, hb1.tape, hb1.output, hb1.size, hb1.block⟩
        have htr1 : Hid (TrAt w1 g s p k) := TrAt.below (show TrAt (w.drewN nq) g s p k from h'.out) hb1
        have c0' := htr1.out.cell 0 rfl
        have c1' := htr1.out.cell 1 rfl
        have f1' := htr1.out.unfrozen 1
        clear hb1 c0 c1 f1
        rcases hpr with ⟨v, hv, rfl⟩ | ⟨hv, z, T, N, rfl⟩
        · have hPw : Hid (Pows w1) := (hK'.out w1 (fun b hb => hB1.out.block b hb)).2
          have hvr := parse_in hv
          have hv' : Hid (Lib.parseIntB 64 (nw (rest s p)) = .ok v) := by show _ = _; rw [← htl'.out]; exact hv
          clear hv
          by_cases hi : Lib.itoa v = nw (rest s p)
          · have hti : t = ⟨(Lib.itoa v).toArray⟩ := ba_of (by rw [htl'.out, hi])
            have hrd : Hid (rdNum (rest s p) = some (v, rest s q)) := by
              show _ = _
              rw [rdNum_ok hv'.out hi, hql'.out]; unfold rest; rw [List.drop_drop]
            subst hti
            clear hi
            go_wp2_with (go_at_call 30; refine (format_any v hvr.1 hvr.2 _ hPw.out).mono ?_; rintro e w2 ⟨rfl, hb2⟩; have htr2 : Hid (TrAt w2 g s p k) := htr1.out.below hb2; have c1'' := htr2.out.cell 1 rfl; have f1'' := htr2.out.unfrozen 1; have hg2 : Hid (w.grownBy w2 (some g)) := (grown_below hB1.out).trans (grown_below hb2); clear hb2)
            go_ret
            refine Or.inl ⟨v, q, rfl, hrd.out, hqs.out, ?_, hg2.out.trans (grown_set _)⟩
            exact TrAt.set htr2.out q
          · have hrd : Hid (rdNum (rest s p) = none) := rdNum_bad hv'.out hi
            have hti0 : ¬ (⟨(Lib.itoa v).toArray⟩ : ByteArray) = t := fun q => hi (by rw [← htl'.out, ← q])
            obtain ⟨u, hu⟩ : ∃ u : ByteArray, (⟨(Lib.itoa v).toArray⟩ : ByteArray) = u := ⟨_, rfl⟩
            have hti : ¬ u = t := by rw [← hu]; exact hti0
            clear hti0
            have hne3 : (!(u.toList == t.toList)) = true := by rw [show (u.toList == t.toList) = false from by simpa using bd_ne hti]; rfl
            have hne2 : (u.toList == t.toList) = false := by simpa using bd_ne hti
            go_wp2_with (go_at_call 30; refine (format_any v hvr.1 hvr.2 _ hPw.out).mono ?_; rintro e w2 ⟨rfl, hb2⟩; rw [hu]; clear hu; have htr2 : Hid (TrAt w2 g s p k) := htr1.out.below hb2; have c1'' := htr2.out.cell 1 rfl; have f1'' := htr2.out.unfrozen 1; have hg2 : Hid (w.grownBy w2 (some g)) := (grown_below hB1.out).trans (grown_below hb2); clear hb2)
            refine (giveUp_any _ _).mono ?_
            rintro e w3 ⟨rfl, rfl⟩
            go_wp2_with fail
            exact ⟨rfl, Or.inr ⟨rfl, hrd.out, hg2.out⟩⟩
        · have hrd : Hid (rdNum (rest s p) = none) := rdNum_none (by rw [← htl'.out]; exact hv)
          clear hv
          go_wp2_with fail
          refine (giveUp_any _ _).mono ?_
          rintro e w3 ⟨rfl, rfl⟩
          go_wp2_with fail
          exact ⟨rfl, Or.inr ⟨rfl, hrd.out, grown_below hB1.out⟩⟩

end Go.Proofs.YtdapgihghbmlfaaGreatDoor
