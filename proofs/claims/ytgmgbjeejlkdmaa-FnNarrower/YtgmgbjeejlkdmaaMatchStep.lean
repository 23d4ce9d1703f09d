/- The program's matcher of more than one step, walked. -/
import Derived.Test.YtgmgbjeejlkdmaaMatchImpl
import Derived.Test.YtgmgbjeejlkdmaaAtSpec
namespace Go.Proofs.Ytgmgbjeejlkdmaa
open Go.RowKit
theorem two_b (b : Bool) : b = false ∨ b = true := by cases b <;> simp
theorem quiet_at {P : Program} {f : FuncId} {args : Array Value} {w : World} {m x : Nat} {v : Value} (h : Calls P f args (w.drewN (m + x)) fun e w' => e = .returned v ∧ ∃ k, w' = (w.drewN (m + x)).drewN k) : Calls P f args (w.drewN (m + x)) fun e w'' => e = .returned v ∧ ∃ n, w'' = w.drewN (m + n) :=
  h.mono fun _ _ ⟨he, k, hk⟩ => ⟨he, x + k, by rw [hk, World.drewN_drewN, Nat.add_assoc]⟩
set_option maxHeartbeats 4000000 in
theorem mC_succ_z (st : Nat → StepD) (tg : Nat → ByteArray) (ih0 : MC st tg 0) : MC st tg (0 + 1) := by
  intro w kw v lo tags p hv hk hp htg f caps e
  obtain ⟨go, ga, gs, vo, va, e2, b1, b2, b3, ho, hva⟩ := hv
  rw [e2] at e
  injection e with e3 _ e4
  injection e3 with e3
  subst e3 e4
  clear e2
  obtain ⟨g, rfl, bg0⟩ := ho
  have ih : Hid (MC st tg 0) := ih0
  have bg : Hid (Box w g [.string (st (0 + 1)).vTag] 9) := bg0
  have hva' : Hid (IsM st w 0 va) := hva
  obtain ⟨ga2, rfl, _⟩ := hva
  have hk' : Hid (SeqAt 2 TagA w lo kw tags) := hk
  obtain ⟨a, cap, rfl, hm, hx⟩ := hk
  obtain ⟨b, off, rfl, _⟩ := hx (by omega)
  unfold maxLen at hm
  have hp' : Hid (tags.length = p + 1) := hp
  have htg' : Hid (∀ i, (h : i < tags.length) → tags[i] = tg i) := htg
  have hwr : IntKind.i64.wrap ((tags.length : Int) - 1) = (p : Int) := by rw [IntKind.wrap_i64]; omega
  have hpc : p < cap := by omega
  have hpM : p < 9223372036854775807 := by omega
  have c1 := b1.cell 0 rfl
  have c2 := b2.cell 0 rfl
  have c4 := b3.cell 1 rfl
  clear hx ih0 bg0 b1 b2 b3 hp htg hm
  have htag : Hid ((decide ((st (0 + 1)).vTag = ⟨#[]⟩) || decide (tags[p]'(by have := hp'.out; omega) = (st (0 + 1)).vTag)) = tagM (st (0 + 1)) (tg p)) := by
    show _ = _
    rw [htg'.out p (by have := hp'.out; omega)]; rfl
  show Calls Try.prog 60 #[.slice (some ⟨b, off, none⟩) tags.length cap, .pointer (some ⟨go, 0, none⟩), .pointer (some ⟨ga, 0, none⟩), .pointer (some ⟨gs, 0, none⟩)] w _
  go_enter Try.func60, Try.ntmps60
  go_wp2_with fail
  refine (hasTag1_any (p := p) bg.out hk'.out hp'.out).mono ?_
  rintro e w1 ⟨rfl, m1, rfl⟩
  rw [htag.out]
  cases hto : tagM (st (0 + 1)) (tg p)
  · have H : Hid (mB st tg (0 + 1) p = false) := mB_no hto
    go_wp2_with fail
    go_ret
    exact ⟨by rw [H.out]; rfl, m1, rfl⟩
  have H : Hid (mB st tg (0 + 1) p = upB (mB st tg 0) (st (0 + 1)).vDeep p) := mB_yes hto
  clear hto
  go_wp2_with fail
  go_loopw [6] (fun i wr => ∃ (q m : Nat), q ≤ p ∧ i = .int .i64 q ∧ wr = w.drewN m ∧ Hid (upB (mB st tg 0) (st (0 + 1)).vDeep p = upB (mB st tg 0) (st (0 + 1)).vDeep q)) (fun i _ => (intOf i).toNat)
  case atStart => exact ⟨p, m1, Nat.le_refl _, rfl, rfl, rfl⟩
  case round =>
    obtain ⟨q, m, hq, rfl, rfl, hup⟩ := hrel
    by_cases hq0 : q = 0
    · subst hq0
      go_wp2_with fail
      go_ret
      exact ⟨by rw [H.out, hup.out]; rfl, m, rfl⟩
    · obtain ⟨q', hqq⟩ : ∃ q', q = q' + 1 := ⟨q - 1, by omega⟩
      have hq0' : (0 : Int) < (q : Int) := by omega
      have hcut := run_cut (a := some ⟨b, off, none⟩) (n := tags.length) (cap := cap) (j := q) (by omega)
      have hQs : IntKind.i64.wrap ((q : Int) - 1) = (q' : Int) := by rw [IntKind.wrap_i64]; omega
      have hcall : ∀ (z : Nat), Calls Try.prog 59 #[.slice (some ⟨b, off, none⟩) q cap, .pointer (some ⟨ga2, 0, none⟩)] (w.drewN z) fun e w' => e = .returned (.bool (mB st tg 0 q')) ∧ ∃ k, w' = (w.drewN z).drewN k := fun z => by
        have hlt : q ≤ tags.length := by have := hp'.out; omega
        have hl : (tags.take q).length = q' + 1 := by rw [List.length_take]; omega
        exact ih.out (w.drewN z) (.slice (some ⟨b, off, none⟩) q cap) (.func (.func 59) #[] #[.pointer (some ⟨ga2, 0, none⟩)]) lo (tags.take q) q' (IsM.below (below_drewN (Below.refl _ _) z) hva'.out) (SeqAt.take (hk'.out.below tagA_stays (below_drewN (Below.refl _ _) z)) q hlt) hl (fun i hi => by rw [List.getElem_take]; exact htg'.out i (by rw [hl] at hi; omega)) 59 #[.pointer (some ⟨ga2, 0, none⟩)] rfl
      have hqq' : Hid (q = q' + 1) := hqq
      clear hqq
      rcases two_b (mB st tg 0 q') with hr | hr
      · rw [hr] at hcall
        have hcall' : Hid (∀ (z : Nat), Calls Try.prog 59 #[.slice (some ⟨b, off, none⟩) q cap, .pointer (some ⟨ga2, 0, none⟩)] (w.drewN z) fun e w' => e = .returned (.bool false) ∧ ∃ k, w' = (w.drewN z).drewN k) := hcall
        have hr' : Hid (mB st tg 0 q' = false) := hr
        clear hcall hr
        rcases two_b (st (0 + 1)).vDeep with hd | hd
        · have hs : Hid (upB (mB st tg 0) (st (0 + 1)).vDeep q = false) := by show _ = _; rw [hd, hqq'.out]; exact upB_stop hr'.out
          rw [hd] at c4
          clear hd
          go_wp2_with fail
          go_quiet (first | (go_at_call 59; exact quiet_at (hcall'.out _)))
          go_wp2_with fail
          go_ret
          exact ⟨by rw [H.out, hup.out, hs.out]; rfl, m + nq, by first | rfl | exact World.drewN_drewN _ _ _⟩
        · have hs : Hid (upB (mB st tg 0) (st (0 + 1)).vDeep q = upB (mB st tg 0) (st (0 + 1)).vDeep q') := by show _ = _; rw [hd, hqq'.out]; exact upB_on hr'.out
          rw [hd] at c4
          clear hd
          go_wp2_with fail
          go_quiet (first | (go_at_call 59; exact quiet_at (hcall'.out _)))
          go_wp2_with fail
          go_roundw
          case rel => exact ⟨q', m + nq, by have := hqq'.out; omega, rfl, by first | rfl | exact World.drewN_drewN _ _ _, by show _ = _; rw [hup.out, hs.out]⟩
          case measure => have := hqq'.out; simp [intOf]; omega
      · rw [hr] at hcall
        have hcall' : Hid (∀ (z : Nat), Calls Try.prog 59 #[.slice (some ⟨b, off, none⟩) q cap, .pointer (some ⟨ga2, 0, none⟩)] (w.drewN z) fun e w' => e = .returned (.bool true) ∧ ∃ k, w' = (w.drewN z).drewN k) := hcall
        have hs : Hid (upB (mB st tg 0) (st (0 + 1)).vDeep q = true) := by show _ = _; rw [hqq'.out]; exact upB_hit hr
        clear hcall hr
        go_wp2_with fail
        go_quiet (first | (go_at_call 59; exact quiet_at (hcall'.out _)))
        go_wp2_with fail
        go_ret
        exact ⟨by rw [H.out, hup.out, hs.out]; rfl, m + nq, by first | rfl | exact World.drewN_drewN _ _ _⟩
set_option maxHeartbeats 4000000 in
theorem mC_succ_s (st : Nat → StepD) (tg : Nat → ByteArray) (n : Nat) (ih0 : MC st tg (n + 1)) : MC st tg ((n + 1) + 1) := by
  intro w kw v lo tags p hv hk hp htg f caps e
  obtain ⟨go, ga, gs, vo, va, e2, b1, b2, b3, ho, hva⟩ := hv
  rw [e2] at e
  injection e with e3 _ e4
  injection e3 with e3
  subst e3 e4
  clear e2
  obtain ⟨g, rfl, bg0⟩ := ho
  have ih : Hid (MC st tg (n + 1)) := ih0
  have bg : Hid (Box w g [.string (st ((n + 1) + 1)).vTag] 9) := bg0
  have hva' : Hid (IsM st w (n + 1) va) := hva
  obtain ⟨g1, g2, g3, vo2, va2, rfl, _⟩ := hva
  have hk' : Hid (SeqAt 2 TagA w lo kw tags) := hk
  obtain ⟨a, cap, rfl, hm, hx⟩ := hk
  obtain ⟨b, off, rfl, _⟩ := hx (by omega)
  unfold maxLen at hm
  have hp' : Hid (tags.length = p + 1) := hp
  have htg' : Hid (∀ i, (h : i < tags.length) → tags[i] = tg i) := htg
  have hwr : IntKind.i64.wrap ((tags.length : Int) - 1) = (p : Int) := by rw [IntKind.wrap_i64]; omega
  have hpc : p < cap := by omega
  have hpM : p < 9223372036854775807 := by omega
  have c1 := b1.cell 0 rfl
  have c2 := b2.cell 0 rfl
  have c4 := b3.cell 1 rfl
  clear hx ih0 bg0 b1 b2 b3 hp htg hm
  have htag : Hid ((decide ((st ((n + 1) + 1)).vTag = ⟨#[]⟩) || decide (tags[p]'(by have := hp'.out; omega) = (st ((n + 1) + 1)).vTag)) = tagM (st ((n + 1) + 1)) (tg p)) := by
    show _ = _
    rw [htg'.out p (by have := hp'.out; omega)]; rfl
  show Calls Try.prog 60 #[.slice (some ⟨b, off, none⟩) tags.length cap, .pointer (some ⟨go, 0, none⟩), .pointer (some ⟨ga, 0, none⟩), .pointer (some ⟨gs, 0, none⟩)] w _
  go_enter Try.func60, Try.ntmps60
  go_wp2_with fail
  refine (hasTag1_any (p := p) bg.out hk'.out hp'.out).mono ?_
  rintro e w1 ⟨rfl, m1, rfl⟩
  rw [htag.out]
  cases hto : tagM (st ((n + 1) + 1)) (tg p)
  · have H : Hid (mB st tg ((n + 1) + 1) p = false) := mB_no hto
    go_wp2_with fail
    go_ret
    exact ⟨by rw [H.out]; rfl, m1, rfl⟩
  have H : Hid (mB st tg ((n + 1) + 1) p = upB (mB st tg (n + 1)) (st ((n + 1) + 1)).vDeep p) := mB_yes hto
  clear hto
  go_wp2_with fail
  go_loopw [6] (fun i wr => ∃ (q m : Nat), q ≤ p ∧ i = .int .i64 q ∧ wr = w.drewN m ∧ Hid (upB (mB st tg (n + 1)) (st ((n + 1) + 1)).vDeep p = upB (mB st tg (n + 1)) (st ((n + 1) + 1)).vDeep q)) (fun i _ => (intOf i).toNat)
  case atStart => exact ⟨p, m1, Nat.le_refl _, rfl, rfl, rfl⟩
  case round =>
    obtain ⟨q, m, hq, rfl, rfl, hup⟩ := hrel
    by_cases hq0 : q = 0
    · subst hq0
      go_wp2_with fail
      go_ret
      exact ⟨by rw [H.out, hup.out]; rfl, m, rfl⟩
    · obtain ⟨q', hqq⟩ : ∃ q', q = q' + 1 := ⟨q - 1, by omega⟩
      have hq0' : (0 : Int) < (q : Int) := by omega
      have hcut := run_cut (a := some ⟨b, off, none⟩) (n := tags.length) (cap := cap) (j := q) (by omega)
      have hQs : IntKind.i64.wrap ((q : Int) - 1) = (q' : Int) := by rw [IntKind.wrap_i64]; omega
      have hcall : ∀ (z : Nat), Calls Try.prog 60 #[.slice (some ⟨b, off, none⟩) q cap, .pointer (some ⟨g1, 0, none⟩), .pointer (some ⟨g2, 0, none⟩), .pointer (some ⟨g3, 0, none⟩)] (w.drewN z) fun e w' => e = .returned (.bool (mB st tg (n + 1) q')) ∧ ∃ k, w' = (w.drewN z).drewN k := fun z => by
        have hlt : q ≤ tags.length := by have := hp'.out; omega
        have hl : (tags.take q).length = q' + 1 := by rw [List.length_take]; omega
        exact ih.out (w.drewN z) (.slice (some ⟨b, off, none⟩) q cap) (.func (.func 60) #[] #[.pointer (some ⟨g1, 0, none⟩), .pointer (some ⟨g2, 0, none⟩), .pointer (some ⟨g3, 0, none⟩)]) lo (tags.take q) q' (IsM.below (below_drewN (Below.refl _ _) z) hva'.out) (SeqAt.take (hk'.out.below tagA_stays (below_drewN (Below.refl _ _) z)) q hlt) hl (fun i hi => by rw [List.getElem_take]; exact htg'.out i (by rw [hl] at hi; omega)) 60 #[.pointer (some ⟨g1, 0, none⟩), .pointer (some ⟨g2, 0, none⟩), .pointer (some ⟨g3, 0, none⟩)] rfl
      have hqq' : Hid (q = q' + 1) := hqq
      clear hqq
      rcases two_b (mB st tg (n + 1) q') with hr | hr
      · rw [hr] at hcall
        have hcall' : Hid (∀ (z : Nat), Calls Try.prog 60 #[.slice (some ⟨b, off, none⟩) q cap, .pointer (some ⟨g1, 0, none⟩), .pointer (some ⟨g2, 0, none⟩), .pointer (some ⟨g3, 0, none⟩)] (w.drewN z) fun e w' => e = .returned (.bool false) ∧ ∃ k, w' = (w.drewN z).drewN k) := hcall
        have hr' : Hid (mB st tg (n + 1) q' = false) := hr
        clear hcall hr
        rcases two_b (st ((n + 1) + 1)).vDeep with hd | hd
        · have hs : Hid (upB (mB st tg (n + 1)) (st ((n + 1) + 1)).vDeep q = false) := by show _ = _; rw [hd, hqq'.out]; exact upB_stop hr'.out
          rw [hd] at c4
          clear hd
          go_wp2_with fail
          go_quiet (first | (go_at_call 60; exact quiet_at (hcall'.out _)))
          go_wp2_with fail
          go_ret
          exact ⟨by rw [H.out, hup.out, hs.out]; rfl, m + nq, by first | rfl | exact World.drewN_drewN _ _ _⟩
        · have hs : Hid (upB (mB st tg (n + 1)) (st ((n + 1) + 1)).vDeep q = upB (mB st tg (n + 1)) (st ((n + 1) + 1)).vDeep q') := by show _ = _; rw [hd, hqq'.out]; exact upB_on hr'.out
          rw [hd] at c4
          clear hd
          go_wp2_with fail
          go_quiet (first | (go_at_call 60; exact quiet_at (hcall'.out _)))
          go_wp2_with fail
          go_roundw
          case rel => exact ⟨q', m + nq, by have := hqq'.out; omega, rfl, by first | rfl | exact World.drewN_drewN _ _ _, by show _ = _; rw [hup.out, hs.out]⟩
          case measure => have := hqq'.out; simp [intOf]; omega
      · rw [hr] at hcall
        have hcall' : Hid (∀ (z : Nat), Calls Try.prog 60 #[.slice (some ⟨b, off, none⟩) q cap, .pointer (some ⟨g1, 0, none⟩), .pointer (some ⟨g2, 0, none⟩), .pointer (some ⟨g3, 0, none⟩)] (w.drewN z) fun e w' => e = .returned (.bool true) ∧ ∃ k, w' = (w.drewN z).drewN k) := hcall
        have hs : Hid (upB (mB st tg (n + 1)) (st ((n + 1) + 1)).vDeep q = true) := by show _ = _; rw [hqq'.out]; exact upB_hit hr
        clear hcall hr
        go_wp2_with fail
        go_quiet (first | (go_at_call 60; exact quiet_at (hcall'.out _)))
        go_wp2_with fail
        go_ret
        exact ⟨by rw [H.out, hup.out, hs.out]; rfl, m + nq, by first | rfl | exact World.drewN_drewN _ _ _⟩
theorem mC_all (st : Nat → StepD) (tg : Nat → ByteArray) : ∀ n, MC st tg n := by
  intro n
  induction n with
  | zero => exact mC_zero st tg
  | succ n ih =>
    cases n with
    | zero => exact mC_succ_z st tg ih
    | succ n => exact mC_succ_s st tg n ih
end Go.Proofs.Ytgmgbjeejlkdmaa
