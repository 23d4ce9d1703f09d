/- What l8Size and MarkOk of the specification return. -/
import Derived.Test.YtlcddndpfhdakaaDoorMarkWithin
import Derived.Deep.QuietTactic
import Derived.BigQuiet
namespace Go.Proofs.YtlcddndpfhdakaaDoor
open Go.RowKit
theorem name_call {s : ByteArray} {v : Bool} (hs : s.size ≤ maxLen) (h : nmB s = v) (w : World) : Calls Tryd.prog 62 #[.string s] w fun e w' => e = .returned (.bool v) ∧ w' = w := by
  have := specNameOk_any s w hs
  rw [show nameB s.data.toList = v from h] at this
  exact this
theorem word_call {s : ByteArray} {most : Int} {v : Bool} (hs : s.size ≤ maxLen) (h : wordB most s = v) (w : World) : Calls Tryd.prog 61 #[.string s, .int .i64 most] w fun e w' => e = .returned (.bool v) ∧ w' = w := by
  have := l8Plain_any s most w hs
  rw [h] at this
  exact this
def L8S (n : Nat) : Prop := ∀ (w : World) (lo : Nat) (cs : List Value) (x : MarkD) (room : Int), MarkAt n w lo cs x → 0 ≤ room → room ≤ 30 →
  Calls Tryd.prog 31 #[.agg cs.toArray, .int .i64 room] w fun e w' => e = .returned (.int .i64 (resM (mzD n x room))) ∧ Below w.heap.size w w'
set_option maxRecDepth 100000 in
set_option maxHeartbeats 2000000 in
theorem l8S_of (n : Nat) (hS : Hid (L8S n)) : L8S (n + 1) := by
  intro w lo cs x room hx h0 h1
  obtain ⟨k2, k3, rfl, s2, s3, rTag, rText, _⟩ := hx
  obtain ⟨a2, cap2, rfl, hma, hka⟩ := s2
  have hka' : Hid _ := hka
  unfold maxLen at hma
  clear hka
  obtain ⟨a3, cap3, rfl, hm, hk⟩ := s3
  have hk' : Hid _ := hk
  unfold maxLen at hm
  clear hk
  have hb0 : Hid (Below w.heap.size w (w.alloc (.cells #[.string x.vTag, .string x.vText, .slice a2 x.vAttrs.length cap2, .slice a3 x.vKids.length cap3] 27))) := (Below.refl _ _).alloc (Nat.le_refl _) _
  have bx0 : Hid (Box (w.alloc (.cells #[.string x.vTag, .string x.vText, .slice a2 x.vAttrs.length cap2, .slice a3 x.vKids.length cap3] 27)) w.heap.size [.string x.vTag, .string x.vText, .slice a2 x.vAttrs.length cap2, .slice a3 x.vKids.length cap3] 27) := Box.new w _ _
  by_cases hr : room < 1
  · have H1 : Hid (mzD (n + 1) x room = none) := mzD_no (.inl hr)
    go_enter Tryd.func31, Tryd.ntmps31
    go_wp2_with fail
    go_ret
    exact ⟨by rw [H1.out]; rfl, hb0.out⟩
  by_cases hT : x.vTag.size = 0
  · have HT : Hid (isT x = true) := decide_eq_true hT
    have HS : Hid (selfB x = textB x) := by show _ = _; unfold selfB; rw [HT.out]; rfl
    have eT := em_eq hT
    clear hT
    by_cases h1 : x.vText.size = 0
    · have H1 : Hid (mzD (n + 1) x room = none) := mzD_no (.inr (HS.out.trans (by unfold textB; rw [decide_eq_true h1]; rfl)))
      have e1 := em_eq h1
      clear h1
      rw [eT, e1] at hb0 bx0 ⊢
      go_enter Tryd.func31, Tryd.ntmps31
      go_wp2_with fail
      go_ret
      exact ⟨by rw [H1.out]; rfl, hb0.out⟩
    have q1 := em_no h1
    have q2 := em_list h1
    have h1' : Hid _ := h1
    clear h1
    cases h2 : wordB 12 x.vText
    · have H1 : Hid (mzD (n + 1) x room = none) := mzD_no (.inr (HS.out.trans (by unfold textB; rw [h2]; simp)))
      have h2' : Hid _ := h2
      clear h2
      rw [eT] at hb0 bx0 ⊢
      go_enter Tryd.func31, Tryd.ntmps31
      go_wp2_with (go_at_call 61; refine (l8Plain_any _ _ _ rText).mono ?_; rintro e w' ⟨rfl, rfl⟩; rw [h2'.out])
      go_ret
      exact ⟨by rw [H1.out]; rfl, hb0.out⟩
    have h2' : Hid _ := h2
    clear h2
    by_cases h3 : (0 : Int) < (x.vAttrs.length : Int)
    · have H1 : Hid (mzD (n + 1) x room = none) := mzD_no (.inr (HS.out.trans (by unfold textB; rw [decide_eq_false (show ¬ x.vAttrs.length = 0 by omega)]; simp)))
      rw [eT] at hb0 bx0 ⊢
      clear hka' hk'
      generalize x.vAttrs.length = la at *
      generalize x.vKids.length = lk at *
      go_enter Tryd.func31, Tryd.ntmps31
      go_wp2_with (go_at_call 61; refine (l8Plain_any _ _ _ rText).mono ?_; rintro e w' ⟨rfl, rfl⟩; rw [h2'.out])
      go_ret
      exact ⟨by rw [H1.out]; rfl, (Below.refl _ _).alloc (Nat.le_refl _) _⟩
    by_cases h4 : (0 : Int) < (x.vKids.length : Int)
    · have H1 : Hid (mzD (n + 1) x room = none) := mzD_no (.inr (HS.out.trans (by unfold textB; rw [decide_eq_false (show ¬ x.vKids.length = 0 by omega)]; simp)))
      rw [eT] at hb0 bx0 ⊢
      clear hka' hk'
      generalize x.vAttrs.length = la at *
      generalize x.vKids.length = lk at *
      go_enter Tryd.func31, Tryd.ntmps31
      go_wp2_with (go_at_call 61; refine (l8Plain_any _ _ _ rText).mono ?_; rintro e w' ⟨rfl, rfl⟩; rw [h2'.out])
      go_ret
      exact ⟨by rw [H1.out]; rfl, (Below.refl _ _).alloc (Nat.le_refl _) _⟩
    · have H1 : Hid (mzD (n + 1) x room = some 1) := mzD_text (by omega) HT.out (by unfold textB; rw [decide_eq_false h1'.out, h2'.out, decide_eq_true (show x.vAttrs.length = 0 by omega), decide_eq_true (show x.vKids.length = 0 by omega)]; rfl)
      rw [eT] at hb0 bx0 ⊢
      clear hka' hk'
      generalize x.vAttrs.length = la at *
      generalize x.vKids.length = lk at *
      go_enter Tryd.func31, Tryd.ntmps31
      go_wp2_with (go_at_call 61; refine (l8Plain_any _ _ _ rText).mono ?_; rintro e w' ⟨rfl, rfl⟩; rw [h2'.out])
      go_ret
      exact ⟨by rw [H1.out]; rfl, (Below.refl _ _).alloc (Nat.le_refl _) _⟩
  · have HT : Hid (isT x = false) := decide_eq_false hT
    have HS : Hid (selfB x = tagB x) := by show _ = _; unfold selfB; rw [HT.out]; rfl
    have qT := em_no hT
    have qT2 := em_list hT
    clear hT
    cases h1 : nmB x.vTag
    · have H1 : Hid (mzD (n + 1) x room = none) := mzD_no (.inr (HS.out.trans (by unfold tagB; rw [h1]; rfl)))
      have h1' : Hid (nameB x.vTag.data.toList = false) := h1
      clear h1
      go_enter Tryd.func31, Tryd.ntmps31
      go_wp2_with (go_at_call 62; refine (specNameOk_any _ _ rTag).mono ?_; rintro e w' ⟨rfl, rfl⟩; rw [h1'.out])
      go_ret
      exact ⟨by rw [H1.out]; rfl, hb0.out⟩
    have h1' : Hid (nameB x.vTag.data.toList = true) := h1
    have h1'' : Hid (nmB x.vTag = true) := h1
    clear h1
    by_cases h2 : x.vText.size = 0
    rotate_left
    · have H1 : Hid (mzD (n + 1) x room = none) := mzD_no (.inr (HS.out.trans (by unfold tagB; rw [decide_eq_false h2]; simp)))
      have q1 := em_ne h2
      have q2 := em_list h2
      clear h2
      go_enter Tryd.func31, Tryd.ntmps31
      go_wp2_with (go_at_call 62; refine (specNameOk_any _ _ rTag).mono ?_; rintro e w' ⟨rfl, rfl⟩; rw [h1'.out])
      go_ret
      exact ⟨by rw [H1.out]; rfl, hb0.out⟩
    have e2 := em_eq h2
    have h2' : Hid _ := h2
    clear h2
    by_cases h3 : (4 : Int) < (x.vAttrs.length : Int)
    · have H1 : Hid (mzD (n + 1) x room = none) := mzD_no (.inr (HS.out.trans (by unfold tagB; rw [decide_eq_false (show ¬ x.vAttrs.length ≤ 4 by omega)]; simp)))
      rw [e2] at hb0 bx0 ⊢
      go_enter Tryd.func31, Tryd.ntmps31
      go_wp2_with (go_at_call 62; refine (specNameOk_any _ _ rTag).mono ?_; rintro e w' ⟨rfl, rfl⟩; rw [h1'.out])
      go_ret
      exact ⟨by rw [H1.out]; rfl, hb0.out⟩
    have HG : Hid (selfB x = attF none x.vAttrs) := HS.out.trans (by unfold tagB; rw [h1''.out, decide_eq_true h2'.out, decide_eq_true (show x.vAttrs.length ≤ 4 by omega)]; rfl)
    rw [e2] at hb0 bx0 ⊢
    clear e2
    go_enter Tryd.func31, Tryd.ntmps31
    go_wp2_with (go_at_call 62; refine (specNameOk_any _ _ rTag).mono ?_; rintro e w' ⟨rfl, rfl⟩; rw [h1'.out])
    go_loopw [5] (fun i wr => ∃ (j : Nat), j ≤ x.vAttrs.length ∧ i = .int .i64 j ∧ Hid (Below (w.heap.size + 1) (w.alloc (.cells #[.string x.vTag, .string ⟨#[]⟩, .slice a2 x.vAttrs.length cap2, .slice a3 x.vKids.length cap3] 27)) wr) ∧ Hid (attF none x.vAttrs = attF (prevA x.vAttrs j) (x.vAttrs.drop j))) (fun i _ => x.vAttrs.length - (intOf i).toNat)
    case atStart => exact ⟨0, by omega, rfl, Below.refl _ _, rfl⟩
    case round =>
      obtain ⟨j, hj, rfl, hb, hrem⟩ := hrel
      have hbw : Below w.heap.size w wr := hb0.out.trans (hb.out.mono (by omega))
      have hD : Hid (∀ q, Below (w.heap.size + 1) (w.alloc (.cells #[.string x.vTag, .string ⟨#[]⟩, .slice a2 x.vAttrs.length cap2, .slice a3 x.vKids.length cap3] 27)) (wr.drewN q)) := fun q => ⟨hb.out.os, hb.out.tape, hb.out.output, hb.out.size, hb.out.block⟩
      have hDw : Hid (∀ q, Below w.heap.size w (wr.drewN q)) := fun q => hb0.out.trans ((hD.out q).mono (by omega))
      have bxr : Hid (Box wr w.heap.size [.string x.vTag, .string ⟨#[]⟩, .slice a2 x.vAttrs.length cap2, .slice a3 x.vKids.length cap3] 27) := bx0.out.below hb.out (by omega)
      have c0 := bxr.out.cell 0 rfl
      have c1 := bxr.out.cell 1 rfl
      have c2 := bxr.out.cell 2 rfl
      have c3 := bxr.out.cell 3 rfl
      by_cases hlt : j < x.vAttrs.length
      · obtain ⟨b, off, rfl, hlo, hbb, hc⟩ := hka'.out (by omega)
        obtain ⟨cs, hcl, lie, hr⟩ := hc j hlt
        have lie1 := Lie.keep (lo := lo) (lo' := lo) lie (.of_below hbw) hlo hbb
        have f1 := attF_noName hlt
        have f2 := attF_noRise hlt
        have f3 := attF_noWord hlt
        have f4 := attF_on hlt
        generalize hX : x.vAttrs[j] = X at hr f1 f2 f3 f4
        obtain ⟨rfl, rName, rValue, _⟩ := hr
        have f1' : Hid (nmB X.vName = false → attF (prevA x.vAttrs j) (x.vAttrs.drop j) = false) := f1
        have f2' : Hid (((prevA x.vAttrs j).all fun q => ltS q X.vName) = false → attF (prevA x.vAttrs j) (x.vAttrs.drop j) = false) := f2
        have f3' : Hid (wordB 10 X.vValue = false → attF (prevA x.vAttrs j) (x.vAttrs.drop j) = false) := f3
        have f4' : Hid (nmB X.vName = true → ((prevA x.vAttrs j).all fun q => ltS q X.vName) = true → wordB 10 X.vValue = true → attF (prevA x.vAttrs j) (x.vAttrs.drop j) = attF (prevA x.vAttrs (j + 1)) (x.vAttrs.drop (j + 1))) := f4
        have z0 := lie1 0 (by simp)
        have z1 := lie1 1 (by simp)
        simp only [List.getElem?_cons_zero, List.getElem?_cons_succ, Nat.add_zero] at z0 z1
        have hlt' : (j : Int) < (x.vAttrs.length : Int) := by omega
        have hj0 : (0 : Int) ≤ (j : Int) := by omega
        have hc' : Hid (∀ i, (h : i < x.vAttrs.length) → ∃ cs, cs.length = 2 ∧ Lie w b (off + i * 2) cs ∧ AttrAt w lo cs x.vAttrs[i]) := hc
        clear f1 f2 f3 f4 lie lie1 hcl hc hka' hX
        cases hn : nmB X.vName
        · have HF : Hid _ := f1'.out hn
          have H1 : Hid (mzD (n + 1) x room = none) := mzD_no (.inr (HG.out.trans (hrem.out.trans HF.out)))
          have hN : Hid (nmB X.vName = false) := hn
          clear hn
          go_wp2_with fail
          go_quiet (first | (go_at_call 62; refine Calls.quiet_of_same (name_call rName hN.out _)))
          go_wp2_with fail
          go_ret
          exact ⟨by rw [H1.out]; rfl, hDw.out _⟩
        have hN : Hid (nmB X.vName = true) := hn
        clear hn
        cases j with
        | zero =>
          simp only [Nat.zero_mul, Nat.add_zero] at z0 z1
          have hp0 : (0 : Int) < (x.vAttrs.length : Int) := by omega
          cases hw : wordB 10 X.vValue
          · have HF : Hid _ := f3'.out hw
            have H1 : Hid (mzD (n + 1) x room = none) := mzD_no (.inr (HG.out.trans (hrem.out.trans HF.out)))
            have hW : Hid _ := hw
            clear hw
            go_wp2_with fail
            go_quiet (first | (go_at_call 62; refine Calls.quiet_of_same (name_call rName hN.out _)) | (go_at_call 61; refine Calls.quiet_of_same (word_call rValue hW.out _)))
            go_wp2_with fail
            go_ret
            exact ⟨by rw [H1.out]; rfl, hDw.out _⟩
          · have HF : Hid _ := f4'.out hN.out rfl hw
            have hW : Hid _ := hw
            clear hw
            go_wp2_with fail
            go_quiet (first | (go_at_call 62; refine Calls.quiet_of_same (name_call rName hN.out _)) | (go_at_call 61; refine Calls.quiet_of_same (word_call rValue hW.out _)))
            go_wp2_with fail
            go_roundw
            case rel => exact ⟨0 + 1, by omega, by go_num, hD.out _, by show _ = _; rw [hrem.out, HF.out]⟩
            case measure => simp [intOf]; omega
        | succ i =>
          have hi0 : (0 : Int) < ((i + 1 : Nat) : Int) := by omega
          have hsub : ((i + 1 : Nat) : Int) - 1 = (i : Int) := by omega
          have hlti : (i : Int) < (x.vAttrs.length : Int) := by omega
          have hii : (0 : Int) ≤ (i : Int) := by omega
          obtain ⟨cs0, hcl0, lie0, hr0⟩ := hc'.out i (by omega)
          have lie2 := Lie.keep (lo := lo) (lo' := lo) lie0 (.of_below hbw) hlo hbb
          have hp : Hid (prevA x.vAttrs (i + 1) = some x.vAttrs[i].vName) := prevA_succ (by omega)
          generalize x.vAttrs[i] = Y at hr0 hp
          obtain ⟨rfl, qName, qValue, _⟩ := hr0
          have y0 := lie2 0 (by simp)
          have y1 := lie2 1 (by simp)
          simp only [List.getElem?_cons_zero, List.getElem?_cons_succ, Nat.add_zero] at y0 y1
          clear lie0 lie2 hcl0
          cases hl : ltS Y.vName X.vName
          · have HF : Hid _ := f2'.out (by rw [hp.out]; exact hl)
            have H1 : Hid (mzD (n + 1) x room = none) := mzD_no (.inr (HG.out.trans (hrem.out.trans HF.out)))
            have hl2 : Op.bytesLess Y.vName.toList X.vName.toList = false := hl
            clear hl
            go_wp2_with fail
            go_quiet (first | (go_at_call 62; refine Calls.quiet_of_same (name_call rName hN.out _)))
            go_wp2_with fail
            go_ret
            exact ⟨by rw [H1.out]; rfl, hDw.out _⟩
          have hL : Hid (((prevA x.vAttrs (i + 1)).all fun q => ltS q X.vName) = true) := by show _ = _; rw [hp.out]; exact hl
          have hl2 : Op.bytesLess Y.vName.toList X.vName.toList = true := hl
          clear hl
          cases hw : wordB 10 X.vValue
          · have HF : Hid _ := f3'.out hw
            have H1 : Hid (mzD (n + 1) x room = none) := mzD_no (.inr (HG.out.trans (hrem.out.trans HF.out)))
            have hW : Hid _ := hw
            clear hw
            go_wp2_with fail
            go_quiet (first | (go_at_call 62; refine Calls.quiet_of_same (name_call rName hN.out _)) | (go_at_call 61; refine Calls.quiet_of_same (word_call rValue hW.out _)))
            go_wp2_with fail
            go_ret
            exact ⟨by rw [H1.out]; rfl, hDw.out _⟩
          · have HF : Hid _ := f4'.out hN.out hL.out hw
            have hW : Hid _ := hw
            clear hw
            go_wp2_with fail
            go_quiet (first | (go_at_call 62; refine Calls.quiet_of_same (name_call rName hN.out _)) | (go_at_call 61; refine Calls.quiet_of_same (word_call rValue hW.out _)))
            go_wp2_with fail
            go_roundw
            case rel => exact ⟨i + 1 + 1, by omega, by go_num, hD.out _, by show _ = _; rw [hrem.out, HF.out]⟩
            case measure => simp [intOf]; omega
      · have HF : Hid _ := attF_end hlt
        have H1 : Hid (mzD (n + 1) x room = mzF (mzD n) false x.vKids room 1) := mzD_yes (by omega) (HG.out.trans (hrem.out.trans HF.out))
        clear hka' hD hDw hb hrem HF bx0 hb0
        generalize wr = w5 at *
        go_wp2_with fail
        go_loopw [6, 7, 8] (fun z i _ wr => ∃ (j : Nat) (m : Int), j ≤ x.vKids.length ∧ i = .int .i64 j ∧ z = .int .i64 m ∧ 1 ≤ m ∧ m ≤ room ∧ Hid (Below w5.heap.size w5 wr) ∧
          Hid (mzF (mzD n) false x.vKids room 1 = mzF (mzD n) (prevT x.vKids j) (x.vKids.drop j) room m)) (fun _ i _ _ => x.vKids.length - (intOf i).toNat)
        case atStart => exact ⟨0, 1, by omega, rfl, rfl, by omega, by omega, Below.refl _ _, rfl⟩
        case round =>
          obtain ⟨j, m, hj, rfl, rfl, hm1, hm2, hb, hsz⟩ := hrel
          have hbw2 : Below w.heap.size w wr := hbw.trans (hb.out.mono hbw.size)
          have bx2 : Hid (Box wr w.heap.size [.string x.vTag, .string ⟨#[]⟩, .slice a2 x.vAttrs.length cap2, .slice a3 x.vKids.length cap3] 27) := bxr.out.below hb.out bxr.out.lt
          clear c0 c1 c2 c3
          have c0 := bx2.out.cell 0 rfl
          have c1 := bx2.out.cell 1 rfl
          have c2 := bx2.out.cell 2 rfl
          have c3 := bx2.out.cell 3 rfl
          by_cases hlt : j < x.vKids.length
          · obtain ⟨b, off, rfl, hlo, hbb, hc⟩ := hk'.out (by omega)
            obtain ⟨cs, hcl, lie, hr⟩ := hc j hlt
            have lie1 := Lie.keep (lo := lo) (lo' := lo) lie (.of_below hbw2) hlo hbb
            have hr2 := MarkAt.below hr hbw2
            have f1 := @mzF_none (mzD n) x.vKids j hlt room m
            have f2 := fun q => @mzF_side (mzD n) x.vKids j hlt room m q
            have f3 := fun q => @mzF_some (mzD n) x.vKids j hlt room m q
            generalize hX : x.vKids[j] = X at hr2 f1 f2 f3
            have hX' : Hid _ := hX
            have hr3 : Hid (MarkAt n wr lo cs X) := hr2
            have f1' : Hid (mzD n X (room - m) = none → mzF (mzD n) (prevT x.vKids j) (x.vKids.drop j) room m = none) := f1
            have f2' : Hid (∀ q, mzD n X (room - m) = some q → prevT x.vKids j = true → isT X = true → mzF (mzD n) (prevT x.vKids j) (x.vKids.drop j) room m = none) := f2
            have f3' : Hid (∀ q, mzD n X (room - m) = some q → (prevT x.vKids j && isT X) = false → mzF (mzD n) (prevT x.vKids j) (x.vKids.drop j) room m = mzF (mzD n) (prevT x.vKids (j + 1)) (x.vKids.drop (j + 1)) room (m + q)) := f3
            clear hX hr lie f1 f2 f3
            obtain ⟨p2, p3, rfl, t2, t3, qTag, qText, _⟩ := MarkAt.opened hr2
            have z0 := lie1 0 (by simp)
            have z1 := lie1 1 (by simp)
            have z2 := lie1 2 (by simp)
            have z3 := lie1 3 (by simp)
            simp only [List.getElem?_cons_zero, List.getElem?_cons_succ, Nat.add_zero] at z0 z1 z2 z3
            have hc' : Hid (∀ i, (h : i < x.vKids.length) → ∃ cs, cs.length = 4 ∧ Lie w b (off + i * 4) cs ∧ MarkAt n w lo cs x.vKids[i]) := hc
            clear lie1 hcl t2 t3 qTag qText hk' hc
            go_wp2_with fail
            refine (hS.out _ lo _ X _ hr3.out (by omega) (by omega)).mono ?_
            rintro e w2 ⟨rfl, hb2⟩
            have hB2' : Hid (Below w5.heap.size w5 w2) := hb.out.trans (hb2.mono hb.out.size)
            have hBw2 : Hid (Below w.heap.size w w2) := hbw2.trans (hb2.mono hbw2.size)
            have bx3 : Hid (Box w2 w.heap.size [.string x.vTag, .string ⟨#[]⟩, .slice a2 x.vAttrs.length cap2, .slice (some ⟨b, off, none⟩) x.vKids.length cap3] 27) := bx2.out.below hb2 bx2.out.lt
            have y0 : w2.cell? ⟨b, off + j * 4, none⟩ = some (.string X.vTag) := (hb2.cell (p := ⟨b, off + j * 4, none⟩) (by have := hbw2.size; exact Nat.lt_of_lt_of_le hbb this)).trans z0
            clear hb2 z0 z1 z2 z3 c0 c1 c2 c3
            have c0 := bx3.out.cell 0 rfl
            have c1 := bx3.out.cell 1 rfl
            have c2 := bx3.out.cell 2 rfl
            have c3 := bx3.out.cell 3 rfl
            cases hq : mzD n X (room - m) with
            | none =>
              have H2 : Hid _ := f1'.out hq
              clear hq
              rw [show resM none = -1 from rfl]
              go_wp2_with fail
              go_ret
              exact ⟨by rw [H1.out, hsz.out, H2.out]; rfl, hBw2.out⟩
            | some q =>
              have hqr := mzD_range _ _ _ _ hq
              have hq' : Hid _ := hq
              clear hq
              rw [show resM (some q) = q from rfl]
              cases j with
              | zero =>
                have H2 : Hid _ := f3'.out q hq'.out rfl
                simp only [Nat.zero_mul, Nat.add_zero] at y0
                go_wp2_with fail
                go_roundw
                case rel => exact ⟨0 + 1, m + q, by omega, by go_num, rfl, by omega, by omega, hB2', by show _ = _; rw [hsz.out, H2.out]⟩
                case measure => simp [intOf]; omega
              | succ i =>
                have hi0 : (0 : Int) < ((i + 1 : Nat) : Int) := by omega
                by_cases hT : X.vTag.size = 0
                · have hT' : Hid (isT X = true) := decide_eq_true hT
                  have eX := em_eq hT
                  rw [eX] at y0
                  clear hT
                  obtain ⟨cs0, hcl0, lie0, hr0⟩ := hc'.out i (by omega)
                  have lie2 := Lie.keep (lo := lo) (lo' := lo) lie0 (.of_below hBw2.out) hlo hbb
                  have hp : Hid (prevT x.vKids (i + 1) = isT x.vKids[i]) := prevT_succ (by omega)
                  generalize x.vKids[i] = Y at hr0 hp
                  obtain ⟨p2, p3, rfl, t2, t3, qTag, qText, _⟩ := MarkAt.opened hr0
                  have v0 := lie2 0 (by simp)
                  simp only [List.getElem?_cons_zero, Nat.add_zero] at v0
                  clear lie0 lie2 hr0 t2 t3 qTag qText hcl0 eX
                  have hsub : ((i + 1 : Nat) : Int) - 1 = (i : Int) := by omega
                  by_cases hY : Y.vTag.size = 0
                  · have H2 : Hid _ := f2'.out q hq'.out (by rw [hp.out]; exact decide_eq_true hY) hT'.out
                    have eY := em_eq hY
                    rw [eY] at v0
                    clear hY eY
                    go_wp2_with fail
                    go_ret
                    exact ⟨by rw [H1.out, hsz.out, H2.out]; rfl, hBw2.out⟩
                  · have H2 : Hid _ := f3'.out q hq'.out (by rw [hp.out, show isT Y = false from decide_eq_false hY]; rfl)
                    have qY := em_no hY
                    have qY2 := em_list hY
                    clear hY
                    go_wp2_with fail
                    go_roundw
                    case rel => exact ⟨i + 1 + 1, m + q, by omega, by go_num, rfl, by omega, by omega, hB2', by show _ = _; rw [hsz.out, H2.out]⟩
                    case measure => simp [intOf]; omega
                · have H2 : Hid _ := f3'.out q hq'.out (by rw [show isT X = false from decide_eq_false hT]; simp)
                  have qX := em_no hT
                  have qX2 := em_list hT
                  clear hT
                  go_wp2_with fail
                  go_roundw
                  case rel => exact ⟨i + 1 + 1, m + q, by omega, by go_num, rfl, by omega, by omega, hB2', by show _ = _; rw [hsz.out, H2.out]⟩
                  case measure => simp [intOf]; omega
          · have H2 : Hid _ := mzF_end (f := mzD n) (room := room) (size := m) hlt
            go_wp2_with fail
            go_ret
            refine ⟨?_, hbw2⟩
            rw [H1.out, hsz.out, H2.out]; rfl
theorem l8S_all : ∀ n, L8S n := by
  intro n
  induction n with
  | zero => exact fun _ _ _ _ _ h _ _ => h.elim
  | succ n ih => exact l8S_of n ih
set_option maxHeartbeats 400000 in
theorem specMarkOk_any {n : Nat} {w : World} {lo : Nat} {cs : List Value} {x : MarkD} (hx : MarkAt n w lo cs x) :
    Calls Tryd.prog 12 #[.agg cs.toArray] w fun e w' => e = .returned (.bool (okM (mzD n x 30))) ∧ Below w.heap.size w w' := by
  have hx' : Hid (MarkAt n w lo cs x) := hx
  obtain ⟨k2, k3, rfl, _⟩ := MarkAt.opened hx
  have hb0 : Below w.heap.size w (w.alloc (.cells #[.string x.vTag, .string x.vText, k2, k3] 27)) := (Below.refl _ _).alloc (Nat.le_refl _) _
  go_enter Tryd.func12, Tryd.ntmps12
  go_wp2_with fail
  refine (l8S_all n _ lo _ x _ (MarkAt.below hx'.out hb0) (by omega) (by omega)).mono ?_
  rintro e w1 ⟨rfl, hb1⟩
  cases hq : mzD n x 30 with
  | none =>
    rw [show resM none = -1 from rfl]
    have HQ : Hid _ := hq
    clear hq
    go_wp2_with fail
    go_ret
    exact ⟨by rw [HQ.out]; rfl, hb0.trans (hb1.mono hb0.size)⟩
  | some q =>
    have hqr := mzD_range _ _ _ _ hq
    have HQ : Hid _ := hq
    clear hq
    rw [show resM (some q) = q from rfl]
    have hp : 0 < q := by omega
    go_wp2_with fail
    go_ret
    refine ⟨?_, hb0.trans (hb1.mono hb0.size)⟩
    rw [HQ.out]
    simp [okM]
end Go.Proofs.YtlcddndpfhdakaaDoor
