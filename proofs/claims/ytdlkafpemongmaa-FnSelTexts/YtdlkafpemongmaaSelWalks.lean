/- What isAny and both SelOk return. -/
import Derived.Test.YtdlkafpemongmaaSelPlain
import Derived.Test.YtdlkafpemongmaaNameWalks
import Derived.Laws.Cover1
namespace Go.Proofs.Ytdlkafpemongmaa
open Go.RowKit
theorem em_eq {s : ByteArray} (h : s.size = 0) : s = ⟨#[]⟩ := by
  obtain ⟨⟨l⟩⟩ := s
  have : l.length = 0 := h
  rw [List.eq_nil_of_length_eq_zero this]
theorem em_list {s : ByteArray} (h : ¬ s.size = 0) : ¬ s.toList = [] := by
  intro e
  rw [ByteArray.toList_eq] at e
  exact h (by have := congrArg List.length e; simpa using this)
theorem em_no {s : ByteArray} (h : ¬ s = ⟨#[]⟩) : (s.toList == []) = false := by simpa using em_list (fun q => h (em_eq q))
theorem em_ne {s : ByteArray} (h : ¬ s = ⟨#[]⟩) : (s.toList != []) = true := by simpa using em_list (fun q => h (em_eq q))
theorem isAny_any (s : ByteArray) (w : World) :
    Calls Try.prog 22 #[.string s] w fun e w' => e = .returned (.bool (decide (s = ⟨#[]⟩))) ∧ w' = w := by
  by_cases h : s = ⟨#[]⟩
  · subst h
    go_enter Try.func22, Try.ntmps22
    go_wp2
    go_ret
    exact ⟨rfl, rfl⟩
  · go_enter Try.func22, Try.ntmps22
    go_wp2
    go_ret
    exact ⟨ret_bool (by rw [decide_eq_false h]; simpa using em_list (fun q => h (em_eq q))), rfl⟩
set_option maxHeartbeats 1000000 in
theorem implSelOk_any {w : World} {lo : Nat} {k : Value} {l : List StepD} (hk : SeqAt 2 StepAt w lo k l) :
    Calls Try.prog 10 #[k] w fun e w' => e = .returned (.bool (selB l)) ∧ Below w.heap.size w w' := by
  obtain ⟨a, cap, rfl, hm, hx⟩ := hk
  unfold maxLen at hm
  have hx' : Hid _ := hx
  clear hx
  by_cases h1 : l.length < 1
  · have H : Hid (selB l = false) := selB_short h1
    have h1' : (l.length : Int) < 1 := by omega
    go_enter Try.func10, Try.ntmps10
    go_wp2_with fail
    go_ret
    exact ⟨by rw [H.out]; rfl, Below.refl _ _⟩
  by_cases h2 : 5 < l.length
  · have H : Hid (selB l = false) := selB_long h2
    have h1' : ¬ (l.length : Int) < 1 := by omega
    have h2' : (5 : Int) < (l.length : Int) := by omega
    go_enter Try.func10, Try.ntmps10
    go_wp2_with fail
    go_ret
    exact ⟨by rw [H.out]; rfl, Below.refl _ _⟩
  obtain ⟨b, off, rfl, hlo, hbw, hc⟩ := hx'.out (by omega)
  have hc' : Hid (∀ i, (h : i < l.length) → ∃ cs, cs.length = 2 ∧ Lie w b (off + i * 2) cs ∧ StepAt w lo cs l[i]) := hc
  obtain ⟨cs0, hl0, lie0, hr0⟩ := hc 0 (by omega)
  obtain ⟨rfl, _⟩ := hr0
  have hh : headB l = l[0].vDeep := headB_at (by omega)
  have z1 := lie0 1 (by simp)
  simp only [List.getElem?_cons_zero, List.getElem?_cons_succ, Nat.zero_mul, Nat.add_zero] at z1
  clear hc lie0 hl0 hx'
  have h1' : ¬ (l.length : Int) < 1 := by omega
  have h2' : ¬ (5 : Int) < (l.length : Int) := by omega
  have h3' : (0 : Int) < (l.length : Int) := by omega
  cases hd : l[0].vDeep
  · have H : Hid (selB l = false) := selB_head (hh.trans hd)
    rw [hd] at z1
    clear hh hd
    go_enter Try.func10, Try.ntmps10
    go_wp2_with fail
    go_ret
    exact ⟨by rw [H.out]; rfl, Below.refl _ _⟩
  have H : Hid (selB l = stepsB l) := selB_yes (by omega) (by omega) (hh.trans hd)
  rw [hd] at z1
  clear hh hd
  go_enter Try.func10, Try.ntmps10
  go_wp2_with fail
  go_loopw [22] (fun i wr => ∃ j : Nat, j ≤ l.length ∧ i = .int .i64 j ∧ Below w.heap.size w wr ∧ Hid (stepsB (l.take j) = true)) (fun i _ => l.length - (intOf i).toNat)
  case atStart => exact ⟨0, Nat.zero_le _, rfl, Below.refl _ _, rfl⟩
  case round =>
    obtain ⟨j, hj, rfl, hb, hall⟩ := hrel
    by_cases hlt : j < l.length
    · obtain ⟨cs, hcl, lie, hr⟩ := hc'.out j hlt
      have lie1 := Lie.keep (lo := lo) (lo' := lo) lie (.of_below hb) hlo hbw
      have HS : Hid (stepsB (l.take (j + 1)) = stepB l[j]) := by show _ = _; rw [stepsB_take l j hlt, hall.out, Bool.true_and]
      obtain ⟨rfl, hsz, _⟩ := hr
      have hsz' : Hid (l[j].vTag.size ≤ maxLen) := hsz
      have y0 := lie1 0 (by simp)
      have y1 := lie1 1 (by simp)
      simp only [List.getElem?_cons_zero, List.getElem?_cons_succ, Nat.add_zero] at y0 y1
      clear lie lie1 hcl hsz z1
      generalize hX : l[j] = X at y0 y1 hsz' HS
      have hX' : Hid _ := hX
      clear hX
      by_cases he : X.vTag = ⟨#[]⟩
      · have HB : Hid (stepB X = true) := stepB_any he
        have hde : Hid (decide (X.vTag = ⟨#[]⟩) = true) := by show _ = _; simp [he]
        clear he
        go_wp2_with (go_at_call 22; refine (isAny_any _ _).mono ?_; rintro e w' ⟨rfl, rfl⟩; rw [hde.out])
        go_roundw
        case rel => exact ⟨j + 1, by omega, by go_num, hb.alloc hb.size _, by show _ = _; rw [HS.out]; exact HB.out⟩
        case measure => simp [intOf]; omega
      · have hde : decide (X.vTag = ⟨#[]⟩) = false := by simp [he]
        cases hn : nameB X.vTag.data.toList
        · have HB : Hid (stepB X = false) := (stepB_name he).trans hn
          go_wp2_with (first | (go_at_call 22; refine (isAny_any _ _).mono ?_; rintro e w' ⟨rfl, rfl⟩; rw [hde]) | (go_at_call 23; refine (implNameOk_any _ _ hsz'.out).mono ?_; rintro e w' ⟨rfl, rfl⟩; rw [hn]))
          go_ret
          exact ⟨by rw [H.out, stepsB_take_false l (j + 1) (by rw [HS.out]; exact HB.out)]; rfl, hb.alloc hb.size _⟩
        · have HB : Hid (stepB X = true) := (stepB_name he).trans hn
          go_wp2_with (first | (go_at_call 22; refine (isAny_any _ _).mono ?_; rintro e w' ⟨rfl, rfl⟩; rw [hde]) | (go_at_call 23; refine (implNameOk_any _ _ hsz'.out).mono ?_; rintro e w' ⟨rfl, rfl⟩; rw [hn]))
          go_roundw
          case rel => exact ⟨j + 1, by omega, by go_num, hb.alloc hb.size _, by show _ = _; rw [HS.out]; exact HB.out⟩
          case measure => simp [intOf]; omega
    · go_wp2_with fail
      go_ret
      exact ⟨by rw [H.out]; have := hall.out; rw [List.take_of_length_le (by omega)] at this; rw [this]; rfl, hb⟩
set_option maxHeartbeats 2000000 in
theorem specSelOk_any {w : World} {lo : Nat} {k : Value} {l : List StepD} (hk : SeqAt 2 StepAt w lo k l) :
    Calls Try.prog 11 #[k] w fun e w' => e = .returned (.bool (selB l)) ∧ Below w.heap.size w w' := by
  obtain ⟨a, cap, rfl, hm, hx⟩ := hk
  unfold maxLen at hm
  have hx' : Hid (0 < l.length → ∃ b off, a = some ⟨b, off, none⟩ ∧ lo ≤ b ∧ b < w.heap.size ∧ ∀ i, (h : i < l.length) → ∃ cs, cs.length = 2 ∧ Lie w b (off + i * 2) cs ∧ StepAt w lo cs l[i]) := hx
  clear hx
  go_enter Try.func11, Try.ntmps11
  go_wp2_with fail
  go_loopw [3] (fun i wr => ∃ j : Nat, j ≤ l.length ∧ i = .int .i64 j ∧ Below w.heap.size w wr ∧ Hid (stepsB (l.take j) = true) ∧ Hid (0 < j → headB l = true)) (fun i _ => l.length - (intOf i).toNat)
  case atStart => exact ⟨0, Nat.zero_le _, rfl, Below.refl _ _, rfl, fun h => absurd h (by omega)⟩
  case round =>
    obtain ⟨j, hj, rfl, hb, hall, hhead⟩ := hrel
    by_cases hlt : j < l.length
    · obtain ⟨b, off, rfl, hlo, hbw, hc⟩ := hx'.out (by omega)
      obtain ⟨cs, hcl, lie, hr⟩ := hc j hlt
      have lie1 := Lie.keep (lo := lo) (lo' := lo) lie (.of_below hb) hlo hbw
      have HS : Hid (stepsB (l.take (j + 1)) = stepB l[j]) := by show _ = _; rw [stepsB_take l j hlt, hall.out, Bool.true_and]
      obtain ⟨rfl, hsz, _⟩ := hr
      have hsz' : Hid (l[j].vTag.size ≤ maxLen) := hsz
      have y0 := lie1 0 (by simp)
      have y1 := lie1 1 (by simp)
      simp only [List.getElem?_cons_zero, List.getElem?_cons_succ, Nat.add_zero] at y0 y1
      clear lie lie1 hcl hsz hc hx'
      generalize hX : l[j] = X at y0 y1 hsz' HS
      have hX' : Hid (l[j] = X) := hX
      clear hX
      by_cases he : X.vTag = ⟨#[]⟩
      · have HB : Hid (stepB X = true) := stepB_any he
        rw [he] at y0
        clear he
        by_cases hj0 : j = 0
        · subst hj0
          simp only [Nat.zero_mul, Nat.add_zero] at y0 y1
          have hhd : Hid (headB l = X.vDeep) := (headB_at hlt).trans (by rw [hX'.out])
          cases hd : X.vDeep
          · rw [hd] at y1 hhd
            clear hd
            go_wp2_with fail
            go_ret
            exact ⟨by rw [selB_head hhd.out]; rfl, hb⟩
          · rw [hd] at y1 hhd
            clear hd
            go_wp2_with fail
            go_roundw
            case rel => exact ⟨1, by omega, by go_num, hb, by show _ = _; rw [HS.out]; exact HB.out, fun _ => hhd.out⟩
            case measure => simp [intOf]; omega
        · have hj0' : ¬ (j : Int) = 0 := by omega
          go_wp2_with fail
          go_roundw
          case rel => exact ⟨j + 1, by omega, by go_num, hb, by show _ = _; rw [HS.out]; exact HB.out, fun _ => hhead.out (by omega)⟩
          case measure => simp [intOf]; omega
      · have hne := em_ne he
        have hne0 := em_list (fun q => he (em_eq q))
        have hne1 := em_no he
        cases hn : nameB X.vTag.data.toList
        · have HB : Hid (stepB X = false) := (stepB_name he).trans hn
          clear he
          go_wp2_with (go_at_call 24; refine (specNameOk_any _ _ hsz'.out).mono ?_; rintro e w' ⟨rfl, rfl⟩; rw [hn])
          go_ret
          exact ⟨by rw [selB_steps (stepsB_take_false l (j + 1) (by rw [HS.out]; exact HB.out))]; rfl, hb⟩
        · have HB : Hid (stepB X = true) := (stepB_name he).trans hn
          clear he
          by_cases hj0 : j = 0
          · subst hj0
            simp only [Nat.zero_mul, Nat.add_zero] at y0 y1
            have hhd : Hid (headB l = X.vDeep) := (headB_at hlt).trans (by rw [hX'.out])
            cases hd : X.vDeep
            · rw [hd] at y1 hhd
              clear hd
              go_wp2_with (go_at_call 24; refine (specNameOk_any _ _ hsz'.out).mono ?_; rintro e w' ⟨rfl, rfl⟩; rw [hn])
              go_ret
              exact ⟨by rw [selB_head hhd.out]; rfl, hb⟩
            · rw [hd] at y1 hhd
              clear hd
              go_wp2_with (go_at_call 24; refine (specNameOk_any _ _ hsz'.out).mono ?_; rintro e w' ⟨rfl, rfl⟩; rw [hn])
              go_roundw
              case rel => exact ⟨1, by omega, by go_num, hb, by show _ = _; rw [HS.out]; exact HB.out, fun _ => hhd.out⟩
              case measure => simp [intOf]; omega
          · have hj0' : ¬ (j : Int) = 0 := by omega
            go_wp2_with (go_at_call 24; refine (specNameOk_any _ _ hsz'.out).mono ?_; rintro e w' ⟨rfl, rfl⟩; rw [hn])
            go_roundw
            case rel => exact ⟨j + 1, by omega, by go_num, hb, by show _ = _; rw [HS.out]; exact HB.out, fun _ => hhead.out (by omega)⟩
            case measure => simp [intOf]; omega
    · have hS : Hid (stepsB l = true) := by show _ = _; have := hall.out; rw [List.take_of_length_le (by omega)] at this; exact this
      by_cases h1 : l.length < 1
      · have H : Hid (selB l = false) := selB_short h1
        have h1' : ¬ (1 : Int) ≤ (l.length : Int) := by omega
        go_wp2_with fail
        go_ret
        exact ⟨by rw [H.out]; rfl, hb⟩
      have h1' : (1 : Int) ≤ (l.length : Int) := by omega
      by_cases h2 : 5 < l.length
      · have H : Hid (selB l = false) := selB_long h2
        have h2' : ¬ (l.length : Int) ≤ 5 := by omega
        go_wp2_with fail
        go_ret
        exact ⟨by rw [H.out]; rfl, hb⟩
      have H : Hid (selB l = true) := (selB_yes (by omega) (by omega) (hhead.out (by omega))).trans hS.out
      have h2' : (l.length : Int) ≤ 5 := by omega
      go_wp2_with fail
      go_ret
      exact ⟨by rw [H.out]; rfl, hb⟩
end Go.Proofs.Ytdlkafpemongmaa
