/- What isText, attrsOk, markItselfOk and markWithin of the program return. -/
import Derived.Test.YtlcddndpfhdakaaDoorWordWalks
import Derived.Test.YtlcddndpfhdakaaDoorMarkRecs
import Derived.Laws.Cover1
namespace Go.Proofs.YtlcddndpfhdakaaDoor
open Go.RowKit
theorem em_eq {s : ByteArray} (h : s.size = 0) : s = ⟨#[]⟩ := by
  obtain ⟨⟨l⟩⟩ := s
  have : l.length = 0 := h
  rw [List.eq_nil_of_length_eq_zero this]
theorem em_list {s : ByteArray} (h : ¬ s.size = 0) : ¬ s.toList = [] := by
  intro e
  rw [ByteArray.toList_eq] at e
  exact h (by have := congrArg List.length e; simpa using this)
theorem em_no {s : ByteArray} (h : ¬ s.size = 0) : (s.toList == []) = false := by simpa using em_list h
theorem em_ne {s : ByteArray} (h : ¬ s.size = 0) : (s.toList != []) = true := by simpa using em_list h
set_option maxHeartbeats 400000 in
theorem isText_any (s : ByteArray) (t k2 k3 : Value) (w : World) :
    Calls Tryd.prog 37 #[.agg #[.string s, t, k2, k3]] w fun e w' => e = .returned (.bool (decide (s.size = 0))) ∧ Below w.heap.size w w' := by
  have hb0 : Hid (Below w.heap.size w (w.alloc (.cells #[.string s, t, k2, k3] 27))) := (Below.refl _ _).alloc (Nat.le_refl _) _
  by_cases h : s.size = 0
  · have e := em_eq h
    subst e
    clear h
    go_enter Tryd.func37, Tryd.ntmps37
    go_wp2
    go_ret
    exact ⟨rfl, hb0.out⟩
  · have H : Hid _ := h
    have q := em_no h
    clear h
    go_enter Tryd.func37, Tryd.ntmps37
    go_wp2
    go_ret
    exact ⟨by rw [decide_eq_false H.out]; rfl, hb0.out⟩
/-- what stands last ahead of the j-th -/
def lastA (xs : List AttrD) : Nat → ByteArray
  | 0 => ⟨#[]⟩
  | j + 1 => (xs[j]?.map (·.vName)).getD ⟨#[]⟩
theorem lastA_succ {xs : List AttrD} {j : Nat} (h : j < xs.length) : lastA xs (j + 1) = xs[j].vName := by simp [lastA, List.getElem?_eq_getElem h]
theorem nmB_pos {s : ByteArray} (h : nmB s = true) : ¬ s.size = 0 := by
  intro e
  rw [em_eq e] at h
  revert h; decide
theorem lt_empty {s : ByteArray} (h : ¬ s.size = 0) : ltS ⟨#[]⟩ s = true := by
  unfold ltS
  rw [ByteArray.toList_eq, ByteArray.toList_eq]
  obtain ⟨⟨l⟩⟩ := s
  cases l with
  | nil => exact absurd rfl h
  | cons c r => rfl
theorem rise_last {xs : List AttrD} {j : Nat} (hj : j < xs.length) (hn : nmB xs[j].vName = true) : ((prevA xs j).all fun q => ltS q xs[j].vName) = ltS (lastA xs j) xs[j].vName := by
  cases j with
  | zero => rw [lastA, lt_empty (nmB_pos hn)]; rfl
  | succ j => rw [prevA_succ (by omega), lastA_succ (by omega)]; rfl
theorem less_total : ∀ a b : List UInt8, (Op.bytesLess a b || a == b) = !Op.bytesLess b a := by
  intro a
  induction a with
  | nil => intro b; cases b <;> rfl
  | cons x a ih =>
    intro b
    cases b with
    | nil => rfl
    | cons y b =>
      have h := ih b
      simp only [Op.bytesLess]
      by_cases e : x = y
      · subst e
        simp only [UInt8.lt_irrefl, decide_false, Bool.false_or, beq_self_eq_true, Bool.true_and]
        rw [← h]; simp
      · have e' : ¬ y = x := fun q => e q.symm
        have h1 : (x == y) = false := by simpa using e
        have h2 : (y == x) = false := by simpa using e'
        have h3 : (x :: a == y :: b) = false := by simp [e]
        rw [h1, h2, h3]
        by_cases l : x < y
        · have l2 : ¬ y < x := UInt8.lt_asymm l
          simp [l, l2]
        · have l2 : y < x := UInt8.lt_of_le_of_ne (UInt8.not_lt.1 l) e'
          simp [l, l2]
theorem leq_of {a b : ByteArray} (h : Op.bytesLess b.toList a.toList = false) : Op.bytesLess a.toList b.toList = true ∨ (Op.bytesLess a.toList b.toList = false ∧ a.toList = b.toList) := by
  have := less_total a.toList b.toList
  rw [h] at this
  cases q : Op.bytesLess a.toList b.toList
  · rw [q] at this
    exact .inr ⟨rfl, by simpa using this⟩
  · exact .inl rfl
theorem not_leq {a b : ByteArray} (h : Op.bytesLess b.toList a.toList = true) : Op.bytesLess a.toList b.toList = false ∧ (a.toList == b.toList) = false ∧ ¬ a.toList = b.toList := by
  have := less_total a.toList b.toList
  rw [h] at this
  cases q : Op.bytesLess a.toList b.toList
  · rw [q] at this
    have e : (a.toList == b.toList) = false := by simpa using this
    exact ⟨rfl, e, by simpa using e⟩
  · rw [q] at this; simp at this
set_option maxHeartbeats 1000000 in
theorem attrsOk_any {w : World} {lo : Nat} {k : Value} {xs : List AttrD} (hk : SeqAt 2 AttrAt w lo k xs) :
    Calls Tryd.prog 80 #[k] w fun e w' => e = .returned (.bool (decide (xs.length ≤ 4) && attF none xs)) ∧ Below w.heap.size w w' := by
  obtain ⟨a, cap, rfl, hm, hx⟩ := hk
  have hx' : Hid _ := hx
  unfold maxLen at hm
  clear hx
  by_cases h4 : (4 : Int) < (xs.length : Int)
  · have H4 : Hid (decide (xs.length ≤ 4) = false) := by show _ = _; simp; omega
    go_enter Tryd.func80, Tryd.ntmps80
    go_wp2_with fail
    go_ret
    exact ⟨ret_bool (by rw [H4.out]; rfl), Below.refl _ _⟩
  have H4 : Hid (decide (xs.length ≤ 4) = true) := by show _ = _; simp; omega
  go_enter Tryd.func80, Tryd.ntmps80
  go_wp2_with fail
  go_loopw [3, 11] (fun z i wr => ∃ (j : Nat), j ≤ xs.length ∧ i = .int .i64 j ∧ z = .string (lastA xs j) ∧ Below w.heap.size w wr ∧ Hid (attF none xs = attF (prevA xs j) (xs.drop j))) (fun _ i _ => xs.length - (intOf i).toNat)
  case atStart => exact ⟨0, by omega, rfl, rfl, Below.refl _ _, rfl⟩
  case round =>
    obtain ⟨j, hj, rfl, rfl, hb, hrem⟩ := hrel
    by_cases hlt : j < xs.length
    · obtain ⟨b, off, rfl, hlo, hbw, hc⟩ := hx'.out (by omega)
      obtain ⟨cs, hcl, lie, hr⟩ := hc j hlt
      have lie1 := Lie.keep (lo := lo) (lo' := lo) lie (.of_below hb) hlo hbw
      have hstep := fun h => rise_last hlt h
      have hlast := lastA_succ hlt
      have f1 := attF_noName hlt
      have f2 := attF_noRise hlt
      have f3 := attF_noWord hlt
      have f4 := attF_on hlt
      generalize xs[j] = X at hr hstep hlast f1 f2 f3 f4
      obtain ⟨rfl, rName, rValue, _⟩ := hr
      have hstep' : Hid (nmB X.vName = true → ((prevA xs j).all fun q => ltS q X.vName) = ltS (lastA xs j) X.vName) := hstep
      have hlast' : Hid _ := hlast
      have f1' : Hid (nmB X.vName = false → attF (prevA xs j) (xs.drop j) = false) := f1
      have f2' : Hid (((prevA xs j).all fun q => ltS q X.vName) = false → attF (prevA xs j) (xs.drop j) = false) := f2
      have f3' : Hid (wordB 10 X.vValue = false → attF (prevA xs j) (xs.drop j) = false) := f3
      have f4' : Hid (nmB X.vName = true → ((prevA xs j).all fun q => ltS q X.vName) = true → wordB 10 X.vValue = true → attF (prevA xs j) (xs.drop j) = attF (prevA xs (j + 1)) (xs.drop (j + 1))) := f4
      have z0 := lie1 0 (by simp)
      have z1 := lie1 1 (by simp)
      simp only [List.getElem?_cons_zero, List.getElem?_cons_succ, Nat.add_zero] at z0 z1
      have hB : Hid (∀ o : Obj, Below w.heap.size w (wr.alloc o)) := fun o => hb.alloc hb.size o
      clear hstep hlast f1 f2 f3 f4 lie lie1 hcl hc hx' hb
      cases hn : nmB X.vName
      · have HF : Hid _ := f1'.out hn
        have hN : Hid _ := hn
        clear hn
        go_wp2_with (go_at_call 69; refine (implNameOk_any _ _ rName).mono ?_; rintro e w' ⟨rfl, rfl⟩; rw [show nameB X.vName.data.toList = false from hN.out])
        go_ret
        exact ⟨ret_bool (by rw [H4.out, hrem.out, HF.out]; rfl), hB.out _⟩
      have hN : Hid _ := hn
      clear hn
      cases hl : ltS (lastA xs j) X.vName
      · have HF : Hid _ := f2'.out ((hstep'.out hN.out).trans hl)
        have hl2 := leq_of hl
        clear hl
        rcases hl2 with hl2 | ⟨hl2, hl3⟩
        all_goals
          go_wp2_with (go_at_call 69; refine (implNameOk_any _ _ rName).mono ?_; rintro e w' ⟨rfl, rfl⟩; rw [show nameB X.vName.data.toList = true from hN.out])
          go_ret
          exact ⟨ret_bool (by rw [H4.out, hrem.out, HF.out]; first | rfl | simp [hl2]), hB.out _⟩
      have hL : Hid _ := (hstep'.out hN.out).trans hl
      obtain ⟨hl2, hl3, hl4⟩ := not_leq hl
      clear hl
      cases hw : wordB 10 X.vValue
      · have HF : Hid _ := f3'.out hw
        have hW : Hid _ := hw
        clear hw
        go_wp2_with (first | (go_at_call 69; refine (implNameOk_any _ _ rName).mono ?_; rintro e w' ⟨rfl, rfl⟩; rw [show nameB X.vName.data.toList = true from hN.out]) | (go_at_call 79; refine (wordsOk_any _ _ _ rValue).mono ?_; rintro e w' ⟨rfl, rfl⟩; rw [hW.out]))
        go_ret
        exact ⟨ret_bool (by rw [H4.out, hrem.out, HF.out]; rfl), hB.out _⟩
      · have HF : Hid _ := f4'.out hN.out hL.out hw
        have hW : Hid _ := hw
        clear hw
        go_wp2_with (first | (go_at_call 69; refine (implNameOk_any _ _ rName).mono ?_; rintro e w' ⟨rfl, rfl⟩; rw [show nameB X.vName.data.toList = true from hN.out]) | (go_at_call 79; refine (wordsOk_any _ _ _ rValue).mono ?_; rintro e w' ⟨rfl, rfl⟩; rw [hW.out]))
        go_roundw
        case rel => exact ⟨j + 1, by omega, by go_num, by rw [hlast'.out], hB.out _, by show _ = _; rw [hrem.out, HF.out]⟩
        case measure => simp [intOf]; omega
    · have HF : Hid _ := attF_end hlt
      go_wp2_with fail
      go_ret
      exact ⟨ret_bool (by rw [H4.out, hrem.out, HF.out]; rfl), hb⟩
set_option maxHeartbeats 1000000 in
theorem markItselfOk_any {n : Nat} {w : World} {lo : Nat} {cs : List Value} {x : MarkD} (hx : MarkAt (n + 1) w lo cs x) :
    Calls Tryd.prog 60 #[.agg cs.toArray] w fun e w' => e = .returned (.bool (selfB x)) ∧ Below w.heap.size w w' := by
  obtain ⟨k2, k3, rfl, s2, s3, rTag, rText, _⟩ := hx
  have s2' : Hid (SeqAt 2 AttrAt w lo k2 x.vAttrs) := s2
  obtain ⟨a2, cap2, rfl⟩ := s2.form
  clear s2
  obtain ⟨a3, cap3, rfl⟩ := s3.form
  clear s3
  have hb0 : Hid (Below w.heap.size w (w.alloc (.cells #[.string x.vTag, .string x.vText, .slice a2 x.vAttrs.length cap2, .slice a3 x.vKids.length cap3] 27))) := (Below.refl _ _).alloc (Nat.le_refl _) _
  have bx0 : Hid (Box (w.alloc (.cells #[.string x.vTag, .string x.vText, .slice a2 x.vAttrs.length cap2, .slice a3 x.vKids.length cap3] 27)) w.heap.size [.string x.vTag, .string x.vText, .slice a2 x.vAttrs.length cap2, .slice a3 x.vKids.length cap3] 27) := Box.new w _ _
  go_enter Tryd.func60, Tryd.ntmps60
  go_wp2_with fail
  refine (isText_any _ _ _ _ _).mono ?_
  rintro e w1 ⟨rfl, hb1⟩
  have hB1 : Hid (Below w.heap.size w w1) := hb0.out.trans (hb1.mono hb0.out.size)
  have bx1 : Hid (Box w1 w.heap.size [.string x.vTag, .string x.vText, .slice a2 x.vAttrs.length cap2, .slice a3 x.vKids.length cap3] 27) := bx0.out.below hb1 bx0.out.lt
  have c0 := bx1.out.cell 0 rfl
  have c1 := bx1.out.cell 1 rfl
  have c2 := bx1.out.cell 2 rfl
  have c3 := bx1.out.cell 3 rfl
  clear hb1 bx0
  by_cases hT : x.vTag.size = 0
  · have HS : Hid (selfB x = textB x) := by show _ = _; simp [selfB, isT, hT]
    rw [decide_eq_true hT]
    clear hT
    by_cases h1 : x.vText.size = 0
    · have H : Hid (textB x = false) := by show _ = _; simp [textB, h1]
      have e1 := em_eq h1
      rw [e1] at c1
      clear h1 e1
      go_wp2_with fail
      go_ret
      exact ⟨ret_bool (by rw [HS.out, H.out]), hB1.out⟩
    have q1 := em_ne h1
    have q2 := em_list h1
    have q3 : x.vText.toList.isEmpty = false := by simpa using q2
    have h1' : Hid _ := h1
    clear h1
    cases h2 : wordB 12 x.vText
    · have H : Hid (textB x = false) := by show _ = _; simp [textB, h2]
      have h2' : Hid _ := h2
      clear h2
      go_wp2_with (go_at_call 79; refine (wordsOk_any _ _ _ rText).mono ?_; rintro e w' ⟨rfl, rfl⟩; rw [h2'.out])
      go_ret
      exact ⟨ret_bool (by rw [HS.out, H.out]), hB1.out⟩
    have h2' : Hid _ := h2
    clear h2
    by_cases h3 : (x.vAttrs.length : Int) = 0
    · by_cases h4 : (x.vKids.length : Int) = 0
      · have H : Hid (textB x = true) := by
          show _ = _
          have e3 : x.vAttrs.length = 0 := by omega
          have e4 : x.vKids.length = 0 := by omega
          unfold textB
          rw [decide_eq_false h1'.out, h2'.out, decide_eq_true e3, decide_eq_true e4]; rfl
        have e3 : x.vAttrs = [] := List.eq_nil_of_length_eq_zero (by omega)
        have e4 : x.vKids = [] := List.eq_nil_of_length_eq_zero (by omega)
        go_wp2_with (go_at_call 79; refine (wordsOk_any _ _ _ rText).mono ?_; rintro e w' ⟨rfl, rfl⟩; rw [h2'.out])
        go_ret
        exact ⟨ret_bool (by rw [HS.out, H.out] <;> first | rfl | simp_all), hB1.out⟩
      · have H : Hid (textB x = false) := by
          show _ = _
          have e4 : ¬ x.vKids.length = 0 := by omega
          unfold textB
          rw [decide_eq_false e4]; simp
        have e3 : x.vAttrs = [] := List.eq_nil_of_length_eq_zero (by omega)
        have e4 : ¬ x.vKids = [] := fun e => h4 (by rw [e]; rfl)
        go_wp2_with (go_at_call 79; refine (wordsOk_any _ _ _ rText).mono ?_; rintro e w' ⟨rfl, rfl⟩; rw [h2'.out])
        go_ret
        exact ⟨ret_bool (by rw [HS.out, H.out] <;> first | rfl | simp_all), hB1.out⟩
    · have H : Hid (textB x = false) := by
        show _ = _
        have e3 : ¬ x.vAttrs.length = 0 := by omega
        unfold textB
        rw [decide_eq_false e3]; simp
      have e3 : ¬ x.vAttrs = [] := fun e => h3 (by rw [e]; rfl)
      go_wp2_with (go_at_call 79; refine (wordsOk_any _ _ _ rText).mono ?_; rintro e w' ⟨rfl, rfl⟩; rw [h2'.out])
      go_ret
      exact ⟨ret_bool (by rw [HS.out, H.out] <;> first | rfl | simp_all), hB1.out⟩
  · have HS : Hid (selfB x = tagB x) := by show _ = _; simp [selfB, isT, hT]
    rw [decide_eq_false hT]
    clear hT
    cases h1 : nmB x.vTag
    · have H : Hid (tagB x = false) := by show _ = _; simp [tagB, h1]
      have h1' : Hid (nameB x.vTag.data.toList = false) := h1
      clear h1
      go_wp2_with (go_at_call 69; refine (implNameOk_any _ _ rTag).mono ?_; rintro e w' ⟨rfl, rfl⟩; rw [h1'.out])
      go_ret
      exact ⟨ret_bool (by rw [HS.out, H.out]), hB1.out⟩
    have h1' : Hid (nameB x.vTag.data.toList = true) := h1
    have h1'' : Hid (nmB x.vTag = true) := h1
    clear h1
    by_cases h2 : x.vText.size = 0
    · have e1 := em_eq h2
      rw [e1] at c1
      have H : Hid (tagB x = (decide (x.vAttrs.length ≤ 4) && attF none x.vAttrs)) := by show _ = _; simp [tagB, h1''.out, h2]
      clear h2 e1
      go_wp2_with (go_at_call 69; refine (implNameOk_any _ _ rTag).mono ?_; rintro e w' ⟨rfl, rfl⟩; rw [h1'.out])
      refine (attrsOk_any (s2'.out.below AttrAt_stays hB1.out)).mono ?_
      rintro e w2 ⟨rfl, hb2⟩
      go_wp2_with fail
      go_ret
      exact ⟨ret_bool (by rw [HS.out, H.out]), hB1.out.trans (hb2.mono hB1.out.size)⟩
    · have H : Hid (tagB x = false) := by show _ = _; simp [tagB, h2]
      have q1 := em_no h2
      have q2 := em_list h2
      clear h2
      go_wp2_with (go_at_call 69; refine (implNameOk_any _ _ rTag).mono ?_; rintro e w' ⟨rfl, rfl⟩; rw [h1'.out])
      go_ret
      exact ⟨ret_bool (by rw [HS.out, H.out]), hB1.out⟩
end Go.Proofs.YtlcddndpfhdakaaDoor
