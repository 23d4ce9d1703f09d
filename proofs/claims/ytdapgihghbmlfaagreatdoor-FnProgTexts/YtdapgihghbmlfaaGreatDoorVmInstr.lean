/- What l1In, l13Named, numberOk, operandOk and both InstrOk return. -/
import Derived.Test.YtdapgihghbmlfaaGreatDoorVmForms
import Derived.Test.YtdapgihghbmlfaaGreatDoorNameWalks
import Derived.Laws.Cover1
import Derived.Deep.RegionHeld3
namespace Go.Proofs.YtdapgihghbmlfaaGreatDoor
open Go.RowKit
theorem em_eq {s : ByteArray} (h : s.size = 0) : s = ⟨#[]⟩ := by
  obtain ⟨⟨l⟩⟩ := s
  have : l.length = 0 := h
  rw [List.eq_nil_of_length_eq_zero this]
theorem em_list {s : ByteArray} (h : ¬ s.size = 0) : ¬ s.toList = [] := by
  intro e
  rw [ByteArray.toList_eq] at e
  exact h (by have := congrArg List.length e; simpa using this)
theorem em_no {s : ByteArray} (h : ¬ s = ⟨#[]⟩) : (s.toList == []) = false := by simpa using em_list (fun q => h (em_eq q))
theorem emB_yes {s : ByteArray} (h : s = ⟨#[]⟩) : emB s = true := by simp [emB, h]
theorem emB_no {s : ByteArray} (h : ¬ s = ⟨#[]⟩) : emB s = false := by simp [emB, h]
theorem l1In_any (n a b : Int) (w : World) :
    Calls Tryz.prog 75 #[.int .i64 n, .int .i64 a, .int .i64 b] w fun e w' => e = .returned (.bool (decide (a ≤ n) && decide (n ≤ b))) ∧ w' = w := by
  by_cases h1 : a ≤ n
  · by_cases h2 : n ≤ b
    · go_enter Tryz.func75, Tryz.ntmps75
      go_wp2
      go_ret
      exact ⟨ret_bool (by simp; omega), rfl⟩
    · go_enter Tryz.func75, Tryz.ntmps75
      go_wp2
      go_ret
      exact ⟨ret_bool (by simp; omega), rfl⟩
  · go_enter Tryz.func75, Tryz.ntmps75
    go_wp2
    go_ret
    exact ⟨ret_bool (by simp; omega), rfl⟩
theorem numberOk_any (n : Int) (w : World) :
    Calls Tryz.prog 78 #[.int .i64 n] w fun e w' => e = .returned (.bool (numB n)) ∧ w' = w := by
  by_cases h1 : -1000000 ≤ n
  · by_cases h2 : n ≤ 1000000
    · go_enter Tryz.func78, Tryz.ntmps78
      go_wp2
      go_ret
      exact ⟨ret_bool (by simp [numB]; omega), rfl⟩
    · go_enter Tryz.func78, Tryz.ntmps78
      go_wp2
      go_ret
      exact ⟨ret_bool (by simp [numB]; omega), rfl⟩
  · go_enter Tryz.func78, Tryz.ntmps78
    go_wp2
    go_ret
    exact ⟨ret_bool (by simp [numB]; omega), rfl⟩
set_option maxHeartbeats 800000 in
theorem l13Named_any (k : Int) (w : World) :
    Calls Tryz.prog 20 #[.int .i64 k] w fun e w' => e = .returned (.bool (namedB k)) ∧ w' = w := by
  by_cases h3 : k = 3
  · subst h3
    go_enter Tryz.func20, Tryz.ntmps20
    go_wp2
    go_ret
    exact ⟨ret_bool (by decide), rfl⟩
  by_cases h4 : k = 4
  · subst h4
    go_enter Tryz.func20, Tryz.ntmps20
    go_wp2
    go_ret
    exact ⟨ret_bool (by decide), rfl⟩
  by_cases h5 : k = 5
  · subst h5
    go_enter Tryz.func20, Tryz.ntmps20
    go_wp2
    go_ret
    exact ⟨ret_bool (by decide), rfl⟩
  by_cases h6 : k = 6
  · subst h6
    go_enter Tryz.func20, Tryz.ntmps20
    go_wp2
    go_ret
    exact ⟨ret_bool (by decide), rfl⟩
  have H : Hid (namedB k = false) := by show _ = _; simp only [namedB, Bool.and_eq_false_iff, decide_eq_false_iff_not]; omega
  go_enter Tryz.func20, Tryz.ntmps20
  go_wp2
  go_ret
  exact ⟨ret_bool (by rw [H.out]; simp; omega), rfl⟩
set_option maxHeartbeats 2000000 in
theorem operandOk_any {w : World} {lo : Nat} {cs : List Value} {x : InstrD} (o : Int) (hx : InstrAt w lo cs x) :
    Calls Tryz.prog 58 #[.agg cs.toArray, .int .i64 o] w fun e w' => e = .returned (.bool (opdB o x)) ∧ Below w.heap.size w w' := by
  obtain ⟨rfl, rKind, rN, rName, _⟩ := hx
  have rName' : Hid (x.vName.size ≤ maxLen) := rName
  clear rKind rN rName
  by_cases o1 : o = 1
  · cases hn1 : numB x.vN
    · have H : Hid (opdB o x = false) := by show _ = _; rw [o1, opdB_num, hn1]; rfl
      go_enter Tryz.func58, Tryz.ntmps58
      go_wp2_with (first | (go_at_call 78; refine (numberOk_any _ _).mono ?_; rintro e w' ⟨rfl, rfl⟩; first | rw [hn1] | skip) | (go_at_call 71; refine (implNameOk_any _ _ rName'.out).mono ?_; rintro e w' ⟨rfl, rfl⟩; first | rw [hn2] | skip))
      go_ret
      exact ⟨ret_bool (by first | exact H.out.symm | (rw [← o2]; exact H.out.symm)), (Below.refl _ _).alloc (Nat.le_refl _) _⟩
    · by_cases he : x.vName = ⟨#[]⟩
      · have H : Hid (opdB o x = true) := by show _ = _; rw [o1, opdB_num, hn1, emB_yes he]; rfl
        go_enter Tryz.func58, Tryz.ntmps58
        go_wp2_with (first | (go_at_call 78; refine (numberOk_any _ _).mono ?_; rintro e w' ⟨rfl, rfl⟩; first | rw [hn1] | skip) | (go_at_call 71; refine (implNameOk_any _ _ rName'.out).mono ?_; rintro e w' ⟨rfl, rfl⟩; first | rw [hn2] | skip))
        go_ret
        exact ⟨ret_bool (by first | exact H.out.symm | (rw [← o2]; exact H.out.symm)), (Below.refl _ _).alloc (Nat.le_refl _) _⟩
      · have hne := em_no he
        have hne1 := em_list (fun q => he (em_eq q))
        have H : Hid (opdB o x = false) := by show _ = _; rw [o1, opdB_num, hn1, emB_no he]; rfl
        go_enter Tryz.func58, Tryz.ntmps58
        go_wp2_with (first | (go_at_call 78; refine (numberOk_any _ _).mono ?_; rintro e w' ⟨rfl, rfl⟩; first | rw [hn1] | skip) | (go_at_call 71; refine (implNameOk_any _ _ rName'.out).mono ?_; rintro e w' ⟨rfl, rfl⟩; first | rw [hn2] | skip))
        go_ret
        exact ⟨ret_bool (by first | exact H.out.symm | (rw [← o2]; exact H.out.symm)), (Below.refl _ _).alloc (Nat.le_refl _) _⟩
  by_cases o2 : o = 2
  · by_cases n1 : 0 ≤ x.vN
    · by_cases n2 : x.vN < 20
      · by_cases he : x.vName = ⟨#[]⟩
        · have H : Hid (opdB o x = true) := by show _ = _; rw [o2, opdB_place, emB_yes he, decide_eq_true n1, decide_eq_true n2]; rfl
          go_enter Tryz.func58, Tryz.ntmps58
          go_wp2_with (first | (go_at_call 78; refine (numberOk_any _ _).mono ?_; rintro e w' ⟨rfl, rfl⟩; first | rw [hn1] | skip) | (go_at_call 71; refine (implNameOk_any _ _ rName'.out).mono ?_; rintro e w' ⟨rfl, rfl⟩; first | rw [hn2] | skip))
          go_ret
          exact ⟨ret_bool (by first | exact H.out.symm | (rw [← o2]; exact H.out.symm)), (Below.refl _ _).alloc (Nat.le_refl _) _⟩
        · have hne := em_no he
          have hne1 := em_list (fun q => he (em_eq q))
          have H : Hid (opdB o x = false) := by show _ = _; rw [o2, opdB_place, emB_no he, Bool.and_false]
          go_enter Tryz.func58, Tryz.ntmps58
          go_wp2_with (first | (go_at_call 78; refine (numberOk_any _ _).mono ?_; rintro e w' ⟨rfl, rfl⟩; first | rw [hn1] | skip) | (go_at_call 71; refine (implNameOk_any _ _ rName'.out).mono ?_; rintro e w' ⟨rfl, rfl⟩; first | rw [hn2] | skip))
          go_ret
          exact ⟨ret_bool (by first | exact H.out.symm | (rw [← o2]; exact H.out.symm)), (Below.refl _ _).alloc (Nat.le_refl _) _⟩
      · have H : Hid (opdB o x = false) := by show _ = _; rw [o2, opdB_place, decide_eq_false n2, Bool.and_false]; rfl
        go_enter Tryz.func58, Tryz.ntmps58
        go_wp2_with (first | (go_at_call 78; refine (numberOk_any _ _).mono ?_; rintro e w' ⟨rfl, rfl⟩; first | rw [hn1] | skip) | (go_at_call 71; refine (implNameOk_any _ _ rName'.out).mono ?_; rintro e w' ⟨rfl, rfl⟩; first | rw [hn2] | skip))
        go_ret
        exact ⟨ret_bool (by first | exact H.out.symm | (rw [← o2]; exact H.out.symm)), (Below.refl _ _).alloc (Nat.le_refl _) _⟩
    · have H : Hid (opdB o x = false) := by show _ = _; rw [o2, opdB_place, decide_eq_false n1]; rfl
      go_enter Tryz.func58, Tryz.ntmps58
      go_wp2_with (first | (go_at_call 78; refine (numberOk_any _ _).mono ?_; rintro e w' ⟨rfl, rfl⟩; first | rw [hn1] | skip) | (go_at_call 71; refine (implNameOk_any _ _ rName'.out).mono ?_; rintro e w' ⟨rfl, rfl⟩; first | rw [hn2] | skip))
      go_ret
      exact ⟨ret_bool (by first | exact H.out.symm | (rw [← o2]; exact H.out.symm)), (Below.refl _ _).alloc (Nat.le_refl _) _⟩
  by_cases o3 : o = 3
  · by_cases n0 : x.vN = 0
    · cases hn2 : nameB x.vName.data.toList
      · have H : Hid (opdB o x = false) := by show _ = _; rw [o3, opdB_name, hn2, Bool.and_false]
        go_enter Tryz.func58, Tryz.ntmps58
        go_wp2_with (first | (go_at_call 78; refine (numberOk_any _ _).mono ?_; rintro e w' ⟨rfl, rfl⟩; first | rw [hn1] | skip) | (go_at_call 71; refine (implNameOk_any _ _ rName'.out).mono ?_; rintro e w' ⟨rfl, rfl⟩; first | rw [hn2] | skip))
        go_ret
        exact ⟨ret_bool (by first | exact H.out.symm | (rw [← o2]; exact H.out.symm)), (Below.refl _ _).alloc (Nat.le_refl _) _⟩
      · have H : Hid (opdB o x = true) := by show _ = _; rw [o3, opdB_name, hn2, decide_eq_true n0]; rfl
        go_enter Tryz.func58, Tryz.ntmps58
        go_wp2_with (first | (go_at_call 78; refine (numberOk_any _ _).mono ?_; rintro e w' ⟨rfl, rfl⟩; first | rw [hn1] | skip) | (go_at_call 71; refine (implNameOk_any _ _ rName'.out).mono ?_; rintro e w' ⟨rfl, rfl⟩; first | rw [hn2] | skip))
        go_ret
        exact ⟨ret_bool (by first | exact H.out.symm | (rw [← o2]; exact H.out.symm)), (Below.refl _ _).alloc (Nat.le_refl _) _⟩
    · have H : Hid (opdB o x = false) := by show _ = _; rw [o3, opdB_name, decide_eq_false n0]; rfl
      go_enter Tryz.func58, Tryz.ntmps58
      go_wp2_with (first | (go_at_call 78; refine (numberOk_any _ _).mono ?_; rintro e w' ⟨rfl, rfl⟩; first | rw [hn1] | skip) | (go_at_call 71; refine (implNameOk_any _ _ rName'.out).mono ?_; rintro e w' ⟨rfl, rfl⟩; first | rw [hn2] | skip))
      go_ret
      exact ⟨ret_bool (by first | exact H.out.symm | (rw [← o2]; exact H.out.symm)), (Below.refl _ _).alloc (Nat.le_refl _) _⟩
  have HO : Hid (opdB o x = (decide (x.vN = 0) && emB x.vName)) := by show _ = _; unfold opdB; rw [if_neg o1, if_neg o2, if_neg o3]
  by_cases n0 : x.vN = 0
  · by_cases he : x.vName = ⟨#[]⟩
    · have H : Hid (opdB o x = true) := by show _ = _; rw [HO.out, emB_yes he, decide_eq_true n0]; rfl
      go_enter Tryz.func58, Tryz.ntmps58
      go_wp2_with (first | (go_at_call 78; refine (numberOk_any _ _).mono ?_; rintro e w' ⟨rfl, rfl⟩; first | rw [hn1] | skip) | (go_at_call 71; refine (implNameOk_any _ _ rName'.out).mono ?_; rintro e w' ⟨rfl, rfl⟩; first | rw [hn2] | skip))
      go_ret
      exact ⟨ret_bool (by first | exact H.out.symm | (rw [← o2]; exact H.out.symm)), (Below.refl _ _).alloc (Nat.le_refl _) _⟩
    · have hne := em_no he
      have hne1 := em_list (fun q => he (em_eq q))
      have H : Hid (opdB o x = false) := by show _ = _; rw [HO.out, emB_no he, Bool.and_false]
      go_enter Tryz.func58, Tryz.ntmps58
      go_wp2_with (first | (go_at_call 78; refine (numberOk_any _ _).mono ?_; rintro e w' ⟨rfl, rfl⟩; first | rw [hn1] | skip) | (go_at_call 71; refine (implNameOk_any _ _ rName'.out).mono ?_; rintro e w' ⟨rfl, rfl⟩; first | rw [hn2] | skip))
      go_ret
      exact ⟨ret_bool (by first | exact H.out.symm | (rw [← o2]; exact H.out.symm)), (Below.refl _ _).alloc (Nat.le_refl _) _⟩
  · have H : Hid (opdB o x = false) := by show _ = _; rw [HO.out, decide_eq_false n0]; rfl
    go_enter Tryz.func58, Tryz.ntmps58
    go_wp2_with (first | (go_at_call 78; refine (numberOk_any _ _).mono ?_; rintro e w' ⟨rfl, rfl⟩; first | rw [hn1] | skip) | (go_at_call 71; refine (implNameOk_any _ _ rName'.out).mono ?_; rintro e w' ⟨rfl, rfl⟩; first | rw [hn2] | skip))
    go_ret
    exact ⟨ret_bool (by first | exact H.out.symm | (rw [← o2]; exact H.out.symm)), (Below.refl _ _).alloc (Nat.le_refl _) _⟩
set_option maxHeartbeats 2000000 in
theorem implInstrOk_any {w : World} {lo : Nat} {cs : List Value} {x : InstrD} (hx : InstrAt w lo cs x) (hf : Forms w) :
    Calls Tryz.prog 41 #[.agg cs.toArray] w fun e w' => e = .returned (.bool (instrB x)) ∧ Below w.heap.size w w' := by
  have hx' : Hid (InstrAt w lo cs x) := hx
  have hf' : Hid (Forms w) := hf
  obtain ⟨rfl, rKind, rN, rName, _⟩ := hx
  clear rKind rN rName hf
  go_enter Tryz.func41, Tryz.ntmps41
  have bx0 : Hid (Box (w.alloc (.cells (List.toArray [.int .i64 x.vKind, .int .i64 x.vN, .string x.vName]) 34)) w.heap.size [.int .i64 x.vKind, .int .i64 x.vN, .string x.vName] 34) := Box.new w _ _
  have hb0 : Hid (Below w.heap.size w (w.alloc (.cells (List.toArray [.int .i64 x.vKind, .int .i64 x.vN, .string x.vName]) 34))) := (Below.refl _ _).alloc (Nat.le_refl _) _
  go_wp2_with fail
  refine (formOf_any _ _ (Forms.below hf'.out hb0.out (Forms.lt hf'.out))).mono ?_
  rintro e w1 ⟨rfl, hb1⟩
  have bx1 : Hid (Box w1 w.heap.size [.int .i64 x.vKind, .int .i64 x.vN, .string x.vName] 34) := bx0.out.below hb1 bx0.out.lt
  have hB1 : Hid (Below w.heap.size w w1) := hb0.out.trans (hb1.mono hb0.out.size)
  clear hb1 bx0 hb0
  by_cases hk : 1 ≤ x.vKind ∧ x.vKind ≤ 15
  · rw [formV_is hk]
    have HI : Hid (instrB x = opdB (opT x.vKind) x) := instrB_some hk
    clear hk
    generalize hwd : wordT x.vKind = wd
    generalize htk : takesT x.vKind = tk
    generalize hgv : givesT x.vKind = gv
    generalize hop : opT x.vKind = op at HI
    clear hwd htk hgv hop
    have c0 := bx1.out.cell 0 rfl
    have c1 := bx1.out.cell 1 rfl
    have c2 := bx1.out.cell 2 rfl
    have hlt1 : w.heap.size < w1.heap.size := bx1.out.lt
    have hB2 : Hid (∀ ob, Below w.heap.size w (w1.alloc ob)) := fun ob => hB1.out.alloc hB1.out.size ob
    cases hr : opdB op x
    · rw [hr] at HI
      have hr' : Hid (opdB op x = false) := hr
      clear hr
      go_wp2_with (go_at_call 58; refine (operandOk_any op (InstrAt_stays _ _ lo lo _ _ (.of_below (hB2.out _)) hx'.out)).mono ?_; rintro e w3 ⟨rfl, hb3⟩; rw [hr'.out])
      go_ret
      exact ⟨ret_bool HI.out.symm, (hB2.out _).trans (hb3.mono (hB2.out _).size)⟩
    · rw [hr] at HI
      have hr' : Hid (opdB op x = true) := hr
      clear hr
      go_wp2_with (go_at_call 58; refine (operandOk_any op (InstrAt_stays _ _ lo lo _ _ (.of_below (hB2.out _)) hx'.out)).mono ?_; rintro e w3 ⟨rfl, hb3⟩; rw [hr'.out])
      go_ret
      exact ⟨ret_bool HI.out.symm, (hB2.out _).trans (hb3.mono (hB2.out _).size)⟩
  · rw [formV_no hk]
    have HI : Hid (instrB x = false) := instrB_none hk
    clear hk
    go_wp2_with fail
    go_ret
    exact ⟨ret_bool HI.out.symm, hB1.out.alloc hB1.out.size _⟩
theorem l1In_yes (n a b : Int) (w : World) (h : a ≤ n ∧ n ≤ b) : Calls Tryz.prog 75 #[.int .i64 n, .int .i64 a, .int .i64 b] w fun e w' => e = .returned (.bool true) ∧ w' = w :=
  (l1In_any n a b w).mono fun _ _ ⟨e1, e2⟩ => ⟨by rw [e1, decide_eq_true h.1, decide_eq_true h.2]; rfl, e2⟩
theorem l1In_no (n a b : Int) (w : World) (h : ¬ (a ≤ n ∧ n ≤ b)) : Calls Tryz.prog 75 #[.int .i64 n, .int .i64 a, .int .i64 b] w fun e w' => e = .returned (.bool false) ∧ w' = w :=
  (l1In_any n a b w).mono fun _ _ ⟨e1, e2⟩ => ⟨by rw [e1]; exact ret_bool (by simp only [Bool.and_eq_false_iff, decide_eq_false_iff_not]; omega), e2⟩
theorem named_yes (k : Int) (w : World) (h : 3 ≤ k ∧ k ≤ 6) : Calls Tryz.prog 20 #[.int .i64 k] w fun e w' => e = .returned (.bool true) ∧ w' = w :=
  (l13Named_any k w).mono fun _ _ ⟨e1, e2⟩ => ⟨by rw [e1]; exact ret_bool (by simp [namedB, h.1, h.2]), e2⟩
theorem named_no (k : Int) (w : World) (h : ¬ (3 ≤ k ∧ k ≤ 6)) : Calls Tryz.prog 20 #[.int .i64 k] w fun e w' => e = .returned (.bool false) ∧ w' = w :=
  (l13Named_any k w).mono fun _ _ ⟨e1, e2⟩ => ⟨by rw [e1]; exact ret_bool (by simp only [namedB, Bool.and_eq_false_iff, decide_eq_false_iff_not]; omega), e2⟩
set_option maxHeartbeats 8000000 in
theorem specInstrOk_any {w : World} {lo : Nat} {cs : List Value} {x : InstrD} (hx : InstrAt w lo cs x) :
    Calls Tryz.prog 56 #[.agg cs.toArray] w fun e w' => e = .returned (.bool (instrB x)) ∧ Below w.heap.size w w' := by
  obtain ⟨rfl, rKind, rN, rName, _⟩ := hx
  have rName' : Hid (x.vName.size ≤ maxLen) := rName
  clear rKind rN rName
  by_cases hk : ¬ (1 ≤ x.vKind ∧ x.vKind ≤ 15)
  · have HI : Hid (instrB x = false) := by show _ = _; exact instrB_none hk
    go_enter Tryz.func56, Tryz.ntmps56
    go_wp2_with (first | (go_at_call 75; (first | refine (l1In_yes _ _ _ _ (by omega)).mono ?_ | refine (l1In_no _ _ _ _ (by omega)).mono ?_); rintro e w' ⟨rfl, rfl⟩) | (go_at_call 20; (first | refine (named_yes _ _ (by omega)).mono ?_ | refine (named_no _ _ (by omega)).mono ?_); rintro e w' ⟨rfl, rfl⟩) | (go_at_call 76; refine (specNameOk_any _ _ rName'.out).mono ?_; rintro e w' ⟨rfl, rfl⟩; rw [hn2.out]))
    go_ret
    exact ⟨ret_bool HI.out.symm, (Below.refl _ _).alloc (Nat.le_refl _) _⟩
  have hI0 : Hid (instrB x = opdB (opT x.vKind) x) := instrB_some (by omega)
  obtain ⟨hka, hkb⟩ : 1 ≤ x.vKind ∧ x.vKind ≤ 15 := by omega
  clear hk
  by_cases k1 : x.vKind = 1
  · have hI1 : Hid (instrB x = (numB x.vN && emB x.vName)) := by show _ = _; rw [hI0.out, opT_num k1, opdB_num]
    by_cases hn : -1000000 ≤ x.vN ∧ x.vN ≤ 1000000
    · have hnb : Hid (numB x.vN = true) := by show _ = _; simp [numB, hn.1, hn.2]
      by_cases he : x.vName = ⟨#[]⟩
      · have HI : Hid (instrB x = true) := by show _ = _; rw [hI1.out, hnb.out]; rw [emB_yes he]; rfl
        go_enter Tryz.func56, Tryz.ntmps56
        go_wp2_with (first | (go_at_call 75; (first | refine (l1In_yes _ _ _ _ (by omega)).mono ?_ | refine (l1In_no _ _ _ _ (by omega)).mono ?_); rintro e w' ⟨rfl, rfl⟩) | (go_at_call 20; (first | refine (named_yes _ _ (by omega)).mono ?_ | refine (named_no _ _ (by omega)).mono ?_); rintro e w' ⟨rfl, rfl⟩) | (go_at_call 76; refine (specNameOk_any _ _ rName'.out).mono ?_; rintro e w' ⟨rfl, rfl⟩; rw [hn2.out]))
        go_ret
        exact ⟨ret_bool HI.out.symm, (Below.refl _ _).alloc (Nat.le_refl _) _⟩
      · have hne := em_no he
        have hne1 := em_list (fun q => he (em_eq q))
        have HI : Hid (instrB x = false) := by show _ = _; rw [hI1.out, hnb.out]; rw [emB_no he, Bool.and_false]
        go_enter Tryz.func56, Tryz.ntmps56
        go_wp2_with (first | (go_at_call 75; (first | refine (l1In_yes _ _ _ _ (by omega)).mono ?_ | refine (l1In_no _ _ _ _ (by omega)).mono ?_); rintro e w' ⟨rfl, rfl⟩) | (go_at_call 20; (first | refine (named_yes _ _ (by omega)).mono ?_ | refine (named_no _ _ (by omega)).mono ?_); rintro e w' ⟨rfl, rfl⟩) | (go_at_call 76; refine (specNameOk_any _ _ rName'.out).mono ?_; rintro e w' ⟨rfl, rfl⟩; rw [hn2.out]))
        go_ret
        exact ⟨ret_bool HI.out.symm, (Below.refl _ _).alloc (Nat.le_refl _) _⟩
    · have HI : Hid (instrB x = false) := by show _ = _; rw [hI1.out]; simp only [numB, Bool.and_eq_false_iff, decide_eq_false_iff_not]; omega
      go_enter Tryz.func56, Tryz.ntmps56
      go_wp2_with (first | (go_at_call 75; (first | refine (l1In_yes _ _ _ _ (by omega)).mono ?_ | refine (l1In_no _ _ _ _ (by omega)).mono ?_); rintro e w' ⟨rfl, rfl⟩) | (go_at_call 20; (first | refine (named_yes _ _ (by omega)).mono ?_ | refine (named_no _ _ (by omega)).mono ?_); rintro e w' ⟨rfl, rfl⟩) | (go_at_call 76; refine (specNameOk_any _ _ rName'.out).mono ?_; rintro e w' ⟨rfl, rfl⟩; rw [hn2.out]))
      go_ret
      exact ⟨ret_bool HI.out.symm, (Below.refl _ _).alloc (Nat.le_refl _) _⟩
  by_cases k10 : x.vKind = 10
  · have hI1 : Hid (instrB x = (decide (0 ≤ x.vN) && decide (x.vN < 20) && emB x.vName)) := by show _ = _; rw [hI0.out, opT_place (by omega), opdB_place]
    by_cases hn : 0 ≤ x.vN ∧ x.vN < 20
    · have hnb : Hid ((decide (0 ≤ x.vN) && decide (x.vN < 20)) = true) := by show _ = _; simp [hn.1, hn.2]
      by_cases he : x.vName = ⟨#[]⟩
      · have HI : Hid (instrB x = true) := by show _ = _; rw [hI1.out, hnb.out]; rw [emB_yes he]; rfl
        go_enter Tryz.func56, Tryz.ntmps56
        go_wp2_with (first | (go_at_call 75; (first | refine (l1In_yes _ _ _ _ (by omega)).mono ?_ | refine (l1In_no _ _ _ _ (by omega)).mono ?_); rintro e w' ⟨rfl, rfl⟩) | (go_at_call 20; (first | refine (named_yes _ _ (by omega)).mono ?_ | refine (named_no _ _ (by omega)).mono ?_); rintro e w' ⟨rfl, rfl⟩) | (go_at_call 76; refine (specNameOk_any _ _ rName'.out).mono ?_; rintro e w' ⟨rfl, rfl⟩; rw [hn2.out]))
        go_ret
        exact ⟨ret_bool HI.out.symm, (Below.refl _ _).alloc (Nat.le_refl _) _⟩
      · have hne := em_no he
        have hne1 := em_list (fun q => he (em_eq q))
        have HI : Hid (instrB x = false) := by show _ = _; rw [hI1.out, hnb.out]; rw [emB_no he, Bool.and_false]
        go_enter Tryz.func56, Tryz.ntmps56
        go_wp2_with (first | (go_at_call 75; (first | refine (l1In_yes _ _ _ _ (by omega)).mono ?_ | refine (l1In_no _ _ _ _ (by omega)).mono ?_); rintro e w' ⟨rfl, rfl⟩) | (go_at_call 20; (first | refine (named_yes _ _ (by omega)).mono ?_ | refine (named_no _ _ (by omega)).mono ?_); rintro e w' ⟨rfl, rfl⟩) | (go_at_call 76; refine (specNameOk_any _ _ rName'.out).mono ?_; rintro e w' ⟨rfl, rfl⟩; rw [hn2.out]))
        go_ret
        exact ⟨ret_bool HI.out.symm, (Below.refl _ _).alloc (Nat.le_refl _) _⟩
    · have HI : Hid (instrB x = false) := by show _ = _; rw [hI1.out]; simp only [Bool.and_eq_false_iff, decide_eq_false_iff_not]; omega
      go_enter Tryz.func56, Tryz.ntmps56
      go_wp2_with (first | (go_at_call 75; (first | refine (l1In_yes _ _ _ _ (by omega)).mono ?_ | refine (l1In_no _ _ _ _ (by omega)).mono ?_); rintro e w' ⟨rfl, rfl⟩) | (go_at_call 20; (first | refine (named_yes _ _ (by omega)).mono ?_ | refine (named_no _ _ (by omega)).mono ?_); rintro e w' ⟨rfl, rfl⟩) | (go_at_call 76; refine (specNameOk_any _ _ rName'.out).mono ?_; rintro e w' ⟨rfl, rfl⟩; rw [hn2.out]))
      go_ret
      exact ⟨ret_bool HI.out.symm, (Below.refl _ _).alloc (Nat.le_refl _) _⟩
  by_cases k11 : x.vKind = 11
  · have hI1 : Hid (instrB x = (decide (0 ≤ x.vN) && decide (x.vN < 20) && emB x.vName)) := by show _ = _; rw [hI0.out, opT_place (by omega), opdB_place]
    by_cases hn : 0 ≤ x.vN ∧ x.vN < 20
    · have hnb : Hid ((decide (0 ≤ x.vN) && decide (x.vN < 20)) = true) := by show _ = _; simp [hn.1, hn.2]
      by_cases he : x.vName = ⟨#[]⟩
      · have HI : Hid (instrB x = true) := by show _ = _; rw [hI1.out, hnb.out]; rw [emB_yes he]; rfl
        go_enter Tryz.func56, Tryz.ntmps56
        go_wp2_with (first | (go_at_call 75; (first | refine (l1In_yes _ _ _ _ (by omega)).mono ?_ | refine (l1In_no _ _ _ _ (by omega)).mono ?_); rintro e w' ⟨rfl, rfl⟩) | (go_at_call 20; (first | refine (named_yes _ _ (by omega)).mono ?_ | refine (named_no _ _ (by omega)).mono ?_); rintro e w' ⟨rfl, rfl⟩) | (go_at_call 76; refine (specNameOk_any _ _ rName'.out).mono ?_; rintro e w' ⟨rfl, rfl⟩; rw [hn2.out]))
        go_ret
        exact ⟨ret_bool HI.out.symm, (Below.refl _ _).alloc (Nat.le_refl _) _⟩
      · have hne := em_no he
        have hne1 := em_list (fun q => he (em_eq q))
        have HI : Hid (instrB x = false) := by show _ = _; rw [hI1.out, hnb.out]; rw [emB_no he, Bool.and_false]
        go_enter Tryz.func56, Tryz.ntmps56
        go_wp2_with (first | (go_at_call 75; (first | refine (l1In_yes _ _ _ _ (by omega)).mono ?_ | refine (l1In_no _ _ _ _ (by omega)).mono ?_); rintro e w' ⟨rfl, rfl⟩) | (go_at_call 20; (first | refine (named_yes _ _ (by omega)).mono ?_ | refine (named_no _ _ (by omega)).mono ?_); rintro e w' ⟨rfl, rfl⟩) | (go_at_call 76; refine (specNameOk_any _ _ rName'.out).mono ?_; rintro e w' ⟨rfl, rfl⟩; rw [hn2.out]))
        go_ret
        exact ⟨ret_bool HI.out.symm, (Below.refl _ _).alloc (Nat.le_refl _) _⟩
    · have HI : Hid (instrB x = false) := by show _ = _; rw [hI1.out]; simp only [Bool.and_eq_false_iff, decide_eq_false_iff_not]; omega
      go_enter Tryz.func56, Tryz.ntmps56
      go_wp2_with (first | (go_at_call 75; (first | refine (l1In_yes _ _ _ _ (by omega)).mono ?_ | refine (l1In_no _ _ _ _ (by omega)).mono ?_); rintro e w' ⟨rfl, rfl⟩) | (go_at_call 20; (first | refine (named_yes _ _ (by omega)).mono ?_ | refine (named_no _ _ (by omega)).mono ?_); rintro e w' ⟨rfl, rfl⟩) | (go_at_call 76; refine (specNameOk_any _ _ rName'.out).mono ?_; rintro e w' ⟨rfl, rfl⟩; rw [hn2.out]))
      go_ret
      exact ⟨ret_bool HI.out.symm, (Below.refl _ _).alloc (Nat.le_refl _) _⟩
  by_cases k3 : 3 ≤ x.vKind ∧ x.vKind ≤ 6
  · have hI1 : Hid (instrB x = (decide (x.vN = 0) && nameB x.vName.data.toList)) := by show _ = _; rw [hI0.out, opT_name k3, opdB_name]
    by_cases hn : x.vN = 0
    · cases hn2' : nameB x.vName.data.toList
      · have hn2 : Hid (nameB x.vName.data.toList = false) := hn2'
        clear hn2'
        have HI : Hid (instrB x = false) := by show _ = _; rw [hI1.out, hn2.out, Bool.and_false]
        go_enter Tryz.func56, Tryz.ntmps56
        go_wp2_with (first | (go_at_call 75; (first | refine (l1In_yes _ _ _ _ (by omega)).mono ?_ | refine (l1In_no _ _ _ _ (by omega)).mono ?_); rintro e w' ⟨rfl, rfl⟩) | (go_at_call 20; (first | refine (named_yes _ _ (by omega)).mono ?_ | refine (named_no _ _ (by omega)).mono ?_); rintro e w' ⟨rfl, rfl⟩) | (go_at_call 76; refine (specNameOk_any _ _ rName'.out).mono ?_; rintro e w' ⟨rfl, rfl⟩; rw [hn2.out]))
        go_ret
        exact ⟨ret_bool HI.out.symm, (Below.refl _ _).alloc (Nat.le_refl _) _⟩
      · have hn2 : Hid (nameB x.vName.data.toList = true) := hn2'
        clear hn2'
        have HI : Hid (instrB x = true) := by show _ = _; rw [hI1.out, hn2.out, decide_eq_true hn]; rfl
        go_enter Tryz.func56, Tryz.ntmps56
        go_wp2_with (first | (go_at_call 75; (first | refine (l1In_yes _ _ _ _ (by omega)).mono ?_ | refine (l1In_no _ _ _ _ (by omega)).mono ?_); rintro e w' ⟨rfl, rfl⟩) | (go_at_call 20; (first | refine (named_yes _ _ (by omega)).mono ?_ | refine (named_no _ _ (by omega)).mono ?_); rintro e w' ⟨rfl, rfl⟩) | (go_at_call 76; refine (specNameOk_any _ _ rName'.out).mono ?_; rintro e w' ⟨rfl, rfl⟩; rw [hn2.out]))
        go_ret
        exact ⟨ret_bool HI.out.symm, (Below.refl _ _).alloc (Nat.le_refl _) _⟩
    · have HI : Hid (instrB x = false) := by show _ = _; rw [hI1.out, decide_eq_false hn]; rfl
      go_enter Tryz.func56, Tryz.ntmps56
      go_wp2_with (first | (go_at_call 75; (first | refine (l1In_yes _ _ _ _ (by omega)).mono ?_ | refine (l1In_no _ _ _ _ (by omega)).mono ?_); rintro e w' ⟨rfl, rfl⟩) | (go_at_call 20; (first | refine (named_yes _ _ (by omega)).mono ?_ | refine (named_no _ _ (by omega)).mono ?_); rintro e w' ⟨rfl, rfl⟩) | (go_at_call 76; refine (specNameOk_any _ _ rName'.out).mono ?_; rintro e w' ⟨rfl, rfl⟩; rw [hn2.out]))
      go_ret
      exact ⟨ret_bool HI.out.symm, (Below.refl _ _).alloc (Nat.le_refl _) _⟩
  have hI1 : Hid (instrB x = (decide (x.vN = 0) && emB x.vName)) := by show _ = _; rw [hI0.out, opT_none k1 (by omega) k3, opdB_none]
  by_cases hn : x.vN = 0
  · have hnb : Hid (decide (x.vN = 0) = true) := decide_eq_true hn
    by_cases he : x.vName = ⟨#[]⟩
    · have HI : Hid (instrB x = true) := by show _ = _; rw [hI1.out, hnb.out]; rw [emB_yes he]; rfl
      go_enter Tryz.func56, Tryz.ntmps56
      go_wp2_with (first | (go_at_call 75; (first | refine (l1In_yes _ _ _ _ (by omega)).mono ?_ | refine (l1In_no _ _ _ _ (by omega)).mono ?_); rintro e w' ⟨rfl, rfl⟩) | (go_at_call 20; (first | refine (named_yes _ _ (by omega)).mono ?_ | refine (named_no _ _ (by omega)).mono ?_); rintro e w' ⟨rfl, rfl⟩) | (go_at_call 76; refine (specNameOk_any _ _ rName'.out).mono ?_; rintro e w' ⟨rfl, rfl⟩; rw [hn2.out]))
      go_ret
      exact ⟨ret_bool HI.out.symm, (Below.refl _ _).alloc (Nat.le_refl _) _⟩
    · have hne := em_no he
      have hne1 := em_list (fun q => he (em_eq q))
      have HI : Hid (instrB x = false) := by show _ = _; rw [hI1.out, hnb.out]; rw [emB_no he, Bool.and_false]
      go_enter Tryz.func56, Tryz.ntmps56
      go_wp2_with (first | (go_at_call 75; (first | refine (l1In_yes _ _ _ _ (by omega)).mono ?_ | refine (l1In_no _ _ _ _ (by omega)).mono ?_); rintro e w' ⟨rfl, rfl⟩) | (go_at_call 20; (first | refine (named_yes _ _ (by omega)).mono ?_ | refine (named_no _ _ (by omega)).mono ?_); rintro e w' ⟨rfl, rfl⟩) | (go_at_call 76; refine (specNameOk_any _ _ rName'.out).mono ?_; rintro e w' ⟨rfl, rfl⟩; rw [hn2.out]))
      go_ret
      exact ⟨ret_bool HI.out.symm, (Below.refl _ _).alloc (Nat.le_refl _) _⟩
  · have HI : Hid (instrB x = false) := by show _ = _; rw [hI1.out, decide_eq_false hn]; rfl
    go_enter Tryz.func56, Tryz.ntmps56
    go_wp2_with (first | (go_at_call 75; (first | refine (l1In_yes _ _ _ _ (by omega)).mono ?_ | refine (l1In_no _ _ _ _ (by omega)).mono ?_); rintro e w' ⟨rfl, rfl⟩) | (go_at_call 20; (first | refine (named_yes _ _ (by omega)).mono ?_ | refine (named_no _ _ (by omega)).mono ?_); rintro e w' ⟨rfl, rfl⟩) | (go_at_call 76; refine (specNameOk_any _ _ rName'.out).mono ?_; rintro e w' ⟨rfl, rfl⟩; rw [hn2.out]))
    go_ret
    exact ⟨ret_bool HI.out.symm, (Below.refl _ _).alloc (Nat.le_refl _) _⟩
end Go.Proofs.YtdapgihghbmlfaaGreatDoor
