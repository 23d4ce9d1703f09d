/- l13Words and ProgText of the specification, walked. -/
import Derived.Test.YtdapgihghbmlfaaGreatDoorVmTextW
import Derived.Test.YtdapgihghbmlfaaGreatDoorVmDepW
import Derived.WalkKit
namespace Go.Proofs.YtdapgihghbmlfaaGreatDoor
open Go.RowKit
def wordsL : List Value := [.string ⟨#[]⟩, .string ⟨#[110, 117, 109]⟩, .string ⟨#[110, 105, 108]⟩, .string ⟨#[108, 111, 97, 100]⟩, .string ⟨#[115, 116, 111, 114, 101]⟩, .string ⟨#[103, 101, 116]⟩, .string ⟨#[115, 101, 116]⟩, .string ⟨#[110, 101, 119]⟩, .string ⟨#[97, 100, 100]⟩, .string ⟨#[108, 101, 115, 115]⟩, .string ⟨#[106, 117, 109, 112]⟩, .string ⟨#[117, 110, 108, 101, 115, 115]⟩, .string ⟨#[100, 117, 112]⟩, .string ⟨#[112, 111, 112]⟩, .string ⟨#[116, 101, 108, 108]⟩, .string ⟨#[104, 97, 108, 116]⟩]
theorem words_cell (w : World) {k : Int} (h : 1 ≤ k ∧ k ≤ 15) : (w.alloc (.cells wordsL.toArray 9)).cell? ⟨w.heap.size, k.toNat, none⟩ = some (.string (wordT k)) := by
  obtain ⟨h1, h2⟩ := h
  have hb := Box.new w wordsL 9
  have hk : k = 1 ∨ k = 2 ∨ k = 3 ∨ k = 4 ∨ k = 5 ∨ k = 6 ∨ k = 7 ∨ k = 8 ∨ k = 9 ∨ k = 10 ∨ k = 11 ∨ k = 12 ∨ k = 13 ∨ k = 14 ∨ k = 15 := by omega
  rcases hk with rfl | rfl | rfl | rfl | rfl | rfl | rfl | rfl | rfl | rfl | rfl | rfl | rfl | rfl | rfl
  · exact hb.cell 1 rfl
  · exact hb.cell 2 rfl
  · exact hb.cell 3 rfl
  · exact hb.cell 4 rfl
  · exact hb.cell 5 rfl
  · exact hb.cell 6 rfl
  · exact hb.cell 7 rfl
  · exact hb.cell 8 rfl
  · exact hb.cell 9 rfl
  · exact hb.cell 10 rfl
  · exact hb.cell 11 rfl
  · exact hb.cell 12 rfl
  · exact hb.cell 13 rfl
  · exact hb.cell 14 rfl
  · exact hb.cell 15 rfl
set_option maxHeartbeats 1000000 in
theorem l13Words_any (w : World) : Calls Tryz.prog 19 #[] w fun e w' => e = .returned (.slice (some ⟨w.heap.size, 0, none⟩) 16 16) ∧ w' = w.alloc (.cells wordsL.toArray 9) := by
  go_enter Tryz.func19, Tryz.ntmps19
  go_wp2_with fail
  go_ret
  exact ⟨rfl, rfl⟩
theorem joinT_more {l : List InstrD} {j : Nat} (h : j < l.length) {a s t : ByteArray} (ha : a.data.toList = joinT (l.take j)) (hs : s.data.toList = (if 0 < j then [59, 32] else [])) (ht : t = instrT l[j]) : (a ++ s ++ t).data.toList = joinT (l.take (j + 1)) := by
  rw [joinT_take l j h, stx_app, stx_app, ha, hs, ht, List.append_assoc]
set_option maxRecDepth 100000 in
set_option maxHeartbeats 4000000 in
theorem specProgText_any {w : World} {lo : Nat} {k : Value} {l : List InstrD} (hk : SeqAt 3 InstrAt w lo k l) :
    Calls Tryz.prog 8 #[k] w fun e w' => (∃ b ys, e = .returned (.string (progT l b)) ∧ Ans l b ys) ∧ Below w.heap.size w w' := by
  have hk' : Hid (SeqAt 3 InstrAt w lo k l) := hk
  obtain ⟨a, cap, rfl⟩ := hk.form
  clear hk
  go_enter Tryz.func8, Tryz.ntmps8
  go_wp2_with fail
  refine (specProgOk_any hk'.out).mono ?_
  rintro e w1 ⟨⟨ok, ys, rfl, hans⟩, hb1⟩
  have hans' : Hid (Ans l ok ys) := hans
  have hB1 : Hid (Below w.heap.size w w1) := hb1
  have hk1 : Hid (SeqAt 3 InstrAt w1 lo (.slice a l.length cap) l) := hk'.out.below InstrAt_stays hb1
  clear hb1 hk'
  cases ok
  · clear hans
    go_wp2_with fail
    go_ret
    exact ⟨⟨false, ys, rfl, hans'.out⟩, hB1.out⟩
  obtain ⟨hl1, hl5, hst⟩ := ans_right hans
  have hst' : Hid (allB l = true) := hst
  clear hst hans
  obtain ⟨a', cap', e, hm, hx⟩ := hk1.out
  injection e with e1 _ e3
  subst e1 e3
  obtain ⟨b, off, rfl, hlo, hbw, hc⟩ := hx (by omega)
  have hc' : Hid (∀ i, (h : i < l.length) → ∃ cs, cs.length = 3 ∧ Lie w1 b (off + i * 3) cs ∧ InstrAt w1 lo cs l[i]) := hc
  clear hc hx hk1
  go_wp2_with fail
  go_loopw [3, 4] (fun v i wr => ∃ (j : Nat) (acc : ByteArray), j ≤ l.length ∧ i = .int .i64 j ∧ v = .string acc ∧ Hid (acc.data.toList = joinT (l.take j)) ∧ Hid (Below w1.heap.size w1 wr)) (fun _ i _ => l.length - (intOf i).toNat)
  case atStart => exact ⟨0, _, by omega, rfl, rfl, rfl, Below.refl _ _⟩
  case round =>
    obtain ⟨j, acc, hj, rfl, rfl, hacc, hb⟩ := hrel
    by_cases hlt : j < l.length
    · obtain ⟨cs, hcl, lie, rfl, _⟩ := hc'.out j hlt
      have x0 := lie 0 (by simp)
      have x1 := lie 1 (by simp)
      have x2 := lie 2 (by simp)
      simp only [List.getElem?_cons_zero, List.getElem?_cons_succ, Nat.add_zero] at x0 x1 x2
      have hib := allB_get hst'.out j hlt
      have hmore : Hid (∀ {s t : ByteArray}, s.data.toList = (if 0 < j then [59, 32] else []) → t = instrT l[j] → (acc ++ s ++ t).data.toList = joinT (l.take (j + 1))) := fun hs ht => joinT_more hlt hacc.out hs ht
      have hjs := joinT_small hst'.out j hj
      have has : acc.size ≤ 340 := by rw [← stx_len, hacc.out]; omega
      have hkd := instrB_kind hib
      have hnm := instrB_nm hib
      have hws := wordT_small l[j].vKind
      have hn' : Hid (-1000000 ≤ l[j].vN ∧ l[j].vN ≤ 1000000) := instrB_num hib
      have hds' : Hid ((decT l[j].vN).size ≤ 8) := decT_small (instrB_num hib).1 (instrB_num hib).2
      have y0 := cell_on hb.out x0
      have y1 := cell_on hb.out x1
      have y2 := cell_on hb.out x2
      have hT0 : Hid (opT l[j].vKind = 0 → instrT l[j] = wordT l[j].vKind) := instrT_none
      have hT3 : Hid (opT l[j].vKind = 3 → instrT l[j] = wordT l[j].vKind ++ ⟨#[32]⟩ ++ l[j].vName) := instrT_name
      have hT1 : Hid (opT l[j].vKind = 1 ∨ opT l[j].vKind = 2 → instrT l[j] = wordT l[j].vKind ++ ⟨#[32]⟩ ++ decT l[j].vN) := instrT_num
      generalize l[j] = X at y0 y1 y2 hmore hkd hnm hws hn' hds' hT0 hT1 hT3
      have hlt' : (j : Int) < (l.length : Int) := by omega
      have hj0 : (0 : Int) ≤ (j : Int) := by omega
      clear lie hcl hib hjs x0 x1 x2
      by_cases hz : j = 0
      · subst hz
        simp only [Nat.zero_mul, Nat.add_zero] at y0 y1 y2
        have hmo : Hid (∀ t : ByteArray, t = instrT X → (acc ++ t).data.toList = joinT (l.take (0 + 1))) := fun t ht => by have := hmore.out (s := ⟨#[]⟩) rfl ht; simpa [stx_app] using this
        clear hmore
        go_upto_region 9 with fail
        have hac : acc.size ≤ 342 := by omega
        generalize acc = A2 at hmo hac ⊢
        have z0 : wr.drew.cell? ⟨b, off, none⟩ = some (.int .i64 X.vKind) := y0
        have hWC := words_cell wr.drew hkd
        have hk0 : 0 ≤ X.vKind := by omega
        have hk16 : X.vKind < 16 := by omega
        generalize wordT X.vKind = wd at hws hT0 hT1 hT3 hWC
        have d1 : ¬ 9223372036854775807 < A2.size + wd.size := by omega
        refine wp_region_held_drew (S := fun w' => w'.cell? ⟨b, off, none⟩ = some (.int .i64 X.vKind)) (by kernel_rfl) z0 (fun hHeld => ?_)
        refine tq (i := 0) (d := 18) ?_
        simp only [sz, ss]
        refine tq (i := 2) (d := 20) ?_
        simp only [sz, ss]
        refine tq (i := 3) (d := 21) ?_
        simp only [sz, ss]
        refine tq (i := 4) (d := 22) ?_
        simp only [sz, ss]
        refine tq (i := 5) (d := 23) ?_
        simp only [sz, ss]
        refine tq (i := 6) (d := 24) ?_
        simp only [sz, ss]
        refine wpAnyH_ready (rs := [1]) (by kernel_rfl) (by simp) ?_
        refine AllReadyH.cons rfl (fun K hK => ?_) AllReadyH.nil
        go_simp
        refine (l13Words_any _).mono ?_
        rintro e w2 ⟨rfl, hw2⟩
        have hWC2 : w2.cell? ⟨wr.heap.size, X.vKind.toNat, none⟩ = some (.string wd) := by rw [hw2]; exact hWC
        have hb2 : Hid (Below wr.heap.size wr w2) := by rw [hw2]; exact (Below.refl _ _).drew.alloc (Nat.le_refl _) _
        have hB2 : Hid (Below w1.heap.size w1 w2) := hb.out.trans (hb2.out.mono hb.out.size)
        clear hw2 hWC
        refine hK.out _ _ (cell_on hb2.out hHeld) (fun hHeld => ?_)
        clear hK K
        refine tq (i := 7) (d := 25) ?_
        simp only [sz, ss]
        refine wpAnyH_ready (rs := [8]) (by kernel_rfl) (by simp) ?_
        refine AllReadyH.cons rfl (fun K hK => ?_) AllReadyH.nil
        go_simp
        refine hK.out _ _ hHeld (fun hHeld => ?_)
        clear hK K
        refine tq (i := 9) (d := 27) ?_
        simp only [sz, ss]
        refine tq (i := 10) (d := 3) ?_
        simp only [sz, ss]
        refine wpAnyH_done (by kernel_rfl) ?_ _
        have q0 := cell_on hb2.out y0
        have q1 := cell_on hb2.out y1
        have q2 := cell_on hb2.out y2
        clear hWC2 y0 y1 y2 z0 hk0 hk16
        have e1 : ¬ 9223372036854775807 < (A2 ++ wd).size + 1 := by rw [stx_size]; omega
        have e2 : ¬ 9223372036854775807 < (A2 ++ wd).size + 1 + X.vName.size := by rw [stx_size]; omega
        have e3 : (A2 ++ wd).size ≤ 348 := by rw [stx_size]; omega
        have hmA : Hid (∀ t : ByteArray, wd ++ t = instrT X → (A2 ++ wd ++ t).data.toList = joinT (l.take (0 + 1))) := fun t ht => by show _ = _; rw [← hmo.out _ ht]; simp
        have hmB : Hid (wd = instrT X → (A2 ++ wd).data.toList = joinT (l.take (0 + 1))) := fun ht => hmo.out _ ht
        clear hmo d1 hac
        generalize A2 ++ wd = A3 at e1 e2 e3 hmA hmB ⊢
        by_cases hna : 3 ≤ X.vKind ∧ X.vKind ≤ 6
        · have hT : Hid _ := hT3.out (opT_name hna)
          have m1 : ¬ X.vKind = 1 := by omega
          have p1 : (X.vKind == 1) = false := by simpa using m1
          have m10 : ¬ X.vKind = 10 := by omega
          have p10 : (X.vKind == 10) = false := by simpa using m10
          have m11 : ¬ X.vKind = 11 := by omega
          have p11 : (X.vKind == 11) = false := by simpa using m11
          have hna' : Hid (3 ≤ X.vKind ∧ X.vKind ≤ 6) := hna
          clear hna hT0 hT1 hT3 hmB hkd
          go_wp2_with (go_at_call 20; refine (named_yes _ _ hna'.out).mono ?_; rintro e w9 ⟨rfl, rfl⟩)
          go_roundw
          case rel => exact ⟨0 + 1, _, by omega, by go_num, rfl, by show _ = _; have := hmA.out (⟨#[32]⟩ ++ X.vName) (by rw [hT.out]; rw [ByteArray.append_assoc]); simpa [stx_app] using this, hB2⟩
          case measure => simp [intOf]; omega
        by_cases hk1 : X.vKind = 1
        · have hT : Hid _ := hT1.out (Or.inl (opT_num hk1))
          have hna' : Hid (¬ (3 ≤ X.vKind ∧ X.vKind ≤ 6)) := hna
          have p1 : (X.vKind == 1) = true := by simp [hk1]
          have p10 : (X.vKind == 10) = false := by simp [hk1]
          have p11 : (X.vKind == 11) = false := by simp [hk1]
          clear hna hT0 hT1 hT3 hmB hkd hk1
          go_wp2_with (go_at_call 20; refine (named_no _ _ hna'.out).mono ?_; rintro e w9 ⟨rfl, rfl⟩)
          refine (l13Dec_any hn'.out.1 hn'.out.2).mono ?_
          rintro e w3 ⟨rfl, hb3⟩
          have hB3 : Hid (Below w1.heap.size w1 w3) := hB2.out.trans (hb3.mono hB2.out.size)
          have hds := hds'.out
          generalize decT X.vN = dz at hds hT ⊢
          have e4 : ¬ 9223372036854775807 < A3.size + 1 + dz.size := by omega
          go_wp2_with fail
          go_roundw
          case rel => exact ⟨0 + 1, _, by omega, by go_num, rfl, by show _ = _; have := hmA.out (⟨#[32]⟩ ++ dz) (by rw [hT.out]; rw [ByteArray.append_assoc]); simpa [stx_app] using this, hB3⟩
          case measure => simp [intOf]; omega
        by_cases hk10 : X.vKind = 10
        · have hT : Hid _ := hT1.out (Or.inr (opT_place (Or.inl hk10)))
          have hna' : Hid (¬ (3 ≤ X.vKind ∧ X.vKind ≤ 6)) := hna
          have p1 : (X.vKind == 1) = false := by simp [hk10]
          have p10 : (X.vKind == 10) = true := by simp [hk10]
          have p11 : (X.vKind == 11) = false := by simp [hk10]
          clear hna hT0 hT1 hT3 hmB hkd hk10 hk1
          go_wp2_with (go_at_call 20; refine (named_no _ _ hna'.out).mono ?_; rintro e w9 ⟨rfl, rfl⟩)
          refine (l13Dec_any hn'.out.1 hn'.out.2).mono ?_
          rintro e w3 ⟨rfl, hb3⟩
          have hB3 : Hid (Below w1.heap.size w1 w3) := hB2.out.trans (hb3.mono hB2.out.size)
          have hds := hds'.out
          generalize decT X.vN = dz at hds hT ⊢
          have e4 : ¬ 9223372036854775807 < A3.size + 1 + dz.size := by omega
          go_wp2_with fail
          go_roundw
          case rel => exact ⟨0 + 1, _, by omega, by go_num, rfl, by show _ = _; have := hmA.out (⟨#[32]⟩ ++ dz) (by rw [hT.out]; rw [ByteArray.append_assoc]); simpa [stx_app] using this, hB3⟩
          case measure => simp [intOf]; omega
        by_cases hk11 : X.vKind = 11
        · have hT : Hid _ := hT1.out (Or.inr (opT_place (Or.inr hk11)))
          have hna' : Hid (¬ (3 ≤ X.vKind ∧ X.vKind ≤ 6)) := hna
          have p1 : (X.vKind == 1) = false := by simp [hk11]
          have p10 : (X.vKind == 10) = false := by simp [hk11]
          have p11 : (X.vKind == 11) = true := by simp [hk11]
          clear hna hT0 hT1 hT3 hmB hkd hk11 hk1 hk10
          go_wp2_with (go_at_call 20; refine (named_no _ _ hna'.out).mono ?_; rintro e w9 ⟨rfl, rfl⟩)
          refine (l13Dec_any hn'.out.1 hn'.out.2).mono ?_
          rintro e w3 ⟨rfl, hb3⟩
          have hB3 : Hid (Below w1.heap.size w1 w3) := hB2.out.trans (hb3.mono hB2.out.size)
          have hds := hds'.out
          generalize decT X.vN = dz at hds hT ⊢
          have e4 : ¬ 9223372036854775807 < A3.size + 1 + dz.size := by omega
          go_wp2_with fail
          go_roundw
          case rel => exact ⟨0 + 1, _, by omega, by go_num, rfl, by show _ = _; have := hmA.out (⟨#[32]⟩ ++ dz) (by rw [hT.out]; rw [ByteArray.append_assoc]); simpa [stx_app] using this, hB3⟩
          case measure => simp [intOf]; omega
        have hT : Hid _ := hT0.out (opT_none hk1 (by omega) hna)
        have hna' : Hid (¬ (3 ≤ X.vKind ∧ X.vKind ≤ 6)) := hna
        have p1 : (X.vKind == 1) = false := by simpa using hk1
        have p10 : (X.vKind == 10) = false := by simpa using hk10
        have p11 : (X.vKind == 11) = false := by simpa using hk11
        clear hna hT0 hT1 hT3 hmA hkd
        go_wp2_with (go_at_call 20; refine (named_no _ _ hna'.out).mono ?_; rintro e w9 ⟨rfl, rfl⟩)
        go_roundw
        case rel => exact ⟨0 + 1, _, by omega, by go_num, rfl, hmB.out hT.out.symm, hB2⟩
        case measure => simp [intOf]; omega
      · have hz' : (0 : Int) < (j : Int) := by omega
        have hcat : ¬ 9223372036854775807 < acc.size + 2 := by omega
        have hmo : Hid (∀ t : ByteArray, t = instrT X → (acc ++ ⟨#[59, 32]⟩ ++ t).data.toList = joinT (l.take (j + 1))) := fun t ht => hmore.out (s := ⟨#[59, 32]⟩) (by rw [if_pos (by omega)]) ht
        have hac : (acc ++ ⟨#[59, 32]⟩).size ≤ 342 := by rw [stx_size]; show acc.size + 2 ≤ _; omega
        clear hmore
        go_upto_region 9 with fail
        generalize acc ++ (⟨#[59, 32]⟩ : ByteArray) = A2 at hmo hac ⊢
        have z0 : wr.drew.cell? ⟨b, off + j * 3, none⟩ = some (.int .i64 X.vKind) := y0
        have hWC := words_cell wr.drew hkd
        have hk0 : 0 ≤ X.vKind := by omega
        have hk16 : X.vKind < 16 := by omega
        generalize wordT X.vKind = wd at hws hT0 hT1 hT3 hWC
        have d1 : ¬ 9223372036854775807 < A2.size + wd.size := by omega
        refine wp_region_held_drew (S := fun w' => w'.cell? ⟨b, off + j * 3, none⟩ = some (.int .i64 X.vKind)) (by kernel_rfl) z0 (fun hHeld => ?_)
        refine tq (i := 0) (d := 18) ?_
        simp only [sz, ss]
        refine tq (i := 2) (d := 20) ?_
        simp only [sz, ss]
        refine tq (i := 3) (d := 21) ?_
        simp only [sz, ss]
        refine tq (i := 4) (d := 22) ?_
        simp only [sz, ss]
        refine tq (i := 5) (d := 23) ?_
        simp only [sz, ss]
        refine tq (i := 6) (d := 24) ?_
        simp only [sz, ss]
        refine wpAnyH_ready (rs := [1]) (by kernel_rfl) (by simp) ?_
        refine AllReadyH.cons rfl (fun K hK => ?_) AllReadyH.nil
        go_simp
        refine (l13Words_any _).mono ?_
        rintro e w2 ⟨rfl, hw2⟩
        have hWC2 : w2.cell? ⟨wr.heap.size, X.vKind.toNat, none⟩ = some (.string wd) := by rw [hw2]; exact hWC
        have hb2 : Hid (Below wr.heap.size wr w2) := by rw [hw2]; exact (Below.refl _ _).drew.alloc (Nat.le_refl _) _
        have hB2 : Hid (Below w1.heap.size w1 w2) := hb.out.trans (hb2.out.mono hb.out.size)
        clear hw2 hWC
        refine hK.out _ _ (cell_on hb2.out hHeld) (fun hHeld => ?_)
        clear hK K
        refine tq (i := 7) (d := 25) ?_
        simp only [sz, ss]
        refine wpAnyH_ready (rs := [8]) (by kernel_rfl) (by simp) ?_
        refine AllReadyH.cons rfl (fun K hK => ?_) AllReadyH.nil
        go_simp
        refine hK.out _ _ hHeld (fun hHeld => ?_)
        clear hK K
        refine tq (i := 9) (d := 27) ?_
        simp only [sz, ss]
        refine tq (i := 10) (d := 3) ?_
        simp only [sz, ss]
        refine wpAnyH_done (by kernel_rfl) ?_ _
        have q0 := cell_on hb2.out y0
        have q1 := cell_on hb2.out y1
        have q2 := cell_on hb2.out y2
        clear hWC2 y0 y1 y2 z0 hk0 hk16
        have e1 : ¬ 9223372036854775807 < (A2 ++ wd).size + 1 := by rw [stx_size]; omega
        have e2 : ¬ 9223372036854775807 < (A2 ++ wd).size + 1 + X.vName.size := by rw [stx_size]; omega
        have e3 : (A2 ++ wd).size ≤ 348 := by rw [stx_size]; omega
        have hmA : Hid (∀ t : ByteArray, wd ++ t = instrT X → (A2 ++ wd ++ t).data.toList = joinT (l.take (j + 1))) := fun t ht => by show _ = _; rw [← hmo.out _ ht]; simp
        have hmB : Hid (wd = instrT X → (A2 ++ wd).data.toList = joinT (l.take (j + 1))) := fun ht => hmo.out _ ht
        clear hmo d1 hac
        generalize A2 ++ wd = A3 at e1 e2 e3 hmA hmB ⊢
        by_cases hna : 3 ≤ X.vKind ∧ X.vKind ≤ 6
        · have hT : Hid _ := hT3.out (opT_name hna)
          have m1 : ¬ X.vKind = 1 := by omega
          have p1 : (X.vKind == 1) = false := by simpa using m1
          have m10 : ¬ X.vKind = 10 := by omega
          have p10 : (X.vKind == 10) = false := by simpa using m10
          have m11 : ¬ X.vKind = 11 := by omega
          have p11 : (X.vKind == 11) = false := by simpa using m11
          have hna' : Hid (3 ≤ X.vKind ∧ X.vKind ≤ 6) := hna
          clear hna hT0 hT1 hT3 hmB hkd
          go_wp2_with (go_at_call 20; refine (named_yes _ _ hna'.out).mono ?_; rintro e w9 ⟨rfl, rfl⟩)
          go_roundw
          case rel => exact ⟨j + 1, _, by omega, by go_num, rfl, by show _ = _; have := hmA.out (⟨#[32]⟩ ++ X.vName) (by rw [hT.out]; rw [ByteArray.append_assoc]); simpa [stx_app] using this, hB2⟩
          case measure => simp [intOf]; omega
        by_cases hk1 : X.vKind = 1
        · have hT : Hid _ := hT1.out (Or.inl (opT_num hk1))
          have hna' : Hid (¬ (3 ≤ X.vKind ∧ X.vKind ≤ 6)) := hna
          have p1 : (X.vKind == 1) = true := by simp [hk1]
          have p10 : (X.vKind == 10) = false := by simp [hk1]
          have p11 : (X.vKind == 11) = false := by simp [hk1]
          clear hna hT0 hT1 hT3 hmB hkd hk1
          go_wp2_with (go_at_call 20; refine (named_no _ _ hna'.out).mono ?_; rintro e w9 ⟨rfl, rfl⟩)
          refine (l13Dec_any hn'.out.1 hn'.out.2).mono ?_
          rintro e w3 ⟨rfl, hb3⟩
          have hB3 : Hid (Below w1.heap.size w1 w3) := hB2.out.trans (hb3.mono hB2.out.size)
          have hds := hds'.out
          generalize decT X.vN = dz at hds hT ⊢
          have e4 : ¬ 9223372036854775807 < A3.size + 1 + dz.size := by omega
          go_wp2_with fail
          go_roundw
          case rel => exact ⟨j + 1, _, by omega, by go_num, rfl, by show _ = _; have := hmA.out (⟨#[32]⟩ ++ dz) (by rw [hT.out]; rw [ByteArray.append_assoc]); simpa [stx_app] using this, hB3⟩
          case measure => simp [intOf]; omega
        by_cases hk10 : X.vKind = 10
        · have hT : Hid _ := hT1.out (Or.inr (opT_place (Or.inl hk10)))
          have hna' : Hid (¬ (3 ≤ X.vKind ∧ X.vKind ≤ 6)) := hna
          have p1 : (X.vKind == 1) = false := by simp [hk10]
          have p10 : (X.vKind == 10) = true := by simp [hk10]
          have p11 : (X.vKind == 11) = false := by simp [hk10]
          clear hna hT0 hT1 hT3 hmB hkd hk10 hk1
          go_wp2_with (go_at_call 20; refine (named_no _ _ hna'.out).mono ?_; rintro e w9 ⟨rfl, rfl⟩)
          refine (l13Dec_any hn'.out.1 hn'.out.2).mono ?_
          rintro e w3 ⟨rfl, hb3⟩
          have hB3 : Hid (Below w1.heap.size w1 w3) := hB2.out.trans (hb3.mono hB2.out.size)
          have hds := hds'.out
          generalize decT X.vN = dz at hds hT ⊢
          have e4 : ¬ 9223372036854775807 < A3.size + 1 + dz.size := by omega
          go_wp2_with fail
          go_roundw
          case rel => exact ⟨j + 1, _, by omega, by go_num, rfl, by show _ = _; have := hmA.out (⟨#[32]⟩ ++ dz) (by rw [hT.out]; rw [ByteArray.append_assoc]); simpa [stx_app] using this, hB3⟩
          case measure => simp [intOf]; omega
        by_cases hk11 : X.vKind = 11
        · have hT : Hid _ := hT1.out (Or.inr (opT_place (Or.inr hk11)))
          have hna' : Hid (¬ (3 ≤ X.vKind ∧ X.vKind ≤ 6)) := hna
          have p1 : (X.vKind == 1) = false := by simp [hk11]
          have p10 : (X.vKind == 10) = false := by simp [hk11]
          have p11 : (X.vKind == 11) = true := by simp [hk11]
          clear hna hT0 hT1 hT3 hmB hkd hk11 hk1 hk10
          go_wp2_with (go_at_call 20; refine (named_no _ _ hna'.out).mono ?_; rintro e w9 ⟨rfl, rfl⟩)
          refine (l13Dec_any hn'.out.1 hn'.out.2).mono ?_
          rintro e w3 ⟨rfl, hb3⟩
          have hB3 : Hid (Below w1.heap.size w1 w3) := hB2.out.trans (hb3.mono hB2.out.size)
          have hds := hds'.out
          generalize decT X.vN = dz at hds hT ⊢
          have e4 : ¬ 9223372036854775807 < A3.size + 1 + dz.size := by omega
          go_wp2_with fail
          go_roundw
          case rel => exact ⟨j + 1, _, by omega, by go_num, rfl, by show _ = _; have := hmA.out (⟨#[32]⟩ ++ dz) (by rw [hT.out]; rw [ByteArray.append_assoc]); simpa [stx_app] using this, hB3⟩
          case measure => simp [intOf]; omega
        have hT : Hid _ := hT0.out (opT_none hk1 (by omega) hna)
        have hna' : Hid (¬ (3 ≤ X.vKind ∧ X.vKind ≤ 6)) := hna
        have p1 : (X.vKind == 1) = false := by simpa using hk1
        have p10 : (X.vKind == 10) = false := by simpa using hk10
        have p11 : (X.vKind == 11) = false := by simpa using hk11
        clear hna hT0 hT1 hT3 hmA hkd
        go_wp2_with (go_at_call 20; refine (named_no _ _ hna'.out).mono ?_; rintro e w9 ⟨rfl, rfl⟩)
        go_roundw
        case rel => exact ⟨j + 1, _, by omega, by go_num, rfl, hmB.out hT.out.symm, hB2⟩
        case measure => simp [intOf]; omega
    obtain rfl : j = l.length := by omega
    have hfin : Hid (acc = ⟨(joinT l).toArray⟩) := by
      show _ = _
      have := hacc.out
      rw [List.take_length] at this
      rw [← this, Lib.mk_data]
    go_wp2_with fail
    go_ret
    exact ⟨⟨true, ys, by rw [hfin.out]; rfl, hans'.out⟩, hB1.out.trans (hb.out.mono hB1.out.size)⟩
end Go.Proofs.YtdapgihghbmlfaaGreatDoor
