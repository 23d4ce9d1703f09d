/- FnUnder, walked. -/
import Derived.Test.YtddhacalnfkopabUnderTail
namespace Go.Proofs.Ytddhacalnfkopab.fnUnder
open Go.RowKit Go.Deep
set_option maxHeartbeats 400000 in
theorem big_any {a : Option Addr} {n cap : Nat} (w : World) : Calls Try.prog 9 #[.slice a n cap] w fun e w' => e = .returned (.bool (decide ((1048576 : Int) < (n : Int)))) ∧ w' = w := by
  go_enter Try.func9, Try.ntmps9
  go_wp2
  go_ret
  exact ⟨rfl, rfl⟩
set_option maxRecDepth 100000 in
set_option maxHeartbeats 4000000 in
theorem walk {a : Option Addr} {n cap : Nat} (w : World) (hlen : n ≤ maxLen) (hcode : n ≤ 1048576 → CodeAt w a n) :
    Calls Try.prog 3 #[.slice a n cap] w fun e w' => e = .returned (.bool true) ∧ Below w.heap.size w w' := by
  unfold maxLen at hlen
  by_cases hbig : (1048576 : Int) < (n : Int)
  · clear hcode
    go_enter Try.func3, Try.ntmps3
    go_wp2_with (go_at_call 9; refine (big_any _).mono ?_; rintro e w' ⟨rfl, rfl⟩; rw [decide_eq_true hbig])
    go_ret
    exact ⟨rfl, Below.refl _ _⟩
  · have hc' : Hid (CodeAt w a n) := hcode (by omega)
    have hn0 : n ≤ 1048576 := by omega
    clear hcode
    go_enter Try.func3, Try.ntmps3
    go_wp2_with fail
    refine (big_any _).mono ?_
    rintro e w0 ⟨rfl, rfl⟩
    rw [decide_eq_false (show ¬ (1048576 : Int) < (n : Int) by omega)]
    go_wp2_with fail
    refine (drawPathsOf_any hc'.out).mono ?_
    rintro e w2 ⟨⟨ta, ka, xa, rfl, hta⟩, hb2⟩
    obtain ⟨⟨sa, rfl⟩, aa, ca, rfl⟩ := hta.form
    have hta' : Hid (TreeAt w2 0 4 (.string sa) (.slice aa (kidsOf xa).length ca) xa) := TreeAt.keep (Nat.le_refl _) (Nat.zero_le _) (fun _ _ _ => rfl) 4 _ _ _ hta
    have hB2 : Hid (Below w0.heap.size w0 w2) := hb2
    clear hta hb2
    go_wp2_with fail
    have hbA : Hid (Below w2.heap.size w2 (w2.alloc (.cells #[.string sa, .slice aa (kidsOf xa).length ca] 26))) := (Below.refl _ _).alloc (Nat.le_refl _) _
    have hG4 : Hid (USt w2.heap.size (.string sa) (.slice aa (kidsOf xa).length ca) xa (w2.alloc (.cells #[.string sa, .slice aa (kidsOf xa).length ca] 26))) := ⟨hta'.out.below hbA.out, Box.new w2 _ _⟩
    have hB4 : Hid (Below w0.heap.size w0 (w2.alloc (.cells #[.string sa, .slice aa (kidsOf xa).length ca] 26))) := hB2.out.trans (hbA.out.mono hB2.out.size)
    clear hbA hta' hB2
    generalize w2.alloc (.cells #[.string sa, .slice aa (kidsOf xa).length ca] 26) = w4 at *
    generalize w2.heap.size = A at *
    clear w2
    rename_i K1 hK1 K2 hK2
    cases hoa : okB (szD 4 xa 30) with
    | false =>
      have hG0 : Hid (USt A (.string sa) (.slice aa (kidsOf xa).length ca) xa w4.drew) := hG4.out.below (Below.drew (Below.refl _ _))
      have hB0 : Hid (Below w0.heap.size w0 w4.drew) := hB4.out.drew
      obtain ⟨a0, a1⟩ := USt.cells hG0.out
      refine wp_region_held_drew (S := fun w' => w'.cell? ⟨A, 0, none⟩ = some (.string sa) ∧ w'.cell? ⟨A, 1, none⟩ = some (.slice aa (kidsOf xa).length ca)) (by kernel_rfl) (by refine ⟨?_, ?_⟩ <;> assumption) (fun hHeld => ?_)
      refine take_lit (i := 0) (d := 13) (v := ?_) rfl rfl (by kernel_rfl) (by kernel_rfl) (by kernel_rfl) (fun _ _ _ h => h) (Or.inl ⟨by rfl, ?_⟩) (by assumption) ?_
      rotate_left
      · (intro w hSw; (try dsimp only at hSw); first | (go_simp; done) | (go_simp; with_reducible rfl))
      simp only [List.set_cons_zero, List.set_cons_succ]
      refine take_lit (i := 2) (d := 15) (v := ?_) rfl rfl (by kernel_rfl) (by kernel_rfl) (by kernel_rfl) (fun _ _ _ h => h) (Or.inl ⟨by rfl, ?_⟩) (by assumption) ?_
      rotate_left
      · (intro w hSw; (try dsimp only at hSw); first | (go_simp; done) | (go_simp; with_reducible rfl))
      simp only [List.set_cons_zero, List.set_cons_succ]
      refine wpAnyH_ready (rs := [1]) (by kernel_rfl) (by simp) ?_
      refine AllReadyH.cons rfl (fun K hK => ?_) AllReadyH.nil
      go_simp
      refine (implTreeOk_any (n := 4) (by exact hG0.out.1)).mono ?_
      rintro e w11 ⟨rfl, hb1⟩
      rw [hoa]
      have hG1 : Hid (USt A (.string sa) (.slice aa (kidsOf xa).length ca) xa w11) := hG0.out.below hb1
      have hB1 : Hid (Below w0.heap.size w0 w11) := hB0.out.trans (hb1.mono hB0.out.size)
      try dsimp only
      refine hK.out _ _ ⟨cell_on hb1 hHeld.1, cell_on hb1 hHeld.2⟩ (fun hHeld => ?_)
      clear hK K
      refine wpAnyH_ready (rs := [3]) (by kernel_rfl) (by simp) ?_
      refine AllReadyH.cons rfl (fun K hK => ?_) AllReadyH.nil
      go_simp
      refine (specTreeOk_any (n := 4) (by exact hG1.out.1)).mono ?_
      rintro e w12 ⟨rfl, hb1⟩
      rw [hoa]
      have hG2 : Hid (USt A (.string sa) (.slice aa (kidsOf xa).length ca) xa w12) := hG1.out.below hb1
      have hB2 : Hid (Below w0.heap.size w0 w12) := hB1.out.trans (hb1.mono hB1.out.size)
      try dsimp only
      refine hK.out _ _ ⟨cell_on hb1 hHeld.1, cell_on hb1 hHeld.2⟩ (fun hHeld => ?_)
      clear hK K
      refine take_lit (i := 4) (d := 17) (v := ?_) rfl rfl (by kernel_rfl) (by kernel_rfl) (by kernel_rfl) (fun _ _ _ h => h) (Or.inl ⟨by rfl, ?_⟩) (by assumption) ?_
      rotate_left
      · (intro w hSw; (try dsimp only at hSw); first | (go_simp; done) | (go_simp; with_reducible rfl))
      simp only [List.set_cons_zero, List.set_cons_succ]
      refine take_lit (i := 5) (d := 18) (v := ?_) rfl rfl (by kernel_rfl) (by kernel_rfl) (by kernel_rfl) (fun _ _ _ h => h) (Or.inl ⟨by rfl, ?_⟩) (by assumption) ?_
      rotate_left
      · (intro w hSw; (try dsimp only at hSw); first | (go_simp; done) | (go_simp; with_reducible rfl))
      simp only [List.set_cons_zero, List.set_cons_succ]
      refine take_lit (i := 6) (d := 19) (v := ?_) rfl rfl (by kernel_rfl) (by kernel_rfl) (by kernel_rfl) (fun _ _ _ h => h) (Or.inl ⟨by rfl, ?_⟩) (by assumption) ?_
      rotate_left
      · (intro w hSw; (try dsimp only at hSw); first | (go_simp; done) | (go_simp; with_reducible rfl))
      simp only [List.set_cons_zero, List.set_cons_succ]
      refine wpAnyH_ready (rs := [7]) (by kernel_rfl) (by simp) ?_
      refine AllReadyH.cons rfl (fun K hK => ?_) AllReadyH.nil
      go_simp
      refine (specTreeOk_any (n := 4) (by exact hG2.out.1)).mono ?_
      rintro e w13 ⟨rfl, hb1⟩
      rw [hoa]
      have hG3 : Hid (USt A (.string sa) (.slice aa (kidsOf xa).length ca) xa w13) := hG2.out.below hb1
      have hB3 : Hid (Below w0.heap.size w0 w13) := hB2.out.trans (hb1.mono hB2.out.size)
      try dsimp only
      refine hK.out _ _ ⟨cell_on hb1 hHeld.1, cell_on hb1 hHeld.2⟩ (fun hHeld => ?_)
      clear hK K
      refine take_lit (i := 8) (d := 21) (v := ?_) rfl rfl (by kernel_rfl) (by kernel_rfl) (by kernel_rfl) (fun _ _ _ h => h) (Or.inl ⟨by rfl, ?_⟩) (by assumption) ?_
      rotate_left
      · (intro w hSw; (try dsimp only at hSw); first | (go_simp; done) | (go_simp; with_reducible rfl))
      simp only [List.set_cons_zero, List.set_cons_succ]
      refine take_lit (i := 9) (d := 22) (v := ?_) rfl rfl (by kernel_rfl) (by kernel_rfl) (by kernel_rfl) (fun _ _ _ h => h) (Or.inl ⟨by rfl, ?_⟩) (by assumption) ?_
      rotate_left
      · (intro w hSw; (try dsimp only at hSw); first | (go_simp; done) | (go_simp; with_reducible rfl))
      simp only [List.set_cons_zero, List.set_cons_succ]
      refine wpAnyH_done (by kernel_rfl) ?_ _
      clear hoa
      go_wp2_with fail
      generalize w13 = wz at *
      have hGz : Hid (USt A (.string sa) (.slice aa (kidsOf xa).length ca) xa wz) := hG3
      have hBz : Hid (Below w0.heap.size w0 wz) := hB3
      clear hG0 hB0 hG1 hB1 hG2 hB2 hG3 hB3
      go_wp2_with fail
      have hG0 : Hid (USt A (.string sa) (.slice aa (kidsOf xa).length ca) xa wz.drew) := hGz.out.below (Below.drew (Below.refl _ _))
      have hB0 : Hid (Below w0.heap.size w0 wz.drew) := hBz.out.drew
      obtain ⟨a0, a1⟩ := USt.cells hG0.out
      refine wp_region_held_drew (S := fun w' => w'.cell? ⟨A, 0, none⟩ = some (.string sa) ∧ w'.cell? ⟨A, 1, none⟩ = some (.slice aa (kidsOf xa).length ca)) (by kernel_rfl) (by refine ⟨?_, ?_⟩ <;> assumption) (fun hHeld => ?_)
      refine take_lit (i := 0) (d := 23) (v := ?_) rfl rfl (by kernel_rfl) (by kernel_rfl) (by kernel_rfl) (fun _ _ _ h => h) (Or.inl ⟨by rfl, ?_⟩) (by assumption) ?_
      rotate_left
      · (intro w hSw; (try dsimp only at hSw); first | (go_simp; done) | (go_simp; with_reducible rfl))
      simp only [List.set_cons_zero, List.set_cons_succ]
      refine take_lit (i := 2) (d := 25) (v := ?_) rfl rfl (by kernel_rfl) (by kernel_rfl) (by kernel_rfl) (fun _ _ _ h => h) (Or.inl ⟨by rfl, ?_⟩) (by assumption) ?_
      rotate_left
      · (intro w hSw; (try dsimp only at hSw); first | (go_simp; done) | (go_simp; with_reducible rfl))
      simp only [List.set_cons_zero, List.set_cons_succ]
      refine wpAnyH_ready (rs := [1]) (by kernel_rfl) (by simp) ?_
      refine AllReadyH.cons rfl (fun K hK => ?_) AllReadyH.nil
      go_simp
      refine (implTreeOk_any (n := 4) (by exact hG0.out.1)).mono ?_
      rintro e w11 ⟨rfl, hb1⟩
      have hG1 : Hid (USt A (.string sa) (.slice aa (kidsOf xa).length ca) xa w11) := hG0.out.below hb1
      have hB1 : Hid (Below w0.heap.size w0 w11) := hB0.out.trans (hb1.mono hB0.out.size)
      try dsimp only
      refine hK.out _ _ ⟨cell_on hb1 hHeld.1, cell_on hb1 hHeld.2⟩ (fun hHeld => ?_)
      clear hK K
      refine wpAnyH_ready (rs := [3]) (by kernel_rfl) (by simp) ?_
      refine AllReadyH.cons rfl (fun K hK => ?_) AllReadyH.nil
      go_simp
      refine (specTreeOk_any (n := 4) (by exact hG1.out.1)).mono ?_
      rintro e w12 ⟨rfl, hb1⟩
      have hG2 : Hid (USt A (.string sa) (.slice aa (kidsOf xa).length ca) xa w12) := hG1.out.below hb1
      have hB2 : Hid (Below w0.heap.size w0 w12) := hB1.out.trans (hb1.mono hB1.out.size)
      try dsimp only
      refine hK.out _ _ ⟨cell_on hb1 hHeld.1, cell_on hb1 hHeld.2⟩ (fun hHeld => ?_)
      clear hK K
      refine take_lit (i := 4) (d := 27) (v := ?_) rfl rfl (by kernel_rfl) (by kernel_rfl) (by kernel_rfl) (fun _ _ _ h => h) (Or.inl ⟨by rfl, ?_⟩) (by assumption) ?_
      rotate_left
      · (intro w hSw; (try dsimp only at hSw); first | (go_simp; done) | (go_simp; with_reducible rfl))
      simp only [List.set_cons_zero, List.set_cons_succ]
      refine take_lit (i := 5) (d := 2) (v := ?_) rfl rfl (by kernel_rfl) (by kernel_rfl) (by kernel_rfl) (fun _ _ _ h => h) (Or.inl ⟨by rfl, ?_⟩) (by assumption) ?_
      rotate_left
      · (intro w hSw; (try dsimp only at hSw); first | (go_simp; done) | (go_simp; with_reducible rfl))
      simp only [List.set_cons_zero, List.set_cons_succ]
      refine wpAnyH_done (by kernel_rfl) ?_ _
      go_wp2_with fail
      go_ret
      exact ⟨by simp, hB2.out⟩
    | true =>
      have hG0 : Hid (USt A (.string sa) (.slice aa (kidsOf xa).length ca) xa w4.drew) := hG4.out.below (Below.drew (Below.refl _ _))
      have hB0 : Hid (Below w0.heap.size w0 w4.drew) := hB4.out.drew
      obtain ⟨a0, a1⟩ := USt.cells hG0.out
      refine wp_region_held_drew (S := fun w' => w'.cell? ⟨A, 0, none⟩ = some (.string sa) ∧ w'.cell? ⟨A, 1, none⟩ = some (.slice aa (kidsOf xa).length ca)) (by kernel_rfl) (by refine ⟨?_, ?_⟩ <;> assumption) (fun hHeld => ?_)
      refine take_lit (i := 0) (d := 13) (v := ?_) rfl rfl (by kernel_rfl) (by kernel_rfl) (by kernel_rfl) (fun _ _ _ h => h) (Or.inl ⟨by rfl, ?_⟩) (by assumption) ?_
      rotate_left
      · (intro w hSw; (try dsimp only at hSw); first | (go_simp; done) | (go_simp; with_reducible rfl))
      simp only [List.set_cons_zero, List.set_cons_succ]
      refine take_lit (i := 2) (d := 15) (v := ?_) rfl rfl (by kernel_rfl) (by kernel_rfl) (by kernel_rfl) (fun _ _ _ h => h) (Or.inl ⟨by rfl, ?_⟩) (by assumption) ?_
      rotate_left
      · (intro w hSw; (try dsimp only at hSw); first | (go_simp; done) | (go_simp; with_reducible rfl))
      simp only [List.set_cons_zero, List.set_cons_succ]
      refine wpAnyH_ready (rs := [1]) (by kernel_rfl) (by simp) ?_
      refine AllReadyH.cons rfl (fun K hK => ?_) AllReadyH.nil
      go_simp
      refine (implTreeOk_any (n := 4) (by exact hG0.out.1)).mono ?_
      rintro e w11 ⟨rfl, hb1⟩
      rw [hoa]
      have hG1 : Hid (USt A (.string sa) (.slice aa (kidsOf xa).length ca) xa w11) := hG0.out.below hb1
      have hB1 : Hid (Below w0.heap.size w0 w11) := hB0.out.trans (hb1.mono hB0.out.size)
      try dsimp only
      refine hK.out _ _ ⟨cell_on hb1 hHeld.1, cell_on hb1 hHeld.2⟩ (fun hHeld => ?_)
      clear hK K
      refine wpAnyH_ready (rs := [3]) (by kernel_rfl) (by simp) ?_
      refine AllReadyH.cons rfl (fun K hK => ?_) AllReadyH.nil
      go_simp
      refine (specTreeOk_any (n := 4) (by exact hG1.out.1)).mono ?_
      rintro e w12 ⟨rfl, hb1⟩
      rw [hoa]
      have hG2 : Hid (USt A (.string sa) (.slice aa (kidsOf xa).length ca) xa w12) := hG1.out.below hb1
      have hB2 : Hid (Below w0.heap.size w0 w12) := hB1.out.trans (hb1.mono hB1.out.size)
      try dsimp only
      refine hK.out _ _ ⟨cell_on hb1 hHeld.1, cell_on hb1 hHeld.2⟩ (fun hHeld => ?_)
      clear hK K
      refine take_lit (i := 4) (d := 17) (v := ?_) rfl rfl (by kernel_rfl) (by kernel_rfl) (by kernel_rfl) (fun _ _ _ h => h) (Or.inl ⟨by rfl, ?_⟩) (by assumption) ?_
      rotate_left
      · (intro w hSw; (try dsimp only at hSw); first | (go_simp; done) | (go_simp; with_reducible rfl))
      simp only [List.set_cons_zero, List.set_cons_succ]
      refine take_lit (i := 5) (d := 18) (v := ?_) rfl rfl (by kernel_rfl) (by kernel_rfl) (by kernel_rfl) (fun _ _ _ h => h) (Or.inl ⟨by rfl, ?_⟩) (by assumption) ?_
      rotate_left
      · (intro w hSw; (try dsimp only at hSw); first | (go_simp; done) | (go_simp; with_reducible rfl))
      simp only [List.set_cons_zero, List.set_cons_succ]
      refine take_lit (i := 6) (d := 19) (v := ?_) rfl rfl (by kernel_rfl) (by kernel_rfl) (by kernel_rfl) (fun _ _ _ h => h) (Or.inl ⟨by rfl, ?_⟩) (by assumption) ?_
      rotate_left
      · (intro w hSw; (try dsimp only at hSw); first | (go_simp; done) | (go_simp; with_reducible rfl))
      simp only [List.set_cons_zero, List.set_cons_succ]
      refine wpAnyH_ready (rs := [7]) (by kernel_rfl) (by simp) ?_
      refine AllReadyH.cons rfl (fun K hK => ?_) AllReadyH.nil
      go_simp
      refine (specTreeOk_any (n := 4) (by exact hG2.out.1)).mono ?_
      rintro e w13 ⟨rfl, hb1⟩
      rw [hoa]
      have hG3 : Hid (USt A (.string sa) (.slice aa (kidsOf xa).length ca) xa w13) := hG2.out.below hb1
      have hB3 : Hid (Below w0.heap.size w0 w13) := hB2.out.trans (hb1.mono hB2.out.size)
      try dsimp only
      refine hK.out _ _ ⟨cell_on hb1 hHeld.1, cell_on hb1 hHeld.2⟩ (fun hHeld => ?_)
      clear hK K
      refine take_lit (i := 8) (d := 21) (v := ?_) rfl rfl (by kernel_rfl) (by kernel_rfl) (by kernel_rfl) (fun _ _ _ h => h) (Or.inl ⟨by rfl, ?_⟩) (by assumption) ?_
      rotate_left
      · (intro w hSw; (try dsimp only at hSw); first | (go_simp; done) | (go_simp; with_reducible rfl))
      simp only [List.set_cons_zero, List.set_cons_succ]
      refine take_lit (i := 9) (d := 22) (v := ?_) rfl rfl (by kernel_rfl) (by kernel_rfl) (by kernel_rfl) (fun _ _ _ h => h) (Or.inl ⟨by rfl, ?_⟩) (by assumption) ?_
      rotate_left
      · (intro w hSw; (try dsimp only at hSw); first | (go_simp; done) | (go_simp; with_reducible rfl))
      simp only [List.set_cons_zero, List.set_cons_succ]
      refine wpAnyH_done (by kernel_rfl) ?_ _
      have hoa' : Hid (okB (szD 4 xa 30) = true) := hoa
      clear hoa a0 a1 hHeld
      exact hK2 _ _ (wp_cond_false rfl (wp_skip (hK1 _ _ (tail_any hoa' hG3 hB3))))

end Go.Proofs.Ytddhacalnfkopab.fnUnder
