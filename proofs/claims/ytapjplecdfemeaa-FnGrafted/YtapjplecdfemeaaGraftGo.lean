/- FnGrafted walked. -/
import Derived.Test.YtapjplecdfemeaaGraftSeven
namespace Go.Proofs.Ytapjplecdfemeaa.fnGrafted
open Go.RowKit Go.Deep
set_option maxHeartbeats 400000 in
theorem big_any {a : Option Addr} {n cap : Nat} (w : World) : Calls Try.prog 5 #[.slice a n cap] w fun e w' => e = .returned (.bool (decide ((1048576 : Int) < (n : Int)))) ∧ w' = w := by
  go_enter Try.func5, Try.ntmps5
  go_wp2
  go_ret
  exact ⟨rfl, rfl⟩
set_option maxRecDepth 100000 in
set_option maxHeartbeats 4000000 in
theorem walk {a : Option Addr} {n cap : Nat} (w : World) (hlen : n ≤ maxLen) (hcode : n ≤ 1048576 → CodeAt w a n) :
    Calls Try.prog 4 #[.slice a n cap] w fun e w' => e = .returned (.bool true) ∧ Below w.heap.size w w' := by
  unfold maxLen at hlen
  by_cases hbig : (1048576 : Int) < (n : Int)
  · clear hcode
    go_enter Try.func4, Try.ntmps4
    go_wp2_with (go_at_call 5; refine (big_any _).mono ?_; rintro e w' ⟨rfl, rfl⟩; rw [decide_eq_true hbig])
    go_ret
    exact ⟨rfl, Below.refl _ _⟩
  · have hc' : Hid (CodeAt w a n) := hcode (by omega)
    have hn0 : n ≤ 1048576 := by omega
    clear hcode
    go_enter Try.func4, Try.ntmps4
    go_wp2_with fail
    refine (big_any _).mono ?_
    rintro e w0 ⟨rfl, rfl⟩
    rw [decide_eq_false (show ¬ (1048576 : Int) < (n : Int) by omega)]
    go_wp2_with fail
    refine (drawTreeOk_any hc'.out).mono ?_
    rintro e w2 ⟨⟨ta, ka, xa, rfl, hta⟩, hb2⟩
    obtain ⟨⟨sa, rfl⟩, aa, ca, rfl⟩ := hta.form
    have hta' : Hid (TreeAt w2 0 6 (.string sa) (.slice aa (kidsOf xa).length ca) xa) := TreeAt.keep (Nat.le_refl _) (Nat.zero_le _) (fun _ _ _ => rfl) 6 _ _ _ (TreeAt.more 5 _ _ _ hta)
    have hB2 : Hid (Below w0.heap.size w0 w2) := hb2
    clear hta hb2
    go_wp2_with fail
    have hbA : Hid (Below w2.heap.size w2 (w2.alloc (.cells #[.string sa, .slice aa (kidsOf xa).length ca] 26))) := (Below.refl _ _).alloc (Nat.le_refl _) _
    have bA : Hid (Box (w2.alloc (.cells #[.string sa, .slice aa (kidsOf xa).length ca] 26)) w2.heap.size [.string sa, .slice aa (kidsOf xa).length ca] 26) := Box.new w2 _ _
    refine (drawSizeOf_any (CodeAt.below hc'.out (hB2.out.trans (hbA.out.mono hB2.out.size)))).mono ?_
    rintro e w3 ⟨⟨tb, kb, xb, rfl, htb⟩, hb3⟩
    obtain ⟨⟨sb, rfl⟩, ab, cb, rfl⟩ := htb.form
    have htb' : Hid (TreeAt w3 0 5 (.string sb) (.slice ab (kidsOf xb).length cb) xb) := TreeAt.keep (Nat.le_refl _) (Nat.zero_le _) (fun _ _ _ => rfl) 5 _ _ _ htb
    have hb23 : Below w2.heap.size w2 w3 := hbA.out.trans (hb3.mono hbA.out.size)
    have hta3 : Hid (TreeAt w3 0 6 (.string sa) (.slice aa (kidsOf xa).length ca) xa) := hta'.out.below hb23
    have bA3 : Hid (Box w3 w2.heap.size [.string sa, .slice aa (kidsOf xa).length ca] 26) := bA.out.below hb3 bA.out.lt
    have hB3 : Hid (Below w0.heap.size w0 w3) := hB2.out.trans (hb23.mono hB2.out.size)
    clear htb hb3 hb23 hta' bA hbA hB2
    go_wp2_with fail
    have hbB : Below w3.heap.size w3 (w3.alloc (.cells #[.string sb, .slice ab (kidsOf xb).length cb] 26)) := (Below.refl _ _).alloc (Nat.le_refl _) _
    have hG4 : Hid (GSt w2.heap.size w3.heap.size (.string sa) (.slice aa (kidsOf xa).length ca) (.string sb) (.slice ab (kidsOf xb).length cb) xa xb (w3.alloc (.cells #[.string sb, .slice ab (kidsOf xb).length cb] 26))) := ⟨hta3.out.below hbB, htb'.out.below hbB, bA3.out.alloc _, Box.new w3 _ _⟩
    have hB4 : Hid (Below w0.heap.size w0 (w3.alloc (.cells #[.string sb, .slice ab (kidsOf xb).length cb] 26))) := hB3.out.trans (hbB.mono hB3.out.size)
    clear hbB hta3 htb' bA3 hB3
    generalize w3.alloc (.cells #[.string sb, .slice ab (kidsOf xb).length cb] 26) = w4 at *
    generalize w3.heap.size = B at *
    generalize w2.heap.size = A at *
    clear w2 w3
    cases hoa : okB (szD 6 xa 30) with
    | false =>
      have hG0 : Hid (GSt A B (.string sa) (.slice aa (kidsOf xa).length ca) (.string sb) (.slice ab (kidsOf xb).length cb) xa xb w4.drew) := hG4.out.below (Below.drew (Below.refl _ _))
      have hB0 : Hid (Below w0.heap.size w0 w4.drew) := hB4.out.drew
      obtain ⟨a0, a1, b0, b1⟩ := GSt.cells hG0.out
      refine wp_region_held_drew (S := fun w' => w'.cell? ⟨A, 0, none⟩ = some (.string sa) ∧ w'.cell? ⟨A, 1, none⟩ = some (.slice aa (kidsOf xa).length ca) ∧ w'.cell? ⟨B, 0, none⟩ = some (.string sb) ∧ w'.cell? ⟨B, 1, none⟩ = some (.slice ab (kidsOf xb).length cb)) (by kernel_rfl) (by refine ⟨?_, ?_, ?_, ?_⟩ <;> assumption) (fun hHeld => ?_)
      refine take_lit (i := 0) (d := 15) (v := ?_) rfl rfl (by kernel_rfl) (by kernel_rfl) (by kernel_rfl) (fun _ _ _ h => h) (Or.inl ⟨by rfl, ?_⟩) (by assumption) ?_
      rotate_left
      · (intro w hSw; (try dsimp only at hSw); first | (go_simp; done) | (go_simp; with_reducible rfl))
      simp only [List.set_cons_zero, List.set_cons_succ]
      refine take_lit (i := 2) (d := 17) (v := ?_) rfl rfl (by kernel_rfl) (by kernel_rfl) (by kernel_rfl) (fun _ _ _ h => h) (Or.inl ⟨by rfl, ?_⟩) (by assumption) ?_
      rotate_left
      · (intro w hSw; (try dsimp only at hSw); first | (go_simp; done) | (go_simp; with_reducible rfl))
      simp only [List.set_cons_zero, List.set_cons_succ]
      refine wpAnyH_ready (rs := [1]) (by kernel_rfl) (by simp) ?_
      refine AllReadyH.cons rfl (fun K hK => ?_) AllReadyH.nil
      go_simp
      refine (implTreeOk_any (n := 6) (by exact hG0.out.1)).mono ?_
      rintro e w11 ⟨rfl, hb1⟩
      rw [hoa]
      have hG1 : Hid (GSt A B (.string sa) (.slice aa (kidsOf xa).length ca) (.string sb) (.slice ab (kidsOf xb).length cb) xa xb w11) := hG0.out.below hb1
      have hB1 : Hid (Below w0.heap.size w0 w11) := hB0.out.trans (hb1.mono hB0.out.size)
      try dsimp only
      refine hK.out _ _ ⟨cell_on hb1 hHeld.1, cell_on hb1 hHeld.2.1, cell_on hb1 hHeld.2.2.1, cell_on hb1 hHeld.2.2.2⟩ (fun hHeld => ?_)
      clear hK K
      refine wpAnyH_ready (rs := [3]) (by kernel_rfl) (by simp) ?_
      refine AllReadyH.cons rfl (fun K hK => ?_) AllReadyH.nil
      go_simp
      refine (specTreeOk_any (n := 6) (by exact hG1.out.1)).mono ?_
      rintro e w12 ⟨rfl, hb1⟩
      rw [hoa]
      have hG2 : Hid (GSt A B (.string sa) (.slice aa (kidsOf xa).length ca) (.string sb) (.slice ab (kidsOf xb).length cb) xa xb w12) := hG1.out.below hb1
      have hB2 : Hid (Below w0.heap.size w0 w12) := hB1.out.trans (hb1.mono hB1.out.size)
      try dsimp only
      refine hK.out _ _ ⟨cell_on hb1 hHeld.1, cell_on hb1 hHeld.2.1, cell_on hb1 hHeld.2.2.1, cell_on hb1 hHeld.2.2.2⟩ (fun hHeld => ?_)
      clear hK K
      refine take_lit (i := 4) (d := 19) (v := ?_) rfl rfl (by kernel_rfl) (by kernel_rfl) (by kernel_rfl) (fun _ _ _ h => h) (Or.inl ⟨by rfl, ?_⟩) (by assumption) ?_
      rotate_left
      · (intro w hSw; (try dsimp only at hSw); first | (go_simp; done) | (go_simp; with_reducible rfl))
      simp only [List.set_cons_zero, List.set_cons_succ]
      refine take_lit (i := 5) (d := 20) (v := ?_) rfl rfl (by kernel_rfl) (by kernel_rfl) (by kernel_rfl) (fun _ _ _ h => h) (Or.inl ⟨by rfl, ?_⟩) (by assumption) ?_
      rotate_left
      · (intro w hSw; (try dsimp only at hSw); first | (go_simp; done) | (go_simp; with_reducible rfl))
      simp only [List.set_cons_zero, List.set_cons_succ]
      refine take_lit (i := 6) (d := 21) (v := ?_) rfl rfl (by kernel_rfl) (by kernel_rfl) (by kernel_rfl) (fun _ _ _ h => h) (Or.inl ⟨by rfl, ?_⟩) (by assumption) ?_
      rotate_left
      · (intro w hSw; (try dsimp only at hSw); first | (go_simp; done) | (go_simp; with_reducible rfl))
      simp only [List.set_cons_zero, List.set_cons_succ]
      refine wpAnyH_ready (rs := [7]) (by kernel_rfl) (by simp) ?_
      refine AllReadyH.cons rfl (fun K hK => ?_) AllReadyH.nil
      go_simp
      refine (specTreeOk_any (n := 6) (by exact hG2.out.1)).mono ?_
      rintro e w13 ⟨rfl, hb1⟩
      rw [hoa]
      have hG3 : Hid (GSt A B (.string sa) (.slice aa (kidsOf xa).length ca) (.string sb) (.slice ab (kidsOf xb).length cb) xa xb w13) := hG2.out.below hb1
      have hB3 : Hid (Below w0.heap.size w0 w13) := hB2.out.trans (hb1.mono hB2.out.size)
      try dsimp only
      refine hK.out _ _ ⟨cell_on hb1 hHeld.1, cell_on hb1 hHeld.2.1, cell_on hb1 hHeld.2.2.1, cell_on hb1 hHeld.2.2.2⟩ (fun hHeld => ?_)
      clear hK K
      refine take_lit (i := 8) (d := 23) (v := ?_) rfl rfl (by kernel_rfl) (by kernel_rfl) (by kernel_rfl) (fun _ _ _ h => h) (Or.inl ⟨by rfl, ?_⟩) (by assumption) ?_
      rotate_left
      · (intro w hSw; (try dsimp only at hSw); first | (go_simp; done) | (go_simp; with_reducible rfl))
      simp only [List.set_cons_zero, List.set_cons_succ]
      refine take_lit (i := 9) (d := 24) (v := ?_) rfl rfl (by kernel_rfl) (by kernel_rfl) (by kernel_rfl) (fun _ _ _ h => h) (Or.inl ⟨by rfl, ?_⟩) (by assumption) ?_
      rotate_left
      · (intro w hSw; (try dsimp only at hSw); first | (go_simp; done) | (go_simp; with_reducible rfl))
      simp only [List.set_cons_zero, List.set_cons_succ]
      refine take_lit (i := 10) (d := 25) (v := ?_) rfl rfl (by kernel_rfl) (by kernel_rfl) (by kernel_rfl) (fun _ _ _ h => h) (Or.inl ⟨by rfl, ?_⟩) (by assumption) ?_
      rotate_left
      · (intro w hSw; (try dsimp only at hSw); first | (go_simp; done) | (go_simp; with_reducible rfl))
      simp only [List.set_cons_zero, List.set_cons_succ]
      refine take_lit (i := 11) (d := 26) (v := undef) rfl rfl (by kernel_rfl) (by kernel_rfl) (by kernel_rfl) (fun _ _ _ h => h) (Or.inr ⟨by rfl, rfl⟩) (by assumption) ?_
      simp only [List.set_cons_zero, List.set_cons_succ]
      refine take_lit (i := 12) (d := 27) (v := undef) rfl rfl (by kernel_rfl) (by kernel_rfl) (by kernel_rfl) (fun _ _ _ h => h) (Or.inr ⟨by rfl, rfl⟩) (by assumption) ?_
      simp only [List.set_cons_zero, List.set_cons_succ]
      refine take_lit (i := 13) (d := 28) (v := undef) rfl rfl (by kernel_rfl) (by kernel_rfl) (by kernel_rfl) (fun _ _ _ h => h) (Or.inr ⟨by rfl, rfl⟩) (by assumption) ?_
      simp only [List.set_cons_zero, List.set_cons_succ]
      refine take_lit (i := 14) (d := 29) (v := ?_) rfl rfl (by kernel_rfl) (by kernel_rfl) (by kernel_rfl) (fun _ _ _ h => h) (Or.inl ⟨by rfl, ?_⟩) (by assumption) ?_
      rotate_left
      · (intro w hSw; (try dsimp only at hSw); first | (go_simp; done) | (go_simp; with_reducible rfl))
      simp only [List.set_cons_zero, List.set_cons_succ]
      refine wpAnyH_done (by kernel_rfl) ?_ _
      clear hoa
      go_wp2_with fail
      generalize w13 = wz at *
      have hGz : Hid (GSt A B (.string sa) (.slice aa (kidsOf xa).length ca) (.string sb) (.slice ab (kidsOf xb).length cb) xa xb wz) := hG3
      have hBz : Hid (Below w0.heap.size w0 wz) := hB3
      clear hG0 hB0 hG1 hB1 hG2 hB2 hG3 hB3
      go_wp2_with fail
      have hG0 : Hid (GSt A B (.string sa) (.slice aa (kidsOf xa).length ca) (.string sb) (.slice ab (kidsOf xb).length cb) xa xb wz.drew) := hGz.out.below (Below.drew (Below.refl _ _))
      have hB0 : Hid (Below w0.heap.size w0 wz.drew) := hBz.out.drew
      obtain ⟨a0, a1, b0, b1⟩ := GSt.cells hG0.out
      refine wp_region_held_drew (S := fun w' => w'.cell? ⟨A, 0, none⟩ = some (.string sa) ∧ w'.cell? ⟨A, 1, none⟩ = some (.slice aa (kidsOf xa).length ca) ∧ w'.cell? ⟨B, 0, none⟩ = some (.string sb) ∧ w'.cell? ⟨B, 1, none⟩ = some (.slice ab (kidsOf xb).length cb)) (by kernel_rfl) (by refine ⟨?_, ?_, ?_, ?_⟩ <;> assumption) (fun hHeld => ?_)
      refine take_lit (i := 0) (d := 30) (v := ?_) rfl rfl (by kernel_rfl) (by kernel_rfl) (by kernel_rfl) (fun _ _ _ h => h) (Or.inl ⟨by rfl, ?_⟩) (by assumption) ?_
      rotate_left
      · (intro w hSw; (try dsimp only at hSw); first | (go_simp; done) | (go_simp; with_reducible rfl))
      simp only [List.set_cons_zero, List.set_cons_succ]
      refine take_lit (i := 2) (d := 32) (v := ?_) rfl rfl (by kernel_rfl) (by kernel_rfl) (by kernel_rfl) (fun _ _ _ h => h) (Or.inl ⟨by rfl, ?_⟩) (by assumption) ?_
      rotate_left
      · (intro w hSw; (try dsimp only at hSw); first | (go_simp; done) | (go_simp; with_reducible rfl))
      simp only [List.set_cons_zero, List.set_cons_succ]
      refine wpAnyH_ready (rs := [1]) (by kernel_rfl) (by simp) ?_
      refine AllReadyH.cons rfl (fun K hK => ?_) AllReadyH.nil
      go_simp
      refine (implTreeOk_any (n := 6) (by exact hG0.out.1)).mono ?_
      rintro e w11 ⟨rfl, hb1⟩
      have hG1 : Hid (GSt A B (.string sa) (.slice aa (kidsOf xa).length ca) (.string sb) (.slice ab (kidsOf xb).length cb) xa xb w11) := hG0.out.below hb1
      have hB1 : Hid (Below w0.heap.size w0 w11) := hB0.out.trans (hb1.mono hB0.out.size)
      try dsimp only
      refine hK.out _ _ ⟨cell_on hb1 hHeld.1, cell_on hb1 hHeld.2.1, cell_on hb1 hHeld.2.2.1, cell_on hb1 hHeld.2.2.2⟩ (fun hHeld => ?_)
      clear hK K
      refine wpAnyH_ready (rs := [3]) (by kernel_rfl) (by simp) ?_
      refine AllReadyH.cons rfl (fun K hK => ?_) AllReadyH.nil
      go_simp
      refine (specTreeOk_any (n := 6) (by exact hG1.out.1)).mono ?_
      rintro e w12 ⟨rfl, hb1⟩
      have hG2 : Hid (GSt A B (.string sa) (.slice aa (kidsOf xa).length ca) (.string sb) (.slice ab (kidsOf xb).length cb) xa xb w12) := hG1.out.below hb1
      have hB2 : Hid (Below w0.heap.size w0 w12) := hB1.out.trans (hb1.mono hB1.out.size)
      try dsimp only
      refine hK.out _ _ ⟨cell_on hb1 hHeld.1, cell_on hb1 hHeld.2.1, cell_on hb1 hHeld.2.2.1, cell_on hb1 hHeld.2.2.2⟩ (fun hHeld => ?_)
      clear hK K
      refine take_lit (i := 4) (d := 34) (v := ?_) rfl rfl (by kernel_rfl) (by kernel_rfl) (by kernel_rfl) (fun _ _ _ h => h) (Or.inl ⟨by rfl, ?_⟩) (by assumption) ?_
      rotate_left
      · (intro w hSw; (try dsimp only at hSw); first | (go_simp; done) | (go_simp; with_reducible rfl))
      simp only [List.set_cons_zero, List.set_cons_succ]
      refine take_lit (i := 5) (d := 2) (v := ?_) rfl rfl (by kernel_rfl) (by kernel_rfl) (by kernel_rfl) (fun _ _ _ h => h) (Or.inl ⟨by rfl, ?_⟩) (by assumption) ?_
      rotate_left
      · (intro w hSw; (try dsimp only at hSw); first | (go_simp; done) | (go_simp; with_reducible rfl))
      simp only [List.set_cons_zero, List.set_cons_succ]
      refine wpAnyH_done (by kernel_rfl) ?_ _
      go_wp2_with fail
      go_ret
      exact ⟨by simp, hB2.out⟩
    | true =>
      cases hob : okB (szD 5 xb 30) with
      | false =>
        have hG0 : Hid (GSt A B (.string sa) (.slice aa (kidsOf xa).length ca) (.string sb) (.slice ab (kidsOf xb).length cb) xa xb w4.drew) := hG4.out.below (Below.drew (Below.refl _ _))
        have hB0 : Hid (Below w0.heap.size w0 w4.drew) := hB4.out.drew
        obtain ⟨a0, a1, b0, b1⟩ := GSt.cells hG0.out
        refine wp_region_held_drew (S := fun w' => w'.cell? ⟨A, 0, none⟩ = some (.string sa) ∧ w'.cell? ⟨A, 1, none⟩ = some (.slice aa (kidsOf xa).length ca) ∧ w'.cell? ⟨B, 0, none⟩ = some (.string sb) ∧ w'.cell? ⟨B, 1, none⟩ = some (.slice ab (kidsOf xb).length cb)) (by kernel_rfl) (by refine ⟨?_, ?_, ?_, ?_⟩ <;> assumption) (fun hHeld => ?_)
        refine take_lit (i := 0) (d := 15) (v := ?_) rfl rfl (by kernel_rfl) (by kernel_rfl) (by kernel_rfl) (fun _ _ _ h => h) (Or.inl ⟨by rfl, ?_⟩) (by assumption) ?_
        rotate_left
        · (intro w hSw; (try dsimp only at hSw); first | (go_simp; done) | (go_simp; with_reducible rfl))
        simp only [List.set_cons_zero, List.set_cons_succ]
        refine take_lit (i := 2) (d := 17) (v := ?_) rfl rfl (by kernel_rfl) (by kernel_rfl) (by kernel_rfl) (fun _ _ _ h => h) (Or.inl ⟨by rfl, ?_⟩) (by assumption) ?_
        rotate_left
        · (intro w hSw; (try dsimp only at hSw); first | (go_simp; done) | (go_simp; with_reducible rfl))
        simp only [List.set_cons_zero, List.set_cons_succ]
        refine wpAnyH_ready (rs := [1]) (by kernel_rfl) (by simp) ?_
        refine AllReadyH.cons rfl (fun K hK => ?_) AllReadyH.nil
        go_simp
        refine (implTreeOk_any (n := 6) (by exact hG0.out.1)).mono ?_
        rintro e w11 ⟨rfl, hb1⟩
        rw [hoa]
        have hG1 : Hid (GSt A B (.string sa) (.slice aa (kidsOf xa).length ca) (.string sb) (.slice ab (kidsOf xb).length cb) xa xb w11) := hG0.out.below hb1
        have hB1 : Hid (Below w0.heap.size w0 w11) := hB0.out.trans (hb1.mono hB0.out.size)
        try dsimp only
        refine hK.out _ _ ⟨cell_on hb1 hHeld.1, cell_on hb1 hHeld.2.1, cell_on hb1 hHeld.2.2.1, cell_on hb1 hHeld.2.2.2⟩ (fun hHeld => ?_)
        clear hK K
        refine wpAnyH_ready (rs := [3]) (by kernel_rfl) (by simp) ?_
        refine AllReadyH.cons rfl (fun K hK => ?_) AllReadyH.nil
        go_simp
        refine (specTreeOk_any (n := 6) (by exact hG1.out.1)).mono ?_
        rintro e w12 ⟨rfl, hb1⟩
        rw [hoa]
        have hG2 : Hid (GSt A B (.string sa) (.slice aa (kidsOf xa).length ca) (.string sb) (.slice ab (kidsOf xb).length cb) xa xb w12) := hG1.out.below hb1
        have hB2 : Hid (Below w0.heap.size w0 w12) := hB1.out.trans (hb1.mono hB1.out.size)
        try dsimp only
        refine hK.out _ _ ⟨cell_on hb1 hHeld.1, cell_on hb1 hHeld.2.1, cell_on hb1 hHeld.2.2.1, cell_on hb1 hHeld.2.2.2⟩ (fun hHeld => ?_)
        clear hK K
        refine take_lit (i := 4) (d := 19) (v := ?_) rfl rfl (by kernel_rfl) (by kernel_rfl) (by kernel_rfl) (fun _ _ _ h => h) (Or.inl ⟨by rfl, ?_⟩) (by assumption) ?_
        rotate_left
        · (intro w hSw; (try dsimp only at hSw); first | (go_simp; done) | (go_simp; with_reducible rfl))
        simp only [List.set_cons_zero, List.set_cons_succ]
        refine take_lit (i := 5) (d := 20) (v := ?_) rfl rfl (by kernel_rfl) (by kernel_rfl) (by kernel_rfl) (fun _ _ _ h => h) (Or.inl ⟨by rfl, ?_⟩) (by assumption) ?_
        rotate_left
        · (intro w hSw; (try dsimp only at hSw); first | (go_simp; done) | (go_simp; with_reducible rfl))
        simp only [List.set_cons_zero, List.set_cons_succ]
        refine take_lit (i := 6) (d := 21) (v := ?_) rfl rfl (by kernel_rfl) (by kernel_rfl) (by kernel_rfl) (fun _ _ _ h => h) (Or.inl ⟨by rfl, ?_⟩) (by assumption) ?_
        rotate_left
        · (intro w hSw; (try dsimp only at hSw); first | (go_simp; done) | (go_simp; with_reducible rfl))
        simp only [List.set_cons_zero, List.set_cons_succ]
        refine wpAnyH_ready (rs := [7]) (by kernel_rfl) (by simp) ?_
        refine AllReadyH.cons rfl (fun K hK => ?_) AllReadyH.nil
        go_simp
        refine (specTreeOk_any (n := 6) (by exact hG2.out.1)).mono ?_
        rintro e w13 ⟨rfl, hb1⟩
        rw [hoa]
        have hG3 : Hid (GSt A B (.string sa) (.slice aa (kidsOf xa).length ca) (.string sb) (.slice ab (kidsOf xb).length cb) xa xb w13) := hG2.out.below hb1
        have hB3 : Hid (Below w0.heap.size w0 w13) := hB2.out.trans (hb1.mono hB2.out.size)
        try dsimp only
        refine hK.out _ _ ⟨cell_on hb1 hHeld.1, cell_on hb1 hHeld.2.1, cell_on hb1 hHeld.2.2.1, cell_on hb1 hHeld.2.2.2⟩ (fun hHeld => ?_)
        clear hK K
        refine take_lit (i := 8) (d := 23) (v := ?_) rfl rfl (by kernel_rfl) (by kernel_rfl) (by kernel_rfl) (fun _ _ _ h => h) (Or.inl ⟨by rfl, ?_⟩) (by assumption) ?_
        rotate_left
        · (intro w hSw; (try dsimp only at hSw); first | (go_simp; done) | (go_simp; with_reducible rfl))
        simp only [List.set_cons_zero, List.set_cons_succ]
        refine take_lit (i := 9) (d := 24) (v := ?_) rfl rfl (by kernel_rfl) (by kernel_rfl) (by kernel_rfl) (fun _ _ _ h => h) (Or.inl ⟨by rfl, ?_⟩) (by assumption) ?_
        rotate_left
        · (intro w hSw; (try dsimp only at hSw); first | (go_simp; done) | (go_simp; with_reducible rfl))
        simp only [List.set_cons_zero, List.set_cons_succ]
        refine take_lit (i := 10) (d := 25) (v := ?_) rfl rfl (by kernel_rfl) (by kernel_rfl) (by kernel_rfl) (fun _ _ _ h => h) (Or.inl ⟨by rfl, ?_⟩) (by assumption) ?_
        rotate_left
        · (intro w hSw; (try dsimp only at hSw); first | (go_simp; done) | (go_simp; with_reducible rfl))
        simp only [List.set_cons_zero, List.set_cons_succ]
        refine take_lit (i := 11) (d := 26) (v := ?_) rfl rfl (by kernel_rfl) (by kernel_rfl) (by kernel_rfl) (fun _ _ _ h => h) (Or.inl ⟨by rfl, ?_⟩) (by assumption) ?_
        rotate_left
        · (intro w hSw; (try dsimp only at hSw); first | (go_simp; done) | (go_simp; with_reducible rfl))
        simp only [List.set_cons_zero, List.set_cons_succ]
        refine wpAnyH_ready (rs := [12]) (by kernel_rfl) (by simp) ?_
        refine AllReadyH.cons rfl (fun K hK => ?_) AllReadyH.nil
        go_simp
        refine (specTreeOk_any (n := 5) (by exact hG3.out.2.1)).mono ?_
        rintro e w14 ⟨rfl, hb1⟩
        rw [hob]
        have hG4 : Hid (GSt A B (.string sa) (.slice aa (kidsOf xa).length ca) (.string sb) (.slice ab (kidsOf xb).length cb) xa xb w14) := hG3.out.below hb1
        have hB4 : Hid (Below w0.heap.size w0 w14) := hB3.out.trans (hb1.mono hB3.out.size)
        try dsimp only
        refine hK.out _ _ ⟨cell_on hb1 hHeld.1, cell_on hb1 hHeld.2.1, cell_on hb1 hHeld.2.2.1, cell_on hb1 hHeld.2.2.2⟩ (fun hHeld => ?_)
        clear hK K
        refine take_lit (i := 13) (d := 28) (v := ?_) rfl rfl (by kernel_rfl) (by kernel_rfl) (by kernel_rfl) (fun _ _ _ h => h) (Or.inl ⟨by rfl, ?_⟩) (by assumption) ?_
        rotate_left
        · (intro w hSw; (try dsimp only at hSw); first | (go_simp; done) | (go_simp; with_reducible rfl))
        simp only [List.set_cons_zero, List.set_cons_succ]
        refine take_lit (i := 14) (d := 29) (v := ?_) rfl rfl (by kernel_rfl) (by kernel_rfl) (by kernel_rfl) (fun _ _ _ h => h) (Or.inl ⟨by rfl, ?_⟩) (by assumption) ?_
        rotate_left
        · (intro w hSw; (try dsimp only at hSw); first | (go_simp; done) | (go_simp; with_reducible rfl))
        simp only [List.set_cons_zero, List.set_cons_succ]
        refine wpAnyH_done (by kernel_rfl) ?_ _
        clear hoa hob
        go_wp2_with fail
        generalize w14 = wz at *
        have hGz : Hid (GSt A B (.string sa) (.slice aa (kidsOf xa).length ca) (.string sb) (.slice ab (kidsOf xb).length cb) xa xb wz) := hG4
        have hBz : Hid (Below w0.heap.size w0 wz) := hB4
        clear hG0 hB0 hG1 hB1 hG2 hB2 hG3 hB3 hG4 hB4
        go_wp2_with fail
        have hG0 : Hid (GSt A B (.string sa) (.slice aa (kidsOf xa).length ca) (.string sb) (.slice ab (kidsOf xb).length cb) xa xb wz.drew) := hGz.out.below (Below.drew (Below.refl _ _))
        have hB0 : Hid (Below w0.heap.size w0 wz.drew) := hBz.out.drew
        obtain ⟨a0, a1, b0, b1⟩ := GSt.cells hG0.out
        refine wp_region_held_drew (S := fun w' => w'.cell? ⟨A, 0, none⟩ = some (.string sa) ∧ w'.cell? ⟨A, 1, none⟩ = some (.slice aa (kidsOf xa).length ca) ∧ w'.cell? ⟨B, 0, none⟩ = some (.string sb) ∧ w'.cell? ⟨B, 1, none⟩ = some (.slice ab (kidsOf xb).length cb)) (by kernel_rfl) (by refine ⟨?_, ?_, ?_, ?_⟩ <;> assumption) (fun hHeld => ?_)
        refine take_lit (i := 0) (d := 30) (v := ?_) rfl rfl (by kernel_rfl) (by kernel_rfl) (by kernel_rfl) (fun _ _ _ h => h) (Or.inl ⟨by rfl, ?_⟩) (by assumption) ?_
        rotate_left
        · (intro w hSw; (try dsimp only at hSw); first | (go_simp; done) | (go_simp; with_reducible rfl))
        simp only [List.set_cons_zero, List.set_cons_succ]
        refine take_lit (i := 2) (d := 32) (v := ?_) rfl rfl (by kernel_rfl) (by kernel_rfl) (by kernel_rfl) (fun _ _ _ h => h) (Or.inl ⟨by rfl, ?_⟩) (by assumption) ?_
        rotate_left
        · (intro w hSw; (try dsimp only at hSw); first | (go_simp; done) | (go_simp; with_reducible rfl))
        simp only [List.set_cons_zero, List.set_cons_succ]
        refine wpAnyH_ready (rs := [1]) (by kernel_rfl) (by simp) ?_
        refine AllReadyH.cons rfl (fun K hK => ?_) AllReadyH.nil
        go_simp
        refine (implTreeOk_any (n := 6) (by exact hG0.out.1)).mono ?_
        rintro e w11 ⟨rfl, hb1⟩
        have hG1 : Hid (GSt A B (.string sa) (.slice aa (kidsOf xa).length ca) (.string sb) (.slice ab (kidsOf xb).length cb) xa xb w11) := hG0.out.below hb1
        have hB1 : Hid (Below w0.heap.size w0 w11) := hB0.out.trans (hb1.mono hB0.out.size)
        try dsimp only
        refine hK.out _ _ ⟨cell_on hb1 hHeld.1, cell_on hb1 hHeld.2.1, cell_on hb1 hHeld.2.2.1, cell_on hb1 hHeld.2.2.2⟩ (fun hHeld => ?_)
        clear hK K
        refine wpAnyH_ready (rs := [3]) (by kernel_rfl) (by simp) ?_
        refine AllReadyH.cons rfl (fun K hK => ?_) AllReadyH.nil
        go_simp
        refine (specTreeOk_any (n := 6) (by exact hG1.out.1)).mono ?_
        rintro e w12 ⟨rfl, hb1⟩
        have hG2 : Hid (GSt A B (.string sa) (.slice aa (kidsOf xa).length ca) (.string sb) (.slice ab (kidsOf xb).length cb) xa xb w12) := hG1.out.below hb1
        have hB2 : Hid (Below w0.heap.size w0 w12) := hB1.out.trans (hb1.mono hB1.out.size)
        try dsimp only
        refine hK.out _ _ ⟨cell_on hb1 hHeld.1, cell_on hb1 hHeld.2.1, cell_on hb1 hHeld.2.2.1, cell_on hb1 hHeld.2.2.2⟩ (fun hHeld => ?_)
        clear hK K
        refine take_lit (i := 4) (d := 34) (v := ?_) rfl rfl (by kernel_rfl) (by kernel_rfl) (by kernel_rfl) (fun _ _ _ h => h) (Or.inl ⟨by rfl, ?_⟩) (by assumption) ?_
        rotate_left
        · (intro w hSw; (try dsimp only at hSw); first | (go_simp; done) | (go_simp; with_reducible rfl))
        simp only [List.set_cons_zero, List.set_cons_succ]
        refine take_lit (i := 5) (d := 2) (v := ?_) rfl rfl (by kernel_rfl) (by kernel_rfl) (by kernel_rfl) (fun _ _ _ h => h) (Or.inl ⟨by rfl, ?_⟩) (by assumption) ?_
        rotate_left
        · (intro w hSw; (try dsimp only at hSw); first | (go_simp; done) | (go_simp; with_reducible rfl))
        simp only [List.set_cons_zero, List.set_cons_succ]
        refine wpAnyH_done (by kernel_rfl) ?_ _
        go_wp2_with fail
        go_ret
        exact ⟨by simp, hB2.out⟩
      | true =>
        have hG0 : Hid (GSt A B (.string sa) (.slice aa (kidsOf xa).length ca) (.string sb) (.slice ab (kidsOf xb).length cb) xa xb w4.drew) := hG4.out.below (Below.drew (Below.refl _ _))
        have hB0 : Hid (Below w0.heap.size w0 w4.drew) := hB4.out.drew
        obtain ⟨a0, a1, b0, b1⟩ := GSt.cells hG0.out
        refine wp_region_held_drew (S := fun w' => w'.cell? ⟨A, 0, none⟩ = some (.string sa) ∧ w'.cell? ⟨A, 1, none⟩ = some (.slice aa (kidsOf xa).length ca) ∧ w'.cell? ⟨B, 0, none⟩ = some (.string sb) ∧ w'.cell? ⟨B, 1, none⟩ = some (.slice ab (kidsOf xb).length cb)) (by kernel_rfl) (by refine ⟨?_, ?_, ?_, ?_⟩ <;> assumption) (fun hHeld => ?_)
        refine take_lit (i := 0) (d := 15) (v := ?_) rfl rfl (by kernel_rfl) (by kernel_rfl) (by kernel_rfl) (fun _ _ _ h => h) (Or.inl ⟨by rfl, ?_⟩) (by assumption) ?_
        rotate_left
        · (intro w hSw; (try dsimp only at hSw); first | (go_simp; done) | (go_simp; with_reducible rfl))
        simp only [List.set_cons_zero, List.set_cons_succ]
        refine take_lit (i := 2) (d := 17) (v := ?_) rfl rfl (by kernel_rfl) (by kernel_rfl) (by kernel_rfl) (fun _ _ _ h => h) (Or.inl ⟨by rfl, ?_⟩) (by assumption) ?_
        rotate_left
        · (intro w hSw; (try dsimp only at hSw); first | (go_simp; done) | (go_simp; with_reducible rfl))
        simp only [List.set_cons_zero, List.set_cons_succ]
        refine wpAnyH_ready (rs := [1]) (by kernel_rfl) (by simp) ?_
        refine AllReadyH.cons rfl (fun K hK => ?_) AllReadyH.nil
        go_simp
        refine (implTreeOk_any (n := 6) (by exact hG0.out.1)).mono ?_
        rintro e w11 ⟨rfl, hb1⟩
        rw [hoa]
        have hG1 : Hid (GSt A B (.string sa) (.slice aa (kidsOf xa).length ca) (.string sb) (.slice ab (kidsOf xb).length cb) xa xb w11) := hG0.out.below hb1
        have hB1 : Hid (Below w0.heap.size w0 w11) := hB0.out.trans (hb1.mono hB0.out.size)
        try dsimp only
        refine hK.out _ _ ⟨cell_on hb1 hHeld.1, cell_on hb1 hHeld.2.1, cell_on hb1 hHeld.2.2.1, cell_on hb1 hHeld.2.2.2⟩ (fun hHeld => ?_)
        clear hK K
        refine wpAnyH_ready (rs := [3]) (by kernel_rfl) (by simp) ?_
        refine AllReadyH.cons rfl (fun K hK => ?_) AllReadyH.nil
        go_simp
        refine (specTreeOk_any (n := 6) (by exact hG1.out.1)).mono ?_
        rintro e w12 ⟨rfl, hb1⟩
        rw [hoa]
        have hG2 : Hid (GSt A B (.string sa) (.slice aa (kidsOf xa).length ca) (.string sb) (.slice ab (kidsOf xb).length cb) xa xb w12) := hG1.out.below hb1
        have hB2 : Hid (Below w0.heap.size w0 w12) := hB1.out.trans (hb1.mono hB1.out.size)
        try dsimp only
        refine hK.out _ _ ⟨cell_on hb1 hHeld.1, cell_on hb1 hHeld.2.1, cell_on hb1 hHeld.2.2.1, cell_on hb1 hHeld.2.2.2⟩ (fun hHeld => ?_)
        clear hK K
        refine take_lit (i := 4) (d := 19) (v := ?_) rfl rfl (by kernel_rfl) (by kernel_rfl) (by kernel_rfl) (fun _ _ _ h => h) (Or.inl ⟨by rfl, ?_⟩) (by assumption) ?_
        rotate_left
        · (intro w hSw; (try dsimp only at hSw); first | (go_simp; done) | (go_simp; with_reducible rfl))
        simp only [List.set_cons_zero, List.set_cons_succ]
        refine take_lit (i := 5) (d := 20) (v := ?_) rfl rfl (by kernel_rfl) (by kernel_rfl) (by kernel_rfl) (fun _ _ _ h => h) (Or.inl ⟨by rfl, ?_⟩) (by assumption) ?_
        rotate_left
        · (intro w hSw; (try dsimp only at hSw); first | (go_simp; done) | (go_simp; with_reducible rfl))
        simp only [List.set_cons_zero, List.set_cons_succ]
        refine take_lit (i := 6) (d := 21) (v := ?_) rfl rfl (by kernel_rfl) (by kernel_rfl) (by kernel_rfl) (fun _ _ _ h => h) (Or.inl ⟨by rfl, ?_⟩) (by assumption) ?_
        rotate_left
        · (intro w hSw; (try dsimp only at hSw); first | (go_simp; done) | (go_simp; with_reducible rfl))
        simp only [List.set_cons_zero, List.set_cons_succ]
        refine wpAnyH_ready (rs := [7]) (by kernel_rfl) (by simp) ?_
        refine AllReadyH.cons rfl (fun K hK => ?_) AllReadyH.nil
        go_simp
        refine (specTreeOk_any (n := 6) (by exact hG2.out.1)).mono ?_
        rintro e w13 ⟨rfl, hb1⟩
        rw [hoa]
        have hG3 : Hid (GSt A B (.string sa) (.slice aa (kidsOf xa).length ca) (.string sb) (.slice ab (kidsOf xb).length cb) xa xb w13) := hG2.out.below hb1
        have hB3 : Hid (Below w0.heap.size w0 w13) := hB2.out.trans (hb1.mono hB2.out.size)
        try dsimp only
        refine hK.out _ _ ⟨cell_on hb1 hHeld.1, cell_on hb1 hHeld.2.1, cell_on hb1 hHeld.2.2.1, cell_on hb1 hHeld.2.2.2⟩ (fun hHeld => ?_)
        clear hK K
        refine take_lit (i := 8) (d := 23) (v := ?_) rfl rfl (by kernel_rfl) (by kernel_rfl) (by kernel_rfl) (fun _ _ _ h => h) (Or.inl ⟨by rfl, ?_⟩) (by assumption) ?_
        rotate_left
        · (intro w hSw; (try dsimp only at hSw); first | (go_simp; done) | (go_simp; with_reducible rfl))
        simp only [List.set_cons_zero, List.set_cons_succ]
        refine take_lit (i := 9) (d := 24) (v := ?_) rfl rfl (by kernel_rfl) (by kernel_rfl) (by kernel_rfl) (fun _ _ _ h => h) (Or.inl ⟨by rfl, ?_⟩) (by assumption) ?_
        rotate_left
        · (intro w hSw; (try dsimp only at hSw); first | (go_simp; done) | (go_simp; with_reducible rfl))
        simp only [List.set_cons_zero, List.set_cons_succ]
        refine take_lit (i := 10) (d := 25) (v := ?_) rfl rfl (by kernel_rfl) (by kernel_rfl) (by kernel_rfl) (fun _ _ _ h => h) (Or.inl ⟨by rfl, ?_⟩) (by assumption) ?_
        rotate_left
        · (intro w hSw; (try dsimp only at hSw); first | (go_simp; done) | (go_simp; with_reducible rfl))
        simp only [List.set_cons_zero, List.set_cons_succ]
        refine take_lit (i := 11) (d := 26) (v := ?_) rfl rfl (by kernel_rfl) (by kernel_rfl) (by kernel_rfl) (fun _ _ _ h => h) (Or.inl ⟨by rfl, ?_⟩) (by assumption) ?_
        rotate_left
        · (intro w hSw; (try dsimp only at hSw); first | (go_simp; done) | (go_simp; with_reducible rfl))
        simp only [List.set_cons_zero, List.set_cons_succ]
        refine wpAnyH_ready (rs := [12]) (by kernel_rfl) (by simp) ?_
        refine AllReadyH.cons rfl (fun K hK => ?_) AllReadyH.nil
        go_simp
        refine (specTreeOk_any (n := 5) (by exact hG3.out.2.1)).mono ?_
        rintro e w14 ⟨rfl, hb1⟩
        rw [hob]
        have hG4 : Hid (GSt A B (.string sa) (.slice aa (kidsOf xa).length ca) (.string sb) (.slice ab (kidsOf xb).length cb) xa xb w14) := hG3.out.below hb1
        have hB4 : Hid (Below w0.heap.size w0 w14) := hB3.out.trans (hb1.mono hB3.out.size)
        try dsimp only
        refine hK.out _ _ ⟨cell_on hb1 hHeld.1, cell_on hb1 hHeld.2.1, cell_on hb1 hHeld.2.2.1, cell_on hb1 hHeld.2.2.2⟩ (fun hHeld => ?_)
        clear hK K
        refine take_lit (i := 13) (d := 28) (v := ?_) rfl rfl (by kernel_rfl) (by kernel_rfl) (by kernel_rfl) (fun _ _ _ h => h) (Or.inl ⟨by rfl, ?_⟩) (by assumption) ?_
        rotate_left
        · (intro w hSw; (try dsimp only at hSw); first | (go_simp; done) | (go_simp; with_reducible rfl))
        simp only [List.set_cons_zero, List.set_cons_succ]
        refine take_lit (i := 14) (d := 29) (v := ?_) rfl rfl (by kernel_rfl) (by kernel_rfl) (by kernel_rfl) (fun _ _ _ h => h) (Or.inl ⟨by rfl, ?_⟩) (by assumption) ?_
        rotate_left
        · (intro w hSw; (try dsimp only at hSw); first | (go_simp; done) | (go_simp; with_reducible rfl))
        simp only [List.set_cons_zero, List.set_cons_succ]
        refine wpAnyH_done (by kernel_rfl) ?_ _
        obtain ⟨ma, hma⟩ := ok_some hoa
        obtain ⟨mb, hmb⟩ := ok_some hob
        have hma' : Hid (szD 6 xa 30 = some ma) := hma
        have hmb' : Hid (szD 5 xb 30 = some mb) := hmb
        have hsm : Hid (sa.size ≤ maxLen) := by obtain ⟨s, e, q, _⟩ := hG4.out.1.1; injection e with e; rw [e]; exact q
        have hsg : Hid (tagOf xa = sa.data.toList) := by obtain ⟨s, e, _, q⟩ := hG4.out.1.1; injection e with e; rw [e]; exact q
        have hkl : Hid ((kidsOf xa).length ≤ 30) := (szD_small hma).1
        have htl : Hid ((tagOf xa).length ≤ 6) := (szD_small hma).2
        clear hma hmb hoa hob
        go_wp2_with fail
        rename_i K7 hK7
        exact seven_any hK7 hma' hmb' hkl htl hsm hsg hG4 hB4

end Go.Proofs.Ytapjplecdfemeaa.fnGrafted
