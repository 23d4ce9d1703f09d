/- A row of edits that was marked: are the marks held? -/
import Derived.Test.YtfncmndgdomjiaaEdMark
namespace Go.Proofs.Ytfncmndgdomjiaa
open Go.RowKit
set_option maxRecDepth 100000 in
set_option maxHeartbeats 6400000 in
theorem heldEditS_any {n : Nat} {w : World} {lo : Nat} {k : Value} {xs : List EditD} {m : Int} (hk : SeqAt 5 (EditL (n + 1)) w lo k (mkL (cntEd n) (mkEd n) xs m)) (h0 : 0 ≤ m) (h1 : m + (cntL (cntEd n) xs : Nat) ≤ 4611686018427387904) :
    Calls Try.prog 32 #[k, .int .i64 m] w fun e w' => e = .returned (.int .i64 (m + (cntL (cntEd n) xs : Nat))) ∧ Below w.heap.size w w' := by
  obtain ⟨a, cap, rfl, hm, hx⟩ := hk
  have hx' : Hid _ := hx
  clear hx
  rw [mkL_length] at hm ⊢
  unfold maxLen at hm
  go_enter Try.func32, Try.ntmps32
  go_wp2_with fail
  go_loopw [1, 5] (fun z i wr => ∃ (j : Nat), j ≤ xs.length ∧ i = .int .i64 j ∧ z = .int .i64 (m + (pos (cntEd n) xs j : Nat)) ∧ Hid (Below w.heap.size w wr)) (fun _ i _ => xs.length - (intOf i).toNat)
  case atStart => exact ⟨0, by omega, rfl, by rw [pos_zero]; simp, Below.refl _ _⟩
  case round =>
    obtain ⟨j, hj, rfl, rfl, hbr⟩ := hrel
    by_cases hlt : j < xs.length
    · obtain ⟨b, off, rfl, hlo, hbw, hc⟩ := hx'.out (by rw [mkL_length]; omega)
      obtain ⟨cs, hcl, lie, hr⟩ := hc j (by rw [mkL_length]; exact hlt)
      have hps2 : pos (cntEd n) xs (j + 1) = pos (cntEd n) xs j + (3 + cntL cntI xs[j].vPath + cntL (cntTree n) (kidsOf xs[j].vTree)) := pos_succ hlt
      have hpl : pos (cntEd n) xs (j + 1) ≤ cntL (cntEd n) xs := pos_le (by omega) (Nat.le_refl _)
      rw [mkL_get] at hr
      generalize xs[j] = Q at *
      generalize hP : m + (pos (cntEd n) xs j : Nat) = P at *
      have hP0 : 0 ≤ P := by omega
      obtain ⟨kp, kk, rfl, _, sp, _, st⟩ := hr
      obtain ⟨k1, e1, sk, _⟩ := st
      simp only [List.cons.injEq, and_true] at e1
      obtain ⟨_, e1⟩ := e1
      subst e1
      have sp' : Hid (SeqAt 1 IntAt w lo kp (mkL cntI mkI Q.vPath (P + 1))) := sp
      have sk' : Hid (SeqAt 2 (TreeL n) w lo kk (mkL (cntTree n) (mkTree n) (kidsOf Q.vTree) (P + 1 + (cntL cntI Q.vPath : Nat) + 1 + 1))) := sk
      obtain ⟨p1, d1, rfl⟩ := sp'.out.form
      obtain ⟨a1, c1, rfl⟩ := sk'.out.form
      have lieQ : Hid (Lie w b (off + j * 5) [.int .i64 P, .slice p1 (mkL cntI mkI Q.vPath (P + 1)).length d1, .string (markT (P + 1 + (cntL cntI Q.vPath : Nat))), .string (markT (P + 1 + (cntL cntI Q.vPath : Nat) + 1)), .slice a1 (mkL (cntTree n) (mkTree n) (kidsOf Q.vTree) (P + 1 + (cntL cntI Q.vPath : Nat) + 1 + 1)).length c1]) := lie
      clear sp sk lie hcl hc
      generalize hC1 : cntL cntI Q.vPath = N1 at *
      generalize hC2 : cntL (cntTree n) (kidsOf Q.vTree) = N2 at *
      generalize hlp : (mkL cntI mkI Q.vPath (P + 1)).length = lp at *
      generalize hlk : (mkL (cntTree n) (mkTree n) (kidsOf Q.vTree) (P + 1 + (N1 : Int) + 1 + 1)).length = lk at *
      have lie' : Hid (Lie w b (off + j * 5) [.int .i64 P, .slice p1 lp d1, .string (markT (P + 1 + (N1 : Int))), .string (markT (P + 1 + (N1 : Int) + 1)), .slice a1 lk c1]) := lieQ
      clear lieQ
      have hP1 : P + (3 + (N1 : Int) + (N2 : Int)) ≤ 4611686018427387904 := by omega
      have hz : m + (pos (cntEd n) xs (j + 1) : Nat) = P + 1 + (N1 : Int) + 1 + 1 + (N2 : Int) := by omega
      have hjI : (j : Int) < (xs.length : Int) := by omega
      have hj0 : (0 : Int) ≤ (j : Int) := by omega
      clear hpl hps2
      have hb0 := hbr.out
      have zl := Lie.keep (lo := lo) (lo' := lo) lie'.out (.of_below hb0) hlo hbw
      have z0 : wr.cell? ⟨b, off + j * 5 + 0, none⟩ = some (.int .i64 P) := lie_at2 zl 0 rfl
      have z1 : wr.cell? ⟨b, off + j * 5 + 1, none⟩ = some (.slice p1 lp d1) := lie_at2 zl 1 rfl
      have z2 : wr.cell? ⟨b, off + j * 5 + 2, none⟩ = some (.string (markT (P + 1 + (N1 : Int)))) := lie_at2 zl 2 rfl
      have z3 : wr.cell? ⟨b, off + j * 5 + 3, none⟩ = some (.string (markT (P + 1 + (N1 : Int) + 1))) := lie_at2 zl 3 rfl
      have z4 : wr.cell? ⟨b, off + j * 5 + 4, none⟩ = some (.slice a1 lk c1) := lie_at2 zl 4 rfl
      simp only [Nat.add_zero] at z0
      clear zl
      go_wp2_with fail
      refine (heldInt64S_any (sp'.out.below intAt_stays hb0) (by omega) (by omega)).mono ?_
      rintro e v1 ⟨rfl, hq1⟩
      rw [hC1]
      have hb1 : Below w.heap.size w v1 := hb0.trans (hq1.mono hb0.size)
      clear z0 z1 z2 z3 z4
      clear hq1
      have yl := Lie.keep (lo := lo) (lo' := lo) lie'.out (.of_below hb1) hlo hbw
      have y0 : v1.cell? ⟨b, off + j * 5 + 0, none⟩ = some (.int .i64 P) := lie_at2 yl 0 rfl
      have y1 : v1.cell? ⟨b, off + j * 5 + 1, none⟩ = some (.slice p1 lp d1) := lie_at2 yl 1 rfl
      have y2 : v1.cell? ⟨b, off + j * 5 + 2, none⟩ = some (.string (markT (P + 1 + (N1 : Int)))) := lie_at2 yl 2 rfl
      have y3 : v1.cell? ⟨b, off + j * 5 + 3, none⟩ = some (.string (markT (P + 1 + (N1 : Int) + 1))) := lie_at2 yl 3 rfl
      have y4 : v1.cell? ⟨b, off + j * 5 + 4, none⟩ = some (.slice a1 lk c1) := lie_at2 yl 4 rfl
      simp only [Nat.add_zero] at y0
      clear yl
      have g1 : ¬ (P + 1 + (N1 : Int) < 0) := by omega
      go_upto_region 10 with fail
      go_region_held3 (fun w' => w'.cell? ⟨b, off + j * 5 + 2, none⟩ = some (.string (markT (P + 1 + (N1 : Int))))) (go_keep) (first | (go_at_call 49; refine (markText_any (by omega)).mono ?_; rintro e v2 ⟨rfl, hq2⟩; have zz := cell_on (undrew hq2) y2))
      have hb2 : Below w.heap.size w v2 := hb1.trans ((undrew hq2).mono hb1.size)
      clear hq2 zz
      clear y0 y1 y2 y3 y4
      have zl := Lie.keep (lo := lo) (lo' := lo) lie'.out (.of_below hb2) hlo hbw
      have z0 : v2.cell? ⟨b, off + j * 5 + 0, none⟩ = some (.int .i64 P) := lie_at2 zl 0 rfl
      have z1 : v2.cell? ⟨b, off + j * 5 + 1, none⟩ = some (.slice p1 lp d1) := lie_at2 zl 1 rfl
      have z2 : v2.cell? ⟨b, off + j * 5 + 2, none⟩ = some (.string (markT (P + 1 + (N1 : Int)))) := lie_at2 zl 2 rfl
      have z3 : v2.cell? ⟨b, off + j * 5 + 3, none⟩ = some (.string (markT (P + 1 + (N1 : Int) + 1))) := lie_at2 zl 3 rfl
      have z4 : v2.cell? ⟨b, off + j * 5 + 4, none⟩ = some (.slice a1 lk c1) := lie_at2 zl 4 rfl
      simp only [Nat.add_zero] at z0
      clear zl
      go_upto_region 13 with fail
      go_region_held3 (fun w' => w'.cell? ⟨b, off + j * 5 + 3, none⟩ = some (.string (markT (P + 1 + (N1 : Int) + 1)))) (go_keep) (first | (go_at_call 49; refine (markText_any (by omega)).mono ?_; rintro e v3 ⟨rfl, hq3⟩; have zz := cell_on (undrew hq3) z3))
      have hb3 : Below w.heap.size w v3 := hb2.trans ((undrew hq3).mono hb2.size)
      clear hq3 zz
      clear z0 z1 z2 z3 z4
      have yl := Lie.keep (lo := lo) (lo' := lo) lie'.out (.of_below hb3) hlo hbw
      have y0 : v3.cell? ⟨b, off + j * 5 + 0, none⟩ = some (.int .i64 P) := lie_at2 yl 0 rfl
      have y1 : v3.cell? ⟨b, off + j * 5 + 1, none⟩ = some (.slice p1 lp d1) := lie_at2 yl 1 rfl
      have y2 : v3.cell? ⟨b, off + j * 5 + 2, none⟩ = some (.string (markT (P + 1 + (N1 : Int)))) := lie_at2 yl 2 rfl
      have y3 : v3.cell? ⟨b, off + j * 5 + 3, none⟩ = some (.string (markT (P + 1 + (N1 : Int) + 1))) := lie_at2 yl 3 rfl
      have y4 : v3.cell? ⟨b, off + j * 5 + 4, none⟩ = some (.slice a1 lk c1) := lie_at2 yl 4 rfl
      simp only [Nat.add_zero] at y0
      clear yl
      go_wp2_with fail
      refine (heldTreeS_any n (sk'.out.below (TreeL_stays n) hb3) (by omega) (by omega)).mono ?_
      rintro e v4 ⟨rfl, hq4⟩
      rw [hC2]
      have hb4 : Below w.heap.size w v4 := hb3.trans (hq4.mono hb3.size)
      have g2 : ¬ (P + 1 + (N1 : Int) + 1 + 1 + (N2 : Int) < 0) := by omega
      clear hq4
      clear y0 y1 y2 y3 y4
      go_wp2_with fail
      go_roundw
      case rel => exact ⟨j + 1, by omega, by go_num, by rw [hz], hb4⟩
      case measure => simp [intOf]; omega
    · obtain rfl : j = xs.length := by omega
      go_wp2_with fail
      go_ret
      exact ⟨rfl, hbr.out⟩
end Go.Proofs.Ytfncmndgdomjiaa
