/- The walks of held..: what has its marks is told so. -/
import Derived.Test.YtdhjaokanllcgaaOwnRecs
import Derived.Test.YtdhjaokanllcgaaTakeLit
import Derived.WalkKit
namespace Go.Proofs.Ytdhjaokanllcgaa
open Go.RowKit
theorem lie_at2 {w : World} {b o : Nat} {cs : List Value} (h : Lie w b o cs) (m : Nat) {v : Value} (e : cs[m]? = some v) : w.cell? ⟨b, o + m, none⟩ = some v := by
  have hm : m < cs.length := by
    rcases Nat.lt_or_ge m cs.length with h | h
    · exact h
    · rw [List.getElem?_eq_none h] at e; cases e
  rw [h m hm]; exact e
set_option maxRecDepth 100000 in
set_option maxHeartbeats 3200000 in
theorem heldInt64S_any {w : World} {lo : Nat} {k : Value} {xs : List Int} {m : Int} (hk : SeqAt 1 IntAt w lo k (mkL cntI mkI xs m)) (h0 : 0 ≤ m) (h1 : m + (cntL cntI xs : Nat) ≤ 4611686018427387904) :
    Calls Try.prog 84 #[k, .int .i64 m] w fun e w' => e = .returned (.int .i64 (m + (cntL cntI xs : Nat))) ∧ Below w.heap.size w w' := by
  obtain ⟨a, cap, rfl, hm, hx⟩ := hk
  have hx' : Hid _ := hx
  clear hx
  rw [mkL_length] at hm ⊢
  unfold maxLen at hm
  go_enter Try.func84, Try.ntmps84
  go_wp2_with fail
  go_loopw [1, 5] (fun z i wr => ∃ (j : Nat), j ≤ xs.length ∧ i = .int .i64 j ∧ z = .int .i64 (m + (pos cntI xs j : Nat)) ∧ Hid (Below w.heap.size w wr)) (fun _ i _ => xs.length - (intOf i).toNat)
  case atStart => exact ⟨0, by omega, rfl, by rw [pos_zero]; simp, Below.refl _ _⟩
  case round =>
    obtain ⟨j, hj, rfl, rfl, hbr⟩ := hrel
    by_cases hlt : j < xs.length
    · obtain ⟨b, off, rfl, hlo, hbw, hc⟩ := hx'.out (by rw [mkL_length]; omega)
      obtain ⟨cs, hcl, lie, hr⟩ := hc j (by rw [mkL_length]; exact hlt)
      have hps2 : pos cntI xs (j + 1) = pos cntI xs j + (1) := pos_succ hlt
      have hpl : pos cntI xs (j + 1) ≤ cntL cntI xs := pos_le (by omega) (Nat.le_refl _)
      rw [mkL_get] at hr
      generalize xs[j] = Q at *
      generalize hP : m + (pos cntI xs j : Nat) = P at *
      have hP0 : 0 ≤ P := by omega
      obtain ⟨rfl, _⟩ := hr
      have lie1 := Lie.keep (lo := lo) (lo' := lo) lie (.of_below hbr.out) hlo hbw
      have z0 := lie_at2 lie1 0 rfl
      simp only [Nat.add_zero, Nat.mul_one, mkI] at z0
      have hP1 : P + 1 ≤ 4611686018427387904 := by omega
      have hz : m + (pos cntI xs (j + 1) : Nat) = P + 1 := by omega
      clear lie lie1 hcl hc hpl hps2
      go_wp2_with fail
      go_roundw
      case rel => exact ⟨j + 1, by omega, by go_num, by rw [hz], hbr⟩
      case measure => simp [intOf]; omega
    · obtain rfl : j = xs.length := by omega
      go_wp2_with fail
      go_ret
      exact ⟨rfl, hbr.out⟩
set_option maxRecDepth 100000 in
set_option maxHeartbeats 3200000 in
theorem heldListenerS_any {w : World} {lo : Nat} {k : Value} {xs : List ListenerD} {m : Int} (hk : SeqAt 5 ListenerAt w lo k (mkL cntListener mkListener xs m)) (h0 : 0 ≤ m) (h1 : m + (cntL cntListener xs : Nat) ≤ 4611686018427387904) :
    Calls Try.prog 85 #[k, .int .i64 m] w fun e w' => e = .returned (.int .i64 (m + (cntL cntListener xs : Nat))) ∧ Below w.heap.size w w' := by
  obtain ⟨a, cap, rfl, hm, hx⟩ := hk
  have hx' : Hid _ := hx
  clear hx
  rw [mkL_length] at hm ⊢
  unfold maxLen at hm
  go_enter Try.func85, Try.ntmps85
  go_wp2_with fail
  go_loopw [1, 5] (fun z i wr => ∃ (j : Nat), j ≤ xs.length ∧ i = .int .i64 j ∧ z = .int .i64 (m + (pos cntListener xs j : Nat)) ∧ Hid (Below w.heap.size w wr)) (fun _ i _ => xs.length - (intOf i).toNat)
  case atStart => exact ⟨0, by omega, rfl, by rw [pos_zero]; simp, Below.refl _ _⟩
  case round =>
    obtain ⟨j, hj, rfl, rfl, hbr⟩ := hrel
    by_cases hlt : j < xs.length
    · obtain ⟨b, off, rfl, hlo, hbw, hc⟩ := hx'.out (by rw [mkL_length]; omega)
      obtain ⟨cs, hcl, lie, hr⟩ := hc j (by rw [mkL_length]; exact hlt)
      have hps2 : pos cntListener xs (j + 1) = pos cntListener xs j + (1 + 1 + 1 + 1 + 1) := pos_succ hlt
      have hpl : pos cntListener xs (j + 1) ≤ cntL cntListener xs := pos_le (by omega) (Nat.le_refl _)
      rw [mkL_get] at hr
      generalize xs[j] = Q at *
      generalize hP : m + (pos cntListener xs j : Nat) = P at *
      have hP0 : 0 ≤ P := by omega
      obtain ⟨rfl, _⟩ := hr
      have hP1 : P + (1 + 1 + 1 + 1 + 1) ≤ 4611686018427387904 := by omega
      have hz : m + (pos cntListener xs (j + 1) : Nat) = P + 1 + 1 + 1 + 1 + 1 := by omega
      clear hpl hps2
      clear hcl hc
      have hb0 := hbr.out
      have lie' : Hid (Lie w b (off + j * 5) [.string (markT (P)), .bool ((P + 1) % 3 == 0), .bool ((P + 1 + 1) % 3 == 0), .int .i64 (P + 1 + 1 + 1), .string (markT (P + 1 + 1 + 1 + 1))]) := by exact lie
      clear lie
      have lie0 := Lie.keep (lo := lo) (lo' := lo) lie'.out (.of_below hb0) hlo hbw
      have z0_0 : wr.cell? ⟨b, off + j * 5 + 0, none⟩ = some (.string (markT (P))) := lie_at2 lie0 0 rfl
      have z0_1 : wr.cell? ⟨b, off + j * 5 + 1, none⟩ = some (.bool ((P + 1) % 3 == 0)) := lie_at2 lie0 1 rfl
      have z0_2 : wr.cell? ⟨b, off + j * 5 + 2, none⟩ = some (.bool ((P + 1 + 1) % 3 == 0)) := lie_at2 lie0 2 rfl
      have z0_3 : wr.cell? ⟨b, off + j * 5 + 3, none⟩ = some (.int .i64 (P + 1 + 1 + 1)) := lie_at2 lie0 3 rfl
      have z0_4 : wr.cell? ⟨b, off + j * 5 + 4, none⟩ = some (.string (markT (P + 1 + 1 + 1 + 1))) := lie_at2 lie0 4 rfl
      simp only [Nat.add_zero] at z0_0
      clear lie0
      go_wp2_with fail
      go_region_held3 (fun w' => w'.cell? ⟨b, off + j * 5, none⟩ = some (.string (markT (P)))) (go_keep) (first | (go_at_call 53; refine (markText_any (by omega)).mono ?_; rintro e v1 ⟨rfl, hq1⟩; have zz := cell_on (undrew hq1) z0_0))
      have hb1 : Below w.heap.size w v1 := hb0.trans ((undrew hq1).mono hb0.size)
      clear hq1 zz
      clear z0_0 z0_1 z0_2 z0_3 z0_4
      have lie1 := Lie.keep (lo := lo) (lo' := lo) lie'.out (.of_below hb1) hlo hbw
      have z1_0 : v1.cell? ⟨b, off + j * 5 + 0, none⟩ = some (.string (markT (P))) := lie_at2 lie1 0 rfl
      have z1_1 : v1.cell? ⟨b, off + j * 5 + 1, none⟩ = some (.bool ((P + 1) % 3 == 0)) := lie_at2 lie1 1 rfl
      have z1_2 : v1.cell? ⟨b, off + j * 5 + 2, none⟩ = some (.bool ((P + 1 + 1) % 3 == 0)) := lie_at2 lie1 2 rfl
      have z1_3 : v1.cell? ⟨b, off + j * 5 + 3, none⟩ = some (.int .i64 (P + 1 + 1 + 1)) := lie_at2 lie1 3 rfl
      have z1_4 : v1.cell? ⟨b, off + j * 5 + 4, none⟩ = some (.string (markT (P + 1 + 1 + 1 + 1))) := lie_at2 lie1 4 rfl
      simp only [Nat.add_zero] at z1_0
      clear lie1
      go_wp2_with fail
      go_region_held3 (fun w' => w'.cell? ⟨b, off + j * 5 + 4, none⟩ = some (.string (markT (P + 1 + 1 + 1 + 1)))) (go_keep) (first | (go_at_call 53; refine (markText_any (by omega)).mono ?_; rintro e v2 ⟨rfl, hq2⟩; have zz := cell_on (undrew hq2) z1_4))
      have hb2 : Below w.heap.size w v2 := hb1.trans ((undrew hq2).mono hb1.size)
      clear hq2 zz
      clear z1_0 z1_1 z1_2 z1_3 z1_4
      have lie2 := Lie.keep (lo := lo) (lo' := lo) lie'.out (.of_below hb2) hlo hbw
      have z2_0 : v2.cell? ⟨b, off + j * 5 + 0, none⟩ = some (.string (markT (P))) := lie_at2 lie2 0 rfl
      have z2_1 : v2.cell? ⟨b, off + j * 5 + 1, none⟩ = some (.bool ((P + 1) % 3 == 0)) := lie_at2 lie2 1 rfl
      have z2_2 : v2.cell? ⟨b, off + j * 5 + 2, none⟩ = some (.bool ((P + 1 + 1) % 3 == 0)) := lie_at2 lie2 2 rfl
      have z2_3 : v2.cell? ⟨b, off + j * 5 + 3, none⟩ = some (.int .i64 (P + 1 + 1 + 1)) := lie_at2 lie2 3 rfl
      have z2_4 : v2.cell? ⟨b, off + j * 5 + 4, none⟩ = some (.string (markT (P + 1 + 1 + 1 + 1))) := lie_at2 lie2 4 rfl
      simp only [Nat.add_zero] at z2_0
      clear lie2
      go_wp2_with fail
      go_roundw
      case rel => exact ⟨j + 1, by omega, by go_num, by rw [hz], hb2⟩
      case measure => simp [intOf]; omega
    · obtain rfl : j = xs.length := by omega
      go_wp2_with fail
      go_ret
      exact ⟨rfl, hbr.out⟩
set_option maxRecDepth 100000 in
set_option maxHeartbeats 3200000 in
theorem heldNodeS_any {w : World} {lo : Nat} {k : Value} {xs : List NodeD} {m : Int} (hk : SeqAt 6 NodeAt w lo k (mkL cntNode mkNode xs m)) (h0 : 0 ≤ m) (h1 : m + (cntL cntNode xs : Nat) ≤ 4611686018427387904) :
    Calls Try.prog 54 #[k, .int .i64 m] w fun e w' => e = .returned (.int .i64 (m + (cntL cntNode xs : Nat))) ∧ Below w.heap.size w w' := by
  obtain ⟨a, cap, rfl, hm, hx⟩ := hk
  have hx' : Hid _ := hx
  clear hx
  rw [mkL_length] at hm ⊢
  unfold maxLen at hm
  go_enter Try.func54, Try.ntmps54
  go_wp2_with fail
  go_loopw [1, 5] (fun z i wr => ∃ (j : Nat), j ≤ xs.length ∧ i = .int .i64 j ∧ z = .int .i64 (m + (pos cntNode xs j : Nat)) ∧ Hid (Below w.heap.size w wr)) (fun _ i _ => xs.length - (intOf i).toNat)
  case atStart => exact ⟨0, by omega, rfl, by rw [pos_zero]; simp, Below.refl _ _⟩
  case round =>
    obtain ⟨j, hj, rfl, rfl, hbr⟩ := hrel
    by_cases hlt : j < xs.length
    · obtain ⟨b, off, rfl, hlo, hbw, hc⟩ := hx'.out (by rw [mkL_length]; omega)
      obtain ⟨cs, hcl, lie, hr⟩ := hc j (by rw [mkL_length]; exact hlt)
      have hps2 : pos cntNode xs (j + 1) = pos cntNode xs j + (1 + 1 + 1 + cntL cntI xs[j].vKids + 1 + cntL cntListener xs[j].vListeners) := pos_succ hlt
      have hpl : pos cntNode xs (j + 1) ≤ cntL cntNode xs := pos_le (by omega) (Nat.le_refl _)
      rw [mkL_get] at hr
      generalize xs[j] = Q at *
      generalize hP : m + (pos cntNode xs j : Nat) = P at *
      have hP0 : 0 ≤ P := by omega
      obtain ⟨k3, k5, rfl, s3, s5, _⟩ := hr
      have s3' : Hid (SeqAt 1 IntAt w lo k3 (mkL cntI mkI Q.vKids (P + 1 + 1 + 1))) := s3
      obtain ⟨p3, d3, rfl⟩ := s3'.out.form
      clear s3
      have s5' : Hid (SeqAt 5 ListenerAt w lo k5 (mkL cntListener mkListener Q.vListeners (P + 1 + 1 + 1 + (cntL cntI Q.vKids : Nat) + 1))) := s5
      obtain ⟨p5, d5, rfl⟩ := s5'.out.form
      clear s5
      generalize hC3 : cntL cntI Q.vKids = N3 at *
      generalize hC5 : cntL cntListener Q.vListeners = N5 at *
      have hP1 : P + (1 + 1 + 1 + (N3 : Int) + 1 + (N5 : Int)) ≤ 4611686018427387904 := by omega
      have hz : m + (pos cntNode xs (j + 1) : Nat) = P + 1 + 1 + 1 + (N3 : Int) + 1 + (N5 : Int) := by omega
      clear hpl hps2
      clear hcl hc
      have hb0 := hbr.out
      have lie' : Hid (Lie w b (off + j * 6) [.int .i64 (P), .string (markT (P + 1)), .int .i64 (P + 1 + 1), .slice p3 (mkL cntI mkI Q.vKids (P + 1 + 1 + 1)).length d3, .int .i64 (P + 1 + 1 + 1 + (N3 : Int)), .slice p5 (mkL cntListener mkListener Q.vListeners (P + 1 + 1 + 1 + (N3 : Int) + 1)).length d5]) := by subst hC3; subst hC5; exact lie
      clear lie
      have lie0 := Lie.keep (lo := lo) (lo' := lo) lie'.out (.of_below hb0) hlo hbw
      have z0_0 : wr.cell? ⟨b, off + j * 6 + 0, none⟩ = some (.int .i64 (P)) := lie_at2 lie0 0 rfl
      have z0_1 : wr.cell? ⟨b, off + j * 6 + 1, none⟩ = some (.string (markT (P + 1))) := lie_at2 lie0 1 rfl
      have z0_2 : wr.cell? ⟨b, off + j * 6 + 2, none⟩ = some (.int .i64 (P + 1 + 1)) := lie_at2 lie0 2 rfl
      have z0_3 : wr.cell? ⟨b, off + j * 6 + 3, none⟩ = some (.slice p3 (mkL cntI mkI Q.vKids (P + 1 + 1 + 1)).length d3) := lie_at2 lie0 3 rfl
      have z0_4 : wr.cell? ⟨b, off + j * 6 + 4, none⟩ = some (.int .i64 (P + 1 + 1 + 1 + (N3 : Int))) := lie_at2 lie0 4 rfl
      have z0_5 : wr.cell? ⟨b, off + j * 6 + 5, none⟩ = some (.slice p5 (mkL cntListener mkListener Q.vListeners (P + 1 + 1 + 1 + (N3 : Int) + 1)).length d5) := lie_at2 lie0 5 rfl
      simp only [Nat.add_zero] at z0_0
      clear lie0
      go_wp2_with fail
      go_region_held3 (fun w' => w'.cell? ⟨b, off + j * 6 + 1, none⟩ = some (.string (markT (P + 1)))) (go_keep) (first | (go_at_call 53; refine (markText_any (by omega)).mono ?_; rintro e v1 ⟨rfl, hq1⟩; have zz := cell_on (undrew hq1) z0_1))
      have hb1 : Below w.heap.size w v1 := hb0.trans ((undrew hq1).mono hb0.size)
      clear hq1 zz
      clear z0_0 z0_1 z0_2 z0_3 z0_4 z0_5
      have lie1 := Lie.keep (lo := lo) (lo' := lo) lie'.out (.of_below hb1) hlo hbw
      have z1_0 : v1.cell? ⟨b, off + j * 6 + 0, none⟩ = some (.int .i64 (P)) := lie_at2 lie1 0 rfl
      have z1_1 : v1.cell? ⟨b, off + j * 6 + 1, none⟩ = some (.string (markT (P + 1))) := lie_at2 lie1 1 rfl
      have z1_2 : v1.cell? ⟨b, off + j * 6 + 2, none⟩ = some (.int .i64 (P + 1 + 1)) := lie_at2 lie1 2 rfl
      have z1_3 : v1.cell? ⟨b, off + j * 6 + 3, none⟩ = some (.slice p3 (mkL cntI mkI Q.vKids (P + 1 + 1 + 1)).length d3) := lie_at2 lie1 3 rfl
      have z1_4 : v1.cell? ⟨b, off + j * 6 + 4, none⟩ = some (.int .i64 (P + 1 + 1 + 1 + (N3 : Int))) := lie_at2 lie1 4 rfl
      have z1_5 : v1.cell? ⟨b, off + j * 6 + 5, none⟩ = some (.slice p5 (mkL cntListener mkListener Q.vListeners (P + 1 + 1 + 1 + (N3 : Int) + 1)).length d5) := lie_at2 lie1 5 rfl
      simp only [Nat.add_zero] at z1_0
      clear lie1
      go_wp2_with fail
      refine (heldInt64S_any (s3'.out.below intAt_stays hb1) (by omega) (by omega)).mono ?_
      rintro e v2 ⟨rfl, hq2⟩
      rw [hC3]
      have hb2 : Below w.heap.size w v2 := hb1.trans (hq2.mono hb1.size)
      clear hq2
      clear z1_0 z1_1 z1_2 z1_3 z1_4 z1_5
      have lie2 := Lie.keep (lo := lo) (lo' := lo) lie'.out (.of_below hb2) hlo hbw
      have z2_0 : v2.cell? ⟨b, off + j * 6 + 0, none⟩ = some (.int .i64 (P)) := lie_at2 lie2 0 rfl
      have z2_1 : v2.cell? ⟨b, off + j * 6 + 1, none⟩ = some (.string (markT (P + 1))) := lie_at2 lie2 1 rfl
      have z2_2 : v2.cell? ⟨b, off + j * 6 + 2, none⟩ = some (.int .i64 (P + 1 + 1)) := lie_at2 lie2 2 rfl
      have z2_3 : v2.cell? ⟨b, off + j * 6 + 3, none⟩ = some (.slice p3 (mkL cntI mkI Q.vKids (P + 1 + 1 + 1)).length d3) := lie_at2 lie2 3 rfl
      have z2_4 : v2.cell? ⟨b, off + j * 6 + 4, none⟩ = some (.int .i64 (P + 1 + 1 + 1 + (N3 : Int))) := lie_at2 lie2 4 rfl
      have z2_5 : v2.cell? ⟨b, off + j * 6 + 5, none⟩ = some (.slice p5 (mkL cntListener mkListener Q.vListeners (P + 1 + 1 + 1 + (N3 : Int) + 1)).length d5) := lie_at2 lie2 5 rfl
      simp only [Nat.add_zero] at z2_0
      clear lie2
      go_wp2_with fail
      refine (heldListenerS_any (s5'.out.below ListenerAt_stays hb2) (by omega) (by omega)).mono ?_
      rintro e v3 ⟨rfl, hq3⟩
      rw [hC5]
      have hb3 : Below w.heap.size w v3 := hb2.trans (hq3.mono hb2.size)
      clear hq3
      clear z2_0 z2_1 z2_2 z2_3 z2_4 z2_5
      have lie3 := Lie.keep (lo := lo) (lo' := lo) lie'.out (.of_below hb3) hlo hbw
      have z3_0 : v3.cell? ⟨b, off + j * 6 + 0, none⟩ = some (.int .i64 (P)) := lie_at2 lie3 0 rfl
      have z3_1 : v3.cell? ⟨b, off + j * 6 + 1, none⟩ = some (.string (markT (P + 1))) := lie_at2 lie3 1 rfl
      have z3_2 : v3.cell? ⟨b, off + j * 6 + 2, none⟩ = some (.int .i64 (P + 1 + 1)) := lie_at2 lie3 2 rfl
      have z3_3 : v3.cell? ⟨b, off + j * 6 + 3, none⟩ = some (.slice p3 (mkL cntI mkI Q.vKids (P + 1 + 1 + 1)).length d3) := lie_at2 lie3 3 rfl
      have z3_4 : v3.cell? ⟨b, off + j * 6 + 4, none⟩ = some (.int .i64 (P + 1 + 1 + 1 + (N3 : Int))) := lie_at2 lie3 4 rfl
      have z3_5 : v3.cell? ⟨b, off + j * 6 + 5, none⟩ = some (.slice p5 (mkL cntListener mkListener Q.vListeners (P + 1 + 1 + 1 + (N3 : Int) + 1)).length d5) := lie_at2 lie3 5 rfl
      simp only [Nat.add_zero] at z3_0
      clear lie3
      go_wp2_with fail
      go_roundw
      case rel => exact ⟨j + 1, by omega, by go_num, by rw [hz], hb3⟩
      case measure => simp [intOf]; omega
    · obtain rfl : j = xs.length := by omega
      go_wp2_with fail
      go_ret
      exact ⟨rfl, hbr.out⟩
set_option maxRecDepth 100000 in
set_option maxHeartbeats 3200000 in
theorem heldFieldS_any {w : World} {lo : Nat} {k : Value} {xs : List FieldD} {m : Int} (hk : SeqAt 2 FieldAt w lo k (mkL cntField mkField xs m)) (h0 : 0 ≤ m) (h1 : m + (cntL cntField xs : Nat) ≤ 4611686018427387904) :
    Calls Try.prog 56 #[k, .int .i64 m] w fun e w' => e = .returned (.int .i64 (m + (cntL cntField xs : Nat))) ∧ Below w.heap.size w w' := by
  obtain ⟨a, cap, rfl, hm, hx⟩ := hk
  have hx' : Hid _ := hx
  clear hx
  rw [mkL_length] at hm ⊢
  unfold maxLen at hm
  go_enter Try.func56, Try.ntmps56
  go_wp2_with fail
  go_loopw [1, 5] (fun z i wr => ∃ (j : Nat), j ≤ xs.length ∧ i = .int .i64 j ∧ z = .int .i64 (m + (pos cntField xs j : Nat)) ∧ Hid (Below w.heap.size w wr)) (fun _ i _ => xs.length - (intOf i).toNat)
  case atStart => exact ⟨0, by omega, rfl, by rw [pos_zero]; simp, Below.refl _ _⟩
  case round =>
    obtain ⟨j, hj, rfl, rfl, hbr⟩ := hrel
    by_cases hlt : j < xs.length
    · obtain ⟨b, off, rfl, hlo, hbw, hc⟩ := hx'.out (by rw [mkL_length]; omega)
      obtain ⟨cs, hcl, lie, hr⟩ := hc j (by rw [mkL_length]; exact hlt)
      have hps2 : pos cntField xs (j + 1) = pos cntField xs j + (1 + 1) := pos_succ hlt
      have hpl : pos cntField xs (j + 1) ≤ cntL cntField xs := pos_le (by omega) (Nat.le_refl _)
      rw [mkL_get] at hr
      generalize xs[j] = Q at *
      generalize hP : m + (pos cntField xs j : Nat) = P at *
      have hP0 : 0 ≤ P := by omega
      obtain ⟨rfl, _⟩ := hr
      have hP1 : P + (1 + 1) ≤ 4611686018427387904 := by omega
      have hz : m + (pos cntField xs (j + 1) : Nat) = P + 1 + 1 := by omega
      clear hpl hps2
      clear hcl hc
      have hb0 := hbr.out
      have lie' : Hid (Lie w b (off + j * 2) [.string (markT (P)), .int .i64 (P + 1)]) := by exact lie
      clear lie
      have lie0 := Lie.keep (lo := lo) (lo' := lo) lie'.out (.of_below hb0) hlo hbw
      have z0_0 : wr.cell? ⟨b, off + j * 2 + 0, none⟩ = some (.string (markT (P))) := lie_at2 lie0 0 rfl
      have z0_1 : wr.cell? ⟨b, off + j * 2 + 1, none⟩ = some (.int .i64 (P + 1)) := lie_at2 lie0 1 rfl
      simp only [Nat.add_zero] at z0_0
      clear lie0
      go_wp2_with fail
      go_region_held3 (fun w' => w'.cell? ⟨b, off + j * 2, none⟩ = some (.string (markT (P)))) (go_keep) (first | (go_at_call 53; refine (markText_any (by omega)).mono ?_; rintro e v1 ⟨rfl, hq1⟩; have zz := cell_on (undrew hq1) z0_0))
      have hb1 : Below w.heap.size w v1 := hb0.trans ((undrew hq1).mono hb0.size)
      clear hq1 zz
      clear z0_0 z0_1
      have lie1 := Lie.keep (lo := lo) (lo' := lo) lie'.out (.of_below hb1) hlo hbw
      have z1_0 : v1.cell? ⟨b, off + j * 2 + 0, none⟩ = some (.string (markT (P))) := lie_at2 lie1 0 rfl
      have z1_1 : v1.cell? ⟨b, off + j * 2 + 1, none⟩ = some (.int .i64 (P + 1)) := lie_at2 lie1 1 rfl
      simp only [Nat.add_zero] at z1_0
      clear lie1
      go_wp2_with fail
      go_roundw
      case rel => exact ⟨j + 1, by omega, by go_num, by rw [hz], hb1⟩
      case measure => simp [intOf]; omega
    · obtain rfl : j = xs.length := by omega
      go_wp2_with fail
      go_ret
      exact ⟨rfl, hbr.out⟩
set_option maxRecDepth 100000 in
set_option maxHeartbeats 3200000 in
theorem heldObjS_any {w : World} {lo : Nat} {k : Value} {xs : List ObjD} {m : Int} (hk : SeqAt 3 ObjAt w lo k (mkL cntObj mkObj xs m)) (h0 : 0 ≤ m) (h1 : m + (cntL cntObj xs : Nat) ≤ 4611686018427387904) :
    Calls Try.prog 55 #[k, .int .i64 m] w fun e w' => e = .returned (.int .i64 (m + (cntL cntObj xs : Nat))) ∧ Below w.heap.size w w' := by
  obtain ⟨a, cap, rfl, hm, hx⟩ := hk
  have hx' : Hid _ := hx
  clear hx
  rw [mkL_length] at hm ⊢
  unfold maxLen at hm
  go_enter Try.func55, Try.ntmps55
  go_wp2_with fail
  go_loopw [1, 5] (fun z i wr => ∃ (j : Nat), j ≤ xs.length ∧ i = .int .i64 j ∧ z = .int .i64 (m + (pos cntObj xs j : Nat)) ∧ Hid (Below w.heap.size w wr)) (fun _ i _ => xs.length - (intOf i).toNat)
  case atStart => exact ⟨0, by omega, rfl, by rw [pos_zero]; simp, Below.refl _ _⟩
  case round =>
    obtain ⟨j, hj, rfl, rfl, hbr⟩ := hrel
    by_cases hlt : j < xs.length
    · obtain ⟨b, off, rfl, hlo, hbw, hc⟩ := hx'.out (by rw [mkL_length]; omega)
      obtain ⟨cs, hcl, lie, hr⟩ := hc j (by rw [mkL_length]; exact hlt)
      have hps2 : pos cntObj xs (j + 1) = pos cntObj xs j + (1 + 1 + cntL cntField xs[j].vFields) := pos_succ hlt
      have hpl : pos cntObj xs (j + 1) ≤ cntL cntObj xs := pos_le (by omega) (Nat.le_refl _)
      rw [mkL_get] at hr
      generalize xs[j] = Q at *
      generalize hP : m + (pos cntObj xs j : Nat) = P at *
      have hP0 : 0 ≤ P := by omega
      obtain ⟨k2, rfl, s2, _⟩ := hr
      have s2' : Hid (SeqAt 2 FieldAt w lo k2 (mkL cntField mkField Q.vFields (P + 1 + 1))) := s2
      obtain ⟨p2, d2, rfl⟩ := s2'.out.form
      clear s2
      generalize hC2 : cntL cntField Q.vFields = N2 at *
      have hP1 : P + (1 + 1 + (N2 : Int)) ≤ 4611686018427387904 := by omega
      have hz : m + (pos cntObj xs (j + 1) : Nat) = P + 1 + 1 + (N2 : Int) := by omega
      clear hpl hps2
      clear hcl hc
      have hb0 := hbr.out
      have lie' : Hid (Lie w b (off + j * 3) [.int .i64 (P), .int .i64 (P + 1), .slice p2 (mkL cntField mkField Q.vFields (P + 1 + 1)).length d2]) := by subst hC2; exact lie
      clear lie
      have lie0 := Lie.keep (lo := lo) (lo' := lo) lie'.out (.of_below hb0) hlo hbw
      have z0_0 : wr.cell? ⟨b, off + j * 3 + 0, none⟩ = some (.int .i64 (P)) := lie_at2 lie0 0 rfl
      have z0_1 : wr.cell? ⟨b, off + j * 3 + 1, none⟩ = some (.int .i64 (P + 1)) := lie_at2 lie0 1 rfl
      have z0_2 : wr.cell? ⟨b, off + j * 3 + 2, none⟩ = some (.slice p2 (mkL cntField mkField Q.vFields (P + 1 + 1)).length d2) := lie_at2 lie0 2 rfl
      simp only [Nat.add_zero] at z0_0
      clear lie0
      go_wp2_with fail
      refine (heldFieldS_any (s2'.out.below FieldAt_stays hb0) (by omega) (by omega)).mono ?_
      rintro e v1 ⟨rfl, hq1⟩
      rw [hC2]
      have hb1 : Below w.heap.size w v1 := hb0.trans (hq1.mono hb0.size)
      clear hq1
      clear z0_0 z0_1 z0_2
      have lie1 := Lie.keep (lo := lo) (lo' := lo) lie'.out (.of_below hb1) hlo hbw
      have z1_0 : v1.cell? ⟨b, off + j * 3 + 0, none⟩ = some (.int .i64 (P)) := lie_at2 lie1 0 rfl
      have z1_1 : v1.cell? ⟨b, off + j * 3 + 1, none⟩ = some (.int .i64 (P + 1)) := lie_at2 lie1 1 rfl
      have z1_2 : v1.cell? ⟨b, off + j * 3 + 2, none⟩ = some (.slice p2 (mkL cntField mkField Q.vFields (P + 1 + 1)).length d2) := lie_at2 lie1 2 rfl
      simp only [Nat.add_zero] at z1_0
      clear lie1
      go_wp2_with fail
      go_roundw
      case rel => exact ⟨j + 1, by omega, by go_num, by rw [hz], hb1⟩
      case measure => simp [intOf]; omega
    · obtain rfl : j = xs.length := by omega
      go_wp2_with fail
      go_ret
      exact ⟨rfl, hbr.out⟩
set_option maxRecDepth 100000 in
set_option maxHeartbeats 3200000 in
theorem heldHeapS_any {w : World} {lo : Nat} {k : Value} {xs : List HeapD} {m : Int} (hk : SeqAt 5 HeapAt w lo k (mkL cntHeap mkHeap xs m)) (h0 : 0 ≤ m) (h1 : m + (cntL cntHeap xs : Nat) ≤ 4611686018427387904) :
    Calls Try.prog 27 #[k, .int .i64 m] w fun e w' => e = .returned (.int .i64 (m + (cntL cntHeap xs : Nat))) ∧ Below w.heap.size w w' := by
  obtain ⟨a, cap, rfl, hm, hx⟩ := hk
  have hx' : Hid _ := hx
  clear hx
  rw [mkL_length] at hm ⊢
  unfold maxLen at hm
  go_enter Try.func27, Try.ntmps27
  go_wp2_with fail
  go_loopw [1, 5] (fun z i wr => ∃ (j : Nat), j ≤ xs.length ∧ i = .int .i64 j ∧ z = .int .i64 (m + (pos cntHeap xs j : Nat)) ∧ Hid (Below w.heap.size w wr)) (fun _ i _ => xs.length - (intOf i).toNat)
  case atStart => exact ⟨0, by omega, rfl, by rw [pos_zero]; simp, Below.refl _ _⟩
  case round =>
    obtain ⟨j, hj, rfl, rfl, hbr⟩ := hrel
    by_cases hlt : j < xs.length
    · obtain ⟨b, off, rfl, hlo, hbw, hc⟩ := hx'.out (by rw [mkL_length]; omega)
      obtain ⟨cs, hcl, lie, hr⟩ := hc j (by rw [mkL_length]; exact hlt)
      have hps2 : pos cntHeap xs (j + 1) = pos cntHeap xs j + (1 + 1 + cntL cntNode xs[j].vNodes + cntL cntObj xs[j].vObjs + cntL cntField xs[j].vGlobals) := pos_succ hlt
      have hpl : pos cntHeap xs (j + 1) ≤ cntL cntHeap xs := pos_le (by omega) (Nat.le_refl _)
      rw [mkL_get] at hr
      generalize xs[j] = Q at *
      generalize hP : m + (pos cntHeap xs j : Nat) = P at *
      have hP0 : 0 ≤ P := by omega
      obtain ⟨k2, k3, k4, rfl, s2, s3, s4, _⟩ := hr
      have s2' : Hid (SeqAt 6 NodeAt w lo k2 (mkL cntNode mkNode Q.vNodes (P + 1 + 1))) := s2
      obtain ⟨p2, d2, rfl⟩ := s2'.out.form
      clear s2
      have s3' : Hid (SeqAt 3 ObjAt w lo k3 (mkL cntObj mkObj Q.vObjs (P + 1 + 1 + (cntL cntNode Q.vNodes : Nat)))) := s3
      obtain ⟨p3, d3, rfl⟩ := s3'.out.form
      clear s3
      have s4' : Hid (SeqAt 2 FieldAt w lo k4 (mkL cntField mkField Q.vGlobals (P + 1 + 1 + (cntL cntNode Q.vNodes : Nat) + (cntL cntObj Q.vObjs : Nat)))) := s4
      obtain ⟨p4, d4, rfl⟩ := s4'.out.form
      clear s4
      generalize hC2 : cntL cntNode Q.vNodes = N2 at *
      generalize hC3 : cntL cntObj Q.vObjs = N3 at *
      generalize hC4 : cntL cntField Q.vGlobals = N4 at *
      have hP1 : P + (1 + 1 + (N2 : Int) + (N3 : Int) + (N4 : Int)) ≤ 4611686018427387904 := by omega
      have hz : m + (pos cntHeap xs (j + 1) : Nat) = P + 1 + 1 + (N2 : Int) + (N3 : Int) + (N4 : Int) := by omega
      clear hpl hps2
      clear hcl hc
      have hb0 := hbr.out
      have lie' : Hid (Lie w b (off + j * 5) [.int .i64 (P), .int .i64 (P + 1), .slice p2 (mkL cntNode mkNode Q.vNodes (P + 1 + 1)).length d2, .slice p3 (mkL cntObj mkObj Q.vObjs (P + 1 + 1 + (N2 : Int))).length d3, .slice p4 (mkL cntField mkField Q.vGlobals (P + 1 + 1 + (N2 : Int) + (N3 : Int))).length d4]) := by subst hC2; subst hC3; subst hC4; exact lie
      clear lie
      have lie0 := Lie.keep (lo := lo) (lo' := lo) lie'.out (.of_below hb0) hlo hbw
      have z0_0 : wr.cell? ⟨b, off + j * 5 + 0, none⟩ = some (.int .i64 (P)) := lie_at2 lie0 0 rfl
      have z0_1 : wr.cell? ⟨b, off + j * 5 + 1, none⟩ = some (.int .i64 (P + 1)) := lie_at2 lie0 1 rfl
      have z0_2 : wr.cell? ⟨b, off + j * 5 + 2, none⟩ = some (.slice p2 (mkL cntNode mkNode Q.vNodes (P + 1 + 1)).length d2) := lie_at2 lie0 2 rfl
      have z0_3 : wr.cell? ⟨b, off + j * 5 + 3, none⟩ = some (.slice p3 (mkL cntObj mkObj Q.vObjs (P + 1 + 1 + (N2 : Int))).length d3) := lie_at2 lie0 3 rfl
      have z0_4 : wr.cell? ⟨b, off + j * 5 + 4, none⟩ = some (.slice p4 (mkL cntField mkField Q.vGlobals (P + 1 + 1 + (N2 : Int) + (N3 : Int))).length d4) := lie_at2 lie0 4 rfl
      simp only [Nat.add_zero] at z0_0
      clear lie0
      go_wp2_with fail
      refine (heldNodeS_any (s2'.out.below NodeAt_stays hb0) (by omega) (by omega)).mono ?_
      rintro e v1 ⟨rfl, hq1⟩
      rw [hC2]
      have hb1 : Below w.heap.size w v1 := hb0.trans (hq1.mono hb0.size)
      clear hq1
      clear z0_0 z0_1 z0_2 z0_3 z0_4
      have lie1 := Lie.keep (lo := lo) (lo' := lo) lie'.out (.of_below hb1) hlo hbw
      have z1_0 : v1.cell? ⟨b, off + j * 5 + 0, none⟩ = some (.int .i64 (P)) := lie_at2 lie1 0 rfl
      have z1_1 : v1.cell? ⟨b, off + j * 5 + 1, none⟩ = some (.int .i64 (P + 1)) := lie_at2 lie1 1 rfl
      have z1_2 : v1.cell? ⟨b, off + j * 5 + 2, none⟩ = some (.slice p2 (mkL cntNode mkNode Q.vNodes (P + 1 + 1)).length d2) := lie_at2 lie1 2 rfl
      have z1_3 : v1.cell? ⟨b, off + j * 5 + 3, none⟩ = some (.slice p3 (mkL cntObj mkObj Q.vObjs (P + 1 + 1 + (N2 : Int))).length d3) := lie_at2 lie1 3 rfl
      have z1_4 : v1.cell? ⟨b, off + j * 5 + 4, none⟩ = some (.slice p4 (mkL cntField mkField Q.vGlobals (P + 1 + 1 + (N2 : Int) + (N3 : Int))).length d4) := lie_at2 lie1 4 rfl
      simp only [Nat.add_zero] at z1_0
      clear lie1
      go_wp2_with fail
      refine (heldObjS_any (s3'.out.below ObjAt_stays hb1) (by omega) (by omega)).mono ?_
      rintro e v2 ⟨rfl, hq2⟩
      rw [hC3]
      have hb2 : Below w.heap.size w v2 := hb1.trans (hq2.mono hb1.size)
      clear hq2
      clear z1_0 z1_1 z1_2 z1_3 z1_4
      have lie2 := Lie.keep (lo := lo) (lo' := lo) lie'.out (.of_below hb2) hlo hbw
      have z2_0 : v2.cell? ⟨b, off + j * 5 + 0, none⟩ = some (.int .i64 (P)) := lie_at2 lie2 0 rfl
      have z2_1 : v2.cell? ⟨b, off + j * 5 + 1, none⟩ = some (.int .i64 (P + 1)) := lie_at2 lie2 1 rfl
      have z2_2 : v2.cell? ⟨b, off + j * 5 + 2, none⟩ = some (.slice p2 (mkL cntNode mkNode Q.vNodes (P + 1 + 1)).length d2) := lie_at2 lie2 2 rfl
      have z2_3 : v2.cell? ⟨b, off + j * 5 + 3, none⟩ = some (.slice p3 (mkL cntObj mkObj Q.vObjs (P + 1 + 1 + (N2 : Int))).length d3) := lie_at2 lie2 3 rfl
      have z2_4 : v2.cell? ⟨b, off + j * 5 + 4, none⟩ = some (.slice p4 (mkL cntField mkField Q.vGlobals (P + 1 + 1 + (N2 : Int) + (N3 : Int))).length d4) := lie_at2 lie2 4 rfl
      simp only [Nat.add_zero] at z2_0
      clear lie2
      go_wp2_with fail
      refine (heldFieldS_any (s4'.out.below FieldAt_stays hb2) (by omega) (by omega)).mono ?_
      rintro e v3 ⟨rfl, hq3⟩
      rw [hC4]
      have hb3 : Below w.heap.size w v3 := hb2.trans (hq3.mono hb2.size)
      clear hq3
      clear z2_0 z2_1 z2_2 z2_3 z2_4
      have lie3 := Lie.keep (lo := lo) (lo' := lo) lie'.out (.of_below hb3) hlo hbw
      have z3_0 : v3.cell? ⟨b, off + j * 5 + 0, none⟩ = some (.int .i64 (P)) := lie_at2 lie3 0 rfl
      have z3_1 : v3.cell? ⟨b, off + j * 5 + 1, none⟩ = some (.int .i64 (P + 1)) := lie_at2 lie3 1 rfl
      have z3_2 : v3.cell? ⟨b, off + j * 5 + 2, none⟩ = some (.slice p2 (mkL cntNode mkNode Q.vNodes (P + 1 + 1)).length d2) := lie_at2 lie3 2 rfl
      have z3_3 : v3.cell? ⟨b, off + j * 5 + 3, none⟩ = some (.slice p3 (mkL cntObj mkObj Q.vObjs (P + 1 + 1 + (N2 : Int))).length d3) := lie_at2 lie3 3 rfl
      have z3_4 : v3.cell? ⟨b, off + j * 5 + 4, none⟩ = some (.slice p4 (mkL cntField mkField Q.vGlobals (P + 1 + 1 + (N2 : Int) + (N3 : Int))).length d4) := lie_at2 lie3 4 rfl
      simp only [Nat.add_zero] at z3_0
      clear lie3
      go_wp2_with fail
      go_roundw
      case rel => exact ⟨j + 1, by omega, by go_num, by rw [hz], hb3⟩
      case measure => simp [intOf]; omega
    · obtain rfl : j = xs.length := by omega
      go_wp2_with fail
      go_ret
      exact ⟨rfl, hbr.out⟩
end Go.Proofs.Ytdhjaokanllcgaa
