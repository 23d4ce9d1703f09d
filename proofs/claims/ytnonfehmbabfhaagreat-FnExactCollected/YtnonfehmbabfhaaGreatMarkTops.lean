/- The walks of held..: what has its marks is told so. -/
import Derived.Test.YtnonfehmbabfhaaGreatCntPlain
import Derived.Test.YtnonfehmbabfhaaGreatTakeLit
import Derived.WalkKit
import Derived.Test.YtnonfehmbabfhaaGreatMarkRecs
namespace Go.Proofs.YtnonfehmbabfhaaGreat
open Go.RowKit
theorem lie_at2 {w : World} {b o : Nat} {cs : List Value} (h : Lie w b o cs) (m : Nat) {v : Value} (e : cs[m]? = some v) : w.cell? ⟨b, o + m, none⟩ = some v := by
  have hm : m < cs.length := by
    rcases Nat.lt_or_ge m cs.length with h | h
    · exact h
    · rw [List.getElem?_eq_none h] at e; cases e
  rw [h m hm]; exact e
set_option maxRecDepth 100000 in
set_option maxHeartbeats 3200000 in
theorem heldInt64S_any {w : World} {lo : Nat} {k : Value} {xs : List Int} {m : Int} (hk : SeqAt 1 IntAt w lo k (mkL cntI mkI xs m)) (h0 : 0 ≤ m) (h1 : m + (cntL cntI xs : Nat) ≤ 4611686018427387904) :
    Calls Tryz.prog 14 #[k, .int .i64 m] w fun e w' => e = .returned (.int .i64 (m + (cntL cntI xs : Nat))) ∧ Below w.heap.size w w' := by
  obtain ⟨a, cap, rfl, hm, hx⟩ := hk
  have hx' : Hid _ := hx
  clear hx
  rw [mkL_length] at hm ⊢
  unfold maxLen at hm
  go_enter Tryz.func14, Tryz.ntmps14
  go_wp2_with fail
  go_loopw [1, 5] (fun z i wr => ∃ (j : Nat), j ≤ xs.length ∧ i = .int .i64 j ∧ z = .int .i64 (m + (pos cntI xs j : Nat)) ∧ Hid (Below w.heap.size w wr)) (fun _ i _ => xs.length - (intOf i).toNat)
  case atStart => exact ⟨0, by omega, rfl, by rw [pos_zero]; simp, Below.refl _ _⟩
  case round =>
    obtain ⟨j, hj, rfl, rfl, hbr⟩ := hrel
    by_cases hlt : j < xs.length
    · obtain ⟨b, off, rfl, hlo, hbw, hc⟩ := hx'.out (by rw [mkL_length]; omega)
      obtain ⟨cs, hcl, lie, hr⟩ := hc j (by rw [mkL_length]; exact hlt)
      have hps2 : pos cntI xs (j + 1) = pos cntI xs j + (1) := pos_succ hlt
      have hpl : pos cntI xs (j + 1) ≤ cntL cntI xs := pos_le (by omega) (Nat.le_refl _)
      rw [mkL_get] at hr
      generalize xs[j] = Q at *
      generalize hP : m + (pos cntI xs j : Nat) = P at *
      have hP0 : 0 ≤ P := by omega
      obtain ⟨rfl, _⟩ := hr
      have lie1 := Lie.keep (lo := lo) (lo' := lo) lie (.of_below hbr.out) hlo hbw
      have z0 := lie_at2 lie1 0 rfl
      simp only [Nat.add_zero, Nat.mul_one, mkI] at z0
      have hP1 : P + 1 ≤ 4611686018427387904 := by omega
      have hz : m + (pos cntI xs (j + 1) : Nat) = P + 1 := by omega
      clear lie lie1 hcl hc hpl hps2
      go_wp2_with fail
      go_roundw
      case rel => exact ⟨j + 1, by omega, by go_num, by rw [hz], hbr⟩
      case measure => simp [intOf]; omega
    · obtain rfl : j = xs.length := by omega
      go_wp2_with fail
      go_ret
      exact ⟨rfl, hbr.out⟩
set_option maxRecDepth 100000 in
set_option maxHeartbeats 3200000 in
theorem heldListenerS_any {w : World} {lo : Nat} {k : Value} {xs : List ListenerD} {m : Int} (hk : SeqAt 5 ListenerAt w lo k (mkL cntListener mkListener xs m)) (h0 : 0 ≤ m) (h1 : m + (cntL cntListener xs : Nat) ≤ 4611686018427387904) :
    Calls Tryz.prog 81 #[k, .int .i64 m] w fun e w' => e = .returned (.int .i64 (m + (cntL cntListener xs : Nat))) ∧ Below w.heap.size w w' := by
  obtain ⟨a, cap, rfl, hm, hx⟩ := hk
  have hx' : Hid _ := hx
  clear hx
  rw [mkL_length] at hm ⊢
  unfold maxLen at hm
  go_enter Tryz.func81, Tryz.ntmps81
  go_wp2_with fail
  go_loopw [1, 5] (fun z i wr => ∃ (j : Nat), j ≤ xs.length ∧ i = .int .i64 j ∧ z = .int .i64 (m + (pos cntListener xs j : Nat)) ∧ Hid (Below w.heap.size w wr)) (fun _ i _ => xs.length - (intOf i).toNat)
  case atStart => exact ⟨0, by omega, rfl, by rw [pos_zero]; simp, Below.refl _ _⟩
  case round =>
    obtain ⟨j, hj, rfl, rfl, hbr⟩ := hrel
    by_cases hlt : j < xs.length
    · obtain ⟨b, off, rfl, hlo, hbw, hc⟩ := hx'.out (by rw [mkL_length]; omega)
      obtain ⟨cs, hcl, lie, hr⟩ := hc j (by rw [mkL_length]; exact hlt)
      have hps2 : pos cntListener xs (j + 1) = pos cntListener xs j + (1 + 1 + 1 + 1 + 1) := pos_succ hlt
      have hpl : pos cntListener xs (j + 1) ≤ cntL cntListener xs := pos_le (by omega) (Nat.le_refl _)
      rw [mkL_get] at hr
      generalize xs[j] = Q at *
      generalize hP : m + (pos cntListener xs j : Nat) = P at *
      have hP0 : 0 ≤ P := by omega
      obtain ⟨rfl, _⟩ := hr
      have hP1 : P + (1 + 1 + 1 + 1 + 1) ≤ 4611686018427387904 := by omega
      have hz : m + (pos cntListener xs (j + 1) : Nat) = P + 1 + 1 + 1 + 1 + 1 := by omega
      clear hpl hps2
      clear hcl hc
      have hb0 := hbr.out
      have lie' : Hid (Lie w b (off + j * 5) [.string (markT (P)), .bool ((P + 1) % 3 == 0), .bool ((P + 1 + 1) % 3 == 0), .int .i64 (P + 1 + 1 + 1), .string (markT (P + 1 + 1 + 1 + 1))]) := by exact lie
      clear lie
      have lie0 := Lie.keep (lo := lo) (lo' := lo) lie'.out (.of_below hb0) hlo hbw
      have z0_0 : wr.cell? ⟨b, off + j * 5 + 0, none⟩ = some (.string (markT (P))) := lie_at2 lie0 0 rfl
      have z0_1 : wr.cell? ⟨b, off + j * 5 + 1, none⟩ = some (.bool ((P + 1) % 3 == 0)) := lie_at2 lie0 1 rfl
      have z0_2 : wr.cell? ⟨b, off + j * 5 + 2, none⟩ = some (.bool ((P + 1 + 1) % 3 == 0)) := lie_at2 lie0 2 rfl
      have z0_3 : wr.cell? ⟨b, off + j * 5 + 3, none⟩ = some (.int .i64 (P + 1 + 1 + 1)) := lie_at2 lie0 3 rfl
      have z0_4 : wr.cell? ⟨b, off + j * 5 + 4, none⟩ = some (.string (markT (P + 1 + 1 + 1 + 1))) := lie_at2 lie0 4 rfl
      simp only [Nat.add_zero] at z0_0
      clear lie0
      go_wp2_with fail
      go_region_held3 (fun w' => w'.cell? ⟨b, off + j * 5, none⟩ = some (.string (markT (P)))) (go_keep) (first | (go_at_call 79; refine (markText_any (by omega)).mono ?_; rintro e v1 ⟨rfl, hq1⟩; have zz := cell_on (undrew hq1) z0_0))
      have hb1 : Below w.heap.size w v1 := hb0.trans ((undrew hq1).mono hb0.size)
      clear hq1 zz
      clear z0_0 z0_1 z0_2 z0_3 z0_4
      have lie1 := Lie.keep (lo := lo) (lo' := lo) lie'.out (.of_below hb1) hlo hbw
      have z1_0 : v1.cell? ⟨b, off + j * 5 + 0, none⟩ = some (.string (markT (P))) := lie_at2 lie1 0 rfl
      have z1_1 : v1.cell? ⟨b, off + j * 5 + 1, none⟩ = some (.bool ((P + 1) % 3 == 0)) := lie_at2 lie1 1 rfl
      have z1_2 : v1.cell? ⟨b, off + j * 5 + 2, none⟩ = some (.bool ((P + 1 + 1) % 3 == 0)) := lie_at2 lie1 2 rfl
      have z1_3 : v1.cell? ⟨b, off + j * 5 + 3, none⟩ = some (.int .i64 (P + 1 + 1 + 1)) := lie_at2 lie1 3 rfl
      have z1_4 : v1.cell? ⟨b, off + j * 5 + 4, none⟩ = some (.string (markT (P + 1 + 1 + 1 + 1))) := lie_at2 lie1 4 rfl
      simp only [Nat.add_zero] at z1_0
      clear lie1
      go_wp2_with fail
      go_region_held3 (fun w' => w'.cell? ⟨b, off + j * 5 + 4, none⟩ = some (.string (markT (P + 1 + 1 + 1 + 1)))) (go_keep) (first | (go_at_call 79; refine (markText_any (by omega)).mono ?_; rintro e v2 ⟨rfl, hq2⟩; have zz := cell_on (undrew hq2) z1_4))
      have hb2 : Below w.heap.size w v2 := hb1.trans ((undrew hq2).mono hb1.size)
      clear hq2 zz
      clear z1_0 z1_1 z1_2 z1_3 z1_4
      have lie2 := Lie.keep (lo := lo) (lo' := lo) lie'.out (.of_below hb2) hlo hbw
      have z2_0 : v2.cell? ⟨b, off + j * 5 + 0, none⟩ = some (.string (markT (P))) := lie_at2 lie2 0 rfl
      have z2_1 : v2.cell? ⟨b, off + j * 5 + 1, none⟩ = some (.bool ((P + 1) % 3 == 0)) := lie_at2 lie2 1 rfl
      have z2_2 : v2.cell? ⟨b, off + j * 5 + 2, none⟩ = some (.bool ((P + 1 + 1) % 3 == 0)) := lie_at2 lie2 2 rfl
      have z2_3 : v2.cell? ⟨b, off + j * 5 + 3, none⟩ = some (.int .i64 (P + 1 + 1 + 1)) := lie_at2 lie2 3 rfl
      have z2_4 : v2.cell? ⟨b, off + j * 5 + 4, none⟩ = some (.string (markT (P + 1 + 1 + 1 + 1))) := lie_at2 lie2 4 rfl
      simp only [Nat.add_zero] at z2_0
      clear lie2
      go_wp2_with fail
      go_roundw
      case rel => exact ⟨j + 1, by omega, by go_num, by rw [hz], hb2⟩
      case measure => simp [intOf]; omega
    · obtain rfl : j = xs.length := by omega
      go_wp2_with fail
      go_ret
      exact ⟨rfl, hbr.out⟩
set_option maxRecDepth 100000 in
set_option maxHeartbeats 3200000 in
theorem heldNodeS_any {w : World} {lo : Nat} {k : Value} {xs : List NodeD} {m : Int} (hk : SeqAt 6 NodeAt w lo k (mkL cntNode mkNode xs m)) (h0 : 0 ≤ m) (h1 : m + (cntL cntNode xs : Nat) ≤ 4611686018427387904) :
    Calls Tryz.prog 38 #[k, .int .i64 m] w fun e w' => e = .returned (.int .i64 (m + (cntL cntNode xs : Nat))) ∧ Below w.heap.size w w' := by
  obtain ⟨a, cap, rfl, hm, hx⟩ := hk
  have hx' : Hid _ := hx
  clear hx
  rw [mkL_length] at hm ⊢
  unfold maxLen at hm
  go_enter Tryz.func38, Tryz.ntmps38
  go_wp2_with fail
  go_loopw [1, 5] (fun z i wr => ∃ (j : Nat), j ≤ xs.length ∧ i = .int .i64 j ∧ z = .int .i64 (m + (pos cntNode xs j : Nat)) ∧ Hid (Below w.heap.size w wr)) (fun _ i _ => xs.length - (intOf i).toNat)
  case atStart => exact ⟨0, by omega, rfl, by rw [pos_zero]; simp, Below.refl _ _⟩
  case round =>
    obtain ⟨j, hj, rfl, rfl, hbr⟩ := hrel
    by_cases hlt : j < xs.length
    · obtain ⟨b, off, rfl, hlo, hbw, hc⟩ := hx'.out (by rw [mkL_length]; omega)
      obtain ⟨cs, hcl, lie, hr⟩ := hc j (by rw [mkL_length]; exact hlt)
      have hps2 : pos cntNode xs (j + 1) = pos cntNode xs j + (1 + 1 + 1 + cntL cntI xs[j].vKids + 1 + cntL cntListener xs[j].vListeners) := pos_succ hlt
      have hpl : pos cntNode xs (j + 1) ≤ cntL cntNode xs := pos_le (by omega) (Nat.le_refl _)
      rw [mkL_get] at hr
      generalize xs[j] = Q at *
      generalize hP : m + (pos cntNode xs j : Nat) = P at *
      have hP0 : 0 ≤ P := by omega
      obtain ⟨k3, k5, rfl, s3, s5, _⟩ := hr
      have s3' : Hid (SeqAt 1 IntAt w lo k3 (mkL cntI mkI Q.vKids (P + 1 + 1 + 1))) := s3
      obtain ⟨p3, d3, rfl⟩ := s3'.out.form
      clear s3
      have s5' : Hid (SeqAt 5 ListenerAt w lo k5 (mkL cntListener mkListener Q.vListeners (P + 1 + 1 + 1 + (cntL cntI Q.vKids : Nat) + 1))) := s5
      obtain ⟨p5, d5, rfl⟩ := s5'.out.form
      clear s5
      generalize hC3 : cntL cntI Q.vKids = N3 at *
      generalize hC5 : cntL cntListener Q.vListeners = N5 at *
      have hP1 : P + (1 + 1 + 1 + (N3 : Int) + 1 + (N5 : Int)) ≤ 4611686018427387904 := by omega
      have hz : m + (pos cntNode xs (j + 1) : Nat) = P + 1 + 1 + 1 + (N3 : Int) + 1 + (N5 : Int) := by omega
      clear hpl hps2
      clear hcl hc
      have hb0 := hbr.out
      have lie' : Hid (Lie w b (off + j * 6) [.int .i64 (P), .string (markT (P + 1)), .int .i64 (P + 1 + 1), .slice p3 (mkL cntI mkI Q.vKids (P + 1 + 1 + 1)).length d3, .int .i64 (P + 1 + 1 + 1 + (N3 : Int)), .slice p5 (mkL cntListener mkListener Q.vListeners (P + 1 + 1 + 1 + (N3 : Int) + 1)).length d5]) := by subst hC3; subst hC5; exact lie
      clear lie
      have lie0 := Lie.keep (lo := lo) (lo' := lo) lie'.out (.of_below hb0) hlo hbw
      have z0_0 : wr.cell? ⟨b, off + j * 6 + 0, none⟩ = some (.int .i64 (P)) := lie_at2 lie0 0 rfl
      have z0_1 : wr.cell? ⟨b, off + j * 6 + 1, none⟩ = some (.string (markT (P + 1))) := lie_at2 lie0 1 rfl
      have z0_2 : wr.cell? ⟨b, off + j * 6 + 2, none⟩ = some (.int .i64 (P + 1 + 1)) := lie_at2 lie0 2 rfl
      have z0_3 : wr.cell? ⟨b, off + j * 6 + 3, none⟩ = some (.slice p3 (mkL cntI mkI Q.vKids (P + 1 + 1 + 1)).length d3) := lie_at2 lie0 3 rfl
      have z0_4 : wr.cell? ⟨b, off + j * 6 + 4, none⟩ = some (.int .i64 (P + 1 + 1 + 1 + (N3 : Int))) := lie_at2 lie0 4 rfl
      have z0_5 : wr.cell? ⟨b, off + j * 6 + 5, none⟩ = some (.slice p5 (mkL cntListener mkListener Q.vListeners (P + 1 + 1 + 1 + (N3 : Int) + 1)).length d5) := lie_at2 lie0 5 rfl
      simp only [Nat.add_zero] at z0_0
      clear lie0
      go_wp2_with fail
      go_region_held3 (fun w' => w'.cell? ⟨b, off + j * 6 + 1, none⟩ = some (.string (markT (P + 1)))) (go_keep) (first | (go_at_call 79; refine (markText_any (by omega)).mono ?_; rintro e v1 ⟨rfl, hq1⟩; have zz := cell_on (undrew hq1) z0_1))
      have hb1 : Below w.heap.size w v1 := hb0.trans ((undrew hq1).mono hb0.size)
      clear hq1 zz
      clear z0_0 z0_1 z0_2 z0_3 z0_4 z0_5
      have lie1 := Lie.keep (lo := lo) (lo' := lo) lie'.out (.of_below hb1) hlo hbw
      have z1_0 : v1.cell? ⟨b, off + j * 6 + 0, none⟩ = some (.int .i64 (P)) := lie_at2 lie1 0 rfl
      have z1_1 : v1.cell? ⟨b, off + j * 6 + 1, none⟩ = some (.string (markT (P + 1))) := lie_at2 lie1 1 rfl
      have z1_2 : v1.cell? ⟨b, off + j * 6 + 2, none⟩ = some (.int .i64 (P + 1 + 1)) := lie_at2 lie1 2 rfl
      have z1_3 : v1.cell? ⟨b, off + j * 6 + 3, none⟩ = some (.slice p3 (mkL cntI mkI Q.vKids (P + 1 + 1 + 1)).length d3) := lie_at2 lie1 3 rfl
      have z1_4 : v1.cell? ⟨b, off + j * 6 + 4, none⟩ = some (.int .i64 (P + 1 + 1 + 1 + (N3 : Int))) := lie_at2 lie1 4 rfl
      have z1_5 : v1.cell? ⟨b, off + j * 6 + 5, none⟩ = some (.slice p5 (mkL cntListener mkListener Q.vListeners (P + 1 + 1 + 1 + (N3 : Int) + 1)).length d5) := lie_at2 lie1 5 rfl
      simp only [Nat.add_zero] at z1_0
      clear lie1
      go_wp2_with fail
      refine (heldInt64S_any (s3'.out.below intAt_stays hb1) (by omega) (by omega)).mono ?_
      rintro e v2 ⟨rfl, hq2⟩
      rw [hC3]
      have hb2 : Below w.heap.size w v2 := hb1.trans (hq2.mono hb1.size)
      clear hq2
      clear z1_0 z1_1 z1_2 z1_3 z1_4 z1_5
      have lie2 := Lie.keep (lo := lo) (lo' := lo) lie'.out (.of_below hb2) hlo hbw
      have z2_0 : v2.cell? ⟨b, off + j * 6 + 0, none⟩ = some (.int .i64 (P)) := lie_at2 lie2 0 rfl
      have z2_1 : v2.cell? ⟨b, off + j * 6 + 1, none⟩ = some (.string (markT (P + 1))) := lie_at2 lie2 1 rfl
      have z2_2 : v2.cell? ⟨b, off + j * 6 + 2, none⟩ = some (.int .i64 (P + 1 + 1)) := lie_at2 lie2 2 rfl
      have z2_3 : v2.cell? ⟨b, off + j * 6 + 3, none⟩ = some (.slice p3 (mkL cntI mkI Q.vKids (P + 1 + 1 + 1)).length d3) := lie_at2 lie2 3 rfl
      have z2_4 : v2.cell? ⟨b, off + j * 6 + 4, none⟩ = some (.int .i64 (P + 1 + 1 + 1 + (N3 : Int))) := lie_at2 lie2 4 rfl
      have z2_5 : v2.cell? ⟨b, off + j * 6 + 5, none⟩ = some (.slice p5 (mkL cntListener mkListener Q.vListeners (P + 1 + 1 + 1 + (N3 : Int) + 1)).length d5) := lie_at2 lie2 5 rfl
      simp only [Nat.add_zero] at z2_0
      clear lie2
      go_wp2_with fail
      refine (heldListenerS_any (s5'.out.below ListenerAt_stays hb2) (by omega) (by omega)).mono ?_
      rintro e v3 ⟨rfl, hq3⟩
      rw [hC5]
      have hb3 : Below w.heap.size w v3 := hb2.trans (hq3.mono hb2.size)
      clear hq3
      clear z2_0 z2_1 z2_2 z2_3 z2_4 z2_5
      have lie3 := Lie.keep (lo := lo) (lo' := lo) lie'.out (.of_below hb3) hlo hbw
      have z3_0 : v3.cell? ⟨b, off + j * 6 + 0, none⟩ = some (.int .i64 (P)) := lie_at2 lie3 0 rfl
      have z3_1 : v3.cell? ⟨b, off + j * 6 + 1, none⟩ = some (.string (markT (P + 1))) := lie_at2 lie3 1 rfl
      have z3_2 : v3.cell? ⟨b, off + j * 6 + 2, none⟩ = some (.int .i64 (P + 1 + 1)) := lie_at2 lie3 2 rfl
      have z3_3 : v3.cell? ⟨b, off + j * 6 + 3, none⟩ = some (.slice p3 (mkL cntI mkI Q.vKids (P + 1 + 1 + 1)).length d3) := lie_at2 lie3 3 rfl
      have z3_4 : v3.cell? ⟨b, off + j * 6 + 4, none⟩ = some (.int .i64 (P + 1 + 1 + 1 + (N3 : Int))) := lie_at2 lie3 4 rfl
      have z3_5 : v3.cell? ⟨b, off + j * 6 + 5, none⟩ = some (.slice p5 (mkL cntListener mkListener Q.vListeners (P + 1 + 1 + 1 + (N3 : Int) + 1)).length d5) := lie_at2 lie3 5 rfl
      simp only [Nat.add_zero] at z3_0
      clear lie3
      go_wp2_with fail
      go_roundw
      case rel => exact ⟨j + 1, by omega, by go_num, by rw [hz], hb3⟩
      case measure => simp [intOf]; omega
    · obtain rfl : j = xs.length := by omega
      go_wp2_with fail
      go_ret
      exact ⟨rfl, hbr.out⟩
set_option maxRecDepth 100000 in
set_option maxHeartbeats 3200000 in
theorem heldFieldS_any {w : World} {lo : Nat} {k : Value} {xs : List FieldD} {m : Int} (hk : SeqAt 2 FieldAt w lo k (mkL cntField mkField xs m)) (h0 : 0 ≤ m) (h1 : m + (cntL cntField xs : Nat) ≤ 4611686018427387904) :
    Calls Tryz.prog 40 #[k, .int .i64 m] w fun e w' => e = .returned (.int .i64 (m + (cntL cntField xs : Nat))) ∧ Below w.heap.size w w' := by
  obtain ⟨a, cap, rfl, hm, hx⟩ := hk
  have hx' : Hid _ := hx
  clear hx
  rw [mkL_length] at hm ⊢
  unfold maxLen at hm
  go_enter Tryz.func40, Tryz.ntmps40
  go_wp2_with fail
  go_loopw [1, 5] (fun z i wr => ∃ (j : Nat), j ≤ xs.length ∧ i = .int .i64 j ∧ z = .int .i64 (m + (pos cntField xs j : Nat)) ∧ Hid (Below w.heap.size w wr)) (fun _ i _ => xs.length - (intOf i).toNat)
  case atStart => exact ⟨0, by omega, rfl, by rw [pos_zero]; simp, Below.refl _ _⟩
  case round =>
    obtain ⟨j, hj, rfl, rfl, hbr⟩ := hrel
    by_cases hlt : j < xs.length
    · obtain ⟨b, off, rfl, hlo, hbw, hc⟩ := hx'.out (by rw [mkL_length]; omega)
      obtain ⟨cs, hcl, lie, hr⟩ := hc j (by rw [mkL_length]; exact hlt)
      have hps2 : pos cntField xs (j + 1) = pos cntField xs j + (1 + 1) := pos_succ hlt
      have hpl : pos cntField xs (j + 1) ≤ cntL cntField xs := pos_le (by omega) (Nat.le_refl _)
      rw [mkL_get] at hr
      generalize xs[j] = Q at *
      generalize hP : m + (pos cntField xs j : Nat) = P at *
      have hP0 : 0 ≤ P := by omega
      obtain ⟨rfl, _⟩ := hr
      have hP1 : P + (1 + 1) ≤ 4611686018427387904 := by omega
      have hz : m + (pos cntField xs (j + 1) : Nat) = P + 1 + 1 := by omega
      clear hpl hps2
      clear hcl hc
      have hb0 := hbr.out
      have lie' : Hid (Lie w b (off + j * 2) [.string (markT (P)), .int .i64 (P + 1)]) := by exact lie
      clear lie
      have lie0 := Lie.keep (lo := lo) (lo' := lo) lie'.out (.of_below hb0) hlo hbw
      have z0_0 : wr.cell? ⟨b, off + j * 2 + 0, none⟩ = some (.string (markT (P))) := lie_at2 lie0 0 rfl
      have z0_1 : wr.cell? ⟨b, off + j * 2 + 1, none⟩ = some (.int .i64 (P + 1)) := lie_at2 lie0 1 rfl
      simp only [Nat.add_zero] at z0_0
      clear lie0
      go_wp2_with fail
      go_region_held3 (fun w' => w'.cell? ⟨b, off + j * 2, none⟩ = some (.string (markT (P)))) (go_keep) (first | (go_at_call 79; refine (markText_any (by omega)).mono ?_; rintro e v1 ⟨rfl, hq1⟩; have zz := cell_on (undrew hq1) z0_0))
      have hb1 : Below w.heap.size w v1 := hb0.trans ((undrew hq1).mono hb0.size)
      clear hq1 zz
      clear z0_0 z0_1
      have lie1 := Lie.keep (lo := lo) (lo' := lo) lie'.out (.of_below hb1) hlo hbw
      have z1_0 : v1.cell? ⟨b, off + j * 2 + 0, none⟩ = some (.string (markT (P))) := lie_at2 lie1 0 rfl
      have z1_1 : v1.cell? ⟨b, off + j * 2 + 1, none⟩ = some (.int .i64 (P + 1)) := lie_at2 lie1 1 rfl
      simp only [Nat.add_zero] at z1_0
      clear lie1
      go_wp2_with fail
      go_roundw
      case rel => exact ⟨j + 1, by omega, by go_num, by rw [hz], hb1⟩
      case measure => simp [intOf]; omega
    · obtain rfl : j = xs.length := by omega
      go_wp2_with fail
      go_ret
      exact ⟨rfl, hbr.out⟩
set_option maxRecDepth 100000 in
set_option maxHeartbeats 3200000 in
theorem heldObjS_any {w : World} {lo : Nat} {k : Value} {xs : List ObjD} {m : Int} (hk : SeqAt 3 ObjAt w lo k (mkL cntObj mkObj xs m)) (h0 : 0 ≤ m) (h1 : m + (cntL cntObj xs : Nat) ≤ 4611686018427387904) :
    Calls Tryz.prog 39 #[k, .int .i64 m] w fun e w' => e = .returned (.int .i64 (m + (cntL cntObj xs : Nat))) ∧ Below w.heap.size w w' := by
  obtain ⟨a, cap, rfl, hm, hx⟩ := hk
  have hx' : Hid _ := hx
  clear hx
  rw [mkL_length] at hm ⊢
  unfold maxLen at hm
  go_enter Tryz.func39, Tryz.ntmps39
  go_wp2_with fail
  go_loopw [1, 5] (fun z i wr => ∃ (j : Nat), j ≤ xs.length ∧ i = .int .i64 j ∧ z = .int .i64 (m + (pos cntObj xs j : Nat)) ∧ Hid (Below w.heap.size w wr)) (fun _ i _ => xs.length - (intOf i).toNat)
  case atStart => exact ⟨0, by omega, rfl, by rw [pos_zero]; simp, Below.refl _ _⟩
  case round =>
    obtain ⟨j, hj, rfl, rfl, hbr⟩ := hrel
    by_cases hlt : j < xs.length
    · obtain ⟨b, off, rfl, hlo, hbw, hc⟩ := hx'.out (by rw [mkL_length]; omega)
      obtain ⟨cs, hcl, lie, hr⟩ := hc j (by rw [mkL_length]; exact hlt)
      have hps2 : pos cntObj xs (j + 1) = pos cntObj xs j + (1 + 1 + cntL cntField xs[j].vFields) := pos_succ hlt
      have hpl : pos cntObj xs (j + 1) ≤ cntL cntObj xs := pos_le (by omega) (Nat.le_refl _)
      rw [mkL_get] at hr
      generalize xs[j] = Q at *
      generalize hP : m + (pos cntObj xs j : Nat) = P at *
      have hP0 : 0 ≤ P := by omega
      obtain ⟨k2, rfl, s2, _⟩ := hr
      have s2' : Hid (SeqAt 2 FieldAt w lo k2 (mkL cntField mkField Q.vFields (P + 1 + 1))) := s2
      obtain ⟨p2, d2, rfl⟩ := s2'.out.form
      clear s2
      generalize hC2 : cntL cntField Q.vFields = N2 at *
      have hP1 : P + (1 + 1 + (N2 : Int)) ≤ 4611686018427387904 := by omega
      have hz : m + (pos cntObj xs (j + 1) : Nat) = P + 1 + 1 + (N2 : Int) := by omega
      clear hpl hps2
      clear hcl hc
      have hb0 := hbr.out
      have lie' : Hid (Lie w b (off + j * 3) [.int .i64 (P), .int .i64 (P + 1), .slice p2 (mkL cntField mkField Q.vFields (P + 1 + 1)).length d2]) := by subst hC2; exact lie
      clear lie
      have lie0 := Lie.keep (lo := lo) (lo' := lo) lie'.out (.of_below hb0) hlo hbw
      have z0_0 : wr.cell? ⟨b, off + j * 3 + 0, none⟩ = some (.int .i64 (P)) := lie_at2 lie0 0 rfl
      have z0_1 : wr.cell? ⟨b, off + j * 3 + 1, none⟩ = some (.int .i64 (P + 1)) := lie_at2 lie0 1 rfl
      have z0_2 : wr.cell? ⟨b, off + j * 3 + 2, none⟩ = some (.slice p2 (mkL cntField mkField Q.vFields (P + 1 + 1)).length d2) := lie_at2 lie0 2 rfl
      simp only [Nat.add_zero] at z0_0
      clear lie0
      go_wp2_with fail
      refine (heldFieldS_any (s2'.out.below FieldAt_stays hb0) (by omega) (by omega)).mono ?_
      rintro e v1 ⟨rfl, hq1⟩
      rw [hC2]
      have hb1 : Below w.heap.size w v1 := hb0.trans (hq1.mono hb0.size)
      clear hq1
      clear z0_0 z0_1 z0_2
      have lie1 := Lie.keep (lo := lo) (lo' := lo) lie'.out (.of_below hb1) hlo hbw
      have z1_0 : v1.cell? ⟨b, off + j * 3 + 0, none⟩ = some (.int .i64 (P)) := lie_at2 lie1 0 rfl
      have z1_1 : v1.cell? ⟨b, off + j * 3 + 1, none⟩ = some (.int .i64 (P + 1)) := lie_at2 lie1 1 rfl
      have z1_2 : v1.cell? ⟨b, off + j * 3 + 2, none⟩ = some (.slice p2 (mkL cntField mkField Q.vFields (P + 1 + 1)).length d2) := lie_at2 lie1 2 rfl
      simp only [Nat.add_zero] at z1_0
      clear lie1
      go_wp2_with fail
      go_roundw
      case rel => exact ⟨j + 1, by omega, by go_num, by rw [hz], hb1⟩
      case measure => simp [intOf]; omega
    · obtain rfl : j = xs.length := by omega
      go_wp2_with fail
      go_ret
      exact ⟨rfl, hbr.out⟩
end Go.Proofs.YtnonfehmbabfhaaGreat
namespace Go.Proofs.YtnonfehmbabfhaaGreat
open Go.RowKit
def mkTHeap (x : HeapD) (m : Int) : HeapD := { x with vNodes := mkL cntNode mkNode x.vNodes (m), vObjs := mkL cntObj mkObj x.vObjs (m + (cntL cntNode x.vNodes : Nat)), vGlobals := mkL cntField mkField x.vGlobals (m + (cntL cntNode x.vNodes : Nat) + (cntL cntObj x.vObjs : Nat)) }
set_option maxRecDepth 100000 in
set_option maxHeartbeats 1600000 in
theorem markHeap_any {w : World} {cs : List Value} {x : HeapD} {fs : List Nat} {m : Int} (hk : HeapOwn w cs x fs) (hnd : fs.Nodup) (h0 : 0 ≤ m) (h1 : m + (cntL cntNode x.vNodes : Nat) + (cntL cntObj x.vObjs : Nat) + (cntL cntField x.vGlobals : Nat) ≤ 4611686018427387904) :
    Calls Tryz.prog 11 #[.agg cs.toArray, .int .i64 m] w fun e w' => e = .returned (.int .i64 (m + (cntL cntNode x.vNodes : Nat) + (cntL cntObj x.vObjs : Nat) + (cntL cntField x.vGlobals : Nat))) ∧ HeapOwn w' cs (mkTHeap x m) fs ∧ Out fs w w' := by
  have hlt := HeapOwn_lt _ _ _ _ hk
  obtain ⟨k2, k3, k4, f2, f3, f4, rfl, o2, o3, o4, rg0, rg1, hfs⟩ := hk
  obtain ⟨a2, cap2, rfl⟩ := o2.form
  obtain ⟨a3, cap3, rfl⟩ := o3.form
  obtain ⟨a4, cap4, rfl⟩ := o4.form
  subst hfs
  have ap0_1 : ∀ y ∈ f2, y ∉ f3 := fun y q1 q2 => (List.nodup_append.1 (List.nodup_append.1 hnd).1).2.2 y q1 y q2 rfl
  have ap0_2 : ∀ y ∈ f2, y ∉ f4 := fun y q1 q2 => (List.nodup_append.1 hnd).2.2 y (List.mem_append_left _ q1) y q2 rfl
  have ap1_2 : ∀ y ∈ f3, y ∉ f4 := fun y q1 q2 => (List.nodup_append.1 hnd).2.2 y (List.mem_append_right _ q1) y q2 rfl
  have hb0 : Below w.heap.size w (w.alloc (.cells #[.int .i64 x.vNext, .int .i64 x.vDoc, .slice a2 x.vNodes.length cap2, .slice a3 x.vObjs.length cap3, .slice a4 x.vGlobals.length cap4] 32)) := (Below.refl _ _).alloc (Nat.le_refl _) _
  have bx0 : Hid (Box (w.alloc (.cells #[.int .i64 x.vNext, .int .i64 x.vDoc, .slice a2 x.vNodes.length cap2, .slice a3 x.vObjs.length cap3, .slice a4 x.vGlobals.length cap4] 32)) w.heap.size [.int .i64 x.vNext, .int .i64 x.vDoc, .slice a2 x.vNodes.length cap2, .slice a3 x.vObjs.length cap3, .slice a4 x.vGlobals.length cap4] 32) := Box.new w _ _
  have n2 : w.heap.size ∉ f2 := fun q => by have := hlt _ (List.mem_append_left _ (List.mem_append_left _ q)); omega
  have q2_0 : Hid (SeqOwn 6 NodeOwn (w.alloc (.cells #[.int .i64 x.vNext, .int .i64 x.vDoc, .slice a2 x.vNodes.length cap2, .slice a3 x.vObjs.length cap3, .slice a4 x.vGlobals.length cap4] 32)) (.slice a2 x.vNodes.length cap2) x.vNodes f2) := o2.stays NodeOwn_stays (fun y hy => hb0.block y (hlt y (List.mem_append_left _ (List.mem_append_left _ hy))))
  have n3 : w.heap.size ∉ f3 := fun q => by have := hlt _ (List.mem_append_left _ (List.mem_append_right _ q)); omega
  have q3_0 : Hid (SeqOwn 3 ObjOwn (w.alloc (.cells #[.int .i64 x.vNext, .int .i64 x.vDoc, .slice a2 x.vNodes.length cap2, .slice a3 x.vObjs.length cap3, .slice a4 x.vGlobals.length cap4] 32)) (.slice a3 x.vObjs.length cap3) x.vObjs f3) := o3.stays ObjOwn_stays (fun y hy => hb0.block y (hlt y (List.mem_append_left _ (List.mem_append_right _ hy))))
  have n4 : w.heap.size ∉ f4 := fun q => by have := hlt _ (List.mem_append_right _ q); omega
  have q4_0 : Hid (SeqOwn 2 FieldOwn (w.alloc (.cells #[.int .i64 x.vNext, .int .i64 x.vDoc, .slice a2 x.vNodes.length cap2, .slice a3 x.vObjs.length cap3, .slice a4 x.vGlobals.length cap4] 32)) (.slice a4 x.vGlobals.length cap4) x.vGlobals f4) := o4.stays FieldOwn_stays (fun y hy => hb0.block y (hlt y (List.mem_append_right _ hy)))
  have ou0 : Hid (Out (f2 ++ f3 ++ f4) w (w.alloc (.cells #[.int .i64 x.vNext, .int .i64 x.vDoc, .slice a2 x.vNodes.length cap2, .slice a3 x.vObjs.length cap3, .slice a4 x.vGlobals.length cap4] 32))) := Out.of_below hb0
  clear o2 o3 o4
  generalize hN2 : cntL cntNode x.vNodes = N2 at *
  generalize hN3 : cntL cntObj x.vObjs = N3 at *
  generalize hN4 : cntL cntField x.vGlobals = N4 at *
  go_enter Tryz.func11, Tryz.ntmps11
  go_wp2_with fail
  refine (markNodeS_any q2_0.out (by omega) (by omega)).mono ?_
  rintro e v0 ⟨rfl, ho2, hc0⟩
  rw [hN2]
  have bx1 : Hid (Box v0 w.heap.size [.int .i64 x.vNext, .int .i64 x.vDoc, .slice a2 x.vNodes.length cap2, .slice a3 x.vObjs.length cap3, .slice a4 x.vGlobals.length cap4] 32) := (Out.keep hc0 bx0.out.lt n2).trans bx0.out
  have q2_1 : Hid (SeqOwn 6 NodeOwn v0 (.slice a2 x.vNodes.length cap2) (mkL cntNode mkNode x.vNodes (m)) f2) := ho2
  have q3_1 : Hid (SeqOwn 3 ObjOwn v0 (.slice a3 x.vObjs.length cap3) (x.vObjs) f3) := SeqOwn.stays ObjOwn_stays q3_0.out (fun y hy => Out.keep hc0 (SeqOwn.lt ObjOwn_lt q3_0.out y hy) (fun q => ap0_1 y q hy))
  have q4_1 : Hid (SeqOwn 2 FieldOwn v0 (.slice a4 x.vGlobals.length cap4) (x.vGlobals) f4) := SeqOwn.stays FieldOwn_stays q4_0.out (fun y hy => Out.keep hc0 (SeqOwn.lt FieldOwn_lt q4_0.out y hy) (fun q => ap0_2 y q hy))
  have ou1 : Hid (Out (f2 ++ f3 ++ f4) w v0) := Out.trans ou0.out (Out.mono hc0 (fun y hy => (List.mem_append_left _ (List.mem_append_left _ hy))))
  clear ho2 hc0
  have t0_0 := bx1.out.cell 0 rfl
  have t0_1 := bx1.out.cell 1 rfl
  have t0_2 := bx1.out.cell 2 rfl
  have t0_3 := bx1.out.cell 3 rfl
  have t0_4 := bx1.out.cell 4 rfl
  go_wp2_with fail
  refine (markObjS_any q3_1.out (by omega) (by omega)).mono ?_
  rintro e v1 ⟨rfl, ho3, hc1⟩
  rw [hN3]
  have bx2 : Hid (Box v1 w.heap.size [.int .i64 x.vNext, .int .i64 x.vDoc, .slice a2 x.vNodes.length cap2, .slice a3 x.vObjs.length cap3, .slice a4 x.vGlobals.length cap4] 32) := (Out.keep hc1 bx1.out.lt n3).trans bx1.out
  have q2_2 : Hid (SeqOwn 6 NodeOwn v1 (.slice a2 x.vNodes.length cap2) (mkL cntNode mkNode x.vNodes (m)) f2) := SeqOwn.stays NodeOwn_stays q2_1.out (fun y hy => Out.keep hc1 (SeqOwn.lt NodeOwn_lt q2_1.out y hy) (ap0_1 y hy))
  have q3_2 : Hid (SeqOwn 3 ObjOwn v1 (.slice a3 x.vObjs.length cap3) (mkL cntObj mkObj x.vObjs (m + (N2 : Int))) f3) := ho3
  have q4_2 : Hid (SeqOwn 2 FieldOwn v1 (.slice a4 x.vGlobals.length cap4) (x.vGlobals) f4) := SeqOwn.stays FieldOwn_stays q4_1.out (fun y hy => Out.keep hc1 (SeqOwn.lt FieldOwn_lt q4_1.out y hy) (fun q => ap1_2 y q hy))
  have ou2 : Hid (Out (f2 ++ f3 ++ f4) w v1) := Out.trans ou1.out (Out.mono hc1 (fun y hy => (List.mem_append_left _ (List.mem_append_right _ hy))))
  clear ho3 hc1 t0_0 t0_1 t0_2 t0_3 t0_4
  have t1_0 := bx2.out.cell 0 rfl
  have t1_1 := bx2.out.cell 1 rfl
  have t1_2 := bx2.out.cell 2 rfl
  have t1_3 := bx2.out.cell 3 rfl
  have t1_4 := bx2.out.cell 4 rfl
  go_wp2_with fail
  refine (markFieldS_any q4_2.out (by omega) (by omega)).mono ?_
  rintro e v2 ⟨rfl, ho4, hc2⟩
  rw [hN4]
  have bx3 : Hid (Box v2 w.heap.size [.int .i64 x.vNext, .int .i64 x.vDoc, .slice a2 x.vNodes.length cap2, .slice a3 x.vObjs.length cap3, .slice a4 x.vGlobals.length cap4] 32) := (Out.keep hc2 bx2.out.lt n4).trans bx2.out
  have q2_3 : Hid (SeqOwn 6 NodeOwn v2 (.slice a2 x.vNodes.length cap2) (mkL cntNode mkNode x.vNodes (m)) f2) := SeqOwn.stays NodeOwn_stays q2_2.out (fun y hy => Out.keep hc2 (SeqOwn.lt NodeOwn_lt q2_2.out y hy) (ap0_2 y hy))
  have q3_3 : Hid (SeqOwn 3 ObjOwn v2 (.slice a3 x.vObjs.length cap3) (mkL cntObj mkObj x.vObjs (m + (N2 : Int))) f3) := SeqOwn.stays ObjOwn_stays q3_2.out (fun y hy => Out.keep hc2 (SeqOwn.lt ObjOwn_lt q3_2.out y hy) (ap1_2 y hy))
  have q4_3 : Hid (SeqOwn 2 FieldOwn v2 (.slice a4 x.vGlobals.length cap4) (mkL cntField mkField x.vGlobals (m + (N2 : Int) + (N3 : Int))) f4) := ho4
  have ou3 : Hid (Out (f2 ++ f3 ++ f4) w v2) := Out.trans ou2.out (Out.mono hc2 (fun y hy => (List.mem_append_right _ hy)))
  clear ho4 hc2 t1_0 t1_1 t1_2 t1_3 t1_4
  have t2_0 := bx3.out.cell 0 rfl
  have t2_1 := bx3.out.cell 1 rfl
  have t2_2 := bx3.out.cell 2 rfl
  have t2_3 := bx3.out.cell 3 rfl
  have t2_4 := bx3.out.cell 4 rfl
  go_wp2_with fail
  go_ret
  subst hN2
  subst hN3
  subst hN4
  exact ⟨rfl, ⟨_, _, _, f2, f3, f4, rfl, q2_3.out, q3_3.out, q4_3.out, rg0, rg1, rfl⟩, ou3.out⟩
set_option maxRecDepth 100000 in
set_option maxHeartbeats 1600000 in
theorem heldHeap_any {w : World} {lo : Nat} {cs : List Value} {x : HeapD} {m : Int} (hk : HeapAt w lo cs (mkTHeap x m)) (h0 : 0 ≤ m) (h1 : m + (cntL cntNode x.vNodes : Nat) + (cntL cntObj x.vObjs : Nat) + (cntL cntField x.vGlobals : Nat) ≤ 4611686018427387904) :
    Calls Tryz.prog 13 #[.agg cs.toArray, .int .i64 m] w fun e w' => e = .returned (.int .i64 (m + (cntL cntNode x.vNodes : Nat) + (cntL cntObj x.vObjs : Nat) + (cntL cntField x.vGlobals : Nat))) ∧ Below w.heap.size w w' := by
  obtain ⟨k2, k3, k4, rfl, o2, o3, o4, _⟩ := hk
  have s2' : Hid (SeqAt 6 NodeAt w lo k2 (mkL cntNode mkNode x.vNodes (m))) := o2
  obtain ⟨a2, cap2, rfl⟩ := s2'.out.form
  have s3' : Hid (SeqAt 3 ObjAt w lo k3 (mkL cntObj mkObj x.vObjs (m + (cntL cntNode x.vNodes : Nat)))) := o3
  obtain ⟨a3, cap3, rfl⟩ := s3'.out.form
  have s4' : Hid (SeqAt 2 FieldAt w lo k4 (mkL cntField mkField x.vGlobals (m + (cntL cntNode x.vNodes : Nat) + (cntL cntObj x.vObjs : Nat)))) := o4
  obtain ⟨a4, cap4, rfl⟩ := s4'.out.form
  clear o2 o3 o4
  generalize hN2 : cntL cntNode x.vNodes = N2 at *
  generalize hN3 : cntL cntObj x.vObjs = N3 at *
  generalize hN4 : cntL cntField x.vGlobals = N4 at *
  have hb0 : Below w.heap.size w (w.alloc (.cells #[.int .i64 x.vNext, .int .i64 x.vDoc, .slice a2 (mkL cntNode mkNode x.vNodes (m)).length cap2, .slice a3 (mkL cntObj mkObj x.vObjs (m + (N2 : Int))).length cap3, .slice a4 (mkL cntField mkField x.vGlobals (m + (N2 : Int) + (N3 : Int))).length cap4] 32)) := (Below.refl _ _).alloc (Nat.le_refl _) _
  have bx0 : Hid (Box (w.alloc (.cells #[.int .i64 x.vNext, .int .i64 x.vDoc, .slice a2 (mkL cntNode mkNode x.vNodes (m)).length cap2, .slice a3 (mkL cntObj mkObj x.vObjs (m + (N2 : Int))).length cap3, .slice a4 (mkL cntField mkField x.vGlobals (m + (N2 : Int) + (N3 : Int))).length cap4] 32)) w.heap.size [.int .i64 x.vNext, .int .i64 x.vDoc, .slice a2 (mkL cntNode mkNode x.vNodes (m)).length cap2, .slice a3 (mkL cntObj mkObj x.vObjs (m + (N2 : Int))).length cap3, .slice a4 (mkL cntField mkField x.vGlobals (m + (N2 : Int) + (N3 : Int))).length cap4] 32) := Box.new w _ _
  go_enter Tryz.func13, Tryz.ntmps13
  go_wp2_with fail
  refine (heldNodeS_any (s2'.out.below NodeAt_stays hb0) (by omega) (by omega)).mono ?_
  rintro e v0 ⟨rfl, hc0⟩
  rw [hN2]
  have hb1 : Below w.heap.size w v0 := hb0.trans (hc0.mono hb0.size)
  have bx1 : Hid (Box v0 w.heap.size [.int .i64 x.vNext, .int .i64 x.vDoc, .slice a2 (mkL cntNode mkNode x.vNodes (m)).length cap2, .slice a3 (mkL cntObj mkObj x.vObjs (m + (N2 : Int))).length cap3, .slice a4 (mkL cntField mkField x.vGlobals (m + (N2 : Int) + (N3 : Int))).length cap4] 32) := Box.below bx0.out hc0 bx0.out.lt
  clear hc0
  have t0_0 := bx1.out.cell 0 rfl
  have t0_1 := bx1.out.cell 1 rfl
  have t0_2 := bx1.out.cell 2 rfl
  have t0_3 := bx1.out.cell 3 rfl
  have t0_4 := bx1.out.cell 4 rfl
  go_wp2_with fail
  refine (heldObjS_any (s3'.out.below ObjAt_stays hb1) (by omega) (by omega)).mono ?_
  rintro e v1 ⟨rfl, hc1⟩
  rw [hN3]
  have hb2 : Below w.heap.size w v1 := hb1.trans (hc1.mono hb1.size)
  have bx2 : Hid (Box v1 w.heap.size [.int .i64 x.vNext, .int .i64 x.vDoc, .slice a2 (mkL cntNode mkNode x.vNodes (m)).length cap2, .slice a3 (mkL cntObj mkObj x.vObjs (m + (N2 : Int))).length cap3, .slice a4 (mkL cntField mkField x.vGlobals (m + (N2 : Int) + (N3 : Int))).length cap4] 32) := Box.below bx1.out hc1 bx1.out.lt
  clear hc1 t0_0 t0_1 t0_2 t0_3 t0_4
  have t1_0 := bx2.out.cell 0 rfl
  have t1_1 := bx2.out.cell 1 rfl
  have t1_2 := bx2.out.cell 2 rfl
  have t1_3 := bx2.out.cell 3 rfl
  have t1_4 := bx2.out.cell 4 rfl
  go_wp2_with fail
  refine (heldFieldS_any (s4'.out.below FieldAt_stays hb2) (by omega) (by omega)).mono ?_
  rintro e v2 ⟨rfl, hc2⟩
  rw [hN4]
  have hb3 : Below w.heap.size w v2 := hb2.trans (hc2.mono hb2.size)
  have bx3 : Hid (Box v2 w.heap.size [.int .i64 x.vNext, .int .i64 x.vDoc, .slice a2 (mkL cntNode mkNode x.vNodes (m)).length cap2, .slice a3 (mkL cntObj mkObj x.vObjs (m + (N2 : Int))).length cap3, .slice a4 (mkL cntField mkField x.vGlobals (m + (N2 : Int) + (N3 : Int))).length cap4] 32) := Box.below bx2.out hc2 bx2.out.lt
  clear hc2 t1_0 t1_1 t1_2 t1_3 t1_4
  have t2_0 := bx3.out.cell 0 rfl
  have t2_1 := bx3.out.cell 1 rfl
  have t2_2 := bx3.out.cell 2 rfl
  have t2_3 := bx3.out.cell 3 rfl
  have t2_4 := bx3.out.cell 4 rfl
  go_wp2_with fail
  go_ret
  subst hN2
  subst hN3
  subst hN4
  exact ⟨rfl, hb3⟩
end Go.Proofs.YtnonfehmbabfhaaGreat
