/- The walks of mark..: what owns its memory has its marks then, and nothing else has turned. -/
import Derived.Test.YtnonfehmbabfhaaGreatCntPlain
import Derived.WalkKit
namespace Go.Proofs.YtnonfehmbabfhaaGreat
open Go.RowKit
set_option maxHeartbeats 800000 in
theorem markInt64S_any {w : World} {k : Value} {xs : List Int} {fs : List Nat} {m : Int} (hk : SeqOwn 1 IntOwn w k xs fs) (h0 : 0 ≤ m) (h1 : m + (cntL cntI xs : Nat) ≤ 4611686018427387904) :
    Calls Tryz.prog 12 #[k, .int .i64 m] w fun e w' => e = .returned (.int .i64 (m + (cntL cntI xs : Nat))) ∧ SeqOwn 1 IntOwn w' k (mkL cntI mkI xs m) fs ∧ Out fs w w' := by
  have hk' : Hid (SeqOwn 1 IntOwn w k xs fs) := hk
  obtain ⟨a, cap, rfl, hm, _⟩ := hk
  unfold maxLen at hm
  go_enter Tryz.func12, Tryz.ntmps12
  go_wp2_with fail
  go_loopw [1, 5] (fun z i wr => ∃ (j : Nat), j ≤ xs.length ∧ i = .int .i64 j ∧ z = .int .i64 (m + (pos cntI xs j : Nat)) ∧ Hid (SeqOwn 1 IntOwn wr (.slice a xs.length cap) (mix (mkL cntI mkI xs m) xs j) fs) ∧ Hid (Out fs w wr)) (fun _ i _ => xs.length - (intOf i).toNat)
  case atStart => exact ⟨0, by omega, rfl, by rw [pos_zero]; simp, by rw [mix_zero]; exact hk'.out, Out.refl _ _⟩
  case round =>
    obtain ⟨j, hj, rfl, rfl, hown, hout⟩ := hrel
    by_cases hlt : j < xs.length
    · have hml := mix_length (mkL_length (cnt := cntI) (mk := mkI) (xs := xs) (m := m)) hj
      obtain ⟨b, off, C, T, cs, fj, rfl, hrow, hcl, ⟨hbf, hbn, hsub, hnd⟩, hr, hclose⟩ := hown.out.step intOwn_stays intOwn_lt (j := j) (by omega)
      have hset : Hid _ := mix_set (mkL_length (cnt := cntI) (mk := mkI) (xs := xs) (m := m)) hlt
      have hpl : pos cntI xs (j + 1) ≤ cntL cntI xs := pos_le (by omega) (Nat.le_refl _)
      have hps2 : pos cntI xs (j + 1) = pos cntI xs j + 1 := pos_succ hlt
      rw [mkL_get] at hset
      rw [mix_get mkL_length hlt] at hr
      simp only [Nat.mul_one] at hrow hclose
      obtain ⟨rfl, hI, rfl⟩ := hr
      have z0 := hrow.cell 0 rfl
      simp only [Nat.add_zero] at z0
      have uf := hrow.unfrozen
      have hrow' : Hid _ := hrow
      have hclose' : Hid _ := hclose
      clear hrow hclose
      generalize hP : m + (pos cntI xs j : Nat) = P at *
      have hP0 : 0 ≤ P := by omega
      have hP1 : P + 1 ≤ 4611686018427387904 := by omega
      have hz : m + (pos cntI xs (j + 1) : Nat) = P + 1 := by omega
      clear hpl hps2
      go_wp2_with fail
      go_roundw
      case rel => exact ⟨j + 1, by omega, by go_num, by rw [hz], by rw [← hset.out]; exact hclose'.out _ [.int .i64 P] _ rfl (RowIs.set (m := 0) hrow'.out (by simp) _) ((Out.refl _ _).set List.mem_cons_self _) ⟨rfl, by unfold InI; simp only [mkI]; omega, rfl⟩, hout.out.set hbf _⟩
      case measure => simp [intOf]; omega
    · obtain rfl : j = xs.length := by omega
      have hful : Hid _ := mix_full (mkL_length (cnt := cntI) (mk := mkI) (xs := xs) (m := m))
      go_wp2_with fail
      go_ret
      exact ⟨rfl, by rw [← hful.out]; exact hown.out, hout.out⟩
set_option maxRecDepth 100000 in
set_option maxHeartbeats 3200000 in
theorem markListenerS_any {w : World} {k : Value} {xs : List ListenerD} {fs : List Nat} {m : Int} (hk : SeqOwn 5 ListenerOwn w k xs fs) (h0 : 0 ≤ m) (h1 : m + (cntL cntListener xs : Nat) ≤ 4611686018427387904) :
    Calls Tryz.prog 80 #[k, .int .i64 m] w fun e w' => e = .returned (.int .i64 (m + (cntL cntListener xs : Nat))) ∧ SeqOwn 5 ListenerOwn w' k (mkL cntListener mkListener xs m) fs ∧ Out fs w w' := by
  have hk' : Hid (SeqOwn 5 ListenerOwn w k xs fs) := hk
  obtain ⟨a, cap, rfl, hm, _⟩ := hk
  unfold maxLen at hm
  go_enter Tryz.func80, Tryz.ntmps80
  go_wp2_with fail
  go_loopw [1, 5] (fun z i wr => ∃ (j : Nat), j ≤ xs.length ∧ i = .int .i64 j ∧ z = .int .i64 (m + (pos cntListener xs j : Nat)) ∧ Hid (SeqOwn 5 ListenerOwn wr (.slice a xs.length cap) (mix (mkL cntListener mkListener xs m) xs j) fs) ∧ Hid (Out fs w wr)) (fun _ i _ => xs.length - (intOf i).toNat)
  case atStart => exact ⟨0, by omega, rfl, by rw [pos_zero]; simp, by rw [mix_zero]; exact hk'.out, Out.refl _ _⟩
  case round =>
    obtain ⟨j, hj, rfl, rfl, hown, hout⟩ := hrel
    by_cases hlt : j < xs.length
    · have hml := mix_length (mkL_length (cnt := cntListener) (mk := mkListener) (xs := xs) (m := m)) hj
      obtain ⟨b, off, C, T, cs, fj, rfl, hrow, hcl, ⟨hbf, hbn, hsub, hnd⟩, hr, hclose⟩ := hown.out.step ListenerOwn_stays ListenerOwn_lt (j := j) (by omega)
      have hset : Hid _ := mix_set (mkL_length (cnt := cntListener) (mk := mkListener) (xs := xs) (m := m)) hlt
      have hps2 : pos cntListener xs (j + 1) = pos cntListener xs j + (1 + 1 + 1 + 1 + 1) := pos_succ hlt
      have hpl : pos cntListener xs (j + 1) ≤ cntL cntListener xs := pos_le (by omega) (Nat.le_refl _)
      rw [mkL_get] at hset
      rw [mix_get mkL_length hlt] at hr
      generalize xs[j] = Q at *
      obtain ⟨rfl, _, _, _, hfs⟩ := hr
      subst hfs
      have hrow' : Hid (RowIs wr b (off + j * 5) C T [.string Q.vType, .bool Q.vCapture, .bool Q.vOnce, .int .i64 Q.vStop, .string Q.vName]) := hrow
      have hclose' : Hid _ := hclose
      clear hrow hclose
      generalize hP : m + (pos cntListener xs j : Nat) = P at *
      have hP0 : 0 ≤ P := by omega
      have hP1 : P + (1 + 1 + 1 + 1 + 1) ≤ 4611686018427387904 := by omega
      have hz : m + (pos cntListener xs (j + 1) : Nat) = P + 1 + 1 + 1 + 1 + 1 := by omega
      clear hpl hps2
      have row0 := hrow'.out
      have out0 : Hid (Out [b] wr wr) := Out.refl _ _
      have z0_0 := (RowIs.cell hrow'.out 0 rfl)
      have z0_1 := (RowIs.cell hrow'.out 1 rfl)
      have z0_2 := (RowIs.cell hrow'.out 2 rfl)
      have z0_3 := (RowIs.cell hrow'.out 3 rfl)
      have z0_4 := (RowIs.cell hrow'.out 4 rfl)
      have u0 := RowIs.unfrozen hrow'.out
      simp only [Nat.add_zero] at z0_0
      clear row0
      go_wp2_with fail
      refine (markText_any (by omega)).mono ?_
      rintro e v0 ⟨rfl, hc0⟩
      have row1 := RowIs.below hrow'.out hc0
      have out1 : Hid (Out [b] wr v0) := Out.trans out0.out (Out.of_below hc0)
      have row1' : Hid (RowIs v0 b (off + j * 5) C T _) := row1
      clear z0_0 z0_1 z0_2 z0_3 z0_4 u0
      have z1_0 := (RowIs.cell row1 0 rfl)
      have z1_1 := (RowIs.cell row1 1 rfl)
      have z1_2 := (RowIs.cell row1 2 rfl)
      have z1_3 := (RowIs.cell row1 3 rfl)
      have z1_4 := (RowIs.cell row1 4 rfl)
      have u1 := RowIs.unfrozen row1
      simp only [Nat.add_zero] at z1_0
      clear row1
      go_wp2_with fail
      refine (markText_any (by omega)).mono ?_
      rintro e v1 ⟨rfl, hc1⟩
      have row2 := RowIs.below (RowIs.set (m := 3) (RowIs.set (m := 2) (RowIs.set (m := 1) (RowIs.set (m := 0) row1'.out (by simp) _) (by simp) _) (by simp) _) (by simp) _) hc1
      have out2 : Hid (Out [b] wr v1) := Out.trans (Out.set (Out.set (Out.set (Out.set out1.out List.mem_cons_self _) List.mem_cons_self _) List.mem_cons_self _) List.mem_cons_self _) (Out.of_below hc1)
      have row2' : Hid (RowIs v1 b (off + j * 5) C T _) := row2
      clear z1_0 z1_1 z1_2 z1_3 z1_4 u1
      have z2_0 := (RowIs.cell row2 0 rfl)
      have z2_1 := (RowIs.cell row2 1 rfl)
      have z2_2 := (RowIs.cell row2 2 rfl)
      have z2_3 := (RowIs.cell row2 3 rfl)
      have z2_4 := (RowIs.cell row2 4 rfl)
      have u2 := RowIs.unfrozen row2
      simp only [Nat.add_zero] at z2_0
      clear row2
      go_wp2_with fail
      go_roundw
      case rel =>
        refine ⟨j + 1, by omega, by go_num, by rw [hz], ?_, ?_⟩
        · rw [← hset.out]
          exact hclose'.out _ [.string (markT (P)), .bool ((P + 1) % 3 == 0), .bool ((P + 1 + 1) % 3 == 0), .int .i64 (P + 1 + 1 + 1), .string (markT (P + 1 + 1 + 1 + 1))] _ rfl (RowIs.set (m := 4) row2'.out (by simp) _) (Out.set out2.out List.mem_cons_self _) ⟨rfl, markT_size (by omega), (by unfold InI; simp only [mkListener]; omega), markT_size (by omega), rfl⟩
        · exact Out.trans hout.out (Out.mono (Out.set out2.out List.mem_cons_self _) (fun x q => by rcases List.mem_cons.1 q with q | q; (rw [q]; exact hbf); (exact hsub x q)))
      case measure => simp [intOf]; omega
    · obtain rfl : j = xs.length := by omega
      have hful : Hid _ := mix_full (mkL_length (cnt := cntListener) (mk := mkListener) (xs := xs) (m := m))
      go_wp2_with fail
      go_ret
      exact ⟨rfl, by rw [← hful.out]; exact hown.out, hout.out⟩
set_option maxRecDepth 100000 in
set_option maxHeartbeats 3200000 in
theorem markNodeS_any {w : World} {k : Value} {xs : List NodeD} {fs : List Nat} {m : Int} (hk : SeqOwn 6 NodeOwn w k xs fs) (h0 : 0 ≤ m) (h1 : m + (cntL cntNode xs : Nat) ≤ 4611686018427387904) :
    Calls Tryz.prog 35 #[k, .int .i64 m] w fun e w' => e = .returned (.int .i64 (m + (cntL cntNode xs : Nat))) ∧ SeqOwn 6 NodeOwn w' k (mkL cntNode mkNode xs m) fs ∧ Out fs w w' := by
  have hk' : Hid (SeqOwn 6 NodeOwn w k xs fs) := hk
  obtain ⟨a, cap, rfl, hm, _⟩ := hk
  unfold maxLen at hm
  go_enter Tryz.func35, Tryz.ntmps35
  go_wp2_with fail
  go_loopw [1, 5] (fun z i wr => ∃ (j : Nat), j ≤ xs.length ∧ i = .int .i64 j ∧ z = .int .i64 (m + (pos cntNode xs j : Nat)) ∧ Hid (SeqOwn 6 NodeOwn wr (.slice a xs.length cap) (mix (mkL cntNode mkNode xs m) xs j) fs) ∧ Hid (Out fs w wr)) (fun _ i _ => xs.length - (intOf i).toNat)
  case atStart => exact ⟨0, by omega, rfl, by rw [pos_zero]; simp, by rw [mix_zero]; exact hk'.out, Out.refl _ _⟩
  case round =>
    obtain ⟨j, hj, rfl, rfl, hown, hout⟩ := hrel
    by_cases hlt : j < xs.length
    · have hml := mix_length (mkL_length (cnt := cntNode) (mk := mkNode) (xs := xs) (m := m)) hj
      obtain ⟨b, off, C, T, cs, fj, rfl, hrow, hcl, ⟨hbf, hbn, hsub, hnd⟩, hr, hclose⟩ := hown.out.step NodeOwn_stays NodeOwn_lt (j := j) (by omega)
      have hset : Hid _ := mix_set (mkL_length (cnt := cntNode) (mk := mkNode) (xs := xs) (m := m)) hlt
      have hps2 : pos cntNode xs (j + 1) = pos cntNode xs j + (1 + 1 + 1 + cntL cntI xs[j].vKids + 1 + cntL cntListener xs[j].vListeners) := pos_succ hlt
      have hpl : pos cntNode xs (j + 1) ≤ cntL cntNode xs := pos_le (by omega) (Nat.le_refl _)
      rw [mkL_get] at hset
      rw [mix_get mkL_length hlt] at hr
      generalize xs[j] = Q at *
      obtain ⟨k3, k5, f3, f5, rfl, o3, o5, _, _, _, _, hfs⟩ := hr
      obtain ⟨p3, d3, rfl⟩ := o3.form
      have o3' : Hid (SeqOwn 1 IntOwn wr (.slice p3 Q.vKids.length d3) Q.vKids f3) := o3
      clear o3
      obtain ⟨p5, d5, rfl⟩ := o5.form
      have o5' : Hid (SeqOwn 5 ListenerOwn wr (.slice p5 Q.vListeners.length d5) Q.vListeners f5) := o5
      clear o5
      subst hfs
      have hb3 : b ∉ f3 := fun q => hbn (List.mem_append_left _ q)
      have hb5 : b ∉ f5 := fun q => hbn (List.mem_append_right _ q)
      have hd1 : ∀ x ∈ f3, x ∉ f5 := fun x q1 q2 => (List.nodup_append.1 hnd).2.2 x q1 x q2 rfl
      have hrow' : Hid (RowIs wr b (off + j * 6) C T [.int .i64 Q.vId, .string Q.vTag, .int .i64 Q.vParent, .slice p3 Q.vKids.length d3, .int .i64 Q.vWrapper, .slice p5 Q.vListeners.length d5]) := hrow
      have hclose' : Hid _ := hclose
      clear hrow hclose
      generalize hP : m + (pos cntNode xs j : Nat) = P at *
      have hP0 : 0 ≤ P := by omega
      generalize hC3 : cntL cntI Q.vKids = N3 at *
      generalize hC5 : cntL cntListener Q.vListeners = N5 at *
      have hP1 : P + (1 + 1 + 1 + (N3 : Int) + 1 + (N5 : Int)) ≤ 4611686018427387904 := by omega
      have hz : m + (pos cntNode xs (j + 1) : Nat) = P + 1 + 1 + 1 + (N3 : Int) + 1 + (N5 : Int) := by omega
      clear hpl hps2
      have row0 := hrow'.out
      have out0 : Hid (Out [b] wr wr) := Out.refl _ _
      have z0_0 := (RowIs.cell hrow'.out 0 rfl)
      have z0_1 := (RowIs.cell hrow'.out 1 rfl)
      have z0_2 := (RowIs.cell hrow'.out 2 rfl)
      have z0_3 := (RowIs.cell hrow'.out 3 rfl)
      have z0_4 := (RowIs.cell hrow'.out 4 rfl)
      have z0_5 := (RowIs.cell hrow'.out 5 rfl)
      have u0 := RowIs.unfrozen hrow'.out
      simp only [Nat.add_zero] at z0_0
      clear row0
      go_wp2_with fail
      refine (markText_any (by omega)).mono ?_
      rintro e v0 ⟨rfl, hc0⟩
      have row1 := RowIs.below (RowIs.set (m := 0) hrow'.out (by simp) _) hc0
      have out1 : Hid (Out [b] wr v0) := Out.trans (Out.set out0.out List.mem_cons_self _) (Out.of_below hc0)
      have row1' : Hid (RowIs v0 b (off + j * 6) C T _) := row1
      clear z0_0 z0_1 z0_2 z0_3 z0_4 z0_5 u0
      have z1_0 := (RowIs.cell row1 0 rfl)
      have z1_1 := (RowIs.cell row1 1 rfl)
      have z1_2 := (RowIs.cell row1 2 rfl)
      have z1_3 := (RowIs.cell row1 3 rfl)
      have z1_4 := (RowIs.cell row1 4 rfl)
      have z1_5 := (RowIs.cell row1 5 rfl)
      have u1 := RowIs.unfrozen row1
      simp only [Nat.add_zero] at z1_0
      clear row1
      go_wp2_with fail
      refine (markInt64S_any (by exact SeqOwn.stays intOwn_stays o3'.out (fun x hx => Out.keep (Out.set (Out.set out1.out List.mem_cons_self _) List.mem_cons_self _) (SeqOwn.lt intOwn_lt o3'.out x hx) (fun q => (by rcases List.mem_cons.1 q with q | q; (exact hb3 (q ▸ hx)); cases q)))) (by omega) (by omega)).mono ?_
      rintro e v1 ⟨rfl, hown3, hc1⟩
      have row2 := RowIs.out (RowIs.set (m := 2) (RowIs.set (m := 1) row1'.out (by simp) _) (by simp) _) hc1 hb3
      have out2 : Hid (Out (b :: f3) wr v1) := Out.trans (Out.mono (Out.set (Out.set out1.out List.mem_cons_self _) List.mem_cons_self _) (fun x q => by rcases List.mem_cons.1 q with q | q; (rw [q]; exact List.mem_cons_self); (cases q))) (Out.mono hc1 (fun x q => List.mem_cons_of_mem _ q))
      have row2' : Hid (RowIs v1 b (off + j * 6) C T _) := row2
      have hown3' : Hid _ := hown3
      have oc3 : Hid _ := hc1
      clear hown3
      clear z1_0 z1_1 z1_2 z1_3 z1_4 z1_5 u1
      have z2_0 := (RowIs.cell row2 0 rfl)
      have z2_1 := (RowIs.cell row2 1 rfl)
      have z2_2 := (RowIs.cell row2 2 rfl)
      have z2_3 := (RowIs.cell row2 3 rfl)
      have z2_4 := (RowIs.cell row2 4 rfl)
      have z2_5 := (RowIs.cell row2 5 rfl)
      have u2 := RowIs.unfrozen row2
      simp only [Nat.add_zero] at z2_0
      clear row2
      go_wp2_with fail
      refine (markListenerS_any (by exact SeqOwn.stays ListenerOwn_stays o5'.out (fun x hx => Out.keep (Out.set out2.out List.mem_cons_self _) (SeqOwn.lt ListenerOwn_lt o5'.out x hx) (fun q => (by rcases List.mem_cons.1 q with q | q; (exact hb5 (q ▸ hx)); exact hd1 x q hx)))) (by omega) (by omega)).mono ?_
      rintro e v2 ⟨rfl, hown5, hc2⟩
      have row3 := RowIs.out (RowIs.set (m := 4) row2'.out (by simp) _) hc2 hb5
      have out3 : Hid (Out (b :: (f3 ++ f5)) wr v2) := Out.trans (Out.mono (Out.set out2.out List.mem_cons_self _) (fun x q => by rcases List.mem_cons.1 q with q | q; (rw [q]; exact List.mem_cons_self); (exact List.mem_cons_of_mem _ (List.mem_append_left _ q)))) (Out.mono hc2 (fun x q => List.mem_cons_of_mem _ (List.mem_append_right _ q)))
      have row3' : Hid (RowIs v2 b (off + j * 6) C T _) := row3
      have hown5' : Hid _ := hown5
      have oc5 : Hid _ := hc2
      clear hown5
      have hown3_2 : Hid (SeqOwn 1 IntOwn v2 (.slice p3 Q.vKids.length d3) (mkL cntI mkI Q.vKids _) f3) := SeqOwn.stays intOwn_stays hown3'.out (fun x hx => Out.keep (Out.trans (Out.mono (gs := b :: f5) (Out.set (Out.refl [b] v1) List.mem_cons_self _) (fun y q => by rcases List.mem_cons.1 q with q | q; (rw [q]; exact List.mem_cons_self); (cases q))) (Out.mono hc2 (fun y q => List.mem_cons_of_mem _ q))) (SeqOwn.lt intOwn_lt hown3'.out x hx) (fun q => by rcases List.mem_cons.1 q with q | q; (exact hb3 (q ▸ hx)); (exact hd1 x hx q)))
      clear z2_0 z2_1 z2_2 z2_3 z2_4 z2_5 u2
      have z3_0 := (RowIs.cell row3 0 rfl)
      have z3_1 := (RowIs.cell row3 1 rfl)
      have z3_2 := (RowIs.cell row3 2 rfl)
      have z3_3 := (RowIs.cell row3 3 rfl)
      have z3_4 := (RowIs.cell row3 4 rfl)
      have z3_5 := (RowIs.cell row3 5 rfl)
      have u3 := RowIs.unfrozen row3
      simp only [Nat.add_zero] at z3_0
      clear row3
      go_wp2_with fail
      subst hC3
      subst hC5
      go_roundw
      case rel =>
        refine ⟨j + 1, by omega, by go_num, by rw [hz], ?_, ?_⟩
        · rw [← hset.out]
          exact hclose'.out _ [.int .i64 (P), .string (markT (P + 1)), .int .i64 (P + 1 + 1), .slice p3 Q.vKids.length d3, .int .i64 (P + 1 + 1 + 1 + (cntL cntI Q.vKids : Nat)), .slice p5 Q.vListeners.length d5] _ rfl row3'.out out3.out ⟨_, _, f3, f5, rfl, hown3_2.out, hown5'.out, (by unfold InI; simp only [mkNode]; omega), markT_size (by omega), (by unfold InI; simp only [mkNode]; omega), (by unfold InI; simp only [mkNode]; omega), rfl⟩
        · exact Out.trans hout.out (Out.mono out3.out (fun x q => by rcases List.mem_cons.1 q with q | q; (rw [q]; exact hbf); (exact hsub x q)))
      case measure => simp [intOf]; omega
    · obtain rfl : j = xs.length := by omega
      have hful : Hid _ := mix_full (mkL_length (cnt := cntNode) (mk := mkNode) (xs := xs) (m := m))
      go_wp2_with fail
      go_ret
      exact ⟨rfl, by rw [← hful.out]; exact hown.out, hout.out⟩
set_option maxRecDepth 100000 in
set_option maxHeartbeats 3200000 in
theorem markFieldS_any {w : World} {k : Value} {xs : List FieldD} {fs : List Nat} {m : Int} (hk : SeqOwn 2 FieldOwn w k xs fs) (h0 : 0 ≤ m) (h1 : m + (cntL cntField xs : Nat) ≤ 4611686018427387904) :
    Calls Tryz.prog 37 #[k, .int .i64 m] w fun e w' => e = .returned (.int .i64 (m + (cntL cntField xs : Nat))) ∧ SeqOwn 2 FieldOwn w' k (mkL cntField mkField xs m) fs ∧ Out fs w w' := by
  have hk' : Hid (SeqOwn 2 FieldOwn w k xs fs) := hk
  obtain ⟨a, cap, rfl, hm, _⟩ := hk
  unfold maxLen at hm
  go_enter Tryz.func37, Tryz.ntmps37
  go_wp2_with fail
  go_loopw [1, 5] (fun z i wr => ∃ (j : Nat), j ≤ xs.length ∧ i = .int .i64 j ∧ z = .int .i64 (m + (pos cntField xs j : Nat)) ∧ Hid (SeqOwn 2 FieldOwn wr (.slice a xs.length cap) (mix (mkL cntField mkField xs m) xs j) fs) ∧ Hid (Out fs w wr)) (fun _ i _ => xs.length - (intOf i).toNat)
  case atStart => exact ⟨0, by omega, rfl, by rw [pos_zero]; simp, by rw [mix_zero]; exact hk'.out, Out.refl _ _⟩
  case round =>
    obtain ⟨j, hj, rfl, rfl, hown, hout⟩ := hrel
    by_cases hlt : j < xs.length
    · have hml := mix_length (mkL_length (cnt := cntField) (mk := mkField) (xs := xs) (m := m)) hj
      obtain ⟨b, off, C, T, cs, fj, rfl, hrow, hcl, ⟨hbf, hbn, hsub, hnd⟩, hr, hclose⟩ := hown.out.step FieldOwn_stays FieldOwn_lt (j := j) (by omega)
      have hset : Hid _ := mix_set (mkL_length (cnt := cntField) (mk := mkField) (xs := xs) (m := m)) hlt
      have hps2 : pos cntField xs (j + 1) = pos cntField xs j + (1 + 1) := pos_succ hlt
      have hpl : pos cntField xs (j + 1) ≤ cntL cntField xs := pos_le (by omega) (Nat.le_refl _)
      rw [mkL_get] at hset
      rw [mix_get mkL_length hlt] at hr
      generalize xs[j] = Q at *
      obtain ⟨rfl, _, _, hfs⟩ := hr
      subst hfs
      have hrow' : Hid (RowIs wr b (off + j * 2) C T [.string Q.vName, .int .i64 Q.vObj]) := hrow
      have hclose' : Hid _ := hclose
      clear hrow hclose
      generalize hP : m + (pos cntField xs j : Nat) = P at *
      have hP0 : 0 ≤ P := by omega
      have hP1 : P + (1 + 1) ≤ 4611686018427387904 := by omega
      have hz : m + (pos cntField xs (j + 1) : Nat) = P + 1 + 1 := by omega
      clear hpl hps2
      have row0 := hrow'.out
      have out0 : Hid (Out [b] wr wr) := Out.refl _ _
      have z0_0 := (RowIs.cell hrow'.out 0 rfl)
      have z0_1 := (RowIs.cell hrow'.out 1 rfl)
      have u0 := RowIs.unfrozen hrow'.out
      simp only [Nat.add_zero] at z0_0
      clear row0
      go_wp2_with fail
      refine (markText_any (by omega)).mono ?_
      rintro e v0 ⟨rfl, hc0⟩
      have row1 := RowIs.below hrow'.out hc0
      have out1 : Hid (Out [b] wr v0) := Out.trans out0.out (Out.of_below hc0)
      have row1' : Hid (RowIs v0 b (off + j * 2) C T _) := row1
      clear z0_0 z0_1 u0
      have z1_0 := (RowIs.cell row1 0 rfl)
      have z1_1 := (RowIs.cell row1 1 rfl)
      have u1 := RowIs.unfrozen row1
      simp only [Nat.add_zero] at z1_0
      clear row1
      go_wp2_with fail
      go_roundw
      case rel =>
        refine ⟨j + 1, by omega, by go_num, by rw [hz], ?_, ?_⟩
        · rw [← hset.out]
          exact hclose'.out _ [.string (markT (P)), .int .i64 (P + 1)] _ rfl (RowIs.set (m := 1) (RowIs.set (m := 0) row1'.out (by simp) _) (by simp) _) (Out.set (Out.set out1.out List.mem_cons_self _) List.mem_cons_self _) ⟨rfl, markT_size (by omega), (by unfold InI; simp only [mkField]; omega), rfl⟩
        · exact Out.trans hout.out (Out.mono (Out.set (Out.set out1.out List.mem_cons_self _) List.mem_cons_self _) (fun x q => by rcases List.mem_cons.1 q with q | q; (rw [q]; exact hbf); (exact hsub x q)))
      case measure => simp [intOf]; omega
    · obtain rfl : j = xs.length := by omega
      have hful : Hid _ := mix_full (mkL_length (cnt := cntField) (mk := mkField) (xs := xs) (m := m))
      go_wp2_with fail
      go_ret
      exact ⟨rfl, by rw [← hful.out]; exact hown.out, hout.out⟩
set_option maxRecDepth 100000 in
set_option maxHeartbeats 3200000 in
theorem markObjS_any {w : World} {k : Value} {xs : List ObjD} {fs : List Nat} {m : Int} (hk : SeqOwn 3 ObjOwn w k xs fs) (h0 : 0 ≤ m) (h1 : m + (cntL cntObj xs : Nat) ≤ 4611686018427387904) :
    Calls Tryz.prog 36 #[k, .int .i64 m] w fun e w' => e = .returned (.int .i64 (m + (cntL cntObj xs : Nat))) ∧ SeqOwn 3 ObjOwn w' k (mkL cntObj mkObj xs m) fs ∧ Out fs w w' := by
  have hk' : Hid (SeqOwn 3 ObjOwn w k xs fs) := hk
  obtain ⟨a, cap, rfl, hm, _⟩ := hk
  unfold maxLen at hm
  go_enter Tryz.func36, Tryz.ntmps36
  go_wp2_with fail
  go_loopw [1, 5] (fun z i wr => ∃ (j : Nat), j ≤ xs.length ∧ i = .int .i64 j ∧ z = .int .i64 (m + (pos cntObj xs j : Nat)) ∧ Hid (SeqOwn 3 ObjOwn wr (.slice a xs.length cap) (mix (mkL cntObj mkObj xs m) xs j) fs) ∧ Hid (Out fs w wr)) (fun _ i _ => xs.length - (intOf i).toNat)
  case atStart => exact ⟨0, by omega, rfl, by rw [pos_zero]; simp, by rw [mix_zero]; exact hk'.out, Out.refl _ _⟩
  case round =>
    obtain ⟨j, hj, rfl, rfl, hown, hout⟩ := hrel
    by_cases hlt : j < xs.length
    · have hml := mix_length (mkL_length (cnt := cntObj) (mk := mkObj) (xs := xs) (m := m)) hj
      obtain ⟨b, off, C, T, cs, fj, rfl, hrow, hcl, ⟨hbf, hbn, hsub, hnd⟩, hr, hclose⟩ := hown.out.step ObjOwn_stays ObjOwn_lt (j := j) (by omega)
      have hset : Hid _ := mix_set (mkL_length (cnt := cntObj) (mk := mkObj) (xs := xs) (m := m)) hlt
      have hps2 : pos cntObj xs (j + 1) = pos cntObj xs j + (1 + 1 + cntL cntField xs[j].vFields) := pos_succ hlt
      have hpl : pos cntObj xs (j + 1) ≤ cntL cntObj xs := pos_le (by omega) (Nat.le_refl _)
      rw [mkL_get] at hset
      rw [mix_get mkL_length hlt] at hr
      generalize xs[j] = Q at *
      obtain ⟨k2, f2, rfl, o2, _, _, hfs⟩ := hr
      obtain ⟨p2, d2, rfl⟩ := o2.form
      have o2' : Hid (SeqOwn 2 FieldOwn wr (.slice p2 Q.vFields.length d2) Q.vFields f2) := o2
      clear o2
      subst hfs
      have hb2 := hbn
      have hrow' : Hid (RowIs wr b (off + j * 3) C T [.int .i64 Q.vId, .int .i64 Q.vNode, .slice p2 Q.vFields.length d2]) := hrow
      have hclose' : Hid _ := hclose
      clear hrow hclose
      generalize hP : m + (pos cntObj xs j : Nat) = P at *
      have hP0 : 0 ≤ P := by omega
      generalize hC2 : cntL cntField Q.vFields = N2 at *
      have hP1 : P + (1 + 1 + (N2 : Int)) ≤ 4611686018427387904 := by omega
      have hz : m + (pos cntObj xs (j + 1) : Nat) = P + 1 + 1 + (N2 : Int) := by omega
      clear hpl hps2
      have row0 := hrow'.out
      have out0 : Hid (Out [b] wr wr) := Out.refl _ _
      have z0_0 := (RowIs.cell hrow'.out 0 rfl)
      have z0_1 := (RowIs.cell hrow'.out 1 rfl)
      have z0_2 := (RowIs.cell hrow'.out 2 rfl)
      have u0 := RowIs.unfrozen hrow'.out
      simp only [Nat.add_zero] at z0_0
      clear row0
      go_wp2_with fail
      refine (markFieldS_any (by exact SeqOwn.stays FieldOwn_stays o2'.out (fun x hx => Out.keep (Out.set (Out.set out0.out List.mem_cons_self _) List.mem_cons_self _) (SeqOwn.lt FieldOwn_lt o2'.out x hx) (fun q => (by rcases List.mem_cons.1 q with q | q; (exact hb2 (q ▸ hx)); cases q)))) (by omega) (by omega)).mono ?_
      rintro e v0 ⟨rfl, hown2, hc0⟩
      have row1 := RowIs.out (RowIs.set (m := 1) (RowIs.set (m := 0) hrow'.out (by simp) _) (by simp) _) hc0 hb2
      have out1 : Hid (Out (b :: fj) wr v0) := Out.trans (Out.mono (Out.set (Out.set out0.out List.mem_cons_self _) List.mem_cons_self _) (fun x q => by rcases List.mem_cons.1 q with q | q; (rw [q]; exact List.mem_cons_self); (cases q))) (Out.mono hc0 (fun x q => List.mem_cons_of_mem _ q))
      have row1' : Hid (RowIs v0 b (off + j * 3) C T _) := row1
      have hown2' : Hid _ := hown2
      have oc2 : Hid _ := hc0
      clear hown2
      clear z0_0 z0_1 z0_2 u0
      have z1_0 := (RowIs.cell row1 0 rfl)
      have z1_1 := (RowIs.cell row1 1 rfl)
      have z1_2 := (RowIs.cell row1 2 rfl)
      have u1 := RowIs.unfrozen row1
      simp only [Nat.add_zero] at z1_0
      clear row1
      go_wp2_with fail
      subst hC2
      go_roundw
      case rel =>
        refine ⟨j + 1, by omega, by go_num, by rw [hz], ?_, ?_⟩
        · rw [← hset.out]
          exact hclose'.out _ [.int .i64 (P), .int .i64 (P + 1), .slice p2 Q.vFields.length d2] _ rfl row1'.out out1.out ⟨_, fj, rfl, hown2'.out, (by unfold InI; simp only [mkObj]; omega), (by unfold InI; simp only [mkObj]; omega), rfl⟩
        · exact Out.trans hout.out (Out.mono out1.out (fun x q => by rcases List.mem_cons.1 q with q | q; (rw [q]; exact hbf); (exact hsub x q)))
      case measure => simp [intOf]; omega
    · obtain rfl : j = xs.length := by omega
      have hful : Hid _ := mix_full (mkL_length (cnt := cntObj) (mk := mkObj) (xs := xs) (m := m))
      go_wp2_with fail
      go_ret
      exact ⟨rfl, by rw [← hful.out]; exact hown.out, hout.out⟩
end Go.Proofs.YtnonfehmbabfhaaGreat
