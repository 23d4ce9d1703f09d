/- The walks of mark..: what owns its memory has its marks then, and nothing else has turned. -/
import Derived.Test.YtdapgihghbmlfaaDoorOwnRecs
import Derived.WalkKit
namespace Go.Proofs.YtdapgihghbmlfaaDoor
open Go.RowKit
set_option maxRecDepth 100000 in
set_option maxHeartbeats 3200000 in
theorem markInstrS_any {w : World} {k : Value} {xs : List InstrD} {fs : List Nat} {m : Int} (hk : SeqOwn 3 InstrOwn w k xs fs) (h0 : 0 ≤ m) (h1 : m + (cntL cntInstr xs : Nat) ≤ 4611686018427387904) :
    Calls Tryd.prog 12 #[k, .int .i64 m] w fun e w' => e = .returned (.int .i64 (m + (cntL cntInstr xs : Nat))) ∧ SeqOwn 3 InstrOwn w' k (mkL cntInstr mkInstr xs m) fs ∧ Out fs w w' := by
  have hk' : Hid (SeqOwn 3 InstrOwn w k xs fs) := hk
  obtain ⟨a, cap, rfl, hm, _⟩ := hk
  unfold maxLen at hm
  go_enter Tryd.func12, Tryd.ntmps12
  go_wp2_with fail
  go_loopw [1, 5] (fun z i wr => ∃ (j : Nat), j ≤ xs.length ∧ i = .int .i64 j ∧ z = .int .i64 (m + (pos cntInstr xs j : Nat)) ∧ Hid (SeqOwn 3 InstrOwn wr (.slice a xs.length cap) (mix (mkL cntInstr mkInstr xs m) xs j) fs) ∧ Hid (Out fs w wr)) (fun _ i _ => xs.length - (intOf i).toNat)
  case atStart => exact ⟨0, by omega, rfl, by rw [pos_zero]; simp, by rw [mix_zero]; exact hk'.out, Out.refl _ _⟩
  case round =>
    obtain ⟨j, hj, rfl, rfl, hown, hout⟩ := hrel
    by_cases hlt : j < xs.length
    · have hml := mix_length (mkL_length (cnt := cntInstr) (mk := mkInstr) (xs := xs) (m := m)) hj
      obtain ⟨b, off, C, T, cs, fj, rfl, hrow, hcl, ⟨hbf, hbn, hsub, hnd⟩, hr, hclose⟩ := hown.out.step InstrOwn_stays InstrOwn_lt (j := j) (by omega)
      have hset : Hid _ := mix_set (mkL_length (cnt := cntInstr) (mk := mkInstr) (xs := xs) (m := m)) hlt
      have hps2 : pos cntInstr xs (j + 1) = pos cntInstr xs j + (1 + 1 + 1) := pos_succ hlt
      have hpl : pos cntInstr xs (j + 1) ≤ cntL cntInstr xs := pos_le (by omega) (Nat.le_refl _)
      rw [mkL_get] at hset
      rw [mix_get mkL_length hlt] at hr
      generalize xs[j] = Q at *
      obtain ⟨rfl, _, _, _, hfs⟩ := hr
      subst hfs
      have hrow' : Hid (RowIs wr b (off + j * 3) C T [.int .i64 Q.vKind, .int .i64 Q.vN, .string Q.vName]) := hrow
      have hclose' : Hid _ := hclose
      clear hrow hclose
      generalize hP : m + (pos cntInstr xs j : Nat) = P at *
      have hP0 : 0 ≤ P := by omega
      have hP1 : P + (1 + 1 + 1) ≤ 4611686018427387904 := by omega
      have hz : m + (pos cntInstr xs (j + 1) : Nat) = P + 1 + 1 + 1 := by omega
      clear hpl hps2
      have row0 := hrow'.out
      have out0 : Hid (Out [b] wr wr) := Out.refl _ _
      have z0_0 := (RowIs.cell hrow'.out 0 rfl)
      have z0_1 := (RowIs.cell hrow'.out 1 rfl)
      have z0_2 := (RowIs.cell hrow'.out 2 rfl)
      have u0 := RowIs.unfrozen hrow'.out
      simp only [Nat.add_zero] at z0_0
      clear row0
      go_wp2_with fail
      refine (markText_any (by omega)).mono ?_
      rintro e v0 ⟨rfl, hc0⟩
      have row1 := RowIs.below (RowIs.set (m := 1) (RowIs.set (m := 0) hrow'.out (by simp) _) (by simp) _) hc0
      have out1 : Hid (Out [b] wr v0) := Out.trans (Out.set (Out.set out0.out List.mem_cons_self _) List.mem_cons_self _) (Out.of_below hc0)
      have row1' : Hid (RowIs v0 b (off + j * 3) C T _) := row1
      clear z0_0 z0_1 z0_2 u0
      have z1_0 := (RowIs.cell row1 0 rfl)
      have z1_1 := (RowIs.cell row1 1 rfl)
      have z1_2 := (RowIs.cell row1 2 rfl)
      have u1 := RowIs.unfrozen row1
      simp only [Nat.add_zero] at z1_0
      clear row1
      go_wp2_with fail
      go_roundw
      case rel =>
        refine ⟨j + 1, by omega, by go_num, by rw [hz], ?_, ?_⟩
        · rw [← hset.out]
          exact hclose'.out _ [.int .i64 (P), .int .i64 (P + 1), .string (markT (P + 1 + 1))] _ rfl (RowIs.set (m := 2) row1'.out (by simp) _) (Out.set out1.out List.mem_cons_self _) ⟨rfl, (by unfold InI; simp only [mkInstr]; omega), (by unfold InI; simp only [mkInstr]; omega), markT_size (by omega), rfl⟩
        · exact Out.trans hout.out (Out.mono (Out.set out1.out List.mem_cons_self _) (fun x q => by rcases List.mem_cons.1 q with q | q; (rw [q]; exact hbf); (exact hsub x q)))
      case measure => simp [intOf]; omega
    · obtain rfl : j = xs.length := by omega
      have hful : Hid _ := mix_full (mkL_length (cnt := cntInstr) (mk := mkInstr) (xs := xs) (m := m))
      go_wp2_with fail
      go_ret
      exact ⟨rfl, by rw [← hful.out]; exact hown.out, hout.out⟩
end Go.Proofs.YtdapgihghbmlfaaDoor
