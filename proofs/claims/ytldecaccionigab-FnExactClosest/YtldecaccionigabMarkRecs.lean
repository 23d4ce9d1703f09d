/- The walks of mark..: what owns its memory has its marks then, and nothing else has turned. -/
import Derived.Test.YtldecaccionigabOwnRecs
import Derived.WalkKit
namespace Go.Proofs.Ytldecaccionigab
open Go.RowKit
set_option maxHeartbeats 800000 in
theorem markInt64S_any {w : World} {k : Value} {xs : List Int} {fs : List Nat} {m : Int} (hk : SeqOwn 1 IntOwn w k xs fs) (h0 : 0 ≤ m) (h1 : m + (cntL cntI xs : Nat) ≤ 4611686018427387904) :
    Calls Try.prog 12 #[k, .int .i64 m] w fun e w' => e = .returned (.int .i64 (m + (cntL cntI xs : Nat))) ∧ SeqOwn 1 IntOwn w' k (mkL cntI mkI xs m) fs ∧ Out fs w w' := by
  have hk' : Hid (SeqOwn 1 IntOwn w k xs fs) := hk
  obtain ⟨a, cap, rfl, hm, _⟩ := hk
  unfold maxLen at hm
  go_enter Try.func12, Try.ntmps12
  go_wp2_with fail
  go_loopw [1, 5] (fun z i wr => ∃ (j : Nat), j ≤ xs.length ∧ i = .int .i64 j ∧ z = .int .i64 (m + (pos cntI xs j : Nat)) ∧ Hid (SeqOwn 1 IntOwn wr (.slice a xs.length cap) (mix (mkL cntI mkI xs m) xs j) fs) ∧ Hid (Out fs w wr)) (fun _ i _ => xs.length - (intOf i).toNat)
  case atStart => exact ⟨0, by omega, rfl, by rw [pos_zero]; simp, by rw [mix_zero]; exact hk'.out, Out.refl _ _⟩
  case round =>
    obtain ⟨j, hj, rfl, rfl, hown, hout⟩ := hrel
    by_cases hlt : j < xs.length
    · have hml := mix_length (mkL_length (cnt := cntI) (mk := mkI) (xs := xs) (m := m)) hj
      obtain ⟨b, off, C, T, cs, fj, rfl, hrow, hcl, ⟨hbf, hbn, hsub, hnd⟩, hr, hclose⟩ := hown.out.step intOwn_stays intOwn_lt (j := j) (by omega)
      have hset : Hid _ := mix_set (mkL_length (cnt := cntI) (mk := mkI) (xs := xs) (m := m)) hlt
      have hpl : pos cntI xs (j + 1) ≤ cntL cntI xs := pos_le (by omega) (Nat.le_refl _)
      have hps2 : pos cntI xs (j + 1) = pos cntI xs j + 1 := pos_succ hlt
      rw [mkL_get] at hset
      rw [mix_get mkL_length hlt] at hr
      simp only [Nat.mul_one] at hrow hclose
      obtain ⟨rfl, hI, rfl⟩ := hr
      have z0 := hrow.cell 0 rfl
      simp only [Nat.add_zero] at z0
      have uf := hrow.unfrozen
      have hrow' : Hid _ := hrow
      have hclose' : Hid _ := hclose
      clear hrow hclose
      generalize hP : m + (pos cntI xs j : Nat) = P at *
      have hP0 : 0 ≤ P := by omega
      have hP1 : P + 1 ≤ 4611686018427387904 := by omega
      have hz : m + (pos cntI xs (j + 1) : Nat) = P + 1 := by omega
      clear hpl hps2
      go_wp2_with fail
      go_roundw
      case rel => exact ⟨j + 1, by omega, by go_num, by rw [hz], by rw [← hset.out]; exact hclose'.out _ [.int .i64 P] _ rfl (RowIs.set (m := 0) hrow'.out (by simp) _) ((Out.refl _ _).set List.mem_cons_self _) ⟨rfl, by unfold InI; simp only [mkI]; omega, rfl⟩, hout.out.set hbf _⟩
      case measure => simp [intOf]; omega
    · obtain rfl : j = xs.length := by omega
      have hful : Hid _ := mix_full (mkL_length (cnt := cntI) (mk := mkI) (xs := xs) (m := m))
      go_wp2_with fail
      go_ret
      exact ⟨rfl, by rw [← hful.out]; exact hown.out, hout.out⟩
end Go.Proofs.Ytldecaccionigab
