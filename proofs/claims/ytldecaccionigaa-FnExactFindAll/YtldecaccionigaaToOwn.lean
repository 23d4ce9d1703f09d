/- What the functions to.. of the laws hand back: a copy that owns its memory. -/
import Derived.Test.YtldecaccionigaaOwnFill
import Derived.Test.YtldecaccionigaaOwnRecs
import Derived.Test.YtldecaccionigaaStTo
import Derived.WalkKit
namespace Go.Proofs.Ytldecaccionigaa
open Go.RowKit
set_option maxHeartbeats 800000 in
theorem toInt64S_own {w : World} {lo : Nat} {k : Value} {xs : List Int} (hk : SeqAt 1 IntAt w lo k xs) (hl : xs.length ≤ 1048576) :
    Calls Try.prog 26 #[k] w fun e w' => (∃ k' fs, e = .returned k' ∧ SeqOwn 1 IntOwn w' k' xs fs ∧ fs.Nodup ∧ ∀ b ∈ fs, w.heap.size ≤ b) ∧ Below w.heap.size w w' := by
  obtain ⟨a, cap, rfl, hm, hx⟩ := hk
  unfold maxLen at hm
  have hx' : Hid _ := hx
  clear hx
  have hmk := run_newInt64 xs.length hl w
  go_enter Try.func26, Try.ntmps26
  go_wp2_with fail
  go_loopw [4] (fun i wr => ∃ (j : Nat) (bss : List (List Nat)), j ≤ xs.length ∧ i = .int .i64 j ∧ Hid (FilledO 2 1 IntOwn w wr xs w.heap.size j bss)) (fun i _ => xs.length - (intOf i).toNat)
  case atStart => exact ⟨0, [], by omega, rfl, FilledO.start (newInt64_size _)⟩
  case round =>
    obtain ⟨j, bss, hj, rfl, hfill⟩ := hrel
    have hb := hfill.out.1
    by_cases hlt : j < xs.length
    · obtain ⟨b, off, rfl, hlo, hbw, hc⟩ := hx'.out (by omega)
      obtain ⟨cs, hcl, lie, hr⟩ := hc j hlt
      have lie1 := Lie.keep (lo := lo) (lo' := lo) lie (.of_below hb) hlo hbw
      have hr' : Hid (IntOwn wr cs xs[j] []) := ⟨hr.1, hr.2, rfl⟩
      generalize hX : xs[j] = X at hr
      have hX' : Hid _ := hX
      clear hX
      obtain ⟨rfl, hI⟩ := hr
      have z0 := lie1 0 (by simp)
      simp only [List.getElem?_cons_zero, Nat.add_zero, Nat.mul_one] at z0
      obtain ⟨hv, hf⟩ := hfill.out.facts hlt (Below.refl _ _)
      obtain ⟨v0, y0⟩ := hv 0 (by omega)
      simp only [Nat.add_zero, Nat.mul_one] at y0
      have f0 := hf j
      clear hv hf lie lie1 hx' hmk hc
      go_wp2_with fail
      go_roundw
      case rel =>
        refine ⟨j + 1, bss ++ [[]], by omega, by go_num, ?_⟩
        have := FilledO.step intOwn_stays hfill.out hlt (Nat.le_refl _) (Below.refl _ _) hcl hr'.out (by simp) (by simp) (by simp)
        simpa [putCells, Hid] using this
      case measure => simp [intOf]; omega
    · have e : j = xs.length := by omega
      subst e
      go_wp2_with fail
      go_ret
      obtain ⟨d1, d2⟩ := hfill.out.done (Nat.le_refl _) (by unfold maxLen; omega)
      exact ⟨⟨_, _, rfl, d1, d1.nodup, d2⟩, hb⟩
set_option maxHeartbeats 1000000 in
theorem toStep_own {w : World} {lo : Nat} {cs : List Value} {x : StepD} (hx : StepAt w lo cs x) :
    Calls Try.prog 38 #[.agg cs.toArray] w fun e w' => (∃ cs' fs, e = .returned (.agg cs'.toArray) ∧ StepOwn w' cs' x fs ∧ fs.Nodup ∧ ∀ b ∈ fs, w.heap.size ≤ b) ∧ Below w.heap.size w w' := by
  obtain ⟨rfl, rTag, _⟩ := hx
  go_enter Try.func38, Try.ntmps38
  go_wp2_with fail
  exact bodyPost_ret (v := .agg (List.toArray [.string x.vTag, .bool x.vDeep])) (by simp [results, Try.results38, go_sem]) rfl ⟨⟨_, [], rfl, ⟨rfl, rTag, rfl⟩, List.nodup_nil, by simp⟩, (((Below.refl _ _).alloc (Nat.le_refl _) _).alloc (by simp) _).alloc (by simp; omega) _⟩
set_option maxHeartbeats 1000000 in
theorem toStepS_own {w : World} {lo : Nat} {k : Value} {xs : List StepD} (hk : SeqAt 2 StepAt w lo k xs) (hsm : AllS StepD.small xs) :
    Calls Try.prog 11 #[k] w fun e w' => (∃ k' fs, e = .returned k' ∧ SeqOwn 2 StepOwn w' k' xs fs ∧ fs.Nodup ∧ ∀ b ∈ fs, w.heap.size ≤ b) ∧ Below w.heap.size w w' := by
  obtain ⟨a, cap, rfl, hm, hx⟩ := hk
  unfold maxLen at hm
  have hx' : Hid _ := hx
  have hsm' : Hid (AllS StepD.small xs) := hsm
  have hl := hsm.1
  clear hx hsm
  have hmk := run_newStep xs.length hl w
  go_enter Try.func11, Try.ntmps11
  go_wp2_with fail
  go_loopw [4] (fun i wr => ∃ (j : Nat) (bss : List (List Nat)), j ≤ xs.length ∧ i = .int .i64 j ∧ Hid (FilledO 60 2 StepOwn w wr xs w.heap.size j bss)) (fun i _ => xs.length - (intOf i).toNat)
  case atStart => exact ⟨0, [], by omega, rfl, FilledO.start (newStep_size _)⟩
  case round =>
    obtain ⟨j, bss, hj, rfl, hfill⟩ := hrel
    have hb := hfill.out.1
    by_cases hlt : j < xs.length
    · obtain ⟨b, off, rfl, hlo, hbw, hc⟩ := hx'.out (by omega)
      obtain ⟨cs, hcl, lie, hr⟩ := hc j hlt
      have lie1 := Lie.keep (lo := lo) (lo' := lo) lie (.of_below hb) hlo hbw
      have hr2 := StepAt_stays _ _ _ lo _ _ (.of_below hb) hr
      have hsj : Hid (StepD.small xs[j]) := hsm'.out.2 j hlt
      generalize hX : xs[j] = X at hr2 hsj
      have hX' : Hid _ := hX
      have hr3 : Hid (StepAt wr lo cs X) := hr2
      clear hX hr lie hc
      obtain ⟨rfl, rTag, _⟩ := hr2
      clear rTag
      have z0 := lie1 0 (by simp)
      have z1 := lie1 1 (by simp)
      simp only [List.getElem?_cons_zero, List.getElem?_cons_succ, Nat.add_zero] at z0 z1
      clear lie1 hcl hx' hmk
      go_wp2_with fail
      refine (toStep_own hr3.out).mono ?_
      rintro e w1 ⟨⟨cs1, fs1, rfl, ht1, nd1, lo1⟩, hb1⟩
      have hcl1 : cs1.length = 2 := by obtain ⟨rfl, _⟩ := ht1; rfl
      have ht1' : Hid (StepOwn w1 cs1 X fs1) := ht1
      have hi1 : Hid (∀ b ∈ fs1, b < w1.heap.size) := StepOwn_lt _ _ _ _ ht1
      obtain ⟨rfl, rTag, rfl⟩ := ht1
      clear rTag z0 z1
      obtain ⟨hv, hf⟩ := hfill.out.facts hlt hb1
      obtain ⟨v0, y0⟩ := hv 0 (by omega)
      have f0 := hf (j * 2 + 0)
      obtain ⟨v1, y1⟩ := hv 1 (by omega)
      have f1 := hf (j * 2 + 1)
      simp only [Nat.add_zero] at y0 f0
      clear hv hf
      go_wp2_with fail
      go_roundw
      case rel =>
        refine ⟨j + 1, bss ++ [[]], by omega, by go_num, ?_⟩
        have hst := FilledO.step StepOwn_stays hfill.out hlt (Nat.le_refl _) hb1 hcl1 (by rw [hX'.out]; exact ht1'.out) (by simp) (by simp) (by simp)
        simp only [putCells] at hst
        exact hst
      case measure => simp [intOf]; omega
    · have e : j = xs.length := by omega
      subst e
      go_wp2_with fail
      go_ret
      obtain ⟨d1, d2⟩ := hfill.out.done (Nat.le_refl _) (by unfold maxLen; omega)
      exact ⟨⟨_, _, rfl, d1, d1.nodup, d2⟩, hb⟩
end Go.Proofs.Ytldecaccionigaa
