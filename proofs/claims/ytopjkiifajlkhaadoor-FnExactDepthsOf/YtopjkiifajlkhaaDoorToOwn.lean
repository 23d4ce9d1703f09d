/- What the functions to.. of the laws hand back: a copy that owns its memory. -/
import Derived.Test.YtopjkiifajlkhaaDoorOwnFill
import Derived.Test.YtopjkiifajlkhaaDoorOwnRecs
import Derived.Test.YtopjkiifajlkhaaDoorInTo
import Derived.WalkKit
namespace Go.Proofs.YtopjkiifajlkhaaDoor
open Go.RowKit
set_option maxHeartbeats 1000000 in
theorem toInstr_own {w : World} {lo : Nat} {cs : List Value} {x : InstrD} (hx : InstrAt w lo cs x) :
    Calls Tryd.prog 9 #[.agg cs.toArray] w fun e w' => (∃ cs' fs, e = .returned (.agg cs'.toArray) ∧ InstrOwn w' cs' x fs ∧ fs.Nodup ∧ ∀ b ∈ fs, w.heap.size ≤ b) ∧ Below w.heap.size w w' := by
  obtain ⟨rfl, rKind, rN, rName, _⟩ := hx
  go_enter Tryd.func9, Tryd.ntmps9
  go_wp2_with fail
  exact bodyPost_ret (v := .agg (List.toArray [.int .i64 x.vKind, .int .i64 x.vN, .string x.vName])) (by simp [results, Tryd.results9, go_sem]) rfl ⟨⟨_, [], rfl, ⟨rfl, rKind, rN, rName, rfl⟩, List.nodup_nil, by simp⟩, (((Below.refl _ _).alloc (Nat.le_refl _) _).alloc (by simp) _).alloc (by simp; omega) _⟩
set_option maxHeartbeats 1000000 in
theorem toInstrS_own {w : World} {lo : Nat} {k : Value} {xs : List InstrD} (hk : SeqAt 3 InstrAt w lo k xs) (hsm : AllS InstrD.small xs) :
    Calls Tryd.prog 13 #[k] w fun e w' => (∃ k' fs, e = .returned k' ∧ SeqOwn 3 InstrOwn w' k' xs fs ∧ fs.Nodup ∧ ∀ b ∈ fs, w.heap.size ≤ b) ∧ Below w.heap.size w w' := by
  obtain ⟨a, cap, rfl, hm, hx⟩ := hk
  unfold maxLen at hm
  have hx' : Hid _ := hx
  have hsm' : Hid (AllS InstrD.small xs) := hsm
  have hl := hsm.1
  clear hx hsm
  have hmk := run_newInstr xs.length hl w
  go_enter Tryd.func13, Tryd.ntmps13
  go_wp2_with fail
  go_loopw [4] (fun i wr => ∃ (j : Nat) (bss : List (List Nat)), j ≤ xs.length ∧ i = .int .i64 j ∧ Hid (FilledO 26 3 InstrOwn w wr xs w.heap.size j bss)) (fun i _ => xs.length - (intOf i).toNat)
  case atStart => exact ⟨0, [], by omega, rfl, FilledO.start (newInstr_size _)⟩
  case round =>
    obtain ⟨j, bss, hj, rfl, hfill⟩ := hrel
    have hb := hfill.out.1
    by_cases hlt : j < xs.length
    · obtain ⟨b, off, rfl, hlo, hbw, hc⟩ := hx'.out (by omega)
      obtain ⟨cs, hcl, lie, hr⟩ := hc j hlt
      have lie1 := Lie.keep (lo := lo) (lo' := lo) lie (.of_below hb) hlo hbw
      have hr2 := InstrAt_stays _ _ _ lo _ _ (.of_below hb) hr
      have hsj : Hid (InstrD.small xs[j]) := hsm'.out.2 j hlt
      generalize hX : xs[j] = X at hr2 hsj
      have hX' : Hid _ := hX
      have hr3 : Hid (InstrAt wr lo cs X) := hr2
      clear hX hr lie hc
      obtain ⟨rfl, rKind, rN, rName, _⟩ := hr2
      clear rKind rN rName
      have z0 := lie1 0 (by simp)
      have z1 := lie1 1 (by simp)
      have z2 := lie1 2 (by simp)
      simp only [List.getElem?_cons_zero, List.getElem?_cons_succ, Nat.add_zero] at z0 z1 z2
      clear lie1 hcl hx' hmk
      go_wp2_with fail
      refine (toInstr_own hr3.out).mono ?_
      rintro e w1 ⟨⟨cs1, fs1, rfl, ht1, nd1, lo1⟩, hb1⟩
      have hcl1 : cs1.length = 3 := by obtain ⟨rfl, _⟩ := ht1; rfl
      have ht1' : Hid (InstrOwn w1 cs1 X fs1) := ht1
      have hi1 : Hid (∀ b ∈ fs1, b < w1.heap.size) := InstrOwn_lt _ _ _ _ ht1
      obtain ⟨rfl, rKind, rN, rName, rfl⟩ := ht1
      clear rKind rN rName z0 z1 z2
      obtain ⟨hv, hf⟩ := hfill.out.facts hlt hb1
      obtain ⟨v0, y0⟩ := hv 0 (by omega)
      have f0 := hf (j * 3 + 0)
      obtain ⟨v1, y1⟩ := hv 1 (by omega)
      have f1 := hf (j * 3 + 1)
      obtain ⟨v2, y2⟩ := hv 2 (by omega)
      have f2 := hf (j * 3 + 2)
      simp only [Nat.add_zero] at y0 f0
      clear hv hf
      go_wp2_with fail
      go_roundw
      case rel =>
        refine ⟨j + 1, bss ++ [[]], by omega, by go_num, ?_⟩
        have hst := FilledO.step InstrOwn_stays hfill.out hlt (Nat.le_refl _) hb1 hcl1 (by rw [hX'.out]; exact ht1'.out) (by simp) (by simp) (by simp)
        simp only [putCells, Nat.add_assoc, Nat.reduceAdd] at hst
        exact hst
      case measure => simp [intOf]; omega
    · have e : j = xs.length := by omega
      subst e
      go_wp2_with fail
      go_ret
      obtain ⟨d1, d2⟩ := hfill.out.done (Nat.le_refl _) (by unfold maxLen; omega)
      exact ⟨⟨_, _, rfl, d1, d1.nodup, d2⟩, hb⟩
end Go.Proofs.YtopjkiifajlkhaaDoor
