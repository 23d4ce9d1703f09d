/- The records of this package as data, and that they lie in memory. -/
import Derived.Test.YtfncmndgdomjiaaOwnFill
import Derived.Test.YtfncmndgdomjiaaRows
import Derived.WalkKit
import Derived.Test.YtfncmndgdomjiaaMarks
import Derived.Test.YtfncmndgdomjiaaTakeLit
import Derived.Deep.RegionHeld3
namespace Go.Proofs.Ytfncmndgdomjiaa
open Go.RowKit Go.ChangeShapes
theorem inI_of_wf {n : Int} (h : (Lit.int .i64 n).wf = true) : InI n := by
  simp [Lit.wf, IntKind.min, IntKind.max, IntKind.signed, IntKind.bits] at h
  unfold InI; omega
theorem intAt_of_trod {H : Type} {enc : TypeId × Value → H} {w : World} {spare : Nat → Bool} {held : Bool} (n : Nat) (cs : List Value) (y : DataW H × List MemPlace) (h : DataW.trod enc Try.prog w 0 spare held n 2 cs = some y) : ∃ x, IntAt w 0 cs x := by
  obtain ⟨x, e, _, hw⟩ := DataW.trod_int Try.underlying2 h
  exact ⟨x, e, inI_of_wf hw⟩
end Go.Proofs.Ytfncmndgdomjiaa
namespace Go.Proofs.Ytfncmndgdomjiaa
open Go.RowKit
set_option maxHeartbeats 400000 in
theorem szInt64S_any {w : World} {lo : Nat} {k : Value} {xs : List Int} {left : Int} (hk : SeqAt 1 IntAt w lo k xs) (h0 : 0 ≤ left) (h1 : left ≤ 1048576) :
    Calls Try.prog 34 #[k, .int .i64 left] w fun e w' => (∃ r : Int, e = .returned (.int .i64 r) ∧ r ≤ left ∧ -1 ≤ r ∧ (r < 0 ∨ xs.length ≤ 1048576)) ∧ Below w.heap.size w w' := by
  obtain ⟨a, cap, rfl, hm, _⟩ := hk
  unfold maxLen at hm
  by_cases hneg : left - (xs.length : Int) < 0
  · go_enter Try.func34, Try.ntmps34
    go_wp2_with fail
    go_ret
    exact ⟨⟨-1, rfl, by omega, by omega, Or.inl (by omega)⟩, Below.refl _ _⟩
  · go_enter Try.func34, Try.ntmps34
    go_wp2_with fail
    go_ret
    exact ⟨⟨left - xs.length, rfl, by omega, by omega, Or.inr (by omega)⟩, Below.refl _ _⟩
end Go.Proofs.Ytfncmndgdomjiaa
namespace Go.Proofs.Ytfncmndgdomjiaa
open Go.RowKit
def cntI (_ : Int) : Nat := 1
def mkI (_ : Int) (m : Int) : Int := m
end Go.Proofs.Ytfncmndgdomjiaa
namespace Go.Proofs.Ytfncmndgdomjiaa
open Go.RowKit
theorem infoInt64 : ((Try.prog.info? 2).map fun i => (i.zero, i.bytes, i.size)) = some (some (.int .i64 0), 8, 1) := by kernel_rfl
/-- the cells of n new ones -/
def newInt64 (n : Nat) : Array Value := madeCells #[.int .i64 0] (n * 1)
theorem newInt64_size (n : Nat) : (newInt64 n).size = n * 1 := size_madeCells _ _
theorem run_newInt64 (n : Nat) (h : n ≤ 1048576) (w : World) : Sem.run Try.prog (Instr.makeSlice 25 (.int .i64 (n : Int)) (.int .i64 (n : Int))) w = .ok (.slice (some ⟨w.heap.size, 0, none⟩) n n) (w.alloc (.cells (newInt64 n) 2)) := by
  obtain ⟨i, hi, he⟩ := Option.map_eq_some_iff.1 infoInt64
  simp only [Prod.mk.injEq] at he
  have := run_make (P := Try.prog) w 25 2 i _ Try.underlying25 hi he.1 .i64 .i64 (n : Int) (n : Int) (by omega) (Int.le_refl _) (by rw [he.2.1]; omega) (by omega)
  rw [he.2.2] at this
  simpa [newInt64, Value.cells] using this
set_option maxHeartbeats 800000 in
theorem toInt64S_any {w : World} {lo : Nat} {k : Value} {xs : List Int} (hk : SeqAt 1 IntAt w lo k xs) (hl : xs.length ≤ 1048576) :
    Calls Try.prog 36 #[k] w fun e w' => (∃ k', e = .returned k' ∧ SeqAt 1 IntAt w' w.heap.size k' xs) ∧ Below w.heap.size w w' := by
  obtain ⟨a, cap, rfl, hm, hx⟩ := hk
  unfold maxLen at hm
  have hx' : Hid _ := hx
  clear hx
  have hmk := run_newInt64 xs.length hl w
  go_enter Try.func36, Try.ntmps36
  go_wp2_with fail
  go_loopw [4] (fun i wr => ∃ (j : Nat), j ≤ xs.length ∧ i = .int .i64 j ∧ Hid (Filled 2 1 IntAt w wr xs w.heap.size j)) (fun i _ => xs.length - (intOf i).toNat)
  case atStart => exact ⟨0, by omega, rfl, Filled.start (newInt64_size _)⟩
  case round =>
    obtain ⟨j, hj, rfl, hfill⟩ := hrel
    have hb := hfill.out.1
    by_cases hlt : j < xs.length
    · obtain ⟨b, off, rfl, hlo, hbw, hc⟩ := hx'.out (by omega)
      obtain ⟨cs, hcl, lie, hr⟩ := hc j hlt
      have lie1 := Lie.keep (lo := lo) (lo' := lo) lie (.of_below hb) hlo hbw
      have hr' : Hid (IntAt wr wr.heap.size cs xs[j]) := hr
      generalize hX : xs[j] = X at hr
      have hX' : Hid _ := hX
      clear hX
      obtain ⟨rfl, hI⟩ := hr
      have z0 := lie1 0 (by simp)
      simp only [List.getElem?_cons_zero, Nat.add_zero, Nat.mul_one] at z0
      obtain ⟨hv, hf⟩ := hfill.out.facts hlt (Below.refl _ _)
      obtain ⟨v0, y0⟩ := hv 0 (by omega)
      simp only [Nat.add_zero, Nat.mul_one] at y0
      have f0 := hf j
      clear hv hf lie lie1 hx' hmk hc
      go_wp2_with fail
      go_roundw
      case rel =>
        refine ⟨j + 1, by omega, by go_num, ?_⟩
        have := Filled.step intAt_stays hfill.out hlt (Nat.le_refl _) (Below.refl _ _) hcl hr'.out
        simpa [putCells, Hid] using this
      case measure => simp [intOf]; omega
    · have e : j = xs.length := by omega
      subst e
      go_wp2_with fail
      go_ret
      exact ⟨⟨_, rfl, hfill.out.done intAt_stays (Nat.le_refl _) (by unfold maxLen; omega)⟩, hb⟩
end Go.Proofs.Ytfncmndgdomjiaa
namespace Go.Proofs.Ytfncmndgdomjiaa
open Go.RowKit
set_option maxHeartbeats 800000 in
theorem toInt64S_own {w : World} {lo : Nat} {k : Value} {xs : List Int} (hk : SeqAt 1 IntAt w lo k xs) (hl : xs.length ≤ 1048576) :
    Calls Try.prog 36 #[k] w fun e w' => (∃ k' fs, e = .returned k' ∧ SeqOwn 1 IntOwn w' k' xs fs ∧ fs.Nodup ∧ ∀ b ∈ fs, w.heap.size ≤ b) ∧ Below w.heap.size w w' := by
  obtain ⟨a, cap, rfl, hm, hx⟩ := hk
  unfold maxLen at hm
  have hx' : Hid _ := hx
  clear hx
  have hmk := run_newInt64 xs.length hl w
  go_enter Try.func36, Try.ntmps36
  go_wp2_with fail
  go_loopw [4] (fun i wr => ∃ (j : Nat) (bss : List (List Nat)), j ≤ xs.length ∧ i = .int .i64 j ∧ Hid (FilledO 2 1 IntOwn w wr xs w.heap.size j bss)) (fun i _ => xs.length - (intOf i).toNat)
  case atStart => exact ⟨0, [], by omega, rfl, FilledO.start (newInt64_size _)⟩
  case round =>
    obtain ⟨j, bss, hj, rfl, hfill⟩ := hrel
    have hb := hfill.out.1
    by_cases hlt : j < xs.length
    · obtain ⟨b, off, rfl, hlo, hbw, hc⟩ := hx'.out (by omega)
      obtain ⟨cs, hcl, lie, hr⟩ := hc j hlt
      have lie1 := Lie.keep (lo := lo) (lo' := lo) lie (.of_below hb) hlo hbw
      have hr' : Hid (IntOwn wr cs xs[j] []) := ⟨hr.1, hr.2, rfl⟩
      generalize hX : xs[j] = X at hr
      have hX' : Hid _ := hX
      clear hX
      obtain ⟨rfl, hI⟩ := hr
      have z0 := lie1 0 (by simp)
      simp only [List.getElem?_cons_zero, Nat.add_zero, Nat.mul_one] at z0
      obtain ⟨hv, hf⟩ := hfill.out.facts hlt (Below.refl _ _)
      obtain ⟨v0, y0⟩ := hv 0 (by omega)
      simp only [Nat.add_zero, Nat.mul_one] at y0
      have f0 := hf j
      clear hv hf lie lie1 hx' hmk hc
      go_wp2_with fail
      go_roundw
      case rel =>
        refine ⟨j + 1, bss ++ [[]], by omega, by go_num, ?_⟩
        have := FilledO.step intOwn_stays hfill.out hlt (Nat.le_refl _) (Below.refl _ _) hcl hr'.out (by simp) (by simp) (by simp)
        simpa [putCells, Hid] using this
      case measure => simp [intOf]; omega
    · have e : j = xs.length := by omega
      subst e
      go_wp2_with fail
      go_ret
      obtain ⟨d1, d2⟩ := hfill.out.done (Nat.le_refl _) (by unfold maxLen; omega)
      exact ⟨⟨_, _, rfl, d1, d1.nodup, d2⟩, hb⟩
end Go.Proofs.Ytfncmndgdomjiaa
namespace Go.Proofs.Ytfncmndgdomjiaa
open Go.RowKit
theorem lie_at2 {w : World} {b o : Nat} {cs : List Value} (h : Lie w b o cs) (m : Nat) {v : Value} (e : cs[m]? = some v) : w.cell? ⟨b, o + m, none⟩ = some v := by
  have hm : m < cs.length := by
    rcases Nat.lt_or_ge m cs.length with h | h
    · exact h
    · rw [List.getElem?_eq_none h] at e; cases e
  rw [h m hm]; exact e
set_option maxRecDepth 100000 in
set_option maxHeartbeats 3200000 in
theorem heldInt64S_any {w : World} {lo : Nat} {k : Value} {xs : List Int} {m : Int} (hk : SeqAt 1 IntAt w lo k (mkL cntI mkI xs m)) (h0 : 0 ≤ m) (h1 : m + (cntL cntI xs : Nat) ≤ 4611686018427387904) :
    Calls Try.prog 51 #[k, .int .i64 m] w fun e w' => e = .returned (.int .i64 (m + (cntL cntI xs : Nat))) ∧ Below w.heap.size w w' := by
  obtain ⟨a, cap, rfl, hm, hx⟩ := hk
  have hx' : Hid _ := hx
  clear hx
  rw [mkL_length] at hm ⊢
  unfold maxLen at hm
  go_enter Try.func51, Try.ntmps51
  go_wp2_with fail
  go_loopw [1, 5] (fun z i wr => ∃ (j : Nat), j ≤ xs.length ∧ i = .int .i64 j ∧ z = .int .i64 (m + (pos cntI xs j : Nat)) ∧ Hid (Below w.heap.size w wr)) (fun _ i _ => xs.length - (intOf i).toNat)
  case atStart => exact ⟨0, by omega, rfl, by rw [pos_zero]; simp, Below.refl _ _⟩
  case round =>
    obtain ⟨j, hj, rfl, rfl, hbr⟩ := hrel
    by_cases hlt : j < xs.length
    · obtain ⟨b, off, rfl, hlo, hbw, hc⟩ := hx'.out (by rw [mkL_length]; omega)
      obtain ⟨cs, hcl, lie, hr⟩ := hc j (by rw [mkL_length]; exact hlt)
      have hps2 : pos cntI xs (j + 1) = pos cntI xs j + (1) := pos_succ hlt
      have hpl : pos cntI xs (j + 1) ≤ cntL cntI xs := pos_le (by omega) (Nat.le_refl _)
      rw [mkL_get] at hr
      generalize xs[j] = Q at *
      generalize hP : m + (pos cntI xs j : Nat) = P at *
      have hP0 : 0 ≤ P := by omega
      obtain ⟨rfl, _⟩ := hr
      have lie1 := Lie.keep (lo := lo) (lo' := lo) lie (.of_below hbr.out) hlo hbw
      have z0 := lie_at2 lie1 0 rfl
      simp only [Nat.add_zero, Nat.mul_one, mkI] at z0
      have hP1 : P + 1 ≤ 4611686018427387904 := by omega
      have hz : m + (pos cntI xs (j + 1) : Nat) = P + 1 := by omega
      clear lie lie1 hcl hc hpl hps2
      go_wp2_with fail
      go_roundw
      case rel => exact ⟨j + 1, by omega, by go_num, by rw [hz], hbr⟩
      case measure => simp [intOf]; omega
    · obtain rfl : j = xs.length := by omega
      go_wp2_with fail
      go_ret
      exact ⟨rfl, hbr.out⟩
end Go.Proofs.Ytfncmndgdomjiaa
namespace Go.Proofs.Ytfncmndgdomjiaa
open Go.RowKit
set_option maxHeartbeats 800000 in
theorem eqInt64S_any {w : World} {lo lo2 : Nat} {k k2 : Value} {xs : List Int} (hk : SeqAt 1 IntAt w lo k xs) (hk2 : SeqAt 1 IntAt w lo2 k2 xs) :
    Calls Try.prog 39 #[k, k2] w fun e w' => e = .returned (.bool true) ∧ Below w.heap.size w w' := by
  obtain ⟨a, cap, rfl, hm, hx⟩ := hk
  obtain ⟨a2, cap2, rfl, _, hx2⟩ := hk2
  unfold maxLen at hm
  have hx' : Hid _ := hx
  have hx2' : Hid _ := hx2
  clear hx hx2
  go_enter Try.func39, Try.ntmps39
  go_wp2_with fail
  go_loopw [5] (fun i wr => ∃ (j : Nat), j ≤ xs.length ∧ i = .int .i64 j ∧ Below w.heap.size w wr) (fun i _ => xs.length - (intOf i).toNat)
  case atStart => exact ⟨0, by omega, rfl, Below.refl _ _⟩
  case round =>
    obtain ⟨j, hj, rfl, hb⟩ := hrel
    by_cases hlt : j < xs.length
    · obtain ⟨b, off, rfl, hlo, hbw, hc⟩ := hx'.out (by omega)
      obtain ⟨b2, off2, rfl, hlo2, hbw2, hc2⟩ := hx2'.out (by omega)
      obtain ⟨cs, hcl, lie, hr⟩ := hc j hlt
      obtain ⟨cs2, hcl2, lie2, hr2⟩ := hc2 j hlt
      have lie1 := Lie.keep (lo := lo) (lo' := lo) lie (.of_below hb) hlo hbw
      have lie3 := Lie.keep (lo := lo2) (lo' := lo2) lie2 (.of_below hb) hlo2 hbw2
      generalize xs[j] = X at hr hr2
      obtain ⟨rfl, hI⟩ := hr
      obtain ⟨rfl, _⟩ := hr2
      have z0 := lie1 0 (by simp)
      have z1 := lie3 0 (by simp)
      simp only [List.getElem?_cons_zero, Nat.add_zero, Nat.mul_one] at z0 z1
      have hlt' : (j : Int) < (xs.length : Int) := by omega
      have h0' : (0 : Int) ≤ (j : Int) := by omega
      clear lie lie2 lie1 lie3 hcl hcl2 hx' hx2' hc hc2
      go_wp2_with fail
      go_region_held3 (fun w' => w'.cell? ⟨b, off + j, none⟩ = some (.int .i64 X) ∧ w'.cell? ⟨b2, off2 + j, none⟩ = some (.int .i64 X)) (go_keep) (fail)
      go_wp2_with fail
      go_roundw
      case rel => exact ⟨j + 1, by omega, by go_num, hb.drew⟩
      case measure => simp [intOf]; omega
    · go_wp2_with fail
      go_ret
      exact ⟨rfl, hb⟩
end Go.Proofs.Ytfncmndgdomjiaa
namespace Go.Proofs.Ytfncmndgdomjiaa
open Go.RowKit
set_option maxHeartbeats 800000 in
theorem markInt64S_any {w : World} {k : Value} {xs : List Int} {fs : List Nat} {m : Int} (hk : SeqOwn 1 IntOwn w k xs fs) (h0 : 0 ≤ m) (h1 : m + (cntL cntI xs : Nat) ≤ 4611686018427387904) :
    Calls Try.prog 45 #[k, .int .i64 m] w fun e w' => e = .returned (.int .i64 (m + (cntL cntI xs : Nat))) ∧ SeqOwn 1 IntOwn w' k (mkL cntI mkI xs m) fs ∧ Out fs w w' := by
  have hk' : Hid (SeqOwn 1 IntOwn w k xs fs) := hk
  obtain ⟨a, cap, rfl, hm, _⟩ := hk
  unfold maxLen at hm
  go_enter Try.func45, Try.ntmps45
  go_wp2_with fail
  go_loopw [1, 5] (fun z i wr => ∃ (j : Nat), j ≤ xs.length ∧ i = .int .i64 j ∧ z = .int .i64 (m + (pos cntI xs j : Nat)) ∧ Hid (SeqOwn 1 IntOwn wr (.slice a xs.length cap) (mix (mkL cntI mkI xs m) xs j) fs) ∧ Hid (Out fs w wr)) (fun _ i _ => xs.length - (intOf i).toNat)
  case atStart => exact ⟨0, by omega, rfl, by rw [pos_zero]; simp, by rw [mix_zero]; exact hk'.out, Out.refl _ _⟩
  case round =>
    obtain ⟨j, hj, rfl, rfl, hown, hout⟩ := hrel
    by_cases hlt : j < xs.length
    · have hml := mix_length (mkL_length (cnt := cntI) (mk := mkI) (xs := xs) (m := m)) hj
      obtain ⟨b, off, C, T, cs, fj, rfl, hrow, hcl, ⟨hbf, hbn, hsub, hnd⟩, hr, hclose⟩ := hown.out.step intOwn_stays intOwn_lt (j := j) (by omega)
      have hset : Hid _ := mix_set (mkL_length (cnt := cntI) (mk := mkI) (xs := xs) (m := m)) hlt
      have hpl : pos cntI xs (j + 1) ≤ cntL cntI xs := pos_le (by omega) (Nat.le_refl _)
      have hps2 : pos cntI xs (j + 1) = pos cntI xs j + 1 := pos_succ hlt
      rw [mkL_get] at hset
      rw [mix_get mkL_length hlt] at hr
      simp only [Nat.mul_one] at hrow hclose
      obtain ⟨rfl, hI, rfl⟩ := hr
      have z0 := hrow.cell 0 rfl
      simp only [Nat.add_zero] at z0
      have uf := hrow.unfrozen
      have hrow' : Hid _ := hrow
      have hclose' : Hid _ := hclose
      clear hrow hclose
      generalize hP : m + (pos cntI xs j : Nat) = P at *
      have hP0 : 0 ≤ P := by omega
      have hP1 : P + 1 ≤ 4611686018427387904 := by omega
      have hz : m + (pos cntI xs (j + 1) : Nat) = P + 1 := by omega
      clear hpl hps2
      go_wp2_with fail
      go_roundw
      case rel => exact ⟨j + 1, by omega, by go_num, by rw [hz], by rw [← hset.out]; exact hclose'.out _ [.int .i64 P] _ rfl (RowIs.set (m := 0) hrow'.out (by simp) _) ((Out.refl _ _).set List.mem_cons_self _) ⟨rfl, by unfold InI; simp only [mkI]; omega, rfl⟩, hout.out.set hbf _⟩
      case measure => simp [intOf]; omega
    · obtain rfl : j = xs.length := by omega
      have hful : Hid _ := mix_full (mkL_length (cnt := cntI) (mk := mkI) (xs := xs) (m := m))
      go_wp2_with fail
      go_ret
      exact ⟨rfl, by rw [← hful.out]; exact hown.out, hout.out⟩
end Go.Proofs.Ytfncmndgdomjiaa
