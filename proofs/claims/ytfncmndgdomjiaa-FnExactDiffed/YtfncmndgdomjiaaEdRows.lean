/- A row of edits, as the laws measure, copy, compare and mark it. -/
import Derived.Test.YtfncmndgdomjiaaEdLaw
namespace Go.Proofs.Ytfncmndgdomjiaa
open Go.RowKit
/-- an edit is small -/
def smallE (n : Nat) (x : EditD) : Prop := x.vPath.length ≤ 1048576 ∧ SmallO n x.vTree ∧ (belowN n x.vTree : Int) ≤ 1048576
set_option maxRecDepth 100000 in
set_option maxHeartbeats 4000000 in
theorem szEditS_any {n : Nat} {w : World} {lo : Nat} {k : Value} {xs : List EditD} {left : Int} (hrow : SeqAt 5 (EditL n) w lo k xs) (h0 : 0 ≤ left) (h1 : left ≤ 1048576) :
    Calls Try.prog 21 #[k, .int .i64 left] w fun e w' => (∃ r : Int, e = .returned (.int .i64 r) ∧ r ≤ left ∧ -1 ≤ r ∧ (r < 0 ∨ AllS (smallE n) xs)) ∧ Below w.heap.size w w' := by
  obtain ⟨a, cap, rfl, hm, hx⟩ := hrow
  unfold maxLen at hm
  by_cases hneg : left - (xs.length : Int) < 0
  · clear hx
    go_enter Try.func21, Try.ntmps21
    go_wp2_with fail
    go_ret
    exact ⟨⟨-1, rfl, by omega, by omega, Or.inl (by omega)⟩, Below.refl _ _⟩
  · have hx' : Hid (0 < xs.length → ∃ b off, a = some ⟨b, off, none⟩ ∧ lo ≤ b ∧ b < w.heap.size ∧ ∀ i, (h : i < xs.length) → ∃ cs, cs.length = 5 ∧ Lie w b (off + i * 5) cs ∧ EditL n w lo cs xs[i]) := hx
    clear hx
    go_enter Try.func21, Try.ntmps21
    go_wp2_with fail
    go_loopw [1, 5] (fun l i wr => ∃ (j : Nat) (r : Int), j ≤ xs.length ∧ i = .int .i64 j ∧ l = .int .i64 r ∧ 0 ≤ r ∧ r ≤ left ∧ Below w.heap.size w wr ∧ Hid (∀ i', (h : i' < xs.length) → i' < j → smallE n xs[i'])) (fun _ i _ => xs.length - (intOf i).toNat)
    case atStart => exact ⟨0, left - xs.length, by omega, rfl, rfl, by omega, by omega, Below.refl _ _, fun i' _ h => absurd h (by omega)⟩
    case round =>
      obtain ⟨j, r, hj, rfl, rfl, hr0, hr1, hb, hs⟩ := hrel
      by_cases hlt : j < xs.length
      · obtain ⟨b, off, rfl, hlo, hbw, hc⟩ := hx'.out (by omega)
        obtain ⟨cs, hcl, lie, hr⟩ := hc j hlt
        have hr2 := hr.below hb
        have lie1 := Lie.keep (lo := lo) (lo' := lo) lie (.of_below hb) hlo hbw
        have hr3 : Hid (EditL n wr lo cs xs[j]) := hr2
        obtain ⟨p1, d1, a1, c1, rfl, _, _, _⟩ := hr2.form
        have z0 := lie1 0 (by simp)
        have z1 := lie1 1 (by simp)
        have z2 := lie1 2 (by simp)
        have z3 := lie1 3 (by simp)
        have z4 := lie1 4 (by simp)
        simp only [List.getElem?_cons_zero, List.getElem?_cons_succ, Nat.add_zero] at z0 z1 z2 z3 z4
        clear hc lie lie1 hr hr2 hx' hcl
        go_wp2_with fail
        refine (szEdit_any hr3.out hr0 (by omega)).mono ?_
        rintro e w1 ⟨⟨r', rfl, hr', hr'', hsm⟩, hb1⟩
        have hb' : Below w.heap.size w w1 := hb.trans (hb1.mono hb.size)
        have hsm' : Hid (r' < 0 ∨ smallE n xs[j]) := hsm
        clear hsm z0 z1 z2 z3 z4
        by_cases hneg' : r' < 0
        · go_wp2_with fail
          go_ret
          exact ⟨⟨-1, rfl, by omega, by omega, Or.inl (by omega)⟩, hb'⟩
        · go_wp2_with fail
          go_roundw
          case rel =>
            have hq := hsm'.out.resolve_left (by omega)
            refine ⟨j + 1, r', by omega, by go_num, rfl, by omega, by omega, hb', fun i' h hi' => ?_⟩
            by_cases e : i' < j
            · exact hs.out i' h e
            · have e' : i' = j := by omega
              subst e'
              exact hq
          case measure => simp [intOf]; omega
      · go_wp2_with fail
        go_ret
        exact ⟨⟨r, rfl, by omega, by omega, Or.inr ⟨by omega, fun i hi => hs.out i hi (by omega)⟩⟩, hb⟩
theorem infoEditM : ((Try.prog.info? 36).map fun i => (i.zero, i.bytes, i.size)) = some (some (.agg #[.int .i64 0, .slice none 0 0, .string ByteArray.empty, .string ByteArray.empty, .slice none 0 0]), 88, 5) := by kernel_rfl
def newEdit (n : Nat) : Array Value := madeCells #[.int .i64 0, .slice none 0 0, .string ByteArray.empty, .string ByteArray.empty, .slice none 0 0] (n * 5)
theorem newEdit_size (n : Nat) : (newEdit n).size = n * 5 := size_madeCells _ _
theorem run_newEdit (n : Nat) (h : n ≤ 1048576) (w : World) : Sem.run Try.prog (Instr.makeSlice 48 (.int .i64 (n : Int)) (.int .i64 (n : Int))) w = .ok (.slice (some ⟨w.heap.size, 0, none⟩) n n) (w.alloc (.cells (newEdit n) 36)) := by
  obtain ⟨i, hi, he⟩ := Option.map_eq_some_iff.1 infoEditM
  simp only [Prod.mk.injEq] at he
  have := run_make (P := Try.prog) w 48 36 i _ Try.underlying48 hi he.1 .i64 .i64 (n : Int) (n : Int) (by omega) (Int.le_refl _) (by rw [he.2.1]; omega) (by omega)
  rw [he.2.2] at this
  simpa [newEdit, Value.cells] using this
set_option maxRecDepth 100000 in
set_option maxHeartbeats 4000000 in
theorem toEditS_own {n : Nat} {w : World} {lo : Nat} {k : Value} {xs : List EditD} (hk : SeqAt 5 (EditL n) w lo k xs) (hsm : AllS (smallE n) xs) :
    Calls Try.prog 23 #[k] w fun e w' => (∃ (k' : Value) (fs : List Nat), e = .returned k' ∧ SeqOwn 5 (EditO n) w' k' xs fs ∧ fs.Nodup ∧ ∀ b ∈ fs, w.heap.size ≤ b) ∧ Below w.heap.size w w' := by
  obtain ⟨a, cap, rfl, hm, hx⟩ := hk
  unfold maxLen at hm
  have hx' : Hid (0 < xs.length → ∃ b off, a = some ⟨b, off, none⟩ ∧ lo ≤ b ∧ b < w.heap.size ∧ ∀ i, (h : i < xs.length) → ∃ cs, cs.length = 5 ∧ Lie w b (off + i * 5) cs ∧ EditL n w lo cs xs[i]) := hx
  have hsm' : Hid (AllS (smallE n) xs) := hsm
  have hl := hsm.1
  clear hx hsm
  have hmk := run_newEdit xs.length hl w
  go_enter Try.func23, Try.ntmps23
  go_wp2_with fail
  go_loopw [4] (fun i wr => ∃ (j : Nat) (bss : List (List Nat)), j ≤ xs.length ∧ i = .int .i64 j ∧ Hid (FilledO 36 5 (EditO n) w wr xs w.heap.size j bss)) (fun i _ => xs.length - (intOf i).toNat)
  case atStart => exact ⟨0, [], by omega, rfl, FilledO.start (newEdit_size _)⟩
  case round =>
    obtain ⟨j, bss, hj, rfl, hfill⟩ := hrel
    have hb := hfill.out.1
    by_cases hlt : j < xs.length
    · obtain ⟨b, off, rfl, hlo, hbw, hc⟩ := hx'.out (by omega)
      obtain ⟨cs, hcl, lie, hr⟩ := hc j hlt
      have lie1 := Lie.keep (lo := lo) (lo' := lo) lie (.of_below hb) hlo hbw
      have hr2 := hr.below hb
      have hsj : Hid (smallE n xs[j]) := hsm'.out.2 j hlt
      generalize hX : xs[j] = X at hr2 hsj
      have hX' : Hid (xs[j] = X) := hX
      have hr3 : Hid (EditL n wr lo cs X) := hr2
      clear hX hr lie hc
      obtain ⟨p1, d1, a1, c1, rfl, _, _, _⟩ := hr2.form
      have z0 := lie1 0 (by simp)
      have z1 := lie1 1 (by simp)
      have z2 := lie1 2 (by simp)
      have z3 := lie1 3 (by simp)
      have z4 := lie1 4 (by simp)
      simp only [List.getElem?_cons_zero, List.getElem?_cons_succ, Nat.add_zero] at z0 z1 z2 z3 z4
      clear lie1 hcl hx' hmk hr2
      go_wp2_with fail
      refine (toEdit_own hr3.out hsj.out.1 hsj.out.2.1).mono ?_
      rintro e w1 ⟨⟨cs1, fs1, rfl, ht1, lo1⟩, hb1⟩
      have ht1' : Hid (EditO n w1 cs1 X fs1) := ht1
      have hi1 : Hid (∀ b ∈ fs1, b < w1.heap.size) := EditO_lt n _ _ _ _ ht1
      have nd1 := EditO_nodup ht1
      obtain ⟨p2, d2, a2, c2, rfl, _, _, _⟩ := (EditO_at (lo := 0) ht1 (fun _ _ => Nat.zero_le _)).form
      clear z0 z1 z2 z3 z4 ht1
      obtain ⟨hv, hf⟩ := hfill.out.facts hlt hb1
      obtain ⟨v0, y0⟩ := hv 0 (by omega)
      have f0 := hf (j * 5 + 0)
      obtain ⟨v1, y1⟩ := hv 1 (by omega)
      have f1 := hf (j * 5 + 1)
      obtain ⟨v2, y2⟩ := hv 2 (by omega)
      have f2 := hf (j * 5 + 2)
      obtain ⟨v3, y3⟩ := hv 3 (by omega)
      have f3 := hf (j * 5 + 3)
      obtain ⟨v4, y4⟩ := hv 4 (by omega)
      have f4 := hf (j * 5 + 4)
      simp only [Nat.add_zero] at y0 f0
      clear hv hf
      go_wp2_with fail
      go_roundw
      case rel =>
        refine ⟨j + 1, bss ++ [fs1], by omega, by go_num, ?_⟩
        have hst := FilledO.step (EditO_stays n) hfill.out hlt (Nat.le_refl _) hb1 rfl (by rw [hX'.out]; exact ht1'.out) lo1 hi1.out nd1
        simp only [putCells] at hst
        exact hst
      case measure => simp [intOf]; omega
    · have e : j = xs.length := by omega
      subst e
      go_wp2_with fail
      go_ret
      obtain ⟨d1, d2⟩ := hfill.out.done (Nat.le_refl _) (by unfold maxLen; omega)
      exact ⟨⟨_, _, rfl, d1, d1.nodup, d2⟩, hb⟩
set_option maxRecDepth 100000 in
set_option maxHeartbeats 4000000 in
theorem eqEditS_any {n m : Nat} {w : World} {lo lo2 : Nat} {k k2 : Value} {xs : List EditD} (hk : SeqAt 5 (EditL n) w lo k xs) (hk2 : SeqAt 5 (EditL m) w lo2 k2 xs) :
    Calls Try.prog 25 #[k, k2] w fun e w' => e = .returned (.bool true) ∧ Below w.heap.size w w' := by
  obtain ⟨a, cap, rfl, hm, hx⟩ := hk
  obtain ⟨a2, cap2, rfl, _, hx2⟩ := hk2
  unfold maxLen at hm
  have hx' : Hid _ := hx
  have hx2' : Hid _ := hx2
  clear hx hx2
  go_enter Try.func25, Try.ntmps25
  go_wp2_with fail
  go_loopw [5] (fun i wr => ∃ (j : Nat), j ≤ xs.length ∧ i = .int .i64 j ∧ Below w.heap.size w wr) (fun i _ => xs.length - (intOf i).toNat)
  case atStart => exact ⟨0, by omega, rfl, Below.refl _ _⟩
  case round =>
    obtain ⟨j, hj, rfl, hb⟩ := hrel
    by_cases hlt : j < xs.length
    · obtain ⟨b, off, rfl, hlo, hbw, hc⟩ := hx'.out (by omega)
      obtain ⟨b2, off2, rfl, hlo2, hbw2, hc2⟩ := hx2'.out (by omega)
      obtain ⟨cs, hcl, lie, hr⟩ := hc j hlt
      obtain ⟨cs2, hcl2, lie2, hr2⟩ := hc2 j hlt
      have lie1 := Lie.keep (lo := lo) (lo' := lo) lie (.of_below hb) hlo hbw
      have lie3 := Lie.keep (lo := lo2) (lo' := lo2) lie2 (.of_below hb) hlo2 hbw2
      replace hr := (EditL_stays n) _ _ _ lo _ _ (.of_below hb.drew) hr
      replace hr2 := (EditL_stays m) _ _ _ lo2 _ _ (.of_below hb.drew) hr2
      generalize xs[j] = X at hr hr2
      have hr' : Hid (EditL n wr.drew lo cs X) := hr
      have hr2' : Hid (EditL m wr.drew lo2 cs2 X) := hr2
      obtain ⟨p1, d1, a1, c1, rfl, _, _, _⟩ := hr.form
      obtain ⟨p2, d2, a2, c2, rfl, _, _, _⟩ := hr2.form
      have z0 := lie1 0 (by simp)
      have z1 := lie1 1 (by simp)
      have z2 := lie1 2 (by simp)
      have z3 := lie1 3 (by simp)
      have z4 := lie1 4 (by simp)
      simp only [List.getElem?_cons_zero, List.getElem?_cons_succ, Nat.add_zero] at z0 z1 z2 z3 z4
      have y0 := lie3 0 (by simp)
      have y1 := lie3 1 (by simp)
      have y2 := lie3 2 (by simp)
      have y3 := lie3 3 (by simp)
      have y4 := lie3 4 (by simp)
      simp only [List.getElem?_cons_zero, List.getElem?_cons_succ, Nat.add_zero] at y0 y1 y2 y3 y4
      have hbr : b < wr.heap.size := by have := hb.size; omega
      have hbr2 : b2 < wr.heap.size := by have := hb.size; omega
      have hlt' : (j : Int) < (xs.length : Int) := by omega
      have h0' : (0 : Int) ≤ (j : Int) := by omega
      clear lie lie2 lie1 lie3 hcl hcl2 hx' hx2' hc hc2 hr hr2
      go_wp2_with fail
      go_region_held3 (fun w' => w'.cell? ⟨b, off + j * 5, none⟩ = some (.int .i64 X.vKind) ∧ w'.cell? ⟨b, off + j * 5 + 1, none⟩ = some (.slice p1 X.vPath.length d1) ∧ w'.cell? ⟨b, off + j * 5 + 2, none⟩ = some (.string X.vTag) ∧ w'.cell? ⟨b, off + j * 5 + 3, none⟩ = some (.string (strT X.vTree)) ∧ w'.cell? ⟨b, off + j * 5 + 4, none⟩ = some (.slice a1 (kidsOf X.vTree).length c1) ∧ w'.cell? ⟨b2, off2 + j * 5, none⟩ = some (.int .i64 X.vKind) ∧ w'.cell? ⟨b2, off2 + j * 5 + 1, none⟩ = some (.slice p2 X.vPath.length d2) ∧ w'.cell? ⟨b2, off2 + j * 5 + 2, none⟩ = some (.string X.vTag) ∧ w'.cell? ⟨b2, off2 + j * 5 + 3, none⟩ = some (.string (strT X.vTree)) ∧ w'.cell? ⟨b2, off2 + j * 5 + 4, none⟩ = some (.slice a2 (kidsOf X.vTree).length c2)) (go_keep) (first | (go_at_call 15; refine (eqEdit_any (by exact hr'.out) (by exact hr2'.out)).mono ?_; rintro e w1 ⟨rfl, hb1⟩; have z0n := (hb1.cell (p := ⟨b, off + j * 5, none⟩) (by exact hbr)).trans z0; have z1n := (hb1.cell (p := ⟨b, off + j * 5 + 1, none⟩) (by exact hbr)).trans z1; have z2n := (hb1.cell (p := ⟨b, off + j * 5 + 2, none⟩) (by exact hbr)).trans z2; have z3n := (hb1.cell (p := ⟨b, off + j * 5 + 3, none⟩) (by exact hbr)).trans z3; have z4n := (hb1.cell (p := ⟨b, off + j * 5 + 4, none⟩) (by exact hbr)).trans z4; have y0n := (hb1.cell (p := ⟨b2, off2 + j * 5, none⟩) (by exact hbr2)).trans y0; have y1n := (hb1.cell (p := ⟨b2, off2 + j * 5 + 1, none⟩) (by exact hbr2)).trans y1; have y2n := (hb1.cell (p := ⟨b2, off2 + j * 5 + 2, none⟩) (by exact hbr2)).trans y2; have y3n := (hb1.cell (p := ⟨b2, off2 + j * 5 + 3, none⟩) (by exact hbr2)).trans y3; have y4n := (hb1.cell (p := ⟨b2, off2 + j * 5 + 4, none⟩) (by exact hbr2)).trans y4; have hb' : Below w.heap.size w w1 := hb.trans ((undrew hb1).mono hb.size)))
      go_wp2_with fail
      go_roundw
      case rel => exact ⟨j + 1, by omega, by go_num, hb'⟩
      case measure => simp [intOf]; omega
    · go_wp2_with fail
      go_ret
      exact ⟨rfl, hb⟩
end Go.Proofs.Ytfncmndgdomjiaa
