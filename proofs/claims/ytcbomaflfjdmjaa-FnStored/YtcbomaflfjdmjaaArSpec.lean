/- What ArenaOk of the specification returns. -/
import Derived.Test.YtcbomaflfjdmjaaArSlot
import Derived.Deep.RegionHeld3
namespace Go.Proofs.Ytcbomaflfjdmjaa
open Go.RowKit
/-- slots that are right, so far -/
def SlotsP (x : ArenaD) (j : Nat) : Prop := ∀ i, (h : i < x.vSlots.length) → i < j → SlotP x.vSlots[i] ∧ hasB x.vFree (i : Int) = !x.vSlots[i].vUsed
def RangeP (x : ArenaD) (j : Nat) : Prop := ∀ i, (h : i < x.vFree.length) → i < j → 0 ≤ x.vFree[i] ∧ x.vFree[i] < (x.vSlots.length : Int)
theorem SlotsP.step {x : ArenaD} {j : Nat} (h : SlotsP x j) (hj : j < x.vSlots.length) (h1 : SlotP x.vSlots[j]) (h2 : hasB x.vFree (j : Int) = !x.vSlots[j].vUsed) : SlotsP x (j + 1) := fun i hi hlt => by
  by_cases e : i < j
  · exact h i hi e
  · obtain rfl : i = j := by omega
    exact ⟨h1, h2⟩
theorem RangeP.step {x : ArenaD} {j : Nat} (h : RangeP x j) (hj : j < x.vFree.length) (h1 : 0 ≤ x.vFree[j]) (h2 : x.vFree[j] < (x.vSlots.length : Int)) : RangeP x (j + 1) := fun i hi hlt => by
  by_cases e : i < j
  · exact h i hi e
  · obtain rfl : i = j := by omega
    exact ⟨h1, h2⟩
theorem right_no {x : ArenaD} (h : ¬ RightS x) : rightB x = false := rightB_false fun q => h (right_iff.1 q)
theorem right_yes {x : ArenaD} (h1 : 1 ≤ x.vSlots.length) (h2 : x.vSlots.length ≤ 12) (h3 : SlotsP x x.vSlots.length) (h4 : RangeP x x.vFree.length) : rightB x = decide (x.vFree.length = (un x.vSlots 0).length) := by
  by_cases e : x.vFree.length = (un x.vSlots 0).length
  · rw [decide_eq_true e]; exact rightB_true (right_iff.2 ⟨h1, h2, fun i hi => h3 i hi hi, fun i hi => h4 i hi hi, e⟩)
  · rw [decide_eq_false e]; exact right_no fun q => e q.2.2.2.2
set_option maxRecDepth 100000 in
set_option maxHeartbeats 2000000 in
theorem specArenaOk_any {w : World} {lo : Nat} {cs : List Value} {x : ArenaD} (hx : ArenaAt w lo cs x) :
    Calls Try.prog 16 #[.agg cs.toArray] w fun e w' => e = .returned (.bool (rightB x)) ∧ Below w.heap.size w w' := by
  obtain ⟨k0, k1, rfl, s0, s1, _⟩ := hx
  have s0' : Hid (SeqAt 3 SlotAt w lo k0 x.vSlots) := s0
  have s1' : Hid (SeqAt 1 IntAt w lo k1 x.vFree) := s1
  obtain ⟨a0, c0, rfl, hm0, hx0⟩ := s0
  obtain ⟨a1, c1, rfl, hm1, hx1⟩ := s1
  have hx0' : Hid _ := hx0
  have hx1' : Hid _ := hx1
  unfold maxLen at hm0 hm1
  clear hx0 hx1
  have hb0 : Below w.heap.size w (w.alloc (.cells (List.toArray [.slice a0 x.vSlots.length c0, .slice a1 x.vFree.length c1]) 27)) := (Below.refl _ _).alloc (Nat.le_refl _) _
  have bx0 : Hid (Box (w.alloc (.cells (List.toArray [.slice a0 x.vSlots.length c0, .slice a1 x.vFree.length c1]) 27)) w.heap.size [.slice a0 x.vSlots.length c0, .slice a1 x.vFree.length c1] 27) := Box.new w _ _
  go_enter Try.func16, Try.ntmps16
  go_wp2_with fail
  refine (l1In_any _ _ _ _).mono ?_
  rintro e w1 ⟨rfl, rfl⟩
  cases hc : inB (x.vSlots.length : Int) 1 12 with
  | false =>
    have H : Hid (rightB x = false) := right_no fun q => by
      have h1 := q.1
      have h2 := q.2.1
      simp [inB] at hc
      omega
    clear hc
    go_wp2_with fail
    go_ret
    exact ⟨ret_bool H.out.symm, hb0⟩
  | true =>
    have hc1 : 1 ≤ x.vSlots.length ∧ x.vSlots.length ≤ 12 := by simp [inB] at hc; omega
    clear hc
    obtain ⟨hn1, hn2⟩ := hc1
    go_wp2_with fail
    go_loopw [3, 4] (fun f i wr => ∃ (j : Nat), j ≤ x.vSlots.length ∧ i = .int .i64 j ∧ f = .int .i64 ((un (x.vSlots.take j) 0).length : Nat) ∧ Hid (SlotsP x j) ∧ Below w.heap.size w wr ∧ Hid (Box wr w.heap.size [.slice a0 x.vSlots.length c0, .slice a1 x.vFree.length c1] 27)) (fun _ i _ => x.vSlots.length - (intOf i).toNat)
    case atStart => exact ⟨0, by omega, rfl, rfl, fun i _ h => absurd h (by omega), hb0, bx0⟩
    case round =>
      obtain ⟨j, hj, rfl, rfl, hsp, hb, bx⟩ := hrel
      have y0 := bx.out.cell 0 rfl
      have y1 := bx.out.cell 1 rfl
      by_cases hlt : j < x.vSlots.length
      · obtain ⟨b, off, rfl, hlo, hbw, hc⟩ := hx0'.out (by omega)
        obtain ⟨cs, hcl, lie, hr⟩ := hc j hlt
        have lie1 := Lie.keep (lo := lo) (lo' := lo) lie (.of_below hb) hlo hbw
        have hs1 : Hid (SeqAt 1 IntAt wr lo (.slice a1 x.vFree.length c1) x.vFree) := s1'.out.below intAt_stays hb
        have hut := un_take hlt
        have hcn : (un (x.vSlots.take j) 0).length ≤ 12 := by have h1 := un_le (x.vSlots.take j) 0; have h2 := List.length_take_le j x.vSlots; omega
        generalize (un (x.vSlots.take j) 0).length = CN at *
        have hstep : Hid (SlotP x.vSlots[j] → hasB x.vFree (j : Int) = (!x.vSlots[j].vUsed) → SlotsP x (j + 1)) := fun q1 q2 => hsp.out.step hlt q1 q2
        have hfall : Hid (¬ (SlotP x.vSlots[j] ∧ hasB x.vFree (j : Int) = !x.vSlots[j].vUsed) → rightB x = false) := fun q => right_no fun r => q (r.2.2.1 j hlt)
        generalize x.vSlots[j] = X at hr hut hstep hfall
        obtain ⟨rfl, rGen, rData, _⟩ := hr
        obtain ⟨G, U, D⟩ := X
        dsimp only at *
        have hD : Hid (D.size ≤ maxLen) := rData
        have z0 := lie1 0 (by simp)
        have z1 := lie1 1 (by simp)
        have z2 := lie1 2 (by simp)
        simp only [List.getElem?_cons_zero, List.getElem?_cons_succ, Nat.add_zero] at z0 z1 z2
        clear lie lie1 hcl hx0' hx1' hc rGen rData
        cases hG : inB G 1 1000000 with
        | false =>
          have H : Hid (rightB x = false) := hfall.out fun q => by
            have h1 := q.1.1
            have h2 := q.1.2.1
            dsimp only at h1 h2
            simp [inB] at hG
            omega
          have hbA : Below w.heap.size w (wr.alloc (.cells #[.int .i64 G, .bool U, .string D] 63)) := hb.alloc hb.size _
          go_wp2_with fail
          refine (l1In_any _ _ _ _).mono ?_
          rintro e w1 ⟨rfl, rfl⟩
          rw [hG]
          go_wp2_with fail
          go_ret
          exact ⟨ret_bool H.out.symm, hbA⟩
        | true =>
          have hG2 : 1 ≤ G ∧ G ≤ 1000000 := by simpa [inB] using hG
          cases U with
          | true =>
            have hbA : Below w.heap.size w (wr.alloc (.cells #[.int .i64 G, .bool true, .string D] 63)) := hb.alloc hb.size _
            have bxA : Hid (Box (wr.alloc (.cells #[.int .i64 G, .bool true, .string D] 63)) w.heap.size [.slice (some ⟨b, off, none⟩) x.vSlots.length c0, .slice a1 x.vFree.length c1] 27) := bx.out.alloc _
            have nb : Hid (Box (wr.alloc (.cells #[.int .i64 G, .bool true, .string D] 63)) wr.heap.size [.int .i64 G, .bool true, .string D] 63) := Box.new wr _ _
            have hsA : Hid (SeqAt 1 IntAt (wr.alloc (.cells #[.int .i64 G, .bool true, .string D] 63)).drew lo (.slice a1 x.vFree.length c1) x.vFree) := s1'.out.below intAt_stays hbA.drew
            go_wp2_with fail
            refine (l1In_any _ _ _ _).mono ?_
            rintro e w1 ⟨rfl, rfl⟩
            rw [hG]
            go_wp2_with fail
            refine (l8Plain_any _ _ _ (by exact hD.out)).mono ?_
            rintro e w1 ⟨rfl, rfl⟩
            cases hW : wordB 10 D with
            | false =>
              have H : Hid (rightB x = false) := hfall.out fun q => by have := q.1.2.2.1; rw [hW] at this; cases this
              go_wp2_with fail
              go_ret
              exact ⟨ret_bool H.out.symm, hbA⟩
            | true =>
              have HS : Hid (SlotP ⟨G, true, D⟩) := ⟨hG2.1, hG2.2, hW, Or.inl rfl⟩
              go_wp2_with fail
              go_region_held3 (fun w' => w'.cell? ⟨w.heap.size, 1, none⟩ = some (.slice a1 x.vFree.length c1) ∧ w'.cell? ⟨wr.heap.size, 1, none⟩ = some (.bool true)) (go_keep) (first | (go_at_call 36; refine (l2Has_any (by exact hsA.out)).mono ?_; rintro e w1 ⟨rfl, rfl⟩))
              cases hh : hasB x.vFree (j : Int) with
              | true =>
                have H : Hid (rightB x = false) := hfall.out fun q => by have := q.2; rw [hh] at this; cases this
                go_wp2_with fail
                go_ret
                exact ⟨ret_bool H.out.symm, hbA.drew⟩
              | false =>
                have H : Hid (SlotsP x (j + 1)) := hstep.out HS.out (by rw [hh]; rfl)
                have bxA' : Hid (Box (wr.alloc (.cells #[.int .i64 G, .bool true, .string D] 63)).drew w.heap.size [.slice (some ⟨b, off, none⟩) x.vSlots.length c0, .slice a1 x.vFree.length c1] 27) := bxA.out
                have y3 : (wr.alloc (.cells #[.int .i64 G, .bool true, .string D] 63)).drew.cell? ⟨wr.heap.size, 1, none⟩ = some (.bool true) := nb.out.cell 1 rfl
                go_wp2_with fail
                go_roundw
                case rel => exact ⟨j + 1, by omega, by go_num, by rw [hut]; simp, H, hbA.drew, bxA'⟩
                case measure => simp [intOf]; omega
          | false =>
            by_cases h : D.size = 0
            · have e := em_eq h
              subst e
              clear h
              have hbA : Below w.heap.size w (wr.alloc (.cells #[.int .i64 G, .bool false, .string ⟨#[]⟩] 63)) := hb.alloc hb.size _
              have bxA : Hid (Box (wr.alloc (.cells #[.int .i64 G, .bool false, .string ⟨#[]⟩] 63)) w.heap.size [.slice (some ⟨b, off, none⟩) x.vSlots.length c0, .slice a1 x.vFree.length c1] 27) := bx.out.alloc _
              have nb : Hid (Box (wr.alloc (.cells #[.int .i64 G, .bool false, .string ⟨#[]⟩] 63)) wr.heap.size [.int .i64 G, .bool false, .string ⟨#[]⟩] 63) := Box.new wr _ _
              have hsA : Hid (SeqAt 1 IntAt (wr.alloc (.cells #[.int .i64 G, .bool false, .string ⟨#[]⟩] 63)).drew lo (.slice a1 x.vFree.length c1) x.vFree) := s1'.out.below intAt_stays hbA.drew
              go_wp2_with fail
              refine (l1In_any _ _ _ _).mono ?_
              rintro e w1 ⟨rfl, rfl⟩
              rw [hG]
              go_wp2_with fail
              refine (l8Plain_any _ _ _ (by exact hD.out)).mono ?_
              rintro e w1 ⟨rfl, rfl⟩
              cases hW : wordB 10 ⟨#[]⟩ with
              | false =>
                have H : Hid (rightB x = false) := hfall.out fun q => by have := q.1.2.2.1; rw [hW] at this; cases this
                go_wp2_with fail
                go_ret
                exact ⟨ret_bool H.out.symm, hbA⟩
              | true =>
                have HS : Hid (SlotP ⟨G, false, ⟨#[]⟩⟩) := ⟨hG2.1, hG2.2, hW, Or.inr rfl⟩
                go_wp2_with fail
                go_region_held3 (fun w' => w'.cell? ⟨w.heap.size, 1, none⟩ = some (.slice a1 x.vFree.length c1) ∧ w'.cell? ⟨wr.heap.size, 1, none⟩ = some (.bool false)) (go_keep) (first | (go_at_call 36; refine (l2Has_any (by exact hsA.out)).mono ?_; rintro e w1 ⟨rfl, rfl⟩))
                cases hh : hasB x.vFree (j : Int) with
                | false =>
                  have H : Hid (rightB x = false) := hfall.out fun q => by have := q.2; rw [hh] at this; cases this
                  go_wp2_with fail
                  go_ret
                  exact ⟨ret_bool H.out.symm, hbA.drew⟩
                | true =>
                  have H : Hid (SlotsP x (j + 1)) := hstep.out HS.out (by rw [hh]; rfl)
                  have bxA' : Hid (Box (wr.alloc (.cells #[.int .i64 G, .bool false, .string ⟨#[]⟩] 63)).drew w.heap.size [.slice (some ⟨b, off, none⟩) x.vSlots.length c0, .slice a1 x.vFree.length c1] 27) := bxA.out
                  have y3 : (wr.alloc (.cells #[.int .i64 G, .bool false, .string ⟨#[]⟩] 63)).drew.cell? ⟨wr.heap.size, 1, none⟩ = some (.bool false) := nb.out.cell 1 rfl
                  go_wp2_with fail
                  go_roundw
                  case rel => exact ⟨j + 1, by omega, by go_num, by rw [hut]; simp, H, hbA.drew, bxA'⟩
                  case measure => simp [intOf]; omega
            · have H : Hid (rightB x = false) := hfall.out fun q => by
                have := q.1.2.2.2
                simp at this
                exact h (by rw [this]; rfl)
              have q := em_ne h
              have q2 := em_list h
              clear h
              have hbA : Below w.heap.size w (wr.alloc (.cells #[.int .i64 G, .bool false, .string D] 63)) := hb.alloc hb.size _
              go_wp2_with fail
              refine (l1In_any _ _ _ _).mono ?_
              rintro e w1 ⟨rfl, rfl⟩
              rw [hG]
              go_wp2_with fail
              go_ret
              exact ⟨ret_bool H.out.symm, hbA⟩
      · obtain rfl : j = x.vSlots.length := by omega
        rw [List.take_of_length_le (Nat.le_refl _)]
        have HF : Hid _ := right_yes hn1 hn2 hsp.out
        clear hsp hx0' s0' hj hlt
        generalize (un x.vSlots 0).length = FN at *
        go_wp2_with fail
        go_loopw [6] (fun i wr => ∃ (j : Nat), j ≤ x.vFree.length ∧ i = .int .i64 j ∧ Hid (RangeP x j) ∧ Below w.heap.size w wr ∧ Hid (Box wr w.heap.size [.slice a0 x.vSlots.length c0, .slice a1 x.vFree.length c1] 27)) (fun i _ => x.vFree.length - (intOf i).toNat)
        case atStart => exact ⟨0, by omega, rfl, fun i _ h => absurd h (by omega), hb, bx⟩
        case round =>
          clear y0 y1 hb bx
          obtain ⟨j, hj, rfl, hrp, hb, bx⟩ := hrel
          have y0 := bx.out.cell 0 rfl
          have y1 := bx.out.cell 1 rfl
          by_cases hlt : j < x.vFree.length
          · obtain ⟨b, off, rfl, hlo, hbw, hc⟩ := hx1'.out (by omega)
            obtain ⟨cs, hcl, lie, hr⟩ := hc j hlt
            have lie1 := Lie.keep (lo := lo) (lo' := lo) lie (.of_below hb) hlo hbw
            have hstep : Hid (0 ≤ x.vFree[j] → x.vFree[j] < (x.vSlots.length : Int) → RangeP x (j + 1)) := fun q1 q2 => hrp.out.step hlt q1 q2
            have hfall : Hid (¬ (0 ≤ x.vFree[j] ∧ x.vFree[j] < (x.vSlots.length : Int)) → rightB x = false) := fun q => right_no fun r => q (r.2.2.2.1 j hlt)
            generalize x.vFree[j] = X at hr hstep hfall
            obtain ⟨rfl, hI⟩ := hr
            have z0 := lie1 0 (by simp)
            simp only [List.getElem?_cons_zero, Nat.add_zero, Nat.mul_one] at z0
            have hlt' : (j : Int) < (x.vFree.length : Int) := by omega
            have h0' : (0 : Int) ≤ (j : Int) := by omega
            clear lie lie1 hcl hx1' hc
            go_wp2_with fail
            go_region_held3 (fun w' => w'.cell? ⟨w.heap.size, 0, none⟩ = some (.slice a0 x.vSlots.length c0) ∧ w'.cell? ⟨w.heap.size, 1, none⟩ = some (.slice (some ⟨b, off, none⟩) x.vFree.length c1) ∧ w'.cell? ⟨b, off + j, none⟩ = some (.int .i64 X)) (go_keep) (first | (go_at_call 35; refine (l1In_any _ _ _ _).mono ?_; rintro e w1 ⟨rfl, rfl⟩))
            have hwr : IntKind.i64.wrap ((x.vSlots.length : Int) - 1) = (x.vSlots.length : Int) - 1 := by rw [IntKind.wrap_i64]; omega
            cases hR : inB X 0 (IntKind.i64.wrap ((x.vSlots.length : Int) - 1)) with
            | false =>
              have H : Hid (rightB x = false) := hfall.out fun q => by rw [hwr] at hR; simp [inB] at hR; omega
              go_wp2_with fail
              go_ret
              exact ⟨ret_bool H.out.symm, hb.drew⟩
            | true =>
              have hR2 : 0 ≤ X ∧ X < (x.vSlots.length : Int) := by rw [hwr] at hR; simp [inB] at hR; omega
              have H : Hid (RangeP x (j + 1)) := hstep.out hR2.1 hR2.2
              have bx' : Hid (Box wr.drew w.heap.size [.slice a0 x.vSlots.length c0, .slice (some ⟨b, off, none⟩) x.vFree.length c1] 27) := bx.out
              go_wp2_with fail
              go_roundw
              case rel => exact ⟨j + 1, by omega, by go_num, H, hb.drew, bx'⟩
              case measure => simp [intOf]; omega
          · obtain rfl : j = x.vFree.length := by omega
            have H : Hid _ := HF.out hrp.out
            by_cases e : x.vFree.length = FN
            · rw [decide_eq_true e] at H
              go_wp2_with fail
              go_ret
              exact ⟨ret_bool H.out.symm, hb⟩
            · rw [decide_eq_false e] at H
              have e2 : ((x.vFree.length : Int) == (FN : Int)) = false := beq_eq_false_iff_ne.2 (by omega)
              go_wp2_with fail
              go_ret
              exact ⟨ret_bool H.out.symm, hb⟩
end Go.Proofs.Ytcbomaflfjdmjaa
