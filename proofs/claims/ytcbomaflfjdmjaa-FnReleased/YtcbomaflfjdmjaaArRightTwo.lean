/- What rightPool and ArenaOk of the program return. -/
import Derived.Test.YtcbomaflfjdmjaaArRight
namespace Go.Proofs.Ytcbomaflfjdmjaa
open Go.RowKit
/-- slots that are right, so far -/
def SlotsI (xs : List SlotD) (j : Nat) : Prop := ∀ i, (h : i < xs.length) → i < j → SlotP xs[i]
theorem SlotsI.step {xs : List SlotD} {j : Nat} (h : SlotsI xs j) (hj : j < xs.length) (h1 : SlotP xs[j]) : SlotsI xs (j + 1) := fun i hi hlt => by
  by_cases e : i < j
  · exact h i hi e
  · obtain rfl : i = j := by omega
    exact h1
def RightAns (w w' : World) (x : ArenaD) (e : Ending) : Prop :=
  (¬ RightI x ∧ ∃ v, e = .returned (.tuple #[.pointer v, .bool false])) ∨ (RightI x ∧ ∃ g k fk fs ffs, e = .returned (.tuple #[.pointer (some ⟨g, 0, none⟩), .bool true]) ∧ PoolAt w' w.heap.size g x.vSlots x.vFree k fk fs ffs)
set_option maxRecDepth 100000 in
set_option maxHeartbeats 2000000 in
theorem rightPool_any {w : World} {lo : Nat} {cs : List Value} {x : ArenaD} (hx : ArenaAt w lo cs x) :
    Calls Try.prog 29 #[.agg cs.toArray] w fun e w' => RightAns w w' x e ∧ Below w.heap.size w w' := by
  have hx' : Hid (ArenaAt w lo cs x) := hx
  obtain ⟨k0, k1, rfl, s0, s1, _⟩ := hx
  obtain ⟨a0, c0, rfl, hm0, hx0⟩ := s0
  have hx0' : Hid _ := hx0
  obtain ⟨a1, c1, rfl, hm1, _⟩ := s1
  unfold maxLen at hm0 hm1
  clear hx0
  have hb0 : Below w.heap.size w (w.alloc (.cells (List.toArray [.slice a0 x.vSlots.length c0, .slice a1 x.vFree.length c1]) 27)) := (Below.refl _ _).alloc (Nat.le_refl _) _
  have bx0 : Hid (Box (w.alloc (.cells (List.toArray [.slice a0 x.vSlots.length c0, .slice a1 x.vFree.length c1]) 27)) w.heap.size [.slice a0 x.vSlots.length c0, .slice a1 x.vFree.length c1] 27) := Box.new w _ _
  go_enter Try.func29, Try.ntmps29
  go_wp2_with fail
  refine (slotCountOk_any _ _).mono ?_
  rintro e w1 ⟨rfl, rfl⟩
  cases hc : inB (x.vSlots.length : Int) 1 12 with
  | false =>
    have H : Hid (¬ RightI x) := fun q => by
      have h1 := q.1
      have h2 := q.2.1
      simp [inB] at hc
      omega
    clear hc
    go_wp2_with fail
    go_ret2
    exact ⟨Or.inl ⟨H.out, _, rfl⟩, hb0⟩
  | true =>
  have hc1 : 1 ≤ x.vSlots.length ∧ x.vSlots.length ≤ 12 := by simp [inB] at hc; omega
  clear hc
  obtain ⟨hn1, hn2⟩ := hc1
  by_cases hfl : x.vSlots.length < x.vFree.length
  · have H : Hid (¬ RightI x) := fun q => by have := q.2.2.1; omega
    have hfl' : (x.vFree.length : Int) > (x.vSlots.length : Int) := by omega
    go_wp2_with fail
    go_ret2
    exact ⟨Or.inl ⟨H.out, _, rfl⟩, hb0⟩
  have hfl' : ¬ (x.vFree.length : Int) > (x.vSlots.length : Int) := by omega
  go_wp2_with fail
  go_loopw [24] (fun i wr => ∃ (j : Nat), j ≤ x.vSlots.length ∧ i = .int .i64 j ∧ Hid (SlotsI x.vSlots j) ∧ Below w.heap.size w wr ∧ Hid (Box wr w.heap.size [.slice a0 x.vSlots.length c0, .slice a1 x.vFree.length c1] 27)) (fun i _ => x.vSlots.length - (intOf i).toNat)
  case atStart => exact ⟨0, by omega, rfl, fun i _ h => absurd h (by omega), hb0, bx0⟩
  case round =>
    obtain ⟨j, hj, rfl, hsp, hb, bx⟩ := hrel
    by_cases hlt : j < x.vSlots.length
    · obtain ⟨b, off, rfl, hlo, hbw, hc⟩ := hx0'.out (by omega)
      obtain ⟨cs, hcl, lie, hr⟩ := hc j hlt
      have lie1 := Lie.keep (lo := lo) (lo' := lo) lie (.of_below hb) hlo hbw
      have hstep : Hid (SlotP x.vSlots[j] → SlotsI x.vSlots (j + 1)) := fun q => hsp.out.step hlt q
      have hfall : Hid (¬ SlotP x.vSlots[j] → ¬ RightI x) := fun q r => q (r.2.2.2.1 j hlt)
      generalize x.vSlots[j] = X at hr hstep hfall
      have hA : Hid (SlotAt (wr.alloc (.cells (slotC X).toArray 63)) lo (slotC X) X) := by
        obtain ⟨e, r⟩ := hr
        exact ⟨rfl, r⟩
      have hbA : Below w.heap.size w (wr.alloc (.cells (slotC X).toArray 63)) := hb.alloc hb.size _
      have bxA : Hid (Box (wr.alloc (.cells (slotC X).toArray 63)) w.heap.size [.slice (some ⟨b, off, none⟩) x.vSlots.length c0, .slice a1 x.vFree.length c1] 27) := bx.out.alloc _
      obtain ⟨rfl, rGen, rData, _⟩ := hr
      have z0 := lie1 0 (by simp)
      have z1 := lie1 1 (by simp)
      have z2 := lie1 2 (by simp)
      simp only [List.getElem?_cons_zero, List.getElem?_cons_succ, Nat.add_zero] at z0 z1 z2
      clear lie lie1 hcl hx0' hc rGen rData
      go_wp2_with fail
      refine (slotOk_any hA.out).mono ?_
      rintro e w1 ⟨rfl, hb1⟩
      have hb2 : Below w.heap.size w w1 := hbA.trans (hb1.mono hbA.size)
      have bx1 : Hid (Box w1 w.heap.size [.slice (some ⟨b, off, none⟩) x.vSlots.length c0, .slice a1 x.vFree.length c1] 27) := bxA.out.below hb1 bxA.out.lt
      cases hs : slotB X with
      | false =>
        have H : Hid (¬ RightI x) := hfall.out (slotB_no hs)
        go_wp2_with fail
        go_ret2
        exact ⟨Or.inl ⟨H.out, _, rfl⟩, hb2⟩
      | true =>
        have H : Hid (SlotsI x.vSlots (j + 1)) := hstep.out (slotB_iff.1 hs)
        go_wp2_with fail
        go_roundw
        case rel => exact ⟨j + 1, by omega, by go_num, H, hb2, bx1⟩
        case measure => simp [intOf]; omega
    · obtain rfl : j = x.vSlots.length := by omega
      have y0 := bx.out.cell 0 rfl
      have y1 := bx.out.cell 1 rfl
      have hsz := hb.size
      go_wp2_with fail
      refine (poolOf_any (ArenaAt_stays _ _ _ lo _ _ (.of_below hb) hx'.out) hn2 (by omega)).mono ?_
      rintro e w1 ⟨⟨g, k, fk, fs, ffs, rfl, hP⟩, hb1⟩
      have hb2 : Below w.heap.size w w1 := hb.trans (hb1.mono hb.size)
      have hP' : Hid (PoolAt w1 wr.heap.size g x.vSlots x.vFree k fk fs ffs) := hP
      clear hP
      go_wp2_with fail
      refine (freeOk_any hP'.out hn2 (by omega)).mono ?_
      rintro e w2 ⟨⟨r, rfl, hr⟩, hb3⟩
      have hr' : Hid (r = true ↔ FreeAll x.vSlots x.vFree) := hr
      clear hr
      have hb4 : Below w.heap.size w w2 := hb2.trans (hb3.mono hb2.size)
      have hP2 := hP'.out.below hb3
      go_wp2_with fail
      go_ret2
      refine ⟨?_, hb4⟩
      cases r with
      | false => exact Or.inl ⟨fun q => (by have := hr'.out.2 ⟨q.2.2.2.2.1, q.2.2.2.2.2⟩; cases this), _, rfl⟩
      | true =>
        have hfa := hr'.out.1 rfl
        refine Or.inr ⟨⟨hn1, hn2, by omega, fun i hi => hsp.out i hi hi, hfa.1, hfa.2⟩, g, k, fk, fs, ffs, rfl, ?_⟩
        obtain ⟨h1, h2, h3, h4, h5, h6, h7⟩ := hP2
        exact ⟨h1, by omega, h3, h4, fun b q => by have := h5 b q; omega, fun b q => by have := h6 b q; omega, h7⟩
set_option maxHeartbeats 800000 in
theorem implArenaOk_any {w : World} {lo : Nat} {cs : List Value} {x : ArenaD} (hx : ArenaAt w lo cs x) :
    Calls Try.prog 15 #[.agg cs.toArray] w fun e w' => e = .returned (.bool (rightB x)) ∧ Below w.heap.size w w' := by
  have hx' : Hid (ArenaAt w lo cs x) := hx
  obtain ⟨k0, k1, rfl, s0, s1, _⟩ := hx
  obtain ⟨a0, c0, rfl⟩ := s0.form
  obtain ⟨a1, c1, rfl⟩ := s1.form
  clear s0 s1
  have hb0 : Below w.heap.size w (w.alloc (.cells (List.toArray [.slice a0 x.vSlots.length c0, .slice a1 x.vFree.length c1]) 27)) := (Below.refl _ _).alloc (Nat.le_refl _) _
  have hxA : Hid (ArenaAt (w.alloc (.cells (List.toArray [.slice a0 x.vSlots.length c0, .slice a1 x.vFree.length c1]) 27)) lo [.slice a0 x.vSlots.length c0, .slice a1 x.vFree.length c1] x) := ArenaAt_stays _ _ _ lo _ _ (.of_below hb0) hx'.out
  go_enter Try.func15, Try.ntmps15
  go_wp2_with fail
  refine (rightPool_any hxA.out).mono ?_
  rintro e w1 ⟨hA, hb1⟩
  have hb2 : Below w.heap.size w w1 := hb0.trans (hb1.mono hb0.size)
  rcases hA with ⟨hn, v, rfl⟩ | ⟨hy, g, k, fk, fs, ffs, rfl, hP⟩
  · have H : Hid _ := rightB_false hn
    go_wp2_with fail
    go_ret
    exact ⟨ret_bool H.out.symm, hb2⟩
  · have H : Hid _ := rightB_true hy
    clear hP
    go_wp2_with fail
    go_ret
    exact ⟨ret_bool H.out.symm, hb2⟩
end Go.Proofs.Ytcbomaflfjdmjaa
