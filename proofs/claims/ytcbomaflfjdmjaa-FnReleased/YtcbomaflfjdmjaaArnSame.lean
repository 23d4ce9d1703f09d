/- sameInts, sameArena of the laws; the drawn number. -/
import Derived.Test.YtcbomaflfjdmjaaArRows
import Derived.Test.YtcbomaflfjdmjaaDrawsNum
import Derived.Deep.RegionHeld3
import Derived.ProofKit
namespace Go.Proofs.Ytcbomaflfjdmjaa
open Go.RowKit
set_option maxHeartbeats 800000 in
theorem sameInts_any {w : World} {lo lo2 : Nat} {k k2 : Value} {xs : List Int} (hk : SeqAt 1 IntAt w lo k xs) (hk2 : SeqAt 1 IntAt w lo2 k2 xs) :
    Calls Try.prog 34 #[k, k2] w fun e w' => e = .returned (.bool true) ∧ Below w.heap.size w w' := by
  obtain ⟨a, cap, rfl, hm, hx⟩ := hk
  obtain ⟨a2, cap2, rfl, _, hx2⟩ := hk2
  unfold maxLen at hm
  have hx' : Hid _ := hx
  have hx2' : Hid _ := hx2
  clear hx hx2
  go_enter Try.func34, Try.ntmps34
  go_wp2_with fail
  go_loopw [5] (fun i wr => ∃ (j : Nat), j ≤ xs.length ∧ i = .int .i64 j ∧ Below w.heap.size w wr) (fun i _ => xs.length - (intOf i).toNat)
  case atStart => exact ⟨0, by omega, rfl, Below.refl _ _⟩
  case round =>
    obtain ⟨j, hj, rfl, hb⟩ := hrel
    by_cases hlt : j < xs.length
    · obtain ⟨b, off, rfl, hlo, hbw, hc⟩ := hx'.out (by omega)
      obtain ⟨b2, off2, rfl, hlo2, hbw2, hc2⟩ := hx2'.out (by omega)
      obtain ⟨cs, hcl, lie, hr⟩ := hc j hlt
      obtain ⟨cs2, hcl2, lie2, hr2⟩ := hc2 j hlt
      have lie1 := Lie.keep (lo := lo) (lo' := lo) lie (.of_below hb) hlo hbw
      have lie3 := Lie.keep (lo := lo2) (lo' := lo2) lie2 (.of_below hb) hlo2 hbw2
      generalize xs[j] = X at hr hr2
      obtain ⟨rfl, hI⟩ := hr
      obtain ⟨rfl, _⟩ := hr2
      have z0 := lie1 0 (by simp)
      have z1 := lie3 0 (by simp)
      simp only [List.getElem?_cons_zero, Nat.add_zero, Nat.mul_one] at z0 z1
      have hlt' : (j : Int) < (xs.length : Int) := by omega
      have h0' : (0 : Int) ≤ (j : Int) := by omega
      clear lie lie2 lie1 lie3 hcl hcl2 hx' hx2' hc hc2
      go_wp2_with fail
      go_region_held3 (fun w' => w'.cell? ⟨b, off + j, none⟩ = some (.int .i64 X) ∧ w'.cell? ⟨b2, off2 + j, none⟩ = some (.int .i64 X)) (go_keep) (fail)
      go_wp2_with fail
      go_roundw
      case rel => exact ⟨j + 1, by omega, by go_num, hb.drew⟩
      case measure => simp [intOf]; omega
    · go_wp2_with fail
      go_ret
      exact ⟨rfl, hb⟩
set_option maxRecDepth 100000 in
set_option maxHeartbeats 2000000 in
theorem sameArena_any {w : World} {lo lo2 : Nat} {cs cs2 : List Value} {x : ArenaD} (hx : ArenaAt w lo cs x) (hy : ArenaAt w lo2 cs2 x) :
    Calls Try.prog 12 #[.agg cs.toArray, .agg cs2.toArray] w fun e w' => e = .returned (.bool true) ∧ Below w.heap.size w w' := by
  obtain ⟨k0, k1, rfl, s0, s1, _⟩ := hx
  obtain ⟨l0, l1, rfl, t0, t1, _⟩ := hy
  have s1' : Hid (SeqAt 1 IntAt w lo k1 x.vFree) := s1
  have t1' : Hid (SeqAt 1 IntAt w lo2 l1 x.vFree) := t1
  obtain ⟨a0, c0, rfl, hm0, hx0⟩ := s0
  obtain ⟨b0, d0, rfl, hn0, hy0⟩ := t0
  obtain ⟨a1, c1, rfl⟩ := s1.form
  obtain ⟨b1, d1, rfl⟩ := t1.form
  have hx0' : Hid _ := hx0
  have hy0' : Hid _ := hy0
  unfold maxLen at hm0 hn0
  clear hx0 hy0 s1 t1
  have hb0 : Below w.heap.size w ((w.alloc (.cells (List.toArray [.slice a0 x.vSlots.length c0, .slice a1 x.vFree.length c1]) 27)).alloc (.cells (List.toArray [.slice b0 x.vSlots.length d0, .slice b1 x.vFree.length d1]) 27)) := ((Below.refl _ _).alloc (Nat.le_refl _) _).alloc (by simp) _
  have bA0 : Hid (Box ((w.alloc (.cells (List.toArray [.slice a0 x.vSlots.length c0, .slice a1 x.vFree.length c1]) 27)).alloc (.cells (List.toArray [.slice b0 x.vSlots.length d0, .slice b1 x.vFree.length d1]) 27)) w.heap.size [.slice a0 x.vSlots.length c0, .slice a1 x.vFree.length c1] 27) := (Box.new w _ _).alloc _
  have bB0 : Hid (Box ((w.alloc (.cells (List.toArray [.slice a0 x.vSlots.length c0, .slice a1 x.vFree.length c1]) 27)).alloc (.cells (List.toArray [.slice b0 x.vSlots.length d0, .slice b1 x.vFree.length d1]) 27)) (w.heap.size + 1) [.slice b0 x.vSlots.length d0, .slice b1 x.vFree.length d1] 27) := by have h5 := Box.new (w.alloc (.cells (List.toArray [.slice a0 x.vSlots.length c0, .slice a1 x.vFree.length c1]) 27)) [.slice b0 x.vSlots.length d0, .slice b1 x.vFree.length d1] 27; simpa [Hid] using h5
  go_enter Try.func12, Try.ntmps12
  go_wp2_with fail
  refine (sameInts_any (s1'.out.below intAt_stays hb0) (t1'.out.below intAt_stays hb0)).mono ?_
  rintro e w1 ⟨rfl, hb1⟩
  have hB1 : Below w.heap.size w w1 := hb0.trans (hb1.mono hb0.size)
  have bA1 : Hid (Box w1 w.heap.size [.slice a0 x.vSlots.length c0, .slice a1 x.vFree.length c1] 27) := bA0.out.below hb1 bA0.out.lt
  have bB1 : Hid (Box w1 (w.heap.size + 1) [.slice b0 x.vSlots.length d0, .slice b1 x.vFree.length d1] 27) := bB0.out.below hb1 bB0.out.lt
  have y0 := bA1.out.cell 0 rfl
  have y1 := bB1.out.cell 0 rfl
  have hnn : ((x.vSlots.length : Int) != (x.vSlots.length : Int)) = false := by simp
  go_wp2_with fail
  go_loopw [5] (fun i wr => ∃ (j : Nat), j ≤ x.vSlots.length ∧ i = .int .i64 j ∧ Below w.heap.size w wr ∧ Hid (Box wr w.heap.size [.slice a0 x.vSlots.length c0, .slice a1 x.vFree.length c1] 27) ∧ Hid (Box wr (w.heap.size + 1) [.slice b0 x.vSlots.length d0, .slice b1 x.vFree.length d1] 27)) (fun i _ => x.vSlots.length - (intOf i).toNat)
  case atStart => exact ⟨0, by omega, rfl, hB1, bA1, bB1⟩
  case round =>
    clear y0 y1
    obtain ⟨j, hj, rfl, hb, bA, bB⟩ := hrel
    have y0 := bA.out.cell 0 rfl
    have y1 := bB.out.cell 0 rfl
    by_cases hlt : j < x.vSlots.length
    · obtain ⟨b, off, rfl, hlo, hbw, hc⟩ := hx0'.out (by omega)
      obtain ⟨b2, off2, rfl, hlo2, hbw2, hc2⟩ := hy0'.out (by omega)
      obtain ⟨cs, hcl, lie, hr⟩ := hc j hlt
      obtain ⟨cs2, hcl2, lie2, hr2⟩ := hc2 j hlt
      have lie1 := Lie.keep (lo := lo) (lo' := lo) lie (.of_below hb) hlo hbw
      have lie3 := Lie.keep (lo := lo2) (lo' := lo2) lie2 (.of_below hb) hlo2 hbw2
      generalize x.vSlots[j] = X at hr hr2
      obtain ⟨rfl, _⟩ := hr
      obtain ⟨rfl, _⟩ := hr2
      obtain ⟨G, U, D⟩ := X
      dsimp only at lie1 lie3
      have z0 := lie1 0 (by simp)
      have z1 := lie1 1 (by simp)
      have z2 := lie1 2 (by simp)
      have v0 := lie3 0 (by simp)
      have v1 := lie3 1 (by simp)
      have v2 := lie3 2 (by simp)
      simp only [List.getElem?_cons_zero, List.getElem?_cons_succ, Nat.add_zero] at z0 z1 z2 v0 v1 v2
      have hlt' : (j : Int) < (x.vSlots.length : Int) := by omega
      have h0' : (0 : Int) ≤ (j : Int) := by omega
      have bA' : Hid (Box wr.drew w.heap.size _ _) := bA
      have bB' : Hid (Box wr.drew (w.heap.size + 1) _ _) := bB
      clear lie lie2 lie1 lie3 hcl hcl2 hc hc2
      go_wp2_with fail
      go_region_held3 (fun w' => w'.cell? ⟨w.heap.size, 0, none⟩ = some (.slice (some ⟨b, off, none⟩) x.vSlots.length c0) ∧ w'.cell? ⟨w.heap.size + 1, 0, none⟩ = some (.slice (some ⟨b2, off2, none⟩) x.vSlots.length d0) ∧ w'.cell? ⟨b, off + j * 3, none⟩ = some (.int .i64 G) ∧ w'.cell? ⟨b, off + j * 3 + 1, none⟩ = some (.bool U) ∧ w'.cell? ⟨b, off + j * 3 + 2, none⟩ = some (.string D) ∧ w'.cell? ⟨b2, off2 + j * 3, none⟩ = some (.int .i64 G) ∧ w'.cell? ⟨b2, off2 + j * 3 + 1, none⟩ = some (.bool U) ∧ w'.cell? ⟨b2, off2 + j * 3 + 2, none⟩ = some (.string D)) (go_keep) (fail)
      go_wp2_with fail
      go_roundw
      case rel => exact ⟨j + 1, by omega, by go_num, hb.drew, bA', bB'⟩
      case measure => simp [intOf]; omega
    · go_wp2_with fail
      go_ret
      exact ⟨rfl, hb⟩
end Go.Proofs.Ytcbomaflfjdmjaa
