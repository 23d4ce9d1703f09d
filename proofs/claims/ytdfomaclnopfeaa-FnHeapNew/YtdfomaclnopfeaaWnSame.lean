/- New heaps and new worlds held against one another by the law; WorldOk of a new world. -/
import Derived.Test.YtdfomaclnopfeaaHeapNew
import Derived.Test.YtdfomaclnopfeaaHeapSmall
import Derived.Test.YtdfomaclnopfeaaTakeLit
import Derived.Test.YtdfomaclnopfeaaImplRight
import Derived.Test.YtdfomaclnopfeaaHeapMore
import Derived.Deep.RegionHeld3
import Derived.ProofKit
namespace Go.Proofs.Ytdfomaclnopfeaa
open Go.RowKit
theorem sameInts_zero {w : World} {a a2 : Option Addr} {c c2 : Nat} : Calls Try.prog 25 #[.slice a 0 c, .slice a2 0 c2] w fun e w' => e = .returned (.bool true) ∧ Below w.heap.size w w' := by
  go_enter Try.func25, Try.ntmps25
  go_wp2_with fail
  go_loopw [5] (fun i wr => i = .int .i64 0 ∧ wr = w) (fun _ _ => 0)
  case atStart => exact ⟨rfl, rfl⟩
  case round =>
    obtain ⟨rfl, rfl⟩ := hrel
    go_wp2_with fail
    go_ret
    exact ⟨rfl, Below.refl _ _⟩
theorem sameFields_zero {w : World} {a a2 : Option Addr} {c c2 : Nat} : Calls Try.prog 13 #[.slice a 0 c, .slice a2 0 c2] w fun e w' => e = .returned (.bool true) ∧ Below w.heap.size w w' := by
  go_enter Try.func13, Try.ntmps13
  go_wp2_with fail
  go_loopw [5] (fun i wr => i = .int .i64 0 ∧ wr = w) (fun _ _ => 0)
  case atStart => exact ⟨rfl, rfl⟩
  case round =>
    obtain ⟨rfl, rfl⟩ := hrel
    go_wp2_with fail
    go_ret
    exact ⟨rfl, Below.refl _ _⟩
set_option maxRecDepth 100000 in
set_option maxHeartbeats 2000000 in
theorem sameNode_new {w : World} {a3 : Option Addr} {c3 : Nat} {a5 : Option Addr} {c5 : Nat} {b3 : Option Addr} {d3 : Nat} {b5 : Option Addr} {d5 : Nat} : Calls Try.prog 14 #[.agg (List.toArray [.int .i64 1, .string ⟨#[100, 111, 99]⟩, .int .i64 0, .slice a3 0 c3, .int .i64 0, .slice a5 0 c5]), .agg (List.toArray [.int .i64 1, .string ⟨#[100, 111, 99]⟩, .int .i64 0, .slice b3 0 d3, .int .i64 0, .slice b5 0 d5])] w fun e w' => e = .returned (.bool true) ∧ Below w.heap.size w w' := by
  have hb0 : Below w.heap.size w ((w.alloc (.cells (List.toArray [.int .i64 1, .string ⟨#[100, 111, 99]⟩, .int .i64 0, .slice a3 0 c3, .int .i64 0, .slice a5 0 c5]) 42)).alloc (.cells (List.toArray [.int .i64 1, .string ⟨#[100, 111, 99]⟩, .int .i64 0, .slice b3 0 d3, .int .i64 0, .slice b5 0 d5]) 42)) := ((Below.refl _ _).alloc (Nat.le_refl _) _).alloc (by simp) _
  have bA : Hid (Box ((w.alloc (.cells (List.toArray [.int .i64 1, .string ⟨#[100, 111, 99]⟩, .int .i64 0, .slice a3 0 c3, .int .i64 0, .slice a5 0 c5]) 42)).alloc (.cells (List.toArray [.int .i64 1, .string ⟨#[100, 111, 99]⟩, .int .i64 0, .slice b3 0 d3, .int .i64 0, .slice b5 0 d5]) 42)) w.heap.size [.int .i64 1, .string ⟨#[100, 111, 99]⟩, .int .i64 0, .slice a3 0 c3, .int .i64 0, .slice a5 0 c5] 42) := (Box.new w _ _).alloc _
  have bB : Hid (Box ((w.alloc (.cells (List.toArray [.int .i64 1, .string ⟨#[100, 111, 99]⟩, .int .i64 0, .slice a3 0 c3, .int .i64 0, .slice a5 0 c5]) 42)).alloc (.cells (List.toArray [.int .i64 1, .string ⟨#[100, 111, 99]⟩, .int .i64 0, .slice b3 0 d3, .int .i64 0, .slice b5 0 d5]) 42)) (w.heap.size + 1) [.int .i64 1, .string ⟨#[100, 111, 99]⟩, .int .i64 0, .slice b3 0 d3, .int .i64 0, .slice b5 0 d5] 42) := by have h5 := Box.new (w.alloc (.cells (List.toArray [.int .i64 1, .string ⟨#[100, 111, 99]⟩, .int .i64 0, .slice a3 0 c3, .int .i64 0, .slice a5 0 c5]) 42)) [.int .i64 1, .string ⟨#[100, 111, 99]⟩, .int .i64 0, .slice b3 0 d3, .int .i64 0, .slice b5 0 d5] 42; simp only [World.size_alloc] at h5; exact h5
  go_enter Try.func14, Try.ntmps14
  go_wp2_with fail
  refine sameInts_zero.mono ?_
  rintro e w1 ⟨rfl, hb1⟩
  have hB1 : Hid (Below w.heap.size w w1) := hb0.trans (hb1.mono hb0.size)
  have bA1 : Hid (Box w1 w.heap.size [.int .i64 1, .string ⟨#[100, 111, 99]⟩, .int .i64 0, .slice a3 0 c3, .int .i64 0, .slice a5 0 c5] 42) := bA.out.below hb1 bA.out.lt
  have x5 := bA1.out.cell 5 rfl
  have y5 := (bB.out.below hb1 bB.out.lt).cell 5 rfl
  clear bA bB hb0 hb1
  go_wp2_with fail
  clear x5 y5
  go_loopw [5] (fun i wr => i = .int .i64 0 ∧ wr = w1) (fun _ _ => 0)
  case atStart => exact ⟨rfl, rfl⟩
  case round =>
    obtain ⟨rfl, rfl⟩ := hrel
    have x5 := bA1.out.cell 5 rfl
    go_wp2_with fail
    go_ret
    exact ⟨rfl, hB1.out⟩
/-- a new heap's cells, and its one node's -/
theorem newH_form {w : World} {lo : Nat} {cs : List Value} (h : HeapAt w lo cs newH) : ∃ (g o : Nat) (c2 : Nat) (a3 : Option Addr) (c3 : Nat) (a4 : Option Addr) (c4 : Nat) (n3 : Option Addr) (m3 : Nat) (n5 : Option Addr) (m5 : Nat), cs = [.int .i64 2, .int .i64 1, .slice (some ⟨g, o, none⟩) 1 c2, .slice a3 0 c3, .slice a4 0 c4] ∧ g < w.heap.size ∧ ∀ m v, [.int .i64 1, .string ⟨#[100, 111, 99]⟩, .int .i64 0, .slice n3 0 m3, .int .i64 0, .slice n5 0 m5][m]? = some v → w.cell? ⟨g, o + m, none⟩ = some v := by
  obtain ⟨k2, k3, k4, rfl, s2, s3, s4, _⟩ := h
  obtain ⟨a3, c3, rfl⟩ := s3.form
  obtain ⟨a4, c4, rfl⟩ := s4.form
  obtain ⟨a2, c2, rfl, _, hx⟩ := s2
  obtain ⟨g, o, rfl, _, hlt, hc⟩ := hx (by simp [newH])
  obtain ⟨cs, hl, lie, hr⟩ := hc 0 (by simp [newH])
  obtain ⟨k3, k5, e, t3, t5, _⟩ := hr
  obtain ⟨n3, m3, rfl⟩ := t3.form
  obtain ⟨n5, m5, rfl⟩ := t5.form
  refine ⟨g, o, c2, a3, c3, a4, c4, n3, m3, n5, m5, rfl, hlt, fun m v hv => ?_⟩
  have hm : m < cs.length := by
    rw [hl]
    rcases Nat.lt_or_ge m 6 with r | r
    · exact r
    · rw [List.getElem?_eq_none (by simpa using r)] at hv; cases hv
  have h5 := lie m hm
  simp only [Nat.zero_mul, Nat.add_zero] at h5
  rw [h5, e]
  exact hv
set_option maxRecDepth 100000 in
set_option maxHeartbeats 4000000 in
theorem sameHeap_new {w : World} {lo lo2 : Nat} {cs cs2 : List Value} (h1 : HeapAt w lo cs newH) (h2 : HeapAt w lo2 cs2 newH) : Calls Try.prog 6 #[.agg cs.toArray, .agg cs2.toArray] w fun e w' => e = .returned (.bool true) ∧ Below w.heap.size w w' := by
  obtain ⟨g, o, c2, a3, c3, a4, c4, n3, m3, n5, m5, rfl, hg, hn⟩ := newH_form h1
  obtain ⟨g', o', d2, b3, d3, b4, d4, r3, q3, r5, q5, rfl, hg', hn'⟩ := newH_form h2
  have hn1 : Hid (∀ m v, [.int .i64 1, .string ⟨#[100, 111, 99]⟩, .int .i64 0, .slice n3 0 m3, .int .i64 0, .slice n5 0 m5][m]? = some v → w.cell? ⟨g, o + m, none⟩ = some v) := hn
  have hn2 : Hid (∀ m v, [.int .i64 1, .string ⟨#[100, 111, 99]⟩, .int .i64 0, .slice r3 0 q3, .int .i64 0, .slice r5 0 q5][m]? = some v → w.cell? ⟨g', o' + m, none⟩ = some v) := hn'
  clear h1 h2 hn hn'
  have hb0 : Below w.heap.size w ((w.alloc (.cells (List.toArray [.int .i64 2, .int .i64 1, .slice (some ⟨g, o, none⟩) 1 c2, .slice a3 0 c3, .slice a4 0 c4]) 27)).alloc (.cells (List.toArray [.int .i64 2, .int .i64 1, .slice (some ⟨g', o', none⟩) 1 d2, .slice b3 0 d3, .slice b4 0 d4]) 27)) := ((Below.refl _ _).alloc (Nat.le_refl _) _).alloc (by simp) _
  have bA : Hid (Box ((w.alloc (.cells (List.toArray [.int .i64 2, .int .i64 1, .slice (some ⟨g, o, none⟩) 1 c2, .slice a3 0 c3, .slice a4 0 c4]) 27)).alloc (.cells (List.toArray [.int .i64 2, .int .i64 1, .slice (some ⟨g', o', none⟩) 1 d2, .slice b3 0 d3, .slice b4 0 d4]) 27)) w.heap.size [.int .i64 2, .int .i64 1, .slice (some ⟨g, o, none⟩) 1 c2, .slice a3 0 c3, .slice a4 0 c4] 27) := (Box.new w _ _).alloc _
  have bB : Hid (Box ((w.alloc (.cells (List.toArray [.int .i64 2, .int .i64 1, .slice (some ⟨g, o, none⟩) 1 c2, .slice a3 0 c3, .slice a4 0 c4]) 27)).alloc (.cells (List.toArray [.int .i64 2, .int .i64 1, .slice (some ⟨g', o', none⟩) 1 d2, .slice b3 0 d3, .slice b4 0 d4]) 27)) (w.heap.size + 1) [.int .i64 2, .int .i64 1, .slice (some ⟨g', o', none⟩) 1 d2, .slice b3 0 d3, .slice b4 0 d4] 27) := by have h5 := Box.new (w.alloc (.cells (List.toArray [.int .i64 2, .int .i64 1, .slice (some ⟨g, o, none⟩) 1 c2, .slice a3 0 c3, .slice a4 0 c4]) 27)) [.int .i64 2, .int .i64 1, .slice (some ⟨g', o', none⟩) 1 d2, .slice b3 0 d3, .slice b4 0 d4] 27; simp only [World.size_alloc] at h5; exact h5
  go_enter Try.func6, Try.ntmps6
  go_wp2_with fail
  refine sameFields_zero.mono ?_
  rintro e w1 ⟨rfl, hb1⟩
  have hB1 : Hid (Below w.heap.size w w1) := hb0.trans (hb1.mono hb0.size)
  have bA1 : Hid (Box w1 w.heap.size [.int .i64 2, .int .i64 1, .slice (some ⟨g, o, none⟩) 1 c2, .slice a3 0 c3, .slice a4 0 c4] 27) := bA.out.below hb1 bA.out.lt
  have bB1 : Hid (Box w1 (w.heap.size + 1) [.int .i64 2, .int .i64 1, .slice (some ⟨g', o', none⟩) 1 d2, .slice b3 0 d3, .slice b4 0 d4] 27) := bB.out.below hb1 bB.out.lt
  have x2 := bA1.out.cell 2 rfl
  have y2 := bB1.out.cell 2 rfl
  have x3 := bA1.out.cell 3 rfl
  have y3 := bB1.out.cell 3 rfl
  clear bA bB hb0 hb1
  go_wp2_with fail
  clear x2 y2 x3 y3
  go_loopw [5] (fun i wr => ∃ j : Nat, j ≤ 1 ∧ i = .int .i64 j ∧ Hid (Below w.heap.size w wr) ∧ Hid (Box wr w.heap.size [.int .i64 2, .int .i64 1, .slice (some ⟨g, o, none⟩) 1 c2, .slice a3 0 c3, .slice a4 0 c4] 27) ∧ Hid (Box wr (w.heap.size + 1) [.int .i64 2, .int .i64 1, .slice (some ⟨g', o', none⟩) 1 d2, .slice b3 0 d3, .slice b4 0 d4] 27)) (fun i _ => 1 - (intOf i).toNat)
  case atStart => exact ⟨0, by omega, rfl, hB1, bA1, bB1⟩
  case round =>
    obtain ⟨j, hj, rfl, hbr, bAr, bBr⟩ := hrel
    have x2 := bAr.out.cell 2 rfl
    have y2 := bBr.out.cell 2 rfl
    rcases Nat.lt_or_ge j 1 with hlt | hge
    · obtain rfl : j = 0 := by omega
      have z0 : wr.cell? ⟨g, o, none⟩ = some (.int .i64 1) := cell_on hbr.out (hn1.out 0 _ rfl)
      have z1 : wr.cell? ⟨g, o + 1, none⟩ = some (.string ⟨#[100, 111, 99]⟩) := cell_on hbr.out (hn1.out 1 _ rfl)
      have z2 : wr.cell? ⟨g, o + 2, none⟩ = some (.int .i64 0) := cell_on hbr.out (hn1.out 2 _ rfl)
      have z3 : wr.cell? ⟨g, o + 3, none⟩ = some (.slice n3 0 m3) := cell_on hbr.out (hn1.out 3 _ rfl)
      have z4 : wr.cell? ⟨g, o + 4, none⟩ = some (.int .i64 0) := cell_on hbr.out (hn1.out 4 _ rfl)
      have z5 : wr.cell? ⟨g, o + 5, none⟩ = some (.slice n5 0 m5) := cell_on hbr.out (hn1.out 5 _ rfl)
      have v0 : wr.cell? ⟨g', o', none⟩ = some (.int .i64 1) := cell_on hbr.out (hn2.out 0 _ rfl)
      have v1 : wr.cell? ⟨g', o' + 1, none⟩ = some (.string ⟨#[100, 111, 99]⟩) := cell_on hbr.out (hn2.out 1 _ rfl)
      have v2 : wr.cell? ⟨g', o' + 2, none⟩ = some (.int .i64 0) := cell_on hbr.out (hn2.out 2 _ rfl)
      have v3 : wr.cell? ⟨g', o' + 3, none⟩ = some (.slice r3 0 q3) := cell_on hbr.out (hn2.out 3 _ rfl)
      have v4 : wr.cell? ⟨g', o' + 4, none⟩ = some (.int .i64 0) := cell_on hbr.out (hn2.out 4 _ rfl)
      have v5 : wr.cell? ⟨g', o' + 5, none⟩ = some (.slice r5 0 q5) := cell_on hbr.out (hn2.out 5 _ rfl)
      go_wp2_with fail
      refine wp_region_held_drew (S := fun w' => w'.cell? ⟨w.heap.size, 2, none⟩ = some (.slice (some ⟨g, o, none⟩) 1 c2) ∧ w'.cell? ⟨w.heap.size + 1, 2, none⟩ = some (.slice (some ⟨g', o', none⟩) 1 d2) ∧ w'.cell? ⟨g, o, none⟩ = some (.int .i64 1) ∧ w'.cell? ⟨g, o + 1, none⟩ = some (.string ⟨#[100, 111, 99]⟩) ∧ w'.cell? ⟨g, o + 2, none⟩ = some (.int .i64 0) ∧ w'.cell? ⟨g, o + 3, none⟩ = some (.slice n3 0 m3) ∧ w'.cell? ⟨g, o + 4, none⟩ = some (.int .i64 0) ∧ w'.cell? ⟨g, o + 5, none⟩ = some (.slice n5 0 m5) ∧ w'.cell? ⟨g', o', none⟩ = some (.int .i64 1) ∧ w'.cell? ⟨g', o' + 1, none⟩ = some (.string ⟨#[100, 111, 99]⟩) ∧ w'.cell? ⟨g', o' + 2, none⟩ = some (.int .i64 0) ∧ w'.cell? ⟨g', o' + 3, none⟩ = some (.slice r3 0 q3) ∧ w'.cell? ⟨g', o' + 4, none⟩ = some (.int .i64 0) ∧ w'.cell? ⟨g', o' + 5, none⟩ = some (.slice r5 0 q5)) (by kernel_rfl) (by exact ⟨x2, y2, z0, z1, z2, z3, z4, z5, v0, v1, v2, v3, v4, v5⟩) (fun hHeld => ?_)
      refine tq (i := 0) (d := 52) ?_
      simp only [sz, ss]
      refine tq (i := 1) (d := 53) ?_
      simp only [sz, ss]
      refine tq (i := 2) (d := 54) ?_
      simp only [sz, ss]
      refine tq (i := 3) (d := 55) ?_
      simp only [sz, ss]
      refine tq (i := 4) (d := 56) ?_
      simp only [sz, ss]
      refine tq (i := 5) (d := 57) ?_
      simp only [sz, ss]
      refine tq (i := 6) (d := 58) ?_
      simp only [sz, ss]
      refine tq (i := 7) (d := 59) ?_
      simp only [sz, ss]
      refine tq (i := 8) (d := 60) ?_
      simp only [sz, ss]
      refine tq (i := 9) (d := 61) ?_
      simp only [sz, ss]
      refine wpAnyH_ready (rs := [10]) (by kernel_rfl) (by simp) ?_
      refine AllReadyH.cons rfl (fun K hK => ?_) AllReadyH.nil
      go_simp
      refine sameNode_new.mono ?_
      rintro e u1 ⟨rfl, hq1⟩
      have hu1 : Hid (Below wr.heap.size wr u1) := undrew hq1
      refine hK.out _ _ ⟨cell_on hq1 hHeld.1, cell_on hq1 hHeld.2.1, cell_on hq1 hHeld.2.2.1, cell_on hq1 hHeld.2.2.2.1, cell_on hq1 hHeld.2.2.2.2.1, cell_on hq1 hHeld.2.2.2.2.2.1, cell_on hq1 hHeld.2.2.2.2.2.2.1, cell_on hq1 hHeld.2.2.2.2.2.2.2.1, cell_on hq1 hHeld.2.2.2.2.2.2.2.2.1, cell_on hq1 hHeld.2.2.2.2.2.2.2.2.2.1, cell_on hq1 hHeld.2.2.2.2.2.2.2.2.2.2.1, cell_on hq1 hHeld.2.2.2.2.2.2.2.2.2.2.2.1, cell_on hq1 hHeld.2.2.2.2.2.2.2.2.2.2.2.2.1, cell_on hq1 hHeld.2.2.2.2.2.2.2.2.2.2.2.2.2⟩ (fun hHeld => ?_)
      clear hK K
      refine tq (i := 11) (d := 63) ?_
      simp only [sz, ss]
      refine wpAnyH_done (by kernel_rfl) ?_ _
      clear hHeld
      go_wp2_with fail
      go_roundw
      case rel => exact ⟨1, by omega, rfl, hbr.out.trans (hu1.out.mono hbr.out.size), bAr.out.below hu1.out bAr.out.lt, bBr.out.below hu1.out bBr.out.lt⟩
      case measure => simp [intOf]
    · obtain rfl : j = 1 := by omega
      have x3 := bAr.out.cell 3 rfl
      have y3 := bBr.out.cell 3 rfl
      go_wp2_with fail
      clear x2 y2 x3 y3
      obtain ⟨wo, rfl⟩ : ∃ wo, wo = wr := ⟨wr, rfl⟩
      go_loopw [6] (fun i wr => i = .int .i64 0 ∧ wr = wo) (fun _ _ => 0)
      case atStart => exact ⟨rfl, rfl⟩
      case round =>
        obtain ⟨rfl, rfl⟩ := hrel
        have x3 := bAr.out.cell 3 rfl
        go_wp2_with fail
        go_ret
        exact ⟨rfl, hbr.out⟩
end Go.Proofs.Ytdfomaclnopfeaa
