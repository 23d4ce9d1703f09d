/- The walk of FnWorldNew. -/
import Derived.Test.YtmffdjdgoddnjaaWnOk
namespace Go.Proofs.Ytmffdjdgoddnjaa.fnWorldNew
open Go.RowKit
theorem big_any {a : Option Addr} {n cap : Nat} (w : World) : Calls Try.prog 4 #[.slice a n cap] w fun e w' => e = .returned (.bool (decide ((1048576 : Int) < (n : Int)))) ∧ w' = w := by
  go_enter Try.func4, Try.ntmps4
  go_wp2_with fail
  go_ret
  exact ⟨rfl, rfl⟩
set_option maxRecDepth 100000 in
set_option maxHeartbeats 4000000 in
theorem walk {a : Option Addr} {n cap : Nat} (w : World) (hlen : n ≤ maxLen) (hcode : n ≤ 1048576 → CodeAt w a n) :
    Calls Try.prog 3 #[.slice a n cap] w fun e w' => e = .returned (.bool true) ∧ Below w.heap.size w w' := by
  unfold maxLen at hlen
  by_cases hbig : (1048576 : Int) < (n : Int)
  · clear hcode
    go_enter Try.func3, Try.ntmps3
    go_wp2_with (go_at_call 4; refine (big_any _).mono ?_; rintro e w' ⟨rfl, rfl⟩; rw [decide_eq_true hbig])
    go_ret
    exact ⟨rfl, Below.refl _ _⟩
  have hc' : Hid (CodeAt w a n) := hcode (by omega)
  clear hcode
  go_enter Try.func3, Try.ntmps3
  go_wp2_with fail
  refine (big_any _).mono ?_
  rintro e w0 ⟨rfl, rfl⟩
  rw [decide_eq_false (show ¬ (1048576 : Int) < (n : Int) by omega)]
  go_wp2_with fail
  refine (drawWn_any hc'.out).mono ?_
  rintro e w2 ⟨v, rfl, hv, hB2⟩
  clear hc'
  obtain ⟨hs, bb, hYS, hall, hl3, hbb⟩ := newWorld_cases v
  have hYS' : Hid (newWorld v = (hs, bb)) := hYS
  have hbbH : Hid (bb = true → v = (hs.length : Int) ∧ 2 ≤ hs.length) := hbb
  have hallH : Hid (∀ x ∈ hs, x = newH) := hall
  clear hYS hbb hall
  go_wp2_with fail
  refine implWorldNew_any.mono ?_
  rintro e w3 ⟨⟨cs3, f3, rfl, own3, lo3⟩, hb3⟩
  rw [hYS'.out] at own3 ⊢
  dsimp only at own3 ⊢
  have at3 := WorldOwn_at (lo := 0) _ _ _ _ own3 (fun _ _ => Nat.zero_le _)
  obtain ⟨k3, rfl, s3⟩ := id at3
  obtain ⟨p3, d3, rfl⟩ := s3.form
  have hB3 : Below w0.heap.size w0 w3 := hB2.trans (hb3.mono hB2.size)
  have at3H : Hid (WorldAt w3 0 [.slice p3 hs.length d3, .slice none 0 0] hs) := at3
  have bA3 : Hid (Box (w3.alloc (.cells (List.toArray [.slice p3 hs.length d3, .slice none 0 0]) 28)) w3.heap.size [.slice p3 hs.length d3, .slice none 0 0] 28) := Box.new w3 _ _
  have hB3A : Below w0.heap.size w0 (w3.alloc (.cells (List.toArray [.slice p3 hs.length d3, .slice none 0 0]) 28)) := hB3.alloc hB3.size _
  have hb3A : Below w3.heap.size w3 (w3.alloc (.cells (List.toArray [.slice p3 hs.length d3, .slice none 0 0]) 28)) := (Below.refl _ _).alloc (Nat.le_refl _) _
  clear own3 lo3 hb3 at3 s3
  go_wp2_with fail
  refine specWorldNew_any.mono ?_
  rintro e w4 ⟨⟨cs4, f4, rfl, own4, lo4⟩, hb4⟩
  rw [hYS'.out] at own4 ⊢
  dsimp only at own4 ⊢
  have at4 := WorldOwn_at (lo := 0) _ _ _ _ own4 (fun _ _ => Nat.zero_le _)
  obtain ⟨k4, rfl, s4⟩ := id at4
  obtain ⟨p4, d4, rfl⟩ := s4.form
  have hB4 : Below w0.heap.size w0 w4 := hB3A.trans (hb4.mono hB3A.size)
  have hb34 : Below w3.heap.size w3 w4 := hb3A.trans (hb4.mono hb3A.size)
  have hb4A : Below w4.heap.size w4 (w4.alloc (.cells (List.toArray [.slice p4 hs.length d4, .slice none 0 0]) 28)) := (Below.refl _ _).alloc (Nat.le_refl _) _
  have hB4A : Below w0.heap.size w0 (w4.alloc (.cells (List.toArray [.slice p4 hs.length d4, .slice none 0 0]) 28)) := hB4.alloc hB4.size _
  have at35 : Hid (WorldAt (w4.alloc (.cells (List.toArray [.slice p4 hs.length d4, .slice none 0 0]) 28)) 0 [.slice p3 hs.length d3, .slice none 0 0] hs) := WorldAt_below (WorldAt_below at3H.out hb34) hb4A
  have at45 : Hid (WorldAt (w4.alloc (.cells (List.toArray [.slice p4 hs.length d4, .slice none 0 0]) 28)) 0 [.slice p4 hs.length d4, .slice none 0 0] hs) := WorldAt_below at4 hb4A
  have bA5 : Hid (Box (w4.alloc (.cells (List.toArray [.slice p4 hs.length d4, .slice none 0 0]) 28)) w3.heap.size [.slice p3 hs.length d3, .slice none 0 0] 28) := (bA3.out.below hb4 bA3.out.lt).alloc _
  have bB5 : Hid (Box (w4.alloc (.cells (List.toArray [.slice p4 hs.length d4, .slice none 0 0]) 28)) w4.heap.size [.slice p4 hs.length d4, .slice none 0 0] 28) := Box.new w4 _ _
  have hbn : (bb != bb) = false := by simp
  have hbe : (bb == bb) = true := by simp
  have x50 := bA5.out.cell 0 rfl
  have x51 := bA5.out.cell 1 rfl
  clear own4 lo4 hb4 at4 s4 hb34 hb4A bA3 at3H hb3A
  go_wp2_with fail
  refine (sameWorld_new hallH.out hl3 at35.out at45.out).mono ?_
  rintro e w6 ⟨rfl, hb6⟩
  have hB6 : Below w0.heap.size w0 w6 := hB4A.trans (hb6.mono hB4A.size)
  have at36 : Hid (WorldAt w6 0 [.slice p3 hs.length d3, .slice none 0 0] hs) := WorldAt_below at35.out hb6
  have at46 : Hid (WorldAt w6 0 [.slice p4 hs.length d4, .slice none 0 0] hs) := WorldAt_below at45.out hb6
  have bA6 : Hid (Box w6 w3.heap.size [.slice p3 hs.length d3, .slice none 0 0] 28) := bA5.out.below hb6 bA5.out.lt
  have bB6 : Hid (Box w6 w4.heap.size [.slice p4 hs.length d4, .slice none 0 0] 28) := bB5.out.below hb6 bB5.out.lt
  clear x50 x51 bA5 bB5 at35 at45 hb6
  cases bb with
  | false =>
    have y0 := bA6.out.cell 0 rfl
    have y1 := bA6.out.cell 1 rfl
    have y2 := bB6.out.cell 0 rfl
    have y3 := bB6.out.cell 1 rfl
    go_wp2_with fail
    refine (sameWorld_new hallH.out hl3 at36.out at46.out).mono ?_
    rintro e w7 ⟨rfl, hb7⟩
    go_wp2_with fail
    go_ret
    exact ⟨rfl, hB6.trans (hb7.mono hB6.size)⟩
  | true =>
  obtain ⟨rfl, hl2⟩ := hbbH.out rfl
  clear hbbH at46 bB6 hbn hbe hYS'
  have s36 : Hid (SeqAt 5 HeapAt w6 0 (.slice p3 hs.length d3) hs) := by
    obtain ⟨k, e, s⟩ := at36.out
    injection e with e _
    subst e
    exact s
  go_wp2_with fail
  go_loopw [8] (fun i wr => ∃ j : Nat, j ≤ hs.length ∧ i = .int .i64 j ∧ Hid (Below w6.heap.size w6 wr)) (fun i _ => hs.length - (intOf i).toNat)
  case atStart => exact ⟨0, by omega, rfl, Below.refl _ _⟩
  case round =>
    obtain ⟨j, hj, rfl, hbr⟩ := hrel
    have bAr : Hid (Box wr w3.heap.size [.slice p3 hs.length d3, .slice none 0 0] 28) := bA6.out.below hbr.out bA6.out.lt
    have x0 := bAr.out.cell 0 rfl
    by_cases hlt : j < hs.length
    · obtain ⟨a_, cap_, e_, _, hc_⟩ := s36.out
      injection e_ with e1 e2 e3
      subst e1 e3
      obtain ⟨ga, oa, rfl, _, hga, hc⟩ := hc_ (by omega)
      obtain ⟨cs1, hl1, lie1, hr1⟩ := hc j hlt
      have hx : hs[j] = newH := hallH.out _ (List.getElem_mem hlt)
      rw [hx] at hr1
      obtain ⟨c0, c1, c2, c3, c4, rfl⟩ := five hl1
      have hA : Hid (HeapAt wr 0 [c0, c1, c2, c3, c4] newH) := HeapAt_stays _ _ _ _ _ _ (.of_below hbr.out) hr1
      have z0 : wr.cell? ⟨ga, oa + j * 5, none⟩ = some c0 := cell_on hbr.out (by have h5 := lie1 0 (by simp); simpa using h5)
      have z1 : wr.cell? ⟨ga, oa + j * 5 + 1, none⟩ = some c1 := cell_on hbr.out (by have h5 := lie1 1 (by simp); simpa using h5)
      have z2 : wr.cell? ⟨ga, oa + j * 5 + 2, none⟩ = some c2 := cell_on hbr.out (by have h5 := lie1 2 (by simp); simpa using h5)
      have z3 : wr.cell? ⟨ga, oa + j * 5 + 3, none⟩ = some c3 := cell_on hbr.out (by have h5 := lie1 3 (by simp); simpa using h5)
      have z4 : wr.cell? ⟨ga, oa + j * 5 + 4, none⟩ = some c4 := cell_on hbr.out (by have h5 := lie1 4 (by simp); simpa using h5)
      have hlt' : (j : Int) < (hs.length : Int) := by omega
      have hj0 : (0 : Int) ≤ (j : Int) := by omega
      clear lie1 hl1 hc hc_ hr1 hx e2
      go_wp2_with fail
      refine wp_region_held_drew (S := fun w' => w'.cell? ⟨w3.heap.size, 0, none⟩ = some (.slice (some ⟨ga, oa, none⟩) hs.length d3) ∧ w'.cell? ⟨ga, oa + j * 5, none⟩ = some (c0) ∧ w'.cell? ⟨ga, oa + j * 5 + 1, none⟩ = some (c1) ∧ w'.cell? ⟨ga, oa + j * 5 + 2, none⟩ = some (c2) ∧ w'.cell? ⟨ga, oa + j * 5 + 3, none⟩ = some (c3) ∧ w'.cell? ⟨ga, oa + j * 5 + 4, none⟩ = some (c4)) (by kernel_rfl) (by exact ⟨x0, z0, z1, z2, z3, z4⟩) (fun hHeld => ?_)
      refine tq (i := 0) (d := 51) ?_
      simp only [sz, ss]
      refine tq (i := 1) (d := 52) ?_
      simp only [sz, ss]
      refine tq (i := 2) (d := 53) ?_
      simp only [sz, ss]
      refine tq (i := 3) (d := 54) ?_
      simp only [sz, ss]
      refine tq (i := 4) (d := 55) ?_
      simp only [sz, ss]
      refine wpAnyH_ready (rs := [5]) (by kernel_rfl) (by simp) ?_
      refine AllReadyH.cons rfl (fun K hK => ?_) AllReadyH.nil
      go_simp
      refine implNew_any.mono ?_
      rintro e u1 ⟨⟨bn, rfl, ho1, lo1⟩, hq1⟩
      have hu1 : Hid (Below wr.heap.size wr u1) := undrew hq1
      have ho2 : Hid (HeapAt u1 0 [.int .i64 2, .int .i64 1, .slice (some ⟨bn, 0, none⟩) 1 1, .slice none 0 0, .slice none 0 0] newH) := HeapOwn_at (lo := 0) _ _ _ _ ho1 (fun _ _ => Nat.zero_le _)
      clear ho1 lo1
      refine hK.out _ _ ⟨cell_on hq1 hHeld.1, cell_on hq1 hHeld.2.1, cell_on hq1 hHeld.2.2.1, cell_on hq1 hHeld.2.2.2.1, cell_on hq1 hHeld.2.2.2.2.1, cell_on hq1 hHeld.2.2.2.2.2⟩ (fun hHeld => ?_)
      clear hK K
      refine wpAnyH_ready (rs := [6]) (by kernel_rfl) (by simp) ?_
      refine AllReadyH.cons rfl (fun K hK => ?_) AllReadyH.nil
      go_simp
      refine (sameHeap_new (lo := 0) (lo2 := 0) (cs := [c0, c1, c2, c3, c4]) (by exact HeapAt_stays _ _ _ _ _ _ (.of_below hu1.out) hA.out) ho2.out).mono ?_
      rintro e u2 ⟨rfl, hq2⟩
      have hu2 : Hid (Below wr.heap.size wr u2) := hu1.out.trans (hq2.mono hu1.out.size)
      refine hK.out _ _ ⟨cell_on hq2 hHeld.1, cell_on hq2 hHeld.2.1, cell_on hq2 hHeld.2.2.1, cell_on hq2 hHeld.2.2.2.1, cell_on hq2 hHeld.2.2.2.2.1, cell_on hq2 hHeld.2.2.2.2.2⟩ (fun hHeld => ?_)
      clear hK K
      refine tq (i := 7) (d := 58) ?_
      simp only [sz, ss]
      refine wpAnyH_done (by kernel_rfl) ?_ _
      clear hHeld
      go_wp2_with fail
      go_roundw
      case rel => exact ⟨j + 1, by omega, by go_num, hbr.out.trans (hu2.out.mono hbr.out.size)⟩
      case measure => simp [intOf]; omega
    · obtain rfl : j = hs.length := by omega
      have x1 := bAr.out.cell 1 rfl
      have hBr : Below w0.heap.size w0 wr := hB6.trans (hbr.out.mono hB6.size)
      go_wp2_with fail
      refine (worldOk_new hallH.out hl2 hl3 (WorldAt_below at36.out hbr.out)).mono ?_
      rintro e w8 ⟨rfl, hb8⟩
      have bA8 : Hid (Box w8 w3.heap.size [.slice p3 hs.length d3, .slice none 0 0] 28) := bAr.out.below hb8 bAr.out.lt
      have hB8 : Below w0.heap.size w0 w8 := hBr.trans (hb8.mono hBr.size)
      clear x0 x1 hb8
      have x0 := bA8.out.cell 0 rfl
      have x1 := bA8.out.cell 1 rfl
      have hee : ((hs.length : Int) == (hs.length : Int)) = true := by simp
      go_wp2_with fail
      go_ret
      exact ⟨rfl, hB8⟩
end Go.Proofs.Ytmffdjdgoddnjaa.fnWorldNew
