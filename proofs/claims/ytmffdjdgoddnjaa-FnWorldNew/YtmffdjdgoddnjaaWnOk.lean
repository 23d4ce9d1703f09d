/- WorldOk of a new world; the draw of a number of origins. -/
import Derived.Test.YtmffdjdgoddnjaaWnSame
namespace Go.Proofs.Ytmffdjdgoddnjaa
open Go.RowKit
theorem implB_new : implB newH = true := by decide
theorem WorldAt_below {w w' : World} {lo : Nat} {cs : List Value} {hs : List HeapD} (h : WorldAt w lo cs hs) (hb : Below w.heap.size w w') : WorldAt w' lo cs hs := by
  obtain ⟨k, e, s⟩ := h
  exact ⟨k, e, s.below HeapAt_stays hb⟩
set_option maxRecDepth 100000 in
set_option maxHeartbeats 4000000 in
theorem worldOk_new {w : World} {lo : Nat} {cs : List Value} {hs : List HeapD} (hall : ∀ x ∈ hs, x = newH) (hl2 : 2 ≤ hs.length) (hl3 : hs.length ≤ 3) (h1 : WorldAt w lo cs hs) : Calls Try.prog 11 #[.agg cs.toArray] w fun e w' => e = .returned (.bool true) ∧ Below w.heap.size w w' := by
  obtain ⟨k1, rfl, s1⟩ := h1
  have s1' : Hid (SeqAt 5 HeapAt w lo k1 hs) := s1
  obtain ⟨a, c, rfl⟩ := s1.form
  have hall' : Hid (∀ x ∈ hs, x = newH) := hall
  clear s1 hall
  have hb0 : Hid (Below w.heap.size w (w.alloc (.cells (List.toArray [.slice a hs.length c, .slice none 0 0]) 28))) := (Below.refl _ _).alloc (Nat.le_refl _) _
  have bA : Hid (Box (w.alloc (.cells (List.toArray [.slice a hs.length c, .slice none 0 0]) 28)) w.heap.size [.slice a hs.length c, .slice none 0 0] 28) := Box.new w _ _
  have hv : inB (hs.length : Int) 2 3 = true := by simp [inB]; omega
  go_enter Try.func11, Try.ntmps11
  go_wp2_with fail
  refine originCountOk_any.mono ?_
  rintro e w' ⟨rfl, rfl⟩
  rw [hv]
  clear hv
  have x0 := bA.out.cell 0 rfl
  have x1 := bA.out.cell 1 rfl
  go_wp2_with fail
  clear x0 x1
  go_loopw [21] (fun i wr => ∃ j : Nat, j ≤ hs.length ∧ i = .int .i64 j ∧ Hid (Below w.heap.size w wr) ∧ Hid (Box wr w.heap.size [.slice a hs.length c, .slice none 0 0] 28)) (fun i _ => hs.length - (intOf i).toNat)
  case atStart => exact ⟨0, by omega, rfl, hb0, bA⟩
  case round =>
    obtain ⟨j, hj, rfl, hbr, bAr⟩ := hrel
    by_cases hlt : j < hs.length
    · obtain ⟨a_, cap_, e_, _, hc_⟩ := s1'.out
      injection e_ with e1 e2 e3
      subst e1 e3
      obtain ⟨ga, oa, rfl, _, hga, hc⟩ := hc_ (by omega)
      obtain ⟨cs1, hl1, lie1, hr1⟩ := hc j hlt
      have hx : hs[j] = newH := hall'.out _ (List.getElem_mem hlt)
      rw [hx] at hr1
      obtain ⟨gn, on_, cn2, an3, cn3, an4, cn4, n3, m3, n5, m5, rfl, hgn, hnn⟩ := newH_form hr1
      have hA : Hid (HeapAt wr lo [.int .i64 2, .int .i64 1, .slice (some ⟨gn, on_, none⟩) 1 cn2, .slice an3 0 cn3, .slice an4 0 cn4] newH) := HeapAt_stays _ _ _ _ _ _ (.of_below hbr.out) hr1
      have z0 : wr.cell? ⟨ga, oa + j * 5, none⟩ = some (.int .i64 2) := cell_on hbr.out (by have h5 := lie1 0 (by simp); simpa using h5)
      have z1 : wr.cell? ⟨ga, oa + j * 5 + 1, none⟩ = some (.int .i64 1) := cell_on hbr.out (by have h5 := lie1 1 (by simp); simpa using h5)
      have z2 : wr.cell? ⟨ga, oa + j * 5 + 2, none⟩ = some (.slice (some ⟨gn, on_, none⟩) 1 cn2) := cell_on hbr.out (by have h5 := lie1 2 (by simp); simpa using h5)
      have z3 : wr.cell? ⟨ga, oa + j * 5 + 3, none⟩ = some (.slice an3 0 cn3) := cell_on hbr.out (by have h5 := lie1 3 (by simp); simpa using h5)
      have z4 : wr.cell? ⟨ga, oa + j * 5 + 4, none⟩ = some (.slice an4 0 cn4) := cell_on hbr.out (by have h5 := lie1 4 (by simp); simpa using h5)
      have hlt' : (j : Int) < (hs.length : Int) := by omega
      have hj0 : (0 : Int) ≤ (j : Int) := by omega
      have hbk : Hid (Below wr.heap.size wr (wr.alloc (.cells (List.toArray [.int .i64 2, .int .i64 1, .slice (some ⟨gn, on_, none⟩) 1 cn2, .slice an3 0 cn3, .slice an4 0 cn4]) 37))) := (Below.refl _ _).alloc (Nat.le_refl _) _
      clear lie1 hl1 hc hc_ hr1 hx e2 hnn hgn
      go_wp2_with fail
      refine (implHeapOk_any (lo := lo) (HeapAt_stays _ _ _ _ _ _ (.of_below hbk.out) hA.out)).mono ?_
      rintro e w2 ⟨rfl, hb2⟩
      rw [implB_new]
      have hbn : Hid (Below wr.heap.size wr w2) := hbk.out.trans (hb2.mono hbk.out.size)
      clear z0 z1 z2 z3 z4
      go_wp2_with fail
      go_roundw
      case rel => exact ⟨j + 1, by omega, by go_num, hbr.out.trans (hbn.out.mono hbr.out.size), bAr.out.below hbn.out bAr.out.lt⟩
      case measure => simp [intOf]; omega
    · obtain rfl : j = hs.length := by omega
      have x1 := bAr.out.cell 1 rfl
      go_wp2_with fail
      clear x1
      obtain ⟨wo, rfl⟩ : ∃ wo, wo = wr := ⟨wr, rfl⟩
      go_loopw [32] (fun i wr => i = .int .i64 0 ∧ wr = wo) (fun _ _ => 0)
      case atStart => exact ⟨rfl, rfl⟩
      case round =>
        obtain ⟨rfl, rfl⟩ := hrel
        go_wp2_with fail
        go_ret
        exact ⟨rfl, hbr.out⟩
set_option maxHeartbeats 800000 in
theorem drawWn_any {w : World} {a : Option Addr} {n cap : Nat} (h : CodeAt w a n) :
    Calls Try.prog 5 #[.slice a n cap] w fun e w' => ∃ v : Int, e = .returned (.int .i64 v) ∧ InI v ∧ Below w.heap.size w w' := by
  have h' : Hid (CodeAt w a n) := h
  clear h
  go_enter Try.func5, Try.ntmps5
  go_wp2_with fail
  refine (open_any h'.out).mono ?_
  rintro e w1 ⟨g, rfl, hg, hr, hb1⟩
  have hr' : Hid (RdAt w1 g a n cap) := hr
  clear hr
  go_wp2_with fail
  refine (off_any hr'.out 2 3 (by omega) (by omega) (by omega) (by omega)).mono ?_
  rintro e w2 ⟨v, rfl, hv, _, hg2⟩
  have hB2 : Below w.heap.size w w2 := hb1.trans ((Below.refl _ _).grown hg2 hb1.size (fun k e => by injection e with e; omega))
  go_wp2_with fail
  go_ret
  exact ⟨v, rfl, hv, hB2⟩
theorem newWorld_cases (v : Int) : ∃ hs bb, newWorld v = (hs, bb) ∧ (∀ x ∈ hs, x = newH) ∧ hs.length ≤ 3 ∧ (bb = true → v = (hs.length : Int) ∧ 2 ≤ hs.length) := by
  unfold newWorld
  cases hc : inB v 2 3 with
  | false => exact ⟨_, _, rfl, by simp, by simp, by simp⟩
  | true =>
    have h : 2 ≤ v ∧ v ≤ 3 := by simpa [inB] using hc
    refine ⟨_, _, rfl, fun x hx => (List.mem_replicate.mp hx).2, ?_, fun _ => ⟨?_, ?_⟩⟩ <;> simp <;> omega
end Go.Proofs.Ytmffdjdgoddnjaa
