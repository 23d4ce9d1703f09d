/- What the functions sz.. of the laws return: a number below nothing, or what was measured is small. -/
import Derived.Test.YtbodeijffpepfaaWdRecs
import Derived.Test.YtbodeijffpepfaaSzRecs
import Derived.WalkKit
namespace Go.Proofs.Ytbodeijffpepfaa
open Go.RowKit
set_option maxHeartbeats 800000 in
theorem szPost_any {w : World} {lo : Nat} {cs : List Value} {x : PostD} {left : Int} (hx : PostAt w lo cs x) (h0 : 0 ≤ left) (h1 : left ≤ 1048576) :
    Calls Try.prog 22 #[.agg cs.toArray, .int .i64 left] w fun e w' => (∃ r : Int, e = .returned (.int .i64 r) ∧ r ≤ left ∧ -1 ≤ r ∧ (r < 0 ∨ x.small)) ∧ Below w.heap.size w w' := by
  obtain ⟨rfl, rFrom, rTo, rText, _⟩ := hx
  unfold maxLen at rText
  have hb0 : Below w.heap.size w (w.alloc (.cells (List.toArray [.int .i64 x.vFrom, .int .i64 x.vTo, .string x.vText]) 64)) := (Below.refl _ _).alloc (Nat.le_refl _) _
  have bx0 : Hid (Box (w.alloc (.cells (List.toArray [.int .i64 x.vFrom, .int .i64 x.vTo, .string x.vText]) 64)) w.heap.size [.int .i64 x.vFrom, .int .i64 x.vTo, .string x.vText] 64) := Box.new w _ _
  by_cases n0 : (left - (x.vText.size : Int)) < 0
  · go_enter Try.func22, Try.ntmps22
    go_wp2_with fail
    go_ret
    exact ⟨⟨-1, rfl, by omega, by omega, Or.inl (by omega)⟩, hb0⟩
  go_enter Try.func22, Try.ntmps22
  go_wp2_with fail
  go_ret
  exact ⟨⟨(left - (x.vText.size : Int)), rfl, by omega, by omega, Or.inr ⟨by omega, trivial⟩⟩, hb0⟩
set_option maxHeartbeats 800000 in
theorem szPostS_any {w : World} {lo : Nat} {k : Value} {xs : List PostD} {left : Int} (hk : SeqAt 3 PostAt w lo k xs) (h0 : 0 ≤ left) (h1 : left ≤ 1048576) :
    Calls Try.prog 10 #[k, .int .i64 left] w fun e w' => (∃ r : Int, e = .returned (.int .i64 r) ∧ r ≤ left ∧ -1 ≤ r ∧ (r < 0 ∨ AllS PostD.small xs)) ∧ Below w.heap.size w w' := by
  obtain ⟨a, cap, rfl, hm, hx⟩ := hk
  unfold maxLen at hm
  by_cases hneg : left - (xs.length : Int) < 0
  · clear hx
    go_enter Try.func10, Try.ntmps10
    go_wp2_with fail
    go_ret
    exact ⟨⟨-1, rfl, by omega, by omega, Or.inl (by omega)⟩, Below.refl _ _⟩
  · have hx' : Hid _ := hx
    clear hx
    go_enter Try.func10, Try.ntmps10
    go_wp2_with fail
    go_loopw [1, 5] (fun l i wr => ∃ (j : Nat) (r : Int), j ≤ xs.length ∧ i = .int .i64 j ∧ l = .int .i64 r ∧ 0 ≤ r ∧ r ≤ left ∧ Below w.heap.size w wr ∧ Hid (∀ i', (h : i' < xs.length) → i' < j → PostD.small xs[i'])) (fun _ i _ => xs.length - (intOf i).toNat)
    case atStart => exact ⟨0, left - xs.length, by omega, rfl, rfl, by omega, by omega, Below.refl _ _, fun i' _ h => absurd h (by omega)⟩
    case round =>
      obtain ⟨j, r, hj, rfl, rfl, hr0, hr1, hb, hs⟩ := hrel
      by_cases hlt : j < xs.length
      · obtain ⟨b, off, rfl, hlo, hbw, hc⟩ := hx'.out (by omega)
        obtain ⟨cs, hcl, lie, hr⟩ := hc j hlt
        have lie1 := Lie.keep (lo := lo) (lo' := lo) lie (.of_below hb) hlo hbw
        have hr2 := PostAt_stays _ _ _ lo _ _ (.of_below hb) hr
        generalize hX : xs[j] = X at hr2
        have hX' : Hid _ := hX
        have hr3 : Hid (PostAt wr lo cs X) := hr2
        clear hX hr lie hc
        obtain ⟨rfl, rFrom, rTo, rText, _⟩ := hr2
        clear rFrom rTo rText
        have z0 := lie1 0 (by simp)
        have z1 := lie1 1 (by simp)
        have z2 := lie1 2 (by simp)
        simp only [List.getElem?_cons_zero, List.getElem?_cons_succ, Nat.add_zero] at z0 z1 z2
        clear lie1 hcl hx'
        go_wp2_with fail
        refine (szPost_any hr3.out hr0 (by omega)).mono ?_
        rintro e w1 ⟨⟨r', rfl, hr', hr'', hsm⟩, hb1⟩
        have hb' : Below w.heap.size w w1 := hb.trans (hb1.mono hb.size)
        have hsm' : Hid (r' < 0 ∨ PostD.small X) := hsm
        clear hsm z0 z1 z2
        by_cases hneg' : r' < 0
        · go_wp2_with fail
          go_ret
          exact ⟨⟨-1, rfl, by omega, by omega, Or.inl (by omega)⟩, hb'⟩
        · go_wp2_with fail
          go_roundw
          case rel => exact ⟨j + 1, r', by omega, by go_num, rfl, by omega, by omega, hb', fun i' h hi' => by
            by_cases e : i' < j
            · exact hs.out i' h e
            · have e' : i' = j := by omega
              subst e'
              rw [hX'.out]
              exact hsm'.out.resolve_left (by omega)⟩
          case measure => simp [intOf]; omega
      · go_wp2_with fail
        go_ret
        exact ⟨⟨r, rfl, by omega, by omega, Or.inr ⟨by omega, fun i h => hs.out i h (by omega)⟩⟩, hb⟩
set_option maxHeartbeats 800000 in
theorem szWorld_any {w : World} {lo : Nat} {cs : List Value} {x : WorldD} {left : Int} (hx : WorldAt w lo cs x) (h0 : 0 ≤ left) (h1 : left ≤ 1048576) :
    Calls Try.prog 4 #[.agg cs.toArray, .int .i64 left] w fun e w' => (∃ r : Int, e = .returned (.int .i64 r) ∧ r ≤ left ∧ -1 ≤ r ∧ (r < 0 ∨ x.small)) ∧ Below w.heap.size w w' := by
  obtain ⟨k0, k1, rfl, s0, s1, _⟩ := hx
  have s0' : Hid (SeqAt 5 HeapAt w lo k0 x.vHeaps) := s0
  obtain ⟨a0, cap0, rfl⟩ := s0.form
  clear s0
  have s1' : Hid (SeqAt 3 PostAt w lo k1 x.vPosts) := s1
  obtain ⟨a1, cap1, rfl⟩ := s1.form
  clear s1
  have hb0 : Below w.heap.size w (w.alloc (.cells (List.toArray [.slice a0 x.vHeaps.length cap0, .slice a1 x.vPosts.length cap1]) 25)) := (Below.refl _ _).alloc (Nat.le_refl _) _
  have bx0 : Hid (Box (w.alloc (.cells (List.toArray [.slice a0 x.vHeaps.length cap0, .slice a1 x.vPosts.length cap1]) 25)) w.heap.size [.slice a0 x.vHeaps.length cap0, .slice a1 x.vPosts.length cap1] 25) := Box.new w _ _
  go_enter Try.func4, Try.ntmps4
  go_wp2_with fail
  refine (szHeapS_any (s0'.out.below HeapAt_stays hb0) (by omega) (by omega)).mono ?_
  rintro e u0 ⟨⟨r0, rfl, p0, q0, m0⟩, hbc⟩
  have hb1 : Below w.heap.size w u0 := hb0.trans (hbc.mono hb0.size)
  have bx1 : Hid (Box u0 w.heap.size [.slice a0 x.vHeaps.length cap0, .slice a1 x.vPosts.length cap1] 25) := bx0.out.below hbc bx0.out.lt
  have t0_0 := bx1.out.cell 0 rfl
  have t0_1 := bx1.out.cell 1 rfl
  have m0' : Hid (r0 < 0 ∨ AllS HeapD.small x.vHeaps) := m0
  clear m0 hbc
  by_cases n0 : r0 < 0
  · go_wp2_with fail
    go_ret
    exact ⟨⟨-1, rfl, by omega, by omega, Or.inl (by omega)⟩, hb1⟩
  go_wp2_with fail
  refine (szPostS_any (s1'.out.below PostAt_stays hb1) (by omega) (by omega)).mono ?_
  rintro e u1 ⟨⟨r1, rfl, p1, q1, m1⟩, hbc⟩
  have hb2 : Below w.heap.size w u1 := hb1.trans (hbc.mono hb1.size)
  have bx2 : Hid (Box u1 w.heap.size [.slice a0 x.vHeaps.length cap0, .slice a1 x.vPosts.length cap1] 25) := bx1.out.below hbc bx1.out.lt
  have t1_0 := bx2.out.cell 0 rfl
  have t1_1 := bx2.out.cell 1 rfl
  have m1' : Hid (r1 < 0 ∨ AllS PostD.small x.vPosts) := m1
  clear m1 hbc t0_0 t0_1
  by_cases n1 : r1 < 0
  · go_wp2_with fail
    go_ret
    exact ⟨⟨-1, rfl, by omega, by omega, Or.inl (by omega)⟩, hb2⟩
  go_wp2_with fail
  go_ret
  exact ⟨⟨r1, rfl, by omega, by omega, Or.inr ⟨m0'.out.resolve_left (by omega), m1'.out.resolve_left (by omega), trivial⟩⟩, hb2⟩
end Go.Proofs.Ytbodeijffpepfaa
