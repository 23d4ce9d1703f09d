/- The functions eq.. of the laws return true of two that lie in memory as one and the same. -/
import Derived.Test.YtbodeijffpepfaaWdRecs
import Derived.Test.YtbodeijffpepfaaEqRecs
import Derived.WalkKit
namespace Go.Proofs.Ytbodeijffpepfaa
open Go.RowKit
set_option maxHeartbeats 1000000 in
theorem eqPost_any {w : World} {lo lo2 : Nat} {cs cs2 : List Value} {x : PostD} (hx : PostAt w lo cs x) (hx2 : PostAt w lo2 cs2 x) :
    Calls Try.prog 36 #[.agg cs.toArray, .agg cs2.toArray] w fun e w' => e = .returned (.bool true) ∧ Below w.heap.size w w' := by
  obtain ⟨rfl, rFrom, rTo, rText, _⟩ := hx
  obtain ⟨rfl, _⟩ := hx2
  have hb : Below w.heap.size w ((w.alloc (.cells (List.toArray [.int .i64 x.vFrom, .int .i64 x.vTo, .string x.vText]) 45)).alloc (.cells (List.toArray [.int .i64 x.vFrom, .int .i64 x.vTo, .string x.vText]) 45)) := ((Below.refl _ _).alloc (Nat.le_refl _) _).alloc (by simp) _
  go_enter Try.func36, Try.ntmps36
  go_wp2_with fail
  go_ret
  exact ⟨rfl, hb⟩
set_option maxHeartbeats 1000000 in
theorem eqPostS_any {w : World} {lo lo2 : Nat} {k k2 : Value} {xs : List PostD} (hk : SeqAt 3 PostAt w lo k xs) (hk2 : SeqAt 3 PostAt w lo2 k2 xs) :
    Calls Try.prog 20 #[k, k2] w fun e w' => e = .returned (.bool true) ∧ Below w.heap.size w w' := by
  obtain ⟨a, cap, rfl, hm, hx⟩ := hk
  obtain ⟨a2, cap2, rfl, _, hx2⟩ := hk2
  unfold maxLen at hm
  have hx' : Hid _ := hx
  have hx2' : Hid _ := hx2
  clear hx hx2
  go_enter Try.func20, Try.ntmps20
  go_wp2_with fail
  go_loopw [5] (fun i wr => ∃ (j : Nat), j ≤ xs.length ∧ i = .int .i64 j ∧ Below w.heap.size w wr) (fun i _ => xs.length - (intOf i).toNat)
  case atStart => exact ⟨0, by omega, rfl, Below.refl _ _⟩
  case round =>
    obtain ⟨j, hj, rfl, hb⟩ := hrel
    by_cases hlt : j < xs.length
    · obtain ⟨b, off, rfl, hlo, hbw, hc⟩ := hx'.out (by omega)
      obtain ⟨b2, off2, rfl, hlo2, hbw2, hc2⟩ := hx2'.out (by omega)
      obtain ⟨cs, hcl, lie, hr⟩ := hc j hlt
      obtain ⟨cs2, hcl2, lie2, hr2⟩ := hc2 j hlt
      have lie1 := Lie.keep (lo := lo) (lo' := lo) lie (.of_below hb) hlo hbw
      have lie3 := Lie.keep (lo := lo2) (lo' := lo2) lie2 (.of_below hb) hlo2 hbw2
      replace hr := PostAt_stays _ _ _ lo _ _ (.of_below hb.drew) hr
      replace hr2 := PostAt_stays _ _ _ lo2 _ _ (.of_below hb.drew) hr2
      generalize xs[j] = X at hr hr2
      have hr' : Hid (PostAt wr.drew lo cs X) := hr
      have hr2' : Hid (PostAt wr.drew lo2 cs2 X) := hr2
      obtain ⟨rfl, rFrom, rTo, rText, _⟩ := hr
      obtain ⟨rfl, _⟩ := hr2
      clear rFrom rTo rText
      have z0 := lie1 0 (by simp)
      have y0 := lie3 0 (by simp)
      have z1 := lie1 1 (by simp)
      have y1 := lie3 1 (by simp)
      have z2 := lie1 2 (by simp)
      have y2 := lie3 2 (by simp)
      simp only [List.getElem?_cons_zero, List.getElem?_cons_succ, Nat.add_zero] at z0 y0 z1 y1 z2 y2
      have hbr : b < wr.heap.size := by have := hb.size; omega
      have hbr2 : b2 < wr.heap.size := by have := hb.size; omega
      have hlt' : (j : Int) < (xs.length : Int) := by omega
      have h0' : (0 : Int) ≤ (j : Int) := by omega
      clear lie lie2 lie1 lie3 hcl hcl2 hx' hx2' hc hc2
      go_wp2_with fail
      go_region_held3 (fun w' => w'.cell? ⟨b, off + j * 3, none⟩ = some (.int .i64 X.vFrom) ∧ w'.cell? ⟨b, off + j * 3 + 1, none⟩ = some (.int .i64 X.vTo) ∧ w'.cell? ⟨b, off + j * 3 + 2, none⟩ = some (.string X.vText) ∧ w'.cell? ⟨b2, off2 + j * 3, none⟩ = some (.int .i64 X.vFrom) ∧ w'.cell? ⟨b2, off2 + j * 3 + 1, none⟩ = some (.int .i64 X.vTo) ∧ w'.cell? ⟨b2, off2 + j * 3 + 2, none⟩ = some (.string X.vText)) (go_keep) (first | (go_at_call 36; refine (eqPost_any (by exact hr'.out) (by exact hr2'.out)).mono ?_; rintro e w1 ⟨rfl, hb1⟩; have z0n := (hb1.cell (p := ⟨b, off + j * 3, none⟩) (by exact hbr)).trans z0; have z1n := (hb1.cell (p := ⟨b, off + j * 3 + 1, none⟩) (by exact hbr)).trans z1; have z2n := (hb1.cell (p := ⟨b, off + j * 3 + 2, none⟩) (by exact hbr)).trans z2; have y0n := (hb1.cell (p := ⟨b2, off2 + j * 3, none⟩) (by exact hbr2)).trans y0; have y1n := (hb1.cell (p := ⟨b2, off2 + j * 3 + 1, none⟩) (by exact hbr2)).trans y1; have y2n := (hb1.cell (p := ⟨b2, off2 + j * 3 + 2, none⟩) (by exact hbr2)).trans y2; have hb' : Below w.heap.size w w1 := hb.drew.trans (hb1.mono hb.size)))
      go_wp2_with fail
      go_roundw
      case rel => exact ⟨j + 1, by omega, by go_num, hb'⟩
      case measure => simp [intOf]; omega
    · go_wp2_with fail
      go_ret
      exact ⟨rfl, hb⟩
set_option maxHeartbeats 1000000 in
theorem eqWorld_any {w : World} {lo lo2 : Nat} {cs cs2 : List Value} {x : WorldD} (hx : WorldAt w lo cs x) (hx2 : WorldAt w lo2 cs2 x) :
    Calls Try.prog 8 #[.agg cs.toArray, .agg cs2.toArray] w fun e w' => e = .returned (.bool true) ∧ Below w.heap.size w w' := by
  obtain ⟨k0, k1, rfl, s0, s1, _⟩ := hx
  obtain ⟨l0, l1, rfl, t0, t1, _⟩ := hx2
  have s0' : Hid (SeqAt 5 HeapAt w lo k0 x.vHeaps) := s0
  have t0' : Hid (SeqAt 5 HeapAt w lo2 l0 x.vHeaps) := t0
  clear s0 t0
  have s1' : Hid (SeqAt 3 PostAt w lo k1 x.vPosts) := s1
  have t1' : Hid (SeqAt 3 PostAt w lo2 l1 x.vPosts) := t1
  clear s1 t1
  have hb : Below w.heap.size w ((w.alloc (.cells (List.toArray [k0, k1]) 31)).alloc (.cells (List.toArray [l0, l1]) 31)) := ((Below.refl _ _).alloc (Nat.le_refl _) _).alloc (by simp) _
  have bA : Hid (Box ((w.alloc (.cells (List.toArray [k0, k1]) 31)).alloc (.cells (List.toArray [l0, l1]) 31)) w.heap.size [k0, k1] 31) := (Box.new w _ _).alloc _
  have bB : Hid (Box ((w.alloc (.cells (List.toArray [k0, k1]) 31)).alloc (.cells (List.toArray [l0, l1]) 31)) (w.heap.size + 1) [l0, l1] 31) := by have := Box.new (w.alloc (.cells (List.toArray [k0, k1]) 31)) [l0, l1] 31; simpa [Hid] using this
  go_enter Try.func8, Try.ntmps8
  go_wp2_with fail
  refine (eqHeapS_any (s0'.out.below HeapAt_stays hb) (t0'.out.below HeapAt_stays hb)).mono ?_
  rintro e u0 ⟨rfl, hbc⟩
  replace hb := hb.trans (hbc.mono hb.size)
  replace bA : Hid (Box u0 w.heap.size [k0, k1] 31) := bA.out.below hbc bA.out.lt
  replace bB : Hid (Box u0 (w.heap.size + 1) [l0, l1] 31) := bB.out.below hbc bB.out.lt
  have tA0_0 := bA.out.cell 0 rfl
  have tB0_0 := bB.out.cell 0 rfl
  have tA0_1 := bA.out.cell 1 rfl
  have tB0_1 := bB.out.cell 1 rfl
  clear hbc
  go_wp2_with fail
  refine (eqPostS_any (s1'.out.below PostAt_stays hb) (t1'.out.below PostAt_stays hb)).mono ?_
  rintro e u1 ⟨rfl, hbc⟩
  replace hb := hb.trans (hbc.mono hb.size)
  replace bA : Hid (Box u1 w.heap.size [k0, k1] 31) := bA.out.below hbc bA.out.lt
  replace bB : Hid (Box u1 (w.heap.size + 1) [l0, l1] 31) := bB.out.below hbc bB.out.lt
  clear tA0_0 tB0_0 tA0_1 tB0_1
  have tA1_0 := bA.out.cell 0 rfl
  have tB1_0 := bB.out.cell 0 rfl
  have tA1_1 := bA.out.cell 1 rfl
  have tB1_1 := bB.out.cell 1 rfl
  clear hbc
  go_wp2_with fail
  go_ret
  exact ⟨rfl, hb⟩
end Go.Proofs.Ytbodeijffpepfaa
