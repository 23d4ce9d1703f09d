/- What is drawn as a number: word, near, off of the reader. -/
import Derived.Test.YtdapgihghbmlfaaGreatDoorDraws
import Derived.Laws.Closers25b
namespace Go.Proofs.YtdapgihghbmlfaaGreatDoor
open Go.RowKit
theorem grown_on {a b c : World} {g : Nat} (h1 : a.grownBy b (some g)) (h2 : b.grownBy c (some g)) : a.grownBy c (some g) :=
  ⟨h2.os.trans h1.os, h2.tape.trans h1.tape, h2.output.trans h1.output, Nat.le_trans h1.size h2.size, fun b q e => (h2.block b (Nat.lt_of_lt_of_le q h1.size) e).trans (h1.block b q e)⟩
set_option maxHeartbeats 1000000 in
theorem word_any {w : World} {g : Nat} {a : Option Addr} {n cap : Nat} (h : RdAt w g a n cap) :
    Calls Tryz.prog 89 #[.pointer (some ⟨g, 0, none⟩)] w fun e w' => ∃ v : Int, e = .returned (.int .u64 v) ∧ 0 ≤ v ∧ v ≤ 18446744073709551615 ∧ RdAt w' g a n cap ∧ w.grownBy w' (some g) := by
  have h' : Hid (RdAt w g a n cap) := h
  clear h
  go_enter Tryz.func89, Tryz.ntmps89
  go_wp2_with fail
  go_loopw [3, 4] (fun x i wr => ∃ (j : Nat) (v : Int), j ≤ 8 ∧ i = .int .i64 j ∧ x = .int .u64 v ∧ 0 ≤ v ∧ v ≤ 18446744073709551615 ∧ Hid (RdAt wr g a n cap) ∧ Hid (w.grownBy wr (some g))) (fun _ i _ => 8 - (intOf i).toNat)
  case atStart => exact ⟨0, 0, by omega, rfl, rfl, by omega, by omega, h', grown_refl _ _⟩
  case round =>
    obtain ⟨j, v, hj, rfl, rfl, v0, v1, hr, hg⟩ := hrel
    by_cases hlt : j < 8
    · have hlt' : (j : Int) < 8 := by omega
      go_wp2_with fail
      refine (next_any hr.out).mono ?_
      rintro e w1 ⟨u, rfl, u0, u1, hr1, hg1⟩
      have hr1' : Hid (RdAt w1 g a n cap) := hr1
      have hg1' : Hid (wr.grownBy w1 (some g)) := hg1
      clear hr1 hg1
      go_wp2_with fail
      go_roundw
      case rel => exact ⟨j + 1, _, by omega, by go_num, rfl, bits_lo_u64 _ _ _, bits_hi_u64 _ _ _, hr1', grown_on hg.out hg1'.out⟩
      case measure => simp [intOf]; omega
    · go_wp2_with fail
      go_ret
      exact ⟨v, rfl, v0, v1, hr.out, hg.out⟩
set_option maxHeartbeats 2000000 in
theorem near_any {w : World} {g : Nat} {a : Option Addr} {n cap : Nat} (h : RdAt w g a n cap) (lo hi : Int) (h1 : InI lo) (h2 : InI hi) (h3 : 0 ≤ hi - lo) (h4 : hi - lo ≤ 1000000000000) :
    Calls Tryz.prog 81 #[.pointer (some ⟨g, 0, none⟩), .int .i64 lo, .int .i64 hi] w fun e w' => ∃ v : Int, e = .returned (.int .i64 v) ∧ (lo ≤ v ∧ v ≤ hi) ∧ RdAt w' g a n cap ∧ w.grownBy w' (some g) := by
  have h' : Hid (RdAt w g a n cap) := h
  unfold InI at h1 h2
  clear h
  go_enter Tryz.func81, Tryz.ntmps81
  go_wp2_with fail
  refine (below_any h'.out 8 (by omega) (by omega)).mono ?_
  rintro e w1 ⟨v, rfl, v0, v1, hr1, hg1⟩
  have hr1' : Hid (RdAt w1 g a n cap) := hr1
  have hg1' : Hid (w.grownBy w1 (some g)) := hg1
  clear hr1 hg1
  by_cases z0 : v = 0
  · subst z0
    go_wp2_with fail
    go_ret
    exact ⟨lo, rfl, by omega, hr1'.out, hg1'.out⟩
  by_cases z1 : v = 1
  · subst z1
    go_wp2_with fail
    go_ret
    exact ⟨hi, rfl, by omega, hr1'.out, hg1'.out⟩
  have hlt : ¬ hi < lo := by omega
  have hs : IntKind.i64.wrap (hi - lo) = hi - lo := by rw [IntKind.wrap_i64]; omega
  have hs2 : IntKind.i64.wrap (hi - lo + 1) = hi - lo + 1 := by rw [IntKind.wrap_i64]; omega
  go_wp2_with fail
  refine (word_any hr1'.out).mono ?_
  rintro e w2 ⟨x, rfl, x0, x1, hr2, hg2⟩
  have hr2' : Hid (RdAt w2 g a n cap) := hr2
  have hg2' : Hid (w.grownBy w2 (some g)) := grown_on hg1'.out hg2
  clear hr2 hg2
  have hnz : ¬ hi - lo + 1 = 0 := by omega
  go_wp2_with fail
  go_ret
  refine ⟨_, rfl, ?_, hr2'.out, hg2'.out⟩
  have q0 := Int.emod_nonneg (x / 2) hnz
  have q1 := Int.emod_lt_of_pos (x / 2) (show 0 < hi - lo + 1 by omega)
  generalize x / 2 % (hi - lo + 1) = y at q0 q1
  have e1 : wrap64 y = y := by unfold wrap64; omega
  have e2 : wrap64 (lo + y) = lo + y := by unfold wrap64; omega
  rw [e1, e2]
  omega
set_option maxHeartbeats 2000000 in
theorem off_any {w : World} {g : Nat} {a : Option Addr} {n cap : Nat} (h : RdAt w g a n cap) (lo hi : Int) (h1 : -9223372036854775808 < lo) (h2 : hi < 9223372036854775807) (h3 : 0 ≤ hi - lo) (h4 : hi - lo ≤ 1000000000000) :
    Calls Tryz.prog 63 #[.pointer (some ⟨g, 0, none⟩), .int .i64 lo, .int .i64 hi] w fun e w' => ∃ v : Int, e = .returned (.int .i64 v) ∧ InI v ∧ RdAt w' g a n cap ∧ w.grownBy w' (some g) := by
  have h' : Hid (RdAt w g a n cap) := h
  clear h
  go_enter Tryz.func63, Tryz.ntmps63
  go_wp2_with fail
  refine (once_any h'.out 24 (by omega) (by omega)).mono ?_
  rintro e w1 ⟨b, rfl, hr1, hg1⟩
  have hr1' : Hid (RdAt w1 g a n cap) := hr1
  have hg1' : Hid (w.grownBy w1 (some g)) := hg1
  clear hr1 hg1
  cases b with
  | false =>
    go_wp2_with fail
    refine (near_any hr1'.out lo hi (by unfold InI; omega) (by unfold InI; omega) h3 h4).mono ?_
    rintro e w2 ⟨v, rfl, hv, hr2, hg2⟩
    have hr2' : Hid (RdAt w2 g a n cap) := hr2
    have hg2' : Hid (w.grownBy w2 (some g)) := grown_on hg1'.out hg2
    clear hr2 hg2
    go_wp2_with fail
    go_ret
    exact ⟨v, rfl, by unfold InI; omega, hr2'.out, hg2'.out⟩
  | true =>
    have e1 : IntKind.i64.wrap (lo - 1) = lo - 1 := by rw [IntKind.wrap_i64]; omega
    have e2 : IntKind.i64.wrap (hi + 1) = hi + 1 := by rw [IntKind.wrap_i64]; omega
    go_wp2_with fail
    have hbX : Hid (Box (w1.alloc (.cells #[.int .i64 (lo - 1), .int .i64 (hi + 1), .int .i64 (-9223372036854775808), .int .i64 9223372036854775807] 2)) w1.heap.size [.int .i64 (lo - 1), .int .i64 (hi + 1), .int .i64 (-9223372036854775808), .int .i64 9223372036854775807] 2) := Box.new w1 _ _
    have hrA : Hid (RdAt (w1.alloc (.cells #[.int .i64 (lo - 1), .int .i64 (hi + 1), .int .i64 (-9223372036854775808), .int .i64 9223372036854775807] 2)) g a n cap) := hr1'.out.below ((Below.refl _ _).alloc (Nat.le_refl _) _)
    have hgA : Hid (w.grownBy (w1.alloc (.cells #[.int .i64 (lo - 1), .int .i64 (hi + 1), .int .i64 (-9223372036854775808), .int .i64 9223372036854775807] 2)) (some g)) := grown_on hg1'.out (grown_of_below ((Below.refl _ _).alloc (Nat.le_refl _) _) _)
    have hlt := hr1'.out.lt
    refine (below_any hrA.out 4 (by omega) (by omega)).mono ?_
    rintro e w2 ⟨v, rfl, v0, v1, hr2, hg2⟩
    have bx2 : Hid (Box w2 w1.heap.size [.int .i64 (lo - 1), .int .i64 (hi + 1), .int .i64 (-9223372036854775808), .int .i64 9223372036854775807] 2) := box_other hbX.out (by omega) hg2
    have hr2' : Hid (RdAt w2 g a n cap) := hr2
    have hg2' : Hid (w.grownBy w2 (some g)) := grown_on hgA.out hg2
    clear hr2 hg2
    obtain ⟨u, hu, hI⟩ : ∃ u : Int, w2.cell? ⟨w1.heap.size, v.toNat, none⟩ = some (.int .i64 u) ∧ InI u := by
      obtain ⟨k, rfl⟩ : ∃ k : Nat, v = k := ⟨v.toNat, by omega⟩
      match k, v1 with
      | 0, _ => exact ⟨_, bx2.out.cell 0 rfl, by unfold InI; omega⟩
      | 1, _ => exact ⟨_, bx2.out.cell 1 rfl, by unfold InI; omega⟩
      | 2, _ => exact ⟨_, bx2.out.cell 2 rfl, by unfold InI; omega⟩
      | 3, _ => exact ⟨_, bx2.out.cell 3 rfl, by unfold InI; omega⟩
      | k + 4, h => omega
    go_wp2_with fail
    go_ret
    exact ⟨u, rfl, hI, hr2'.out, hg2'.out⟩
end Go.Proofs.YtdapgihghbmlfaaGreatDoor
