/- The walk of FnArenaNew. -/
import Derived.Test.YtlgandgkfjngmaaArnPlain
import Derived.Test.YtlgandgkfjngmaaArnSame
import Derived.ProofKit
namespace Go.Proofs.Ytlgandgkfjngmaa.fnArenaNew
open Go.RowKit
theorem big_any {a : Option Addr} {n cap : Nat} (w : World) : Calls Try.prog 8 #[.slice a n cap] w fun e w' => e = .returned (.bool (decide ((1048576 : Int) < (n : Int)))) ∧ w' = w := by
  go_enter Try.func8, Try.ntmps8
  go_wp2_with fail
  go_ret
  exact ⟨rfl, rfl⟩
theorem newA_cases (v : Int) : ∃ td bb, newA v = (td, bb) ∧ (bb = true → ∃ m : Nat, v = (m : Int) ∧ 1 ≤ m ∧ m ≤ 12 ∧ td = stA m 0) := by
  cases hc : inB v 1 12 with
  | false => exact ⟨_, _, newA_no hc, fun e => by cases e⟩
  | true =>
    have h : 1 ≤ v ∧ v ≤ 12 := by simpa [inB] using hc
    refine ⟨_, _, newA_yes hc, fun _ => ⟨v.toNat, by omega, by omega, by omega, (stA_zero _).symm⟩⟩
theorem ans_open {w w' : World} {cs : List Value} {x : ArenaD} (h : AnsA w w' cs x) : ∃ p d q e fs, cs = [.slice p x.vSlots.length d, .slice q x.vFree.length e] ∧ ArenaOwn w' [.slice p x.vSlots.length d, .slice q x.vFree.length e] x fs ∧ (∀ b ∈ fs, w.heap.size ≤ b) ∧ ∀ b ∈ fs, b < w'.heap.size := by
  obtain ⟨fs, ho, _, hl⟩ := h
  have hlt := ArenaOwn_lt _ _ _ _ ho
  have ho2 := ho
  obtain ⟨_, _, _, _, rfl, s1, s2, _⟩ := ho
  obtain ⟨p, d, rfl⟩ := s1.form
  obtain ⟨q, e, rfl⟩ := s2.form
  exact ⟨p, d, q, e, fs, rfl, ho2, hl, hlt⟩
set_option maxRecDepth 100000 in
set_option maxHeartbeats 4000000 in
theorem walk {a : Option Addr} {n cap : Nat} (w : World) (hlen : n ≤ maxLen) (hcode : n ≤ 1048576 → CodeAt w a n) :
    Calls Try.prog 6 #[.slice a n cap] w fun e w' => e = .returned (.bool true) ∧ Below w.heap.size w w' := by
  unfold maxLen at hlen
  by_cases hbig : (1048576 : Int) < (n : Int)
  · clear hcode
    go_enter Try.func6, Try.ntmps6
    go_wp2_with (go_at_call 8; refine (big_any _).mono ?_; rintro e w' ⟨rfl, rfl⟩; rw [decide_eq_true hbig])
    go_ret
    exact ⟨rfl, Below.refl _ _⟩
  have hc' : Hid (CodeAt w a n) := hcode (by omega)
  clear hcode
  go_enter Try.func6, Try.ntmps6
  go_wp2_with fail
  refine (big_any _).mono ?_
  rintro e w0 ⟨rfl, rfl⟩
  rw [decide_eq_false (show ¬ (1048576 : Int) < (n : Int) by omega)]
  go_wp2_with fail
  refine (drawNew_any hc'.out).mono ?_
  rintro e w2 ⟨v, rfl, hv, hB2⟩
  clear hc'
  obtain ⟨td, bb, hYS, hbb⟩ := newA_cases v
  have hYS' : Hid (newA v = (td, bb)) := hYS
  have hbbH : Hid (bb = true → ∃ m : Nat, v = (m : Int) ∧ 1 ≤ m ∧ m ≤ 12 ∧ td = stA m 0) := hbb
  clear hYS hbb
  go_wp2_with fail
  refine implArenaNew_any.mono ?_
  rintro e w3 ⟨⟨cs3, rfl, ans3⟩, hb3⟩
  rw [hYS'.out] at ans3 ⊢
  dsimp only at ans3 ⊢
  obtain ⟨p3, d3, q3, e3, f3, rfl, own3, hl3, hlt3⟩ := ans_open ans3
  have hB3 : Below w0.heap.size w0 w3 := hB2.trans (hb3.mono hB2.size)
  have hlt3h : Hid (∀ b ∈ f3, b < w3.heap.size) := hlt3
  have own3A : Hid (ArenaOwn (w3.alloc (.cells (List.toArray [.slice p3 td.vSlots.length d3, .slice q3 td.vFree.length e3]) 27)) [.slice p3 td.vSlots.length d3, .slice q3 td.vFree.length e3] td f3) := ArenaOwn_stays _ _ _ _ _ (fun b m => Below.heap_alloc _ _ _ (hlt3 b m)) own3
  have bA3 : Hid (Box (w3.alloc (.cells (List.toArray [.slice p3 td.vSlots.length d3, .slice q3 td.vFree.length e3]) 27)) w3.heap.size [.slice p3 td.vSlots.length d3, .slice q3 td.vFree.length e3] 27) := Box.new w3 _ _
  have hB3A : Below w0.heap.size w0 (w3.alloc (.cells (List.toArray [.slice p3 td.vSlots.length d3, .slice q3 td.vFree.length e3]) 27)) := hB3.alloc hB3.size _
  clear ans3 hb3 own3 hl3 hlt3
  go_wp2_with fail
  refine specArenaNew_any.mono ?_
  rintro e w4 ⟨⟨cs4, rfl, ans4⟩, hb4⟩
  rw [hYS'.out] at ans4 ⊢
  dsimp only at ans4 ⊢
  obtain ⟨p4, d4, q4, e4, f4, rfl, own4, hl4, hlt4⟩ := ans_open ans4
  have hB4 : Below w0.heap.size w0 w4 := hB3A.trans (hb4.mono hB3A.size)
  have s34 : w3.heap.size < w4.heap.size := by have := hb4.size; simp at this; omega
  have bA4 : Hid (Box w4 w3.heap.size [.slice p3 td.vSlots.length d3, .slice q3 td.vFree.length e3] 27) := bA3.out.below hb4 bA3.out.lt
  have own34 : Hid (ArenaOwn w4 [.slice p3 td.vSlots.length d3, .slice q3 td.vFree.length e3] td f3) := ArenaOwn_stays _ _ _ _ _ (fun b m => hb4.block b (ArenaOwn_lt _ _ _ _ own3A.out b m)) own3A.out
  have at4 : Hid (ArenaAt w4 0 [.slice p4 td.vSlots.length d4, .slice q4 td.vFree.length e4] td) := ArenaOwn_at (lo := 0) _ _ _ _ own4 (fun _ _ => Nat.zero_le _)
  clear ans4 own4 hl4 hlt4 hb4 own3A bA3
  have hbW : Below w4.heap.size w4 (w4.alloc (.cells (List.toArray [.slice p4 td.vSlots.length d4, .slice q4 td.vFree.length e4]) 27)) := (Below.refl _ _).alloc (Nat.le_refl _) _
  have bA5 : Hid (Box (w4.alloc (.cells (List.toArray [.slice p4 td.vSlots.length d4, .slice q4 td.vFree.length e4]) 27)) w3.heap.size [.slice p3 td.vSlots.length d3, .slice q3 td.vFree.length e3] 27) := bA4.out.alloc _
  have bB5 : Hid (Box (w4.alloc (.cells (List.toArray [.slice p4 td.vSlots.length d4, .slice q4 td.vFree.length e4]) 27)) w4.heap.size [.slice p4 td.vSlots.length d4, .slice q4 td.vFree.length e4] 27) := Box.new w4 _ _
  have own35 : Hid (ArenaOwn (w4.alloc (.cells (List.toArray [.slice p4 td.vSlots.length d4, .slice q4 td.vFree.length e4]) 27)) [.slice p3 td.vSlots.length d3, .slice q3 td.vFree.length e3] td f3) := ArenaOwn_stays _ _ _ _ _ (fun b m => hbW.block b (ArenaOwn_lt _ _ _ _ own34.out b m)) own34.out
  have at5 : Hid (ArenaAt (w4.alloc (.cells (List.toArray [.slice p4 td.vSlots.length d4, .slice q4 td.vFree.length e4]) 27)) 0 [.slice p4 td.vSlots.length d4, .slice q4 td.vFree.length e4] td) := ArenaAt_stays _ _ _ 0 _ _ (.of_below hbW) at4.out
  have hB5 : Below w0.heap.size w0 (w4.alloc (.cells (List.toArray [.slice p4 td.vSlots.length d4, .slice q4 td.vFree.length e4]) 27)) := hB4.trans (hbW.mono hB4.size)
  have hbn : (bb != bb) = false := by simp
  have hbe : (bb == bb) = true := by simp
  have x50 := bA5.out.cell 0 rfl
  have x51 := bA5.out.cell 1 rfl
  clear bA4 own34 at4 hbW
  go_wp2_with fail
  refine (sameArena_any (ArenaOwn_at (lo := 0) _ _ _ _ own35.out (fun _ _ => Nat.zero_le _)) at5.out).mono ?_
  rintro e w6 ⟨rfl, hb6⟩
  have hB6 : Below w0.heap.size w0 w6 := hB5.trans (hb6.mono hB5.size)
  have bA6 : Hid (Box w6 w3.heap.size [.slice p3 td.vSlots.length d3, .slice q3 td.vFree.length e3] 27) := bA5.out.below hb6 bA5.out.lt
  have bB6 : Hid (Box w6 w4.heap.size [.slice p4 td.vSlots.length d4, .slice q4 td.vFree.length e4] 27) := bB5.out.below hb6 bB5.out.lt
  have own36 : Hid (ArenaOwn w6 [.slice p3 td.vSlots.length d3, .slice q3 td.vFree.length e3] td f3) := ArenaOwn_stays _ _ _ _ _ (fun b m => hb6.block b (ArenaOwn_lt _ _ _ _ own35.out b m)) own35.out
  have at6 : Hid (ArenaAt w6 0 [.slice p4 td.vSlots.length d4, .slice q4 td.vFree.length e4] td) := ArenaAt_stays _ _ _ 0 _ _ (.of_below hb6) at5.out
  have s46 : w4.heap.size < w6.heap.size := bB6.out.lt
  clear bA5 bB5 own35 at5 hb6 x50 x51
  have y0 := bA6.out.cell 0 rfl
  have y1 := bA6.out.cell 1 rfl
  have y2 := bB6.out.cell 0 rfl
  have y3 := bB6.out.cell 1 rfl
  cases bb with
  | false =>
    go_wp2_with fail
    refine (sameArena_any (ArenaOwn_at (lo := 0) _ _ _ _ own36.out (fun _ _ => Nat.zero_le _)) at6.out).mono ?_
    rintro e w7 ⟨rfl, hb7⟩
    go_wp2_with fail
    go_ret
    exact ⟨rfl, hB6.trans (hb7.mono hB6.size)⟩
  | true =>
  obtain ⟨m, rfl, hm1, hm2, rfl⟩ := hbbH.out rfl
  clear hbbH at6 bB6 y2 y3 hbn hbe
  have hlS : (stA m 0).vSlots.length = m := stS_len m 0
  have hlF : (stA m 0).vFree.length = m := by have h := stF_len m 0; rw [Nat.sub_zero] at h; exact h
  rw [hlS] at y0
  rw [hlF] at y1
  rw [hlS, hlF] at bA6 own36
  have hlSH : Hid _ := hlS
  clear hlS hlF
  have bC7 : Hid (Box (w6.alloc (.cells (List.toArray [.slice p3 m d3, .slice q3 m e3]) 27)) w6.heap.size [.slice p3 m d3, .slice q3 m e3] 27) := Box.new w6 _ _
  have bA7 : Hid (Box (w6.alloc (.cells (List.toArray [.slice p3 m d3, .slice q3 m e3]) 27)) w3.heap.size [.slice p3 m d3, .slice q3 m e3] 27) := bA6.out.alloc _
  have own37 : Hid (ArenaOwn (w6.alloc (.cells (List.toArray [.slice p3 m d3, .slice q3 m e3]) 27)) [.slice p3 m d3, .slice q3 m e3] (stA m 0) f3) := ArenaOwn_stays _ _ _ _ _ (fun b k => Below.heap_alloc _ _ _ (ArenaOwn_lt _ _ _ _ own36.out b k)) own36.out
  have hB7 : Below w0.heap.size w0 (w6.alloc (.cells (List.toArray [.slice p3 m d3, .slice q3 m e3]) 27)) := hB6.alloc hB6.size _
  have s67 : w6.heap.size < (w6.alloc (.cells (List.toArray [.slice p3 m d3, .slice q3 m e3]) 27)).heap.size := by simp
  have at7 : Hid (ArenaAt (w6.alloc (.cells (List.toArray [.slice p3 m d3, .slice q3 m e3]) 27)) 0 [.slice p3 m d3, .slice q3 m e3] (stA m 0)) := ArenaOwn_at (lo := 0) _ _ _ _ own37.out (fun _ _ => Nat.zero_le _)
  have h06 : w0.heap.size ≤ w6.heap.size := hB6.size
  have g70 := bA7.out.cell 0 rfl
  have g71 := bA7.out.cell 1 rfl
  have hf3 : Hid (∀ b ∈ f3, b < w3.heap.size) := hlt3h.out
  go_wp2_with fail
  go_loopw [9] (fun i wr => ∃ (j : Nat) (pp : Option Addr) (dd : Nat) (qp : Option Addr) (ee ls lf : Nat), j ≤ m ∧ i = .int .i64 j ∧ Below w0.heap.size w0 wr ∧ w6.heap.size < wr.heap.size ∧ Hid (Box wr w6.heap.size [.slice pp ls dd, .slice qp lf ee] 27) ∧ Hid (Box wr w3.heap.size [.slice p3 m d3, .slice q3 m e3] 27) ∧ Hid (ArenaOwn wr [.slice p3 m d3, .slice q3 m e3] (stA m 0) f3) ∧ Hid (ArenaAt wr 0 [.slice pp ls dd, .slice qp lf ee] (stA m j))) (fun i _ => m - (intOf i).toNat)
  case atStart => exact ⟨0, _, _, _, _, _, _, by omega, rfl, hB7, s67, bC7, bA7, own37, at7⟩
  case round =>
    clear g70 g71
    obtain ⟨j, pp, dd, qp, ee, ls, lf, hj, rfl, hb, hsz, bC, bA, own3, atj⟩ := hrel
    have c0 := bC.out.cell 0 rfl
    have c1 := bC.out.cell 1 rfl
    by_cases hlt : j < m
    · have hlt' : (j : Int) < (m : Int) := by omega
      have HA : Hid _ := stA_alloc hm1 hm2 hlt
      go_wp2_with fail
      refine (implAllocated_any atj.out (by decide)).mono ?_
      rintro e w8 ⟨⟨cs8, rfl, ans8⟩, hb8⟩
      rw [HA.out] at ans8 ⊢
      dsimp only at ans8 ⊢
      obtain ⟨p8, d8, q8, e8, f8, rfl, own8, hl8, hlt8⟩ := ans_open ans8
      have hB8 : Below w0.heap.size w0 w8 := hb.trans (hb8.mono hb.size)
      have s8 := hb8.size
      have bC8 : Hid (Box w8 w6.heap.size [.slice pp ls dd, .slice qp lf ee] 27) := bC.out.below hb8 bC.out.lt
      have bA8 : Hid (Box w8 w3.heap.size [.slice p3 m d3, .slice q3 m e3] 27) := bA.out.below hb8 bA.out.lt
      have own38 : Hid (ArenaOwn w8 [.slice p3 m d3, .slice q3 m e3] (stA m 0) f3) := ArenaOwn_stays _ _ _ _ _ (fun b k => hb8.block b (ArenaOwn_lt _ _ _ _ own3.out b k)) own3.out
      have own8h : Hid (ArenaOwn w8 [.slice p8 (stA m (j + 1)).vSlots.length d8, .slice q8 (stA m (j + 1)).vFree.length e8] (stA m (j + 1)) f8) := own8
      have hl8h : Hid (∀ b ∈ f8, wr.heap.size ≤ b ∧ b < w8.heap.size) := fun b k => ⟨hl8 b k, hlt8 b k⟩
      generalize (stA m (j + 1)).vSlots.length = ls8 at own8h ⊢
      generalize (stA m (j + 1)).vFree.length = lf8 at own8h ⊢
      clear ans8 own8 hl8 hlt8 hb8 c0 c1 bC bA own3
      have bC9 : Hid (Box ((w8.alloc (.cells (List.toArray [.slice p8 ls8 d8, .slice q8 lf8 e8]) 27)).alloc (.cells (List.toArray [.int .i64 (j : Int), .int .i64 1]) 31)) w6.heap.size [.slice pp ls dd, .slice qp lf ee] 27) := (bC8.out.alloc _).alloc _
      have c90 := bC9.out.cell 0 rfl
      have c91 := bC9.out.cell 1 rfl
      have c9u := bC9.out.unfrozen
      have hB9 : Below w0.heap.size w0 ((w8.alloc (.cells (List.toArray [.slice p8 ls8 d8, .slice q8 lf8 e8]) 27)).alloc (.cells (List.toArray [.int .i64 (j : Int), .int .i64 1]) 31)) := (hB8.alloc hB8.size _).alloc (by have := hB8.size; simp; omega) _
      have hbA9 : Below w8.heap.size w8 ((w8.alloc (.cells (List.toArray [.slice p8 ls8 d8, .slice q8 lf8 e8]) 27)).alloc (.cells (List.toArray [.int .i64 (j : Int), .int .i64 1]) 31)) := ((Below.refl _ _).alloc (Nat.le_refl _) _).alloc (by simp) _
      have kF : Hid (∀ b, b < w8.heap.size → b ≠ w6.heap.size → ((((w8.alloc (.cells (List.toArray [.slice p8 ls8 d8, .slice q8 lf8 e8]) 27)).alloc (.cells (List.toArray [.int .i64 (j : Int), .int .i64 1]) 31)).setCell ⟨w6.heap.size, 0, none⟩ (.slice p8 ls8 d8)).setCell ⟨w6.heap.size, 1, none⟩ (.slice q8 lf8 e8)).heap[b]? = w8.heap[b]?) := fun b k1 k2 => ((set_other k2 _).trans (set_other k2 _)).trans (hbA9.block b k1)
      have bCF : Hid (Box ((((w8.alloc (.cells (List.toArray [.slice p8 ls8 d8, .slice q8 lf8 e8]) 27)).alloc (.cells (List.toArray [.int .i64 (j : Int), .int .i64 1]) 31)).setCell ⟨w6.heap.size, 0, none⟩ (.slice p8 ls8 d8)).setCell ⟨w6.heap.size, 1, none⟩ (.slice q8 lf8 e8)) w6.heap.size [.slice p8 ls8 d8, .slice q8 lf8 e8] 27) := (bC9.out.set _).set _
      have bAF : Hid (Box ((((w8.alloc (.cells (List.toArray [.slice p8 ls8 d8, .slice q8 lf8 e8]) 27)).alloc (.cells (List.toArray [.int .i64 (j : Int), .int .i64 1]) 31)).setCell ⟨w6.heap.size, 0, none⟩ (.slice p8 ls8 d8)).setCell ⟨w6.heap.size, 1, none⟩ (.slice q8 lf8 e8)) w3.heap.size [.slice p3 m d3, .slice q3 m e3] 27) := (kF.out _ bA8.out.lt (by omega)).trans bA8.out
      have oF : Hid (ArenaOwn ((((w8.alloc (.cells (List.toArray [.slice p8 ls8 d8, .slice q8 lf8 e8]) 27)).alloc (.cells (List.toArray [.int .i64 (j : Int), .int .i64 1]) 31)).setCell ⟨w6.heap.size, 0, none⟩ (.slice p8 ls8 d8)).setCell ⟨w6.heap.size, 1, none⟩ (.slice q8 lf8 e8)) [.slice p3 m d3, .slice q3 m e3] (stA m 0) f3) := ArenaOwn_stays _ _ _ _ _ (fun b k => kF.out b (ArenaOwn_lt _ _ _ _ own38.out b k) (by have := hf3.out b k; omega)) own38.out
      have aF : Hid (ArenaAt ((((w8.alloc (.cells (List.toArray [.slice p8 ls8 d8, .slice q8 lf8 e8]) 27)).alloc (.cells (List.toArray [.int .i64 (j : Int), .int .i64 1]) 31)).setCell ⟨w6.heap.size, 0, none⟩ (.slice p8 ls8 d8)).setCell ⟨w6.heap.size, 1, none⟩ (.slice q8 lf8 e8)) 0 [.slice p8 ls8 d8, .slice q8 lf8 e8] (stA m (j + 1))) := ArenaOwn_at (lo := 0) _ _ _ _ (ArenaOwn_stays _ _ _ _ _ (fun b k => kF.out b (hl8h.out b k).2 (by have := (hl8h.out b k).1; omega)) own8h.out) (fun _ _ => Nat.zero_le _)
      have bF : Below w0.heap.size w0 ((((w8.alloc (.cells (List.toArray [.slice p8 ls8 d8, .slice q8 lf8 e8]) 27)).alloc (.cells (List.toArray [.int .i64 (j : Int), .int .i64 1]) 31)).setCell ⟨w6.heap.size, 0, none⟩ (.slice p8 ls8 d8)).setCell ⟨w6.heap.size, 1, none⟩ (.slice q8 lf8 e8)) := (hB9.setCell (by exact h06) _).setCell (by exact h06) _
      have sF : w6.heap.size < ((((w8.alloc (.cells (List.toArray [.slice p8 ls8 d8, .slice q8 lf8 e8]) 27)).alloc (.cells (List.toArray [.int .i64 (j : Int), .int .i64 1]) 31)).setCell ⟨w6.heap.size, 0, none⟩ (.slice p8 ls8 d8)).setCell ⟨w6.heap.size, 1, none⟩ (.slice q8 lf8 e8)).heap.size := by rw [set_size, set_size]; simp; omega
      go_wp2_with fail
      go_roundw
      case rel => exact ⟨j + 1, _, _, _, _, _, _, by omega, by go_num, bF, sF, bCF, bAF, oF, aF⟩
      case measure => simp [intOf]; omega
    · obtain rfl : j = m := by omega
      have HA : Hid _ := stA_full (m := j)
      go_wp2_with fail
      refine (implAllocated_any atj.out (by decide)).mono ?_
      rintro e w8 ⟨⟨cs8, rfl, ans8⟩, hb8⟩
      rw [HA.out] at ans8 ⊢
      dsimp only at ans8 ⊢
      obtain ⟨p8, d8, q8, e8, f8, rfl, _, _, _⟩ := ans_open ans8
      have hB8 : Below w0.heap.size w0 w8 := hb.trans (hb8.mono hb.size)
      have bA8 : Hid (Box w8 w3.heap.size [.slice p3 j d3, .slice q3 j e3] 27) := bA.out.below hb8 bA.out.lt
      have own38 : Hid (ArenaOwn w8 [.slice p3 j d3, .slice q3 j e3] (stA j 0) f3) := ArenaOwn_stays _ _ _ _ _ (fun b k => hb8.block b (ArenaOwn_lt _ _ _ _ own3.out b k)) own3.out
      generalize nilA.vSlots.length = ls8
      generalize nilA.vFree.length = lf8
      clear ans8 hb8 c0 c1 bC bA own3
      have bA9 : Hid (Box ((w8.alloc (.cells (List.toArray [.slice p8 ls8 d8, .slice q8 lf8 e8]) 27)).alloc (.cells (List.toArray [.int .i64 0, .int .i64 0]) 31)) w3.heap.size [.slice p3 j d3, .slice q3 j e3] 27) := (bA8.out.alloc _).alloc _
      have hbA9 : Below w8.heap.size w8 ((w8.alloc (.cells (List.toArray [.slice p8 ls8 d8, .slice q8 lf8 e8]) 27)).alloc (.cells (List.toArray [.int .i64 0, .int .i64 0]) 31)) := ((Below.refl _ _).alloc (Nat.le_refl _) _).alloc (by simp) _
      have hB9 : Below w0.heap.size w0 ((w8.alloc (.cells (List.toArray [.slice p8 ls8 d8, .slice q8 lf8 e8]) 27)).alloc (.cells (List.toArray [.int .i64 0, .int .i64 0]) 31)) := hB8.trans (hbA9.mono hB8.size)
      have at9 : Hid (ArenaAt ((w8.alloc (.cells (List.toArray [.slice p8 ls8 d8, .slice q8 lf8 e8]) 27)).alloc (.cells (List.toArray [.int .i64 0, .int .i64 0]) 31)) 0 [.slice p3 j d3, .slice q3 j e3] (stA j 0)) := ArenaAt_stays _ _ _ 0 _ _ (.of_below hbA9) (ArenaOwn_at (lo := 0) _ _ _ _ own38.out (fun _ _ => Nat.zero_le _))
      have c90 := bA9.out.cell 0 rfl
      have c91 := bA9.out.cell 1 rfl
      have hRB : rightB (stA j 0) = true := rightB_true (stA_right hm1 hm2 (Nat.zero_le _))
      go_wp2_with fail
      refine (implArenaOk_any at9.out).mono ?_
      rintro e w10 ⟨rfl, hb10⟩
      rw [hRB]
      have hB10 : Below w0.heap.size w0 w10 := hB9.trans (hb10.mono hB9.size)
      have at10 : Hid (ArenaAt w10 0 [.slice p3 j d3, .slice q3 j e3] (stA j 0)) := ArenaAt_stays _ _ _ 0 _ _ (.of_below hb10) at9.out
      have bA10 : Hid (Box w10 w3.heap.size [.slice p3 j d3, .slice q3 j e3] 27) := bA9.out.below hb10 bA9.out.lt
      have c100 := bA10.out.cell 0 rfl
      have c101 := bA10.out.cell 1 rfl
      clear c90 c91 at9 bA9 hb10
      go_wp2_with fail
      refine (implHandlesOf_any at10.out).mono ?_
      rintro e w11 ⟨⟨k11, f11, rfl, own11, _, _⟩, hb11⟩
      rw [stA_handles] at own11
      obtain ⟨a11, c11, rfl⟩ := own11.form
      simp only [List.length_nil]
      clear own11
      go_wp2_with fail
      go_ret
      exact ⟨rfl, hB10.trans (hb11.mono hB10.size)⟩
end Go.Proofs.Ytlgandgkfjngmaa.fnArenaNew
