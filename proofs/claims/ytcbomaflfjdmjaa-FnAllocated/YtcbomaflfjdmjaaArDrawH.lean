/- (*l1Rd).handle: some handle is drawn. -/
import Derived.Test.YtcbomaflfjdmjaaArDst
namespace Go.Proofs.Ytcbomaflfjdmjaa
open Go.RowKit Go.Deep
theorem grown_set2 {w W : World} {g N : Nat} (h : w.grownBy W (some g)) (hN : w.heap.size ≤ N) (u v : Value) : w.grownBy ((World.setCell W ⟨N, 0, none⟩ u).setCell ⟨N, 1, none⟩ v) (some g) :=
  ⟨h.os, h.tape, h.output, by rw [set_size, set_size]; exact h.size, fun b hb hne => by rw [set_other (by omega), set_other (by omega)]; exact h.block b hb hne⟩
set_option maxRecDepth 100000 in
set_option maxHeartbeats 4000000 in
theorem handle_any {w : World} {g : Nat} {a : Option Addr} {n cap : Nat} {k0 k1 : Value} {x : ArenaD} (h : RdAt w g a n cap) (hx : ArenaAt w 0 [k0, k1] x) :
    Calls Try.prog 38 #[.pointer (some ⟨g, 0, none⟩), .agg #[k0, k1]] w fun e w' => (∃ hA hX : Int, e = .returned (.agg #[.int .i64 hA, .int .i64 hX])) ∧ RdAt w' g a n cap ∧ w.grownBy w' (some g) := by
  have hgl : g < w.heap.size := h.lt
  obtain ⟨k0', k1', e, s0, s1, _⟩ := id hx
  injection e with e1 e2
  injection e2 with e2 _
  subst e1 e2
  obtain ⟨p0, d0, rfl⟩ := s0.form
  obtain ⟨p1, d1, rfl⟩ := s1.form
  have hb0 : Hid (Below w.heap.size w ((w.alloc (.cells #[.slice p0 x.vSlots.length d0, .slice p1 x.vFree.length d1] 27)).alloc (.cells #[.int .i64 0, .int .i64 0] 31))) := ((Below.refl _ _).alloc (Nat.le_refl _) _).alloc (by simp) _
  have hA0 : Hid (ArenaAt ((w.alloc (.cells #[.slice p0 x.vSlots.length d0, .slice p1 x.vFree.length d1] 27)).alloc (.cells #[.int .i64 0, .int .i64 0] 31)) 0 [.slice p0 x.vSlots.length d0, .slice p1 x.vFree.length d1] x) := ArenaAt_stays _ _ _ 0 _ _ (.of_below hb0.out) hx
  have rd0 : Hid (RdAt ((w.alloc (.cells #[.slice p0 x.vSlots.length d0, .slice p1 x.vFree.length d1] 27)).alloc (.cells #[.int .i64 0, .int .i64 0] 31)) g a n cap) := h.below hb0.out
  have bH0 : Hid (Box ((w.alloc (.cells #[.slice p0 x.vSlots.length d0, .slice p1 x.vFree.length d1] 27)).alloc (.cells #[.int .i64 0, .int .i64 0] 31)) (w.heap.size + 1) [.int .i64 0, .int .i64 0] 31) := by have := Box.new (w.alloc (.cells #[.slice p0 x.vSlots.length d0, .slice p1 x.vFree.length d1] 27)) [.int .i64 0, .int .i64 0] 31; simpa [Hid] using this
  clear h hx s0 s1
  go_enter Try.func38, Try.ntmps38
  go_wp2_with fail
  refine (specHandlesOf_any hA0.out).mono ?_
  rintro e w2 ⟨⟨kl, fl, rfl, ownL, _, loL⟩, hb2⟩
  have hL : Hid (SeqAt 2 HandleAt w2 (g + 1) kl (handlesD x)) := ownL.at HandleOwn_at (fun b q => by have := loL b q; simp at this; omega)
  have rd2 : Hid (RdAt w2 g a n cap) := rd0.out.below hb2
  have hG2 : Hid (w.grownBy w2 (some g)) := grown_of_below (hb0.out.trans (hb2.mono hb0.out.size)) _
  have bH2 : Hid (Box w2 (w.heap.size + 1) [.int .i64 0, .int .i64 0] 31) := bH0.out.below hb2 bH0.out.lt
  have hfew : (handlesD x).length ≤ 12 := handlesD_few x
  obtain ⟨al, cl, rfl⟩ := ownL.form
  generalize handlesD x = hl at hL hfew ⊢
  clear ownL loL hb2 hb0 hA0 rd0 bH0
  by_cases hz : hl.length = 0
  · have hz' : ¬ (0 : Int) < (hl.length : Int) := by omega
    clear hz
    go_wp2_with fail
    refine (below_any rd2.out 4 (by omega) (by omega)).mono ?_
    rintro e w5 ⟨v5, rfl, v50, v51, hr5, hg5⟩
    have rd5 : Hid (RdAt w5 g a n cap) := hr5
    have hG5 : Hid (w.grownBy w5 (some g)) := hG2.out.trans hg5
    have bH5 : Hid (Box w5 (w.heap.size + 1) [.int .i64 0, .int .i64 0] 31) := box_other bH2.out (by omega) hg5
    clear hr5 hg5
    go_wp2_with fail
    refine (off_any rd5.out 1 4 (by omega) (by omega) (by omega) (by omega)).mono ?_
    rintro e w6 ⟨v6, rfl, hv6, hr6, hg6⟩
    have rd6 : Hid (RdAt w6 g a n cap) := hr6
    have hG6 : Hid (w.grownBy w6 (some g)) := hG5.out.trans hg6
    have bH6 : Hid (Box w6 (w.heap.size + 1) [.int .i64 0, .int .i64 0] 31) := box_other bH5.out (by omega) hg6
    have hwv : IntKind.i64.wrap v5 = v5 := by rw [IntKind.wrap_i64]; omega
    clear hr6 hg6 hv6
    have r0 := bH6.out.cell 0 rfl
    have r1 := bH6.out.cell 1 rfl
    have fR := bH6.out.unfrozen
    go_wp2_with fail
    have z1 := Box.set (i := 1) (Box.set (i := 0) bH6.out (.int .i64 v5)) (.int .i64 v6)
    have z10 := z1.cell 0 rfl
    have z11 := z1.cell 1 rfl
    exact bodyPost_ret (v := .agg #[.int .i64 v5, .int .i64 v6]) (by simp [results, Try.results38, go_sem, z10, z11]) rfl ⟨⟨_, _, rfl⟩, (RdAt.keep rd6.out (fun b q => by rw [set_other (by omega), set_other (by omega)])), grown_set2 hG6.out (by omega) _ _⟩
  have hz' : (0 : Int) < (hl.length : Int) := by omega
  have hzn : 0 < hl.length := by omega
  clear hz
  go_wp2_with fail
  refine (once_any rd2.out 4 (by omega) (by omega)).mono ?_
  rintro e w3 ⟨v3, rfl, hr3, hg3⟩
  have rd3 : Hid (RdAt w3 g a n cap) := hr3
  have hG3 : Hid (w.grownBy w3 (some g)) := hG2.out.trans hg3
  have bH3 : Hid (Box w3 (w.heap.size + 1) [.int .i64 0, .int .i64 0] 31) := box_other bH2.out (by omega) hg3
  have hL3 : Hid (SeqAt 2 HandleAt w3 (g + 1) (.slice al hl.length cl) hl) := hL.out.keep HandleAt_stays ⟨hg3.size, Nat.le_refl _, fun b q1 q2 => hg3.block b q2 (fun e => by injection e; omega)⟩
  clear hr3 hg3 hL bH2 hG2 rd2
  cases v3
  rotate_left
  · skip
    go_wp2_with fail
    refine (below_any rd3.out 4 (by omega) (by omega)).mono ?_
    rintro e w5 ⟨v5, rfl, v50, v51, hr5, hg5⟩
    have rd5 : Hid (RdAt w5 g a n cap) := hr5
    have hG5 : Hid (w.grownBy w5 (some g)) := hG3.out.trans hg5
    have bH5 : Hid (Box w5 (w.heap.size + 1) [.int .i64 0, .int .i64 0] 31) := box_other bH3.out (by omega) hg5
    clear hr5 hg5
    go_wp2_with fail
    refine (off_any rd5.out 1 4 (by omega) (by omega) (by omega) (by omega)).mono ?_
    rintro e w6 ⟨v6, rfl, hv6, hr6, hg6⟩
    have rd6 : Hid (RdAt w6 g a n cap) := hr6
    have hG6 : Hid (w.grownBy w6 (some g)) := hG5.out.trans hg6
    have bH6 : Hid (Box w6 (w.heap.size + 1) [.int .i64 0, .int .i64 0] 31) := box_other bH5.out (by omega) hg6
    have hwv : IntKind.i64.wrap v5 = v5 := by rw [IntKind.wrap_i64]; omega
    clear hr6 hg6 hv6
    have r0 := bH6.out.cell 0 rfl
    have r1 := bH6.out.cell 1 rfl
    have fR := bH6.out.unfrozen
    go_wp2_with fail
    have z1 := Box.set (i := 1) (Box.set (i := 0) bH6.out (.int .i64 v5)) (.int .i64 v6)
    have z10 := z1.cell 0 rfl
    have z11 := z1.cell 1 rfl
    exact bodyPost_ret (v := .agg #[.int .i64 v5, .int .i64 v6]) (by simp [results, Try.results38, go_sem, z10, z11]) rfl ⟨⟨_, _, rfl⟩, (RdAt.keep rd6.out (fun b q => by rw [set_other (by omega), set_other (by omega)])), grown_set2 hG6.out (by omega) _ _⟩
  go_wp2_with fail
  refine (below_any rd3.out (hl.length : Int) (by omega) (by omega)).mono ?_
  rintro e w4 ⟨v4, rfl, v40, v41, hr4, hg4⟩
  obtain ⟨j, rfl⟩ := Int.eq_ofNat_of_zero_le v40
  have hj : j < hl.length := by omega
  have rd4 : Hid (RdAt w4 g a n cap) := hr4
  have hG4 : Hid (w.grownBy w4 (some g)) := hG3.out.trans hg4
  have bH4 : Hid (Box w4 (w.heap.size + 1) [.int .i64 0, .int .i64 0] 31) := box_other bH3.out (by omega) hg4
  have hL4 : SeqAt 2 HandleAt w4 (g + 1) (.slice al hl.length cl) hl := hL3.out.keep HandleAt_stays ⟨hg4.size, Nat.le_refl _, fun b q1 q2 => hg4.block b q2 (fun e => by injection e; omega)⟩
  obtain ⟨a', c', e, _, hx⟩ := hL4
  injection e with e1 e2 e3
  subst e1 e3
  obtain ⟨b, off, rfl, _, _, hc⟩ := hx hzn
  obtain ⟨cs, _, lie, e, _⟩ := hc j hj
  subst e
  have z0 := lie 0 (by simp)
  have z1_ := lie 1 (by simp)
  simp only [List.getElem?_cons_zero, List.getElem?_cons_succ, Nat.add_zero] at z0 z1_
  generalize hl[j].vAt = hA at z0
  generalize hl[j].vGen = hX at z1_
  clear hr4 hg4 hx hc lie hL3
  have r0 := bH4.out.cell 0 rfl
  have r1 := bH4.out.cell 1 rfl
  have fR := bH4.out.unfrozen
  go_wp2_with fail
  have z1 := Box.set (i := 1) (Box.set (i := 0) bH4.out (.int .i64 hA)) (.int .i64 hX)
  have z10 := z1.cell 0 rfl
  have z11 := z1.cell 1 rfl
  exact bodyPost_ret (v := .agg #[.int .i64 hA, .int .i64 hX]) (by simp [results, Try.results38, go_sem, z10, z11]) rfl ⟨⟨_, _, rfl⟩, (RdAt.keep rd4.out (fun b q => by rw [set_other (by omega), set_other (by omega)])), grown_set2 hG4.out (by omega) _ _⟩
end Go.Proofs.Ytcbomaflfjdmjaa
