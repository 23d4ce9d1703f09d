/- At every arena and handle Deref answers as its specification, and writes into no argument. No condition. -/
import Derived.Test.YtcpbcpckmclciaaArSz
import Derived.Test.YtcpbcpckmclciaaArTo
import Derived.Test.YtcpbcpckmclciaaArEq
import Derived.Test.YtcpbcpckmclciaaArDeref
import Derived.Test.YtcpbcpckmclciaaArHnd
import Derived.ProofKit
import Derived.OpenShut
import Derived.ShutString
import Derived.ChangeOld
import Derived.Below
import Derived.Laws.Cover1
import Derived.WalkKit
namespace Go.Proofs.Ytcpbcpckmclciaa.fnExactDeref
open Go.ChangeShapes Go.WideShapes Go.ChangeAt Go.RowKit

theorem own : ownKnob Try.prog.godebug = none := by kernel_rfl
theorem laidOut : laidOutB Try.prog = true := by kernel_rfl
set_option maxRecDepth 100000 in
set_option maxHeartbeats 6400000 in
theorem walk {w : World} {cs : List Value} {x : ArenaD} {ch : List Value} {y : HandleD} (hx : ArenaAt w 0 cs x) (hy : HandleAt w 0 ch y) :
    Calls Try.prog 7 #[.agg cs.toArray, .agg ch.toArray] w fun e w' => e = .returned (.bool true) ∧ Below w.heap.size w w' := by
  have hx0 : Hid (ArenaAt w 0 cs x) := hx
  have hy0 : Hid (HandleAt w 0 ch y) := hy
  obtain ⟨k0, k1, rfl, s0, s1, _⟩ := hx
  obtain ⟨a0, c0, rfl⟩ := s0.form
  obtain ⟨a1, c1, rfl⟩ := s1.form
  obtain ⟨rfl, _⟩ := hy
  clear s0 s1
  have hB0 : Below w.heap.size w ((w.alloc (.cells (List.toArray [.slice a0 x.vSlots.length c0, .slice a1 x.vFree.length c1]) 25)).alloc (.cells (List.toArray [.int .i64 y.vAt, .int .i64 y.vGen]) 44)) := ((Below.refl _ _).alloc (Nat.le_refl _) _).alloc (by simp) _
  have bA0 : Hid (Box ((w.alloc (.cells (List.toArray [.slice a0 x.vSlots.length c0, .slice a1 x.vFree.length c1]) 25)).alloc (.cells (List.toArray [.int .i64 y.vAt, .int .i64 y.vGen]) 44)) w.heap.size [.slice a0 x.vSlots.length c0, .slice a1 x.vFree.length c1] 25) := (Box.new w _ _).alloc _
  have bH0 : Hid (Box ((w.alloc (.cells (List.toArray [.slice a0 x.vSlots.length c0, .slice a1 x.vFree.length c1]) 25)).alloc (.cells (List.toArray [.int .i64 y.vAt, .int .i64 y.vGen]) 44)) (w.heap.size + 1) [.int .i64 y.vAt, .int .i64 y.vGen] 44) := by have := Box.new (w.alloc (.cells (List.toArray [.slice a0 x.vSlots.length c0, .slice a1 x.vFree.length c1]) 25)) [.int .i64 y.vAt, .int .i64 y.vGen] 44; simpa [Hid] using this
  go_enter Try.func7, Try.ntmps7
  go_wp2_with fail
  refine (szArena_any (ArenaAt_stays _ _ _ 0 _ _ (.of_below hB0) hx0.out) (by omega) (by omega)).mono ?_
  rintro e w1 ⟨⟨r, rfl, hr1, hr2, hsm⟩, hb1⟩
  have hsm' : Hid (r < 0 ∨ x.small) := hsm
  clear hsm
  have hB1 : Below w.heap.size w w1 := hB0.trans (hb1.mono hB0.size)
  have bA1 : Hid (Box w1 w.heap.size [.slice a0 x.vSlots.length c0, .slice a1 x.vFree.length c1] 25) := bA0.out.below hb1 bA0.out.lt
  have bH1 : Hid (Box w1 (w.heap.size + 1) [.int .i64 y.vAt, .int .i64 y.vGen] 44) := bH0.out.below hb1 bH0.out.lt
  clear hb1 bA0 bH0
  by_cases hneg : r < 0
  · go_wp2_with fail
    go_ret
    exact ⟨rfl, hB1⟩
  have hsm : Hid (x.small) := hsm'.out.resolve_left hneg
  clear hsm'
  have z10 := bA1.out.cell 0 rfl
  have z11 := bA1.out.cell 1 rfl
  have z12 := bH1.out.cell 0 rfl
  have z13 := bH1.out.cell 1 rfl
  have lA1 := bA1.out.lt
  have lH1 := bH1.out.lt
  go_wp2_with fail
  go_region_held3 (fun w' => w'.cell? ⟨w.heap.size, 0, none⟩ = some (.slice a0 x.vSlots.length c0) ∧ w'.cell? ⟨w.heap.size, 1, none⟩ = some (.slice a1 x.vFree.length c1) ∧ w'.cell? ⟨w.heap.size + 1, 0, none⟩ = some (.int .i64 y.vAt) ∧ w'.cell? ⟨w.heap.size + 1, 1, none⟩ = some (.int .i64 y.vGen)) (go_keep)
    (first | (go_at_call 11; refine (toArena_any (by exact ArenaAt_stays _ _ _ 0 _ _ (.of_below hB1.drew) hx0.out) hsm.out).mono ?_; rintro e w2 ⟨⟨cs2, rfl, ht2⟩, hb2⟩; have hb2' := undrew hb2; have bA2 : Hid (Box w2 w.heap.size _ _) := Box.below bA1.out hb2' bA1.out.lt; have bH2 : Hid (Box w2 (w.heap.size + 1) _ _) := Box.below bH1.out hb2' bH1.out.lt; have hB2 : Hid (Below w.heap.size w w2) := Below.trans hB1 (Below.mono hb2' hB1.size); have z20 := bA2.out.cell 0 rfl; have z21 := bA2.out.cell 1 rfl; have z22 := bH2.out.cell 0 rfl; have z23 := bH2.out.cell 1 rfl; have ht2' : Hid (ArenaAt w2 w1.heap.size cs2 x) := ht2; clear ht2 hb2 hb2') | (go_at_call 22; refine (toHandle_any (by exact HandleAt_stays _ _ _ 0 _ _ (.of_below hB2.out) hy0.out)).mono ?_; rintro e w3 ⟨⟨cs3, rfl, ht3⟩, hb3⟩; obtain ⟨rfl, _⟩ := ht3; have bA3 : Hid (Box w3 w.heap.size _ _) := Box.below bA2.out hb3 bA2.out.lt; have bH3 : Hid (Box w3 (w.heap.size + 1) _ _) := Box.below bH2.out hb3 bH2.out.lt; have hB3 : Hid (Below w.heap.size w w3) := Below.trans hB2.out (Below.mono hb3 hB2.out.size); have z30 := bA3.out.cell 0 rfl; have z31 := bA3.out.cell 1 rfl; have z32 := bH3.out.cell 0 rfl; have z33 := bH3.out.cell 1 rfl; have ht3' : Hid (ArenaAt w3 w1.heap.size cs2 x) := ArenaAt_stays _ _ _ _ _ _ (.of_below hb3) ht2'.out; clear hb3) | (go_at_call 24; refine (specDeref_any (by exact ht3'.out)).mono ?_; rintro e w4 ⟨rfl, hb4⟩; have bA4 : Hid (Box w4 w.heap.size _ _) := Box.below bA3.out hb4 bA3.out.lt; have bH4 : Hid (Box w4 (w.heap.size + 1) _ _) := Box.below bH3.out hb4 bH3.out.lt; have hB4 : Hid (Below w.heap.size w w4) := Below.trans hB3.out (Below.mono hb4 hB3.out.size); have z40 := bA4.out.cell 0 rfl; have z41 := bA4.out.cell 1 rfl; have z42 := bH4.out.cell 0 rfl; have z43 := bH4.out.cell 1 rfl; clear hb4))
  generalize hRES : derefD x y.vAt y.vGen = res
  have HRES : Hid (derefD x y.vAt y.vGen = res) := hRES
  clear hRES bA2 bH2 bA3 bH3 z10 z11 z12 z13 z20 z21 z22 z23 z30 z31 z32 z33 ht2' ht3'
  obtain ⟨rs, rb⟩ := res
  dsimp only
  go_wp2_with fail
  refine (toArena_any (ArenaAt_stays _ _ _ 0 _ _ (.of_below hB4.out) hx0.out) hsm.out).mono ?_
  rintro e w5 ⟨⟨cs5, rfl, ht5⟩, hb5⟩
  have hB5 : Below w.heap.size w w5 := hB4.out.trans (hb5.mono hB4.out.size)
  have bA5 : Hid (Box w5 w.heap.size [.slice a0 x.vSlots.length c0, .slice a1 x.vFree.length c1] 25) := bA4.out.below hb5 bA4.out.lt
  have bH5 : Hid (Box w5 (w.heap.size + 1) [.int .i64 y.vAt, .int .i64 y.vGen] 44) := bH4.out.below hb5 bH4.out.lt
  have ht5' : Hid (ArenaAt w5 w4.heap.size cs5 x) := ht5
  obtain ⟨p2, p3, rfl, t2, t3, _⟩ := ht5
  obtain ⟨b2, e2, rfl⟩ := t2.form
  obtain ⟨b3, e3, rfl⟩ := t3.form
  clear t2 t3 z40 z41 z42 z43 bA4 bH4 hb5
  have hb6 : Below w5.heap.size w5 (w5.alloc (.cells (List.toArray [.slice b2 x.vSlots.length e2, .slice b3 x.vFree.length e3]) 30)) := (Below.refl _ _).alloc (Nat.le_refl _) _
  have hB6 : Below w.heap.size w (w5.alloc (.cells (List.toArray [.slice b2 x.vSlots.length e2, .slice b3 x.vFree.length e3]) 30)) := hB5.trans (hb6.mono hB5.size)
  have bX6 : Hid (Box (w5.alloc (.cells (List.toArray [.slice b2 x.vSlots.length e2, .slice b3 x.vFree.length e3]) 30)) w5.heap.size [.slice b2 x.vSlots.length e2, .slice b3 x.vFree.length e3] 30) := Box.new w5 _ _
  have bA6 : Hid (Box (w5.alloc (.cells (List.toArray [.slice b2 x.vSlots.length e2, .slice b3 x.vFree.length e3]) 30)) w.heap.size [.slice a0 x.vSlots.length c0, .slice a1 x.vFree.length c1] 25) := bA5.out.alloc _
  have bH6 : Hid (Box (w5.alloc (.cells (List.toArray [.slice b2 x.vSlots.length e2, .slice b3 x.vFree.length e3]) 30)) (w.heap.size + 1) [.int .i64 y.vAt, .int .i64 y.vGen] 44) := bH5.out.alloc _
  have ht6 : Hid (ArenaAt (w5.alloc (.cells (List.toArray [.slice b2 x.vSlots.length e2, .slice b3 x.vFree.length e3]) 30)) w4.heap.size [.slice b2 x.vSlots.length e2, .slice b3 x.vFree.length e3] x) := ArenaAt_stays _ _ _ _ _ _ (.of_below hb6) ht5'.out
  clear bA5 bH5 ht5' hb6
  go_wp2_with fail
  generalize (w5.alloc (.cells (List.toArray [.slice b2 x.vSlots.length e2, .slice b3 x.vFree.length e3]) 30)) = w6 at *
  have hB6h : Hid (Below w.heap.size w w6) := hB6
  have x60 := bX6.out.cell 0 rfl
  have x61 := bX6.out.cell 1 rfl
  have z62 := bH6.out.cell 0 rfl
  have z63 := bH6.out.cell 1 rfl
  go_region_held3 (fun w' => w'.cell? ⟨w5.heap.size, 0, none⟩ = some (.slice b2 x.vSlots.length e2) ∧ w'.cell? ⟨w5.heap.size, 1, none⟩ = some (.slice b3 x.vFree.length e3) ∧ w'.cell? ⟨w.heap.size + 1, 0, none⟩ = some (.int .i64 y.vAt) ∧ w'.cell? ⟨w.heap.size + 1, 1, none⟩ = some (.int .i64 y.vGen)) (go_keep)
    (first | (go_at_call 22; refine (toHandle_any (by exact HandleAt_stays _ _ _ 0 _ _ (.of_below hB6.drew) hy0.out)).mono ?_; rintro e w7 ⟨⟨cs7, rfl, ht7⟩, hb7⟩; obtain ⟨rfl, _⟩ := ht7; have hb7' := undrew hb7; have bX7 : Hid (Box w7 w5.heap.size _ _) := Box.below bX6.out hb7' bX6.out.lt; have bA7 : Hid (Box w7 w.heap.size _ _) := Box.below bA6.out hb7' bA6.out.lt; have bH7 : Hid (Box w7 (w.heap.size + 1) _ _) := Box.below bH6.out hb7' bH6.out.lt; have hB7 : Hid (Below w.heap.size w w7) := Below.trans hB6 (Below.mono hb7' hB6.size); have ht7' : Hid (ArenaAt w7 w4.heap.size _ x) := ArenaAt_stays _ _ _ _ _ _ (.of_below hb7') ht6.out; have x70 := bX7.out.cell 0 rfl; have x71 := bX7.out.cell 1 rfl; have z72 := bH7.out.cell 0 rfl; have z73 := bH7.out.cell 1 rfl; clear hb7 hb7') | (go_at_call 25; refine (implDeref_any (by exact ht7'.out)).mono ?_; rintro e w8 ⟨rfl, hb8⟩; have bX8 : Hid (Box w8 w5.heap.size _ _) := Box.below bX7.out hb8 bX7.out.lt; have bA8 : Hid (Box w8 w.heap.size _ _) := Box.below bA7.out hb8 bA7.out.lt; have bH8 : Hid (Box w8 (w.heap.size + 1) _ _) := Box.below bH7.out hb8 bH7.out.lt; have hB8 : Hid (Below w.heap.size w w8) := Below.trans hB7.out (Below.mono hb8 hB7.out.size); have ht8' : Hid (ArenaAt w8 w4.heap.size _ x) := ArenaAt_stays _ _ _ _ _ _ (.of_below hb8) ht7'.out; have x80 := bX8.out.cell 0 rfl; have x81 := bX8.out.cell 1 rfl; have z82 := bH8.out.cell 0 rfl; have z83 := bH8.out.cell 1 rfl; clear hb8))
  rw [HRES.out]
  dsimp only
  have hss : (rs.toList != rs.toList) = false := by simp
  clear bX6 bA6 bH6 bX7 bA7 bH7 ht6 ht7' x60 x61 z62 z63 x70 x71 z72 z73 z82 z83
  have v80 := bA8.out.cell 0 rfl
  have v81 := bA8.out.cell 1 rfl
  have lA8 := bA8.out.lt
  have lX8 := bX8.out.lt
  go_wp2_with fail
  go_region_held3 (fun w' => w'.cell? ⟨w5.heap.size, 0, none⟩ = some (.slice b2 x.vSlots.length e2) ∧ w'.cell? ⟨w5.heap.size, 1, none⟩ = some (.slice b3 x.vFree.length e3) ∧ w'.cell? ⟨w.heap.size, 0, none⟩ = some (.slice a0 x.vSlots.length c0) ∧ w'.cell? ⟨w.heap.size, 1, none⟩ = some (.slice a1 x.vFree.length c1)) (go_keep)
    (first | (go_at_call 11; refine (toArena_any (by exact ArenaAt_stays _ _ _ 0 _ _ (.of_below hB8.out.drew) hx0.out) hsm.out).mono ?_; rintro e w9 ⟨⟨cs9, rfl, ht9⟩, hb9⟩; have hb9' := undrew hb9; have bX9 : Hid (Box w9 w5.heap.size _ _) := Box.below bX8.out hb9' lX8; have bA9 : Hid (Box w9 w.heap.size _ _) := Box.below bA8.out hb9' lA8; have x90 := bX9.out.cell 0 rfl; have x91 := bX9.out.cell 1 rfl; have v90 := bA9.out.cell 0 rfl; have v91 := bA9.out.cell 1 rfl; have hB9 : Hid (Below w.heap.size w w9) := hB8.out.trans (hb9'.mono hB8.out.size); have ht9a : Hid (ArenaAt w9 w4.heap.size _ x) := ArenaAt_stays _ _ _ _ _ _ (.of_below hb9') ht8'.out; have ht9b : Hid (ArenaAt w9 _ cs9 x) := ht9; clear ht9 hb9) | (go_at_call 13; refine (eqArena_any (by exact ht9a.out) (by exact ht9b.out)).mono ?_; rintro e w10 ⟨rfl, hb10⟩; have bX10 : Hid (Box w10 w5.heap.size _ _) := Box.below bX9.out hb10 bX9.out.lt; have bA10 : Hid (Box w10 w.heap.size _ _) := Box.below bA9.out hb10 bA9.out.lt; have l0 := bX10.out.cell 0 rfl; have l1 := bX10.out.cell 1 rfl; have m0 := bA10.out.cell 0 rfl; have m1 := bA10.out.cell 1 rfl; have hB10 : Hid (Below w.heap.size w w10) := hB9.out.trans (hb10.mono hB9.out.size)))
  go_wp2_with fail
  go_ret
  exact ⟨rfl, hB10.out⟩
/-! The row -/
set_option maxRecDepth 100000 in
theorem lifted (os : Os) (started : os.Started) (H : Type) (enc : TypeId × Value → H) :
    ReturnsInHanded {} Try.checked os 7 .any (Rows.fnExactDerefSpec.pre6 enc Try.prog Try.f7 Rows.fnExactDerefRow.domain false) (Rows.fnExactDerefSpec.post enc Try.prog Try.f7 false true false false) := by
  refine returnsInHanded_of_change (C := Try.checked) own started (by kernel_rfl) Try.func7
    (ChangeSpec.witness6 (enc := enc) (C := Try.checked) false ⟨#[], #[.agg #[.slice none 0 0, .slice none 0 0], .agg #[.int .i64 0, .int .i64 0]], []⟩ 8 (by kernel_rfl) (by kernel_rfl) (by kernel_rfl) (by kernel_rfl)) ?_
  intro W base args ds gs before hval0 hW hcnd _
  have hval : ∀ (j : Nat) t v, Try.f7.params[j]? = some t → args[j]? = some v → Value.okWide Try.prog W .any base t v := hval0
  have hW' := hW
  obtain ⟨p, q, hA0, hV, rfl, hfz, hnd⟩ := hW
  have hA : DataW.TrodAll enc Try.prog W 0 (fun _ => true) true Try.f7.params.toList args.toList ds p := hA0
  rw [Try.params7] at hA hval
  obtain ⟨v0, vs0, d0, ds0, p0, q0, hargs, rfl, rfl, h0, r0⟩ := trodAll_cons hA
  obtain ⟨v1, vs1, d1, ds1, p1, q1, rfl, rfl, rfl, h1, r1⟩ := trodAll_cons r0
  obtain ⟨rfl, rfl, rfl⟩ := trodAll_nil r1
  obtain rfl : args = #[v0, v1] := by cases args; simp_all
  obtain ⟨rfl, rfl⟩ := trodVars_none hV
  have k0 := h0
  have lt0 : ∀ x ∈ p0, x.block < W.heap.size := by obtain ⟨m, hm⟩ := k0; exact DataW.trod_lt m _ _ _ hm
  obtain ⟨cs0, rfl, _⟩ := okWide_struct Try.underlying25 (hval 0 25 v0 rfl rfl)
  obtain ⟨fuel0, hf0⟩ := h0
  obtain ⟨x0, hx0⟩ := ArenaAt_of_trod fuel0 _ _ hf0
  have hcs0 : (Value.agg cs0).cells = cs0 := rfl
  rw [hcs0] at hx0
  have k1 := h1
  have lt1 : ∀ x ∈ p1, x.block < W.heap.size := by obtain ⟨m, hm⟩ := k1; exact DataW.trod_lt m _ _ _ hm
  obtain ⟨cs1, rfl, _⟩ := okWide_struct Try.underlying44 (hval 1 44 v1 rfl rfl)
  obtain ⟨fuel1, hf1⟩ := h1
  obtain ⟨x1, hx1⟩ := HandleAt_of_trod fuel1 _ _ hf1
  have hcs1 : (Value.agg cs1).cells = cs1 := rfl
  rw [hcs1] at hx1
  clear hA0 hval0
  have hwk := walk (w := W) hx0 hx1
  rw [Array.toArray_toList, Array.toArray_toList] at hwk
  refine hwk.mono fun e W' ⟨he, bel⟩ => ?_
  subst he
  exact ⟨_, rfl, _, _, _, [], _, [], hW', trodAll_mk1 (shut_bool Try.underlying4 _), (trodAll_cons_mk (Below.trod laidOut (by kernel_rfl) (of_decide_eq_true (by kernel_rfl)) k0 bel lt0) (trodAll_cons_mk (Below.trod laidOut (by kernel_rfl) (of_decide_eq_true (by kernel_rfl)) k1 bel lt1) trodAll_mk0)), rfl, bel.frame _, fun h => by cases h⟩
theorem over : Rows.fnExactDerefRow.holds Try.pinned (OpenSpec.ofChange Rows.fnExactDerefSpec) :=
  OpenClaim.holds_of_wide 7 Try.f7 rfl rfl rfl rfl rfl rfl rfl ⟨rfl, rfl, rfl, rfl, rfl⟩ rfl rfl rfl rfl rfl (by kernel_rfl) Try.func7 (by kernel_rfl)
    (of_decide_eq_true (by kernel_rfl)) (by unfold Func.isWrapper; first | (rw [if_pos (by decide +kernel)]; kernel_rfl) | (rw [if_neg (by decide +kernel)]; exact ⟨rfl, rfl⟩))
    (fun os started H enc _ => lifted os started H enc)
end Go.Proofs.Ytcpbcpckmclciaa.fnExactDeref
namespace Go.Proofs.Ytcpbcpckmclciaa
theorem fnExactDeref_holds : Rows.FnExactDerefSaid := fnExactDeref.over
end Go.Proofs.Ytcpbcpckmclciaa
