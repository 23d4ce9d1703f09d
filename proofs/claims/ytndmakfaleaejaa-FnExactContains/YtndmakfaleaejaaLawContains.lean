/- At every heap and two numbers Contains answers as its specification, and writes into no argument. No condition. -/
import Derived.Test.YtndmakfaleaejaaSzRecs
import Derived.Test.YtndmakfaleaejaaToRecs
import Derived.Test.YtndmakfaleaejaaEqRecs
import Derived.Test.YtndmakfaleaejaaContains
import Derived.Test.YtndmakfaleaejaaHeapEq
import Derived.ProofKit
import Derived.OpenShut
import Derived.ShutString
import Derived.ChangeOld
import Derived.Below
import Derived.WalkKit
namespace Go.Proofs.Ytndmakfaleaejaa.fnExactContains
open Go.ChangeShapes Go.WideShapes Go.ChangeAt Go.RowKit

theorem own : ownKnob Try.prog.godebug = none := by kernel_rfl
theorem laidOut : laidOutB Try.prog = true := by kernel_rfl
theorem keepH {w wr w1 : World} {g1 g2 T1 T2 : Nat} {v0 v1 v2 v3 v4 u0 u1 u2 u3 u4 : Value} (hb : Below w.heap.size w wr) (hb1 : Below wr.heap.size wr w1) (b1 : Box wr g1 [v0, v1, v2, v3, v4] T1) (b2 : Box wr g2 [u0, u1, u2, u3, u4] T2) :
    w1.cell? ⟨g1, 0, none⟩ = some v0 ∧ w1.cell? ⟨g1, 1, none⟩ = some v1 ∧ w1.cell? ⟨g1, 2, none⟩ = some v2 ∧ w1.cell? ⟨g1, 3, none⟩ = some v3 ∧ w1.cell? ⟨g1, 4, none⟩ = some v4 ∧ w1.cell? ⟨g2, 0, none⟩ = some u0 ∧ w1.cell? ⟨g2, 1, none⟩ = some u1 ∧ w1.cell? ⟨g2, 2, none⟩ = some u2 ∧ w1.cell? ⟨g2, 3, none⟩ = some u3 ∧ w1.cell? ⟨g2, 4, none⟩ = some u4 ∧ Hid (Below w.heap.size w w1 ∧ Box w1 g1 [v0, v1, v2, v3, v4] T1 ∧ Box w1 g2 [u0, u1, u2, u3, u4] T2) := by
  have k1 := b1.below hb1 b1.lt
  have k2 := b2.below hb1 b2.lt
  exact ⟨k1.cell 0 rfl, k1.cell 1 rfl, k1.cell 2 rfl, k1.cell 3 rfl, k1.cell 4 rfl, k2.cell 0 rfl, k2.cell 1 rfl, k2.cell 2 rfl, k2.cell 3 rfl, k2.cell 4 rfl, hb.trans (hb1.mono hb.size), k1, k2⟩
set_option maxRecDepth 100000 in
set_option maxHeartbeats 1600000 in
theorem walk {w : World} {cs : List Value} {h : HeapD} {nA : Int} {nB : Int} (ht : HeapAt w 0 cs h) :
    Calls Try.prog 5 #[.agg cs.toArray, .int .i64 nA, .int .i64 nB] w fun e w' => e = .returned (.bool true) ∧ Below w.heap.size w w' := by
  have ht0 : Hid (HeapAt w 0 cs h) := ht
  obtain ⟨k2, k3, k4, rfl, s2, s3, s4, _⟩ := ht
  obtain ⟨a2, cap2, rfl⟩ := s2.form
  obtain ⟨a3, cap3, rfl⟩ := s3.form
  obtain ⟨a4, cap4, rfl⟩ := s4.form
  clear s2 s3 s4
  have hb0 : Below w.heap.size w (w.alloc (.cells (List.toArray [.int .i64 h.vNext, .int .i64 h.vDoc, .slice a2 h.vNodes.length cap2, .slice a3 h.vObjs.length cap3, .slice a4 h.vGlobals.length cap4]) 26)) := (Below.refl _ _).alloc (Nat.le_refl _) _
  have g0 : Hid (Box (w.alloc (.cells (List.toArray [.int .i64 h.vNext, .int .i64 h.vDoc, .slice a2 h.vNodes.length cap2, .slice a3 h.vObjs.length cap3, .slice a4 h.vGlobals.length cap4]) 26)) w.heap.size [.int .i64 h.vNext, .int .i64 h.vDoc, .slice a2 h.vNodes.length cap2, .slice a3 h.vObjs.length cap3, .slice a4 h.vGlobals.length cap4] 26) := Box.new w _ _
  go_enter Try.func5, Try.ntmps5
  go_wp2_with fail
  refine (szHeap_any (HeapAt_stays _ _ _ 0 _ _ (.of_below hb0) ht0.out) (by omega) (by omega)).mono ?_
  rintro e w1 ⟨⟨r, rfl, hr1, hr2, hsm⟩, hb1⟩
  have hsm' : Hid _ := hsm
  clear hsm
  have hB1 : Below w.heap.size w w1 := hb0.trans (hb1.mono hb0.size)
  have b1 := g0.out.below hb1 g0.out.lt
  have b1' : Hid (Box w1 w.heap.size [.int .i64 h.vNext, .int .i64 h.vDoc, .slice a2 h.vNodes.length cap2, .slice a3 h.vObjs.length cap3, .slice a4 h.vGlobals.length cap4] 26) := b1
  have c10 := b1.cell 0 rfl
  have c11 := b1.cell 1 rfl
  have c12 := b1.cell 2 rfl
  have c13 := b1.cell 3 rfl
  have c14 := b1.cell 4 rfl
  clear b1
  by_cases hneg : r < 0
  · go_wp2_with fail
    go_ret
    exact ⟨rfl, hB1⟩
  have hsm : Hid h.small := hsm'.out.resolve_left hneg
  have hneg' : decide (r < 0) = false := by simpa using hneg
  clear hsm' hneg
  go_wp2_with fail
  refine (toHeap_any (HeapAt_stays _ _ _ 0 _ _ (.of_below hB1) ht0.out) hsm.out).mono ?_
  rintro e w2 ⟨⟨cs2, rfl, ht2⟩, hb2⟩
  have hB2 : Below w.heap.size w w2 := hB1.trans (hb2.mono hB1.size)
  have b2 := b1'.out.below hb2 b1'.out.lt
  have b2' : Hid (Box w2 w.heap.size [.int .i64 h.vNext, .int .i64 h.vDoc, .slice a2 h.vNodes.length cap2, .slice a3 h.vObjs.length cap3, .slice a4 h.vGlobals.length cap4] 26) := b2
  clear c10 c11 c12 c13 c14
  have c20 := b2.cell 0 rfl
  have c21 := b2.cell 1 rfl
  have c22 := b2.cell 2 rfl
  have c23 := b2.cell 3 rfl
  have c24 := b2.cell 4 rfl
  have ht2' : Hid (HeapAt w2 w1.heap.size cs2 h) := ht2
  clear hb2 b2 ht2 b1'
  go_wp2_with fail
  refine (specContains_any (a := nA) (b := nB) ht2'.out).mono ?_
  rintro e w3 ⟨rfl, hb3⟩
  have hB3 : Below w.heap.size w w3 := hB2.trans (hb3.mono hB2.size)
  have b3 := b2'.out.below hb3 b2'.out.lt
  have b3' : Hid (Box w3 w.heap.size [.int .i64 h.vNext, .int .i64 h.vDoc, .slice a2 h.vNodes.length cap2, .slice a3 h.vObjs.length cap3, .slice a4 h.vGlobals.length cap4] 26) := b3
  clear c20 c21 c22 c23 c24
  have c30 := b3.cell 0 rfl
  have c31 := b3.cell 1 rfl
  have c32 := b3.cell 2 rfl
  have c33 := b3.cell 3 rfl
  have c34 := b3.cell 4 rfl
  clear hb3 b3 b2'
  generalize hRES : containsS h nA nB = res
  have HRES : Hid _ := hRES
  clear hRES
  go_wp2_with fail
  refine (toHeap_any (HeapAt_stays _ _ _ 0 _ _ (.of_below hB3) ht0.out) hsm.out).mono ?_
  rintro e w4 ⟨⟨cs4, rfl, ht4⟩, hb4⟩
  have ht4' : Hid (HeapAt w4 w3.heap.size cs4 h) := ht4
  obtain ⟨j2, j3, j4, rfl, t2, t3, t4, _⟩ := ht4
  obtain ⟨e2, dap2, rfl⟩ := t2.form
  obtain ⟨e3, dap3, rfl⟩ := t3.form
  obtain ⟨e4, dap4, rfl⟩ := t4.form
  clear t2 t3 t4
  have hB4 : Below w.heap.size w w4 := hB3.trans (hb4.mono hB3.size)
  have b4 := b3'.out.below hb4 b3'.out.lt
  have b4' : Hid (Box w4 w.heap.size [.int .i64 h.vNext, .int .i64 h.vDoc, .slice a2 h.vNodes.length cap2, .slice a3 h.vObjs.length cap3, .slice a4 h.vGlobals.length cap4] 26) := b4
  clear c30 c31 c32 c33 c34
  have c40 := b4.cell 0 rfl
  have c41 := b4.cell 1 rfl
  have c42 := b4.cell 2 rfl
  have c43 := b4.cell 3 rfl
  have c44 := b4.cell 4 rfl
  clear hb4 b4 b3'
  go_wp2_with fail
  have hb5 : Below w4.heap.size w4 (w4.alloc (.cells (List.toArray [.int .i64 h.vNext, .int .i64 h.vDoc, .slice e2 h.vNodes.length dap2, .slice e3 h.vObjs.length dap3, .slice e4 h.vGlobals.length dap4]) 34)) := (Below.refl _ _).alloc (Nat.le_refl _) _
  have hB5 : Below w.heap.size w (w4.alloc (.cells (List.toArray [.int .i64 h.vNext, .int .i64 h.vDoc, .slice e2 h.vNodes.length dap2, .slice e3 h.vObjs.length dap3, .slice e4 h.vGlobals.length dap4]) 34)) := hB4.trans (hb5.mono hB4.size)
  have g5 : Hid (Box (w4.alloc (.cells (List.toArray [.int .i64 h.vNext, .int .i64 h.vDoc, .slice e2 h.vNodes.length dap2, .slice e3 h.vObjs.length dap3, .slice e4 h.vGlobals.length dap4]) 34)) w4.heap.size [.int .i64 h.vNext, .int .i64 h.vDoc, .slice e2 h.vNodes.length dap2, .slice e3 h.vObjs.length dap3, .slice e4 h.vGlobals.length dap4] 34) := Box.new w4 _ _
  have ht5 : Hid (HeapAt (w4.alloc (.cells (List.toArray [.int .i64 h.vNext, .int .i64 h.vDoc, .slice e2 h.vNodes.length dap2, .slice e3 h.vObjs.length dap3, .slice e4 h.vGlobals.length dap4]) 34)) w3.heap.size [.int .i64 h.vNext, .int .i64 h.vDoc, .slice e2 h.vNodes.length dap2, .slice e3 h.vObjs.length dap3, .slice e4 h.vGlobals.length dap4] h) := HeapAt_stays _ _ _ _ _ _ (.of_below hb5) ht4'.out
  refine (implContains_any (a := nA) (b := nB) ht5.out).mono ?_
  rintro e w6 ⟨rfl, hb6⟩
  rw [← contains_eq]
  rw [HRES.out]
  have hB6 : Below w.heap.size w w6 := hB5.trans (hb6.mono hB5.size)
  have b6 := g5.out.below hb6 g5.out.lt
  have b6a := (b4'.out.below hb5 b4'.out.lt).below hb6 (by have := b4'.out.lt; simp; omega)
  have B6 : Hid (Box w6 w4.heap.size [.int .i64 h.vNext, .int .i64 h.vDoc, .slice e2 h.vNodes.length dap2, .slice e3 h.vObjs.length dap3, .slice e4 h.vGlobals.length dap4] 34 ∧ Box w6 w.heap.size [.int .i64 h.vNext, .int .i64 h.vDoc, .slice a2 h.vNodes.length cap2, .slice a3 h.vObjs.length cap3, .slice a4 h.vGlobals.length cap4] 26) := ⟨b6, b6a⟩
  clear c40 c41 c42 c43 c44
  have c60 := b6.cell 0 rfl
  have c61 := b6.cell 1 rfl
  have c62 := b6.cell 2 rfl
  have c63 := b6.cell 3 rfl
  have c64 := b6.cell 4 rfl
  have c6a0 := b6a.cell 0 rfl
  have c6a1 := b6a.cell 1 rfl
  have c6a2 := b6a.cell 2 rfl
  have c6a3 := b6a.cell 3 rfl
  have c6a4 := b6a.cell 4 rfl
  have ht6 : Hid (HeapAt w6 w3.heap.size [.int .i64 h.vNext, .int .i64 h.vDoc, .slice e2 h.vNodes.length dap2, .slice e3 h.vObjs.length dap3, .slice e4 h.vGlobals.length dap4] h) := HeapAt_stays _ _ _ _ _ _ (.of_below hb6) ht5.out
  clear hb6 hb5 ht5 g5 b6 b6a ht4' b4'
  go_wp2_with fail
  go_region_held3 (fun w' => w'.cell? ⟨w4.heap.size, 0, none⟩ = some (.int .i64 h.vNext) ∧ w'.cell? ⟨w4.heap.size, 1, none⟩ = some (.int .i64 h.vDoc) ∧ w'.cell? ⟨w4.heap.size, 2, none⟩ = some (.slice e2 h.vNodes.length dap2) ∧ w'.cell? ⟨w4.heap.size, 3, none⟩ = some (.slice e3 h.vObjs.length dap3) ∧ w'.cell? ⟨w4.heap.size, 4, none⟩ = some (.slice e4 h.vGlobals.length dap4) ∧ w'.cell? ⟨w.heap.size, 0, none⟩ = some (.int .i64 h.vNext) ∧ w'.cell? ⟨w.heap.size, 1, none⟩ = some (.int .i64 h.vDoc) ∧ w'.cell? ⟨w.heap.size, 2, none⟩ = some (.slice a2 h.vNodes.length cap2) ∧ w'.cell? ⟨w.heap.size, 3, none⟩ = some (.slice a3 h.vObjs.length cap3) ∧ w'.cell? ⟨w.heap.size, 4, none⟩ = some (.slice a4 h.vGlobals.length cap4)) (go_keep)
    (first | (go_at_call 9; refine (toHeap_any (by exact HeapAt_stays _ _ _ 0 _ _ (.of_below hB6.drew) ht0.out) hsm.out).mono ?_; rintro e w7 ⟨⟨cs7, rfl, ht7⟩, hb7⟩; obtain ⟨z0, z1, z2, z3, z4, z5, z6, z7, z8, z9, hB7⟩ := keepH hB6 (undrew hb7) B6.out.1 B6.out.2; have ht7a : Hid (HeapAt w7 w3.heap.size [.int .i64 h.vNext, .int .i64 h.vDoc, .slice e2 h.vNodes.length dap2, .slice e3 h.vObjs.length dap3, .slice e4 h.vGlobals.length dap4] h) := HeapAt_stays _ _ _ _ _ _ (.of_below (undrew hb7)) ht6.out; have ht7b : Hid _ := ht7; clear ht7 hb7) | (go_at_call 12; refine (eqHeap_any (by exact ht7a.out) (by exact ht7b.out)).mono ?_; rintro e w8 ⟨rfl, hb8⟩; obtain ⟨y0, y1, y2, y3, y4, y5, y6, y7, y8, y9, hB8⟩ := keepH hB7.out.1 hb8 hB7.out.2.1 hB7.out.2.2))
  go_wp2_with fail
  go_ret
  exact ⟨rfl, hB8.out.1⟩
/-! The row -/
set_option maxRecDepth 100000 in
theorem lifted (os : Os) (started : os.Started) (H : Type) (enc : TypeId × Value → H) :
    ReturnsInHanded {} Try.checked os 5 .any (Rows.fnExactContainsSpec.pre6 enc Try.prog Try.f5 Rows.fnExactContainsRow.domain false) (Rows.fnExactContainsSpec.post enc Try.prog Try.f5 false true false false) := by
  refine returnsInHanded_of_change (C := Try.checked) own started (by kernel_rfl) Try.func5
    (ChangeSpec.witness6 (enc := enc) (C := Try.checked) false ⟨#[], #[.agg #[.int .i64 0, .int .i64 0, .slice none 0 0, .slice none 0 0, .slice none 0 0], .int .i64 0, .int .i64 0], []⟩ 8 (by kernel_rfl) (by kernel_rfl) (by kernel_rfl) (by kernel_rfl)) ?_
  intro W base args ds gs before hval0 hW hcnd _
  have hval : ∀ (j : Nat) t v, Try.f5.params[j]? = some t → args[j]? = some v → Value.okWide Try.prog W .any base t v := hval0
  have hW' := hW
  obtain ⟨p, q, hA0, hV, rfl, hfz, hnd⟩ := hW
  have hA : DataW.TrodAll enc Try.prog W 0 (fun _ => true) true Try.f5.params.toList args.toList ds p := hA0
  rw [Try.params5] at hA hval
  obtain ⟨v0, vs0, d0, ds0, p0, q0, hargs, rfl, rfl, h0, r0⟩ := trodAll_cons hA
  obtain ⟨v1, vs1, d1, ds1, p1, q1, rfl, rfl, rfl, h1, r1⟩ := trodAll_cons r0
  obtain ⟨v2, vs2, d2, ds2, p2, q2, rfl, rfl, rfl, h2, r2⟩ := trodAll_cons r1
  obtain ⟨rfl, rfl, rfl⟩ := trodAll_nil r2
  obtain rfl : args = #[v0, v1, v2] := by cases args; simp_all
  obtain ⟨rfl, rfl⟩ := trodVars_none hV
  have k0 := h0
  have lt0 : ∀ x ∈ p0, x.block < W.heap.size := by obtain ⟨m, hm⟩ := k0; exact DataW.trod_lt m _ _ _ hm
  obtain ⟨s1, rfl, rfl, rfl, hm1⟩ := open_int Try.underlying2 (hval 1 2 v1 rfl rfl) h1
  obtain ⟨s2, rfl, rfl, rfl, hm2⟩ := open_int Try.underlying2 (hval 2 2 v2 rfl rfl) h2
  obtain ⟨cs, rfl, _⟩ := okWide_struct Try.underlying26 (hval 0 26 v0 rfl rfl)
  obtain ⟨fuel, hf⟩ := h0
  obtain ⟨h, ht⟩ := HeapAt_of_trod fuel _ _ hf
  have hcs : (Value.agg cs).cells = cs := rfl
  rw [hcs] at ht
  clear hA0 hval0
  have hwk := walk (nA := s1) (nB := s2) ht
  rw [Array.toArray_toList] at hwk
  refine hwk.mono fun e W' ⟨he, bel⟩ => ?_
  subst he
  exact ⟨_, rfl, _, _, _, [], _, [], hW', trodAll_mk1 (shut_bool Try.underlying4 _), (trodAll_cons_mk (Below.trod laidOut (by kernel_rfl) (of_decide_eq_true (by kernel_rfl)) k0 bel lt0) (trodAll_cons_mk (shut_int Try.underlying2 hm1) (trodAll_cons_mk (shut_int Try.underlying2 hm2) trodAll_mk0))), rfl, bel.frame _, fun h => by cases h⟩
theorem over : Rows.fnExactContainsRow.holds Try.pinned (OpenSpec.ofChange Rows.fnExactContainsSpec) :=
  OpenClaim.holds_of_wide 5 Try.f5 rfl rfl rfl rfl rfl rfl rfl ⟨rfl, rfl, rfl, rfl, rfl⟩ rfl rfl rfl rfl rfl (by kernel_rfl) Try.func5 (by kernel_rfl)
    (of_decide_eq_true (by kernel_rfl)) (by unfold Func.isWrapper; first | (rw [if_pos (by decide +kernel)]; kernel_rfl) | (rw [if_neg (by decide +kernel)]; exact ⟨rfl, rfl⟩))
    (fun os started H enc _ => lifted os started H enc)
end Go.Proofs.Ytndmakfaleaejaa.fnExactContains
namespace Go.Proofs.Ytndmakfaleaejaa
theorem fnExactContains_holds : Rows.FnExactContainsSaid := fnExactContains.over
end Go.Proofs.Ytndmakfaleaejaa
