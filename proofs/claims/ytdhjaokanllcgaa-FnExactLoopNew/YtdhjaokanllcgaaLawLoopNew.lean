/- LoopNew answers as its specification, writes into no argument, and its answer owns its memory. No condition. -/
import Derived.Test.YtdhjaokanllcgaaSzRecs
import Derived.Test.YtdhjaokanllcgaaToOwn
import Derived.Test.YtdhjaokanllcgaaEqRecs
import Derived.Test.YtdhjaokanllcgaaMarkTops
import Derived.Test.YtdhjaokanllcgaaCntPlain
import Derived.Test.YtdhjaokanllcgaaLoopTop
import Derived.ProofKit
import Derived.OpenShut
import Derived.ShutString
import Derived.ChangeOld
import Derived.Below
import Derived.ChangeMaps5
namespace Go.Proofs.Ytdhjaokanllcgaa.fnExactLoopNew
open Go.ChangeShapes Go.WideShapes Go.ChangeAt Go.RowKit
theorem own : ownKnob Try.prog.godebug = none := by kernel_rfl
theorem laidOut : laidOutB Try.prog = true := by kernel_rfl
theorem newLoop_cnt {h : HeapD} (hc : (1 : Int) + (cntL cntNode h.vNodes : Nat) + (cntL cntObj h.vObjs : Nat) + (cntL cntField h.vGlobals : Nat) ≤ 4611686018427387904) : (1 : Int) + (cntL cntNode (newLoop h).1.hp.vNodes : Nat) + (cntL cntObj (newLoop h).1.hp.vObjs : Nat) + (cntL cntField (newLoop h).1.hp.vGlobals : Nat) ≤ 4611686018427387904 := by
  unfold newLoop
  split
  · exact hc
  · simp [zeroH, cntL, pos]
theorem keepH {w wr w1 : World} {g1 g2 T1 T2 : Nat} {v0 v1 v2 v3 v4 u0 u1 u2 u3 u4 : Value} (hb : Below w.heap.size w wr) (hb1 : Below wr.heap.size wr w1) (b1 : Box wr g1 [v0, v1, v2, v3, v4] T1) (b2 : Box wr g2 [u0, u1, u2, u3, u4] T2) :
    w1.cell? ⟨g1, 0, none⟩ = some v0 ∧ w1.cell? ⟨g1, 1, none⟩ = some v1 ∧ w1.cell? ⟨g1, 2, none⟩ = some v2 ∧ w1.cell? ⟨g1, 3, none⟩ = some v3 ∧ w1.cell? ⟨g1, 4, none⟩ = some v4 ∧ w1.cell? ⟨g2, 0, none⟩ = some u0 ∧ w1.cell? ⟨g2, 1, none⟩ = some u1 ∧ w1.cell? ⟨g2, 2, none⟩ = some u2 ∧ w1.cell? ⟨g2, 3, none⟩ = some u3 ∧ w1.cell? ⟨g2, 4, none⟩ = some u4 ∧ Hid (Below w.heap.size w w1 ∧ Box w1 g1 [v0, v1, v2, v3, v4] T1 ∧ Box w1 g2 [u0, u1, u2, u3, u4] T2) := by
  have k1 := b1.below hb1 b1.lt
  have k2 := b2.below hb1 b2.lt
  exact ⟨k1.cell 0 rfl, k1.cell 1 rfl, k1.cell 2 rfl, k1.cell 3 rfl, k1.cell 4 rfl, k2.cell 0 rfl, k2.cell 1 rfl, k2.cell 2 rfl, k2.cell 3 rfl, k2.cell 4 rfl, hb.trans (hb1.mono hb.size), k1, k2⟩
set_option maxRecDepth 100000 in
set_option maxHeartbeats 6400000 in
theorem walk {w : World} {cs : List Value} {h : HeapD} (ht : HeapAt w 0 cs h) :
    Calls Try.prog 4 #[.agg cs.toArray] w fun e w' => e = .returned (.bool true) ∧ Below w.heap.size w w' := by
  have ht0 : Hid (HeapAt w 0 cs h) := ht
  obtain ⟨k2, k3, k4, rfl, s2, s3, s4, _⟩ := ht
  obtain ⟨a2, cap2, rfl⟩ := s2.form
  obtain ⟨a3, cap3, rfl⟩ := s3.form
  obtain ⟨a4, cap4, rfl⟩ := s4.form
  clear s2 s3 s4
  have hb0 : Below w.heap.size w (w.alloc (.cells (List.toArray [.int .i64 h.vNext, .int .i64 h.vDoc, .slice a2 h.vNodes.length cap2, .slice a3 h.vObjs.length cap3, .slice a4 h.vGlobals.length cap4]) 35)) := (Below.refl _ _).alloc (Nat.le_refl _) _
  have bA_0 : Hid (Box (w.alloc (.cells (List.toArray [.int .i64 h.vNext, .int .i64 h.vDoc, .slice a2 h.vNodes.length cap2, .slice a3 h.vObjs.length cap3, .slice a4 h.vGlobals.length cap4]) 35)) w.heap.size [.int .i64 h.vNext, .int .i64 h.vDoc, .slice a2 h.vNodes.length cap2, .slice a3 h.vObjs.length cap3, .slice a4 h.vGlobals.length cap4] 35) := Box.new w _ _
  go_enter Try.func4, Try.ntmps4
  go_wp2_with fail
  refine (szHeap_any (HeapAt_stays _ _ _ 0 _ _ (.of_below hb0) ht0.out) (by omega) (by omega)).mono ?_
  rintro e w1 ⟨⟨r, rfl, hr1, hr2, hsm⟩, hb1⟩
  have hsm' : Hid _ := hsm
  clear hsm
  have hB1 : Below w.heap.size w w1 := hb0.trans (hb1.mono hb0.size)
  have s1 : w.heap.size + 1 ≤ w1.heap.size := by have := hb1.size; simpa using this
  have bA_1 : Hid (Box w1 w.heap.size [.int .i64 h.vNext, .int .i64 h.vDoc, .slice a2 h.vNodes.length cap2, .slice a3 h.vObjs.length cap3, .slice a4 h.vGlobals.length cap4] 35) := bA_0.out.below hb1 bA_0.out.lt
  clear bA_0
  have z1_bA_0 := bA_1.out.cell 0 rfl
  have z1_bA_1 := bA_1.out.cell 1 rfl
  have z1_bA_2 := bA_1.out.cell 2 rfl
  have z1_bA_3 := bA_1.out.cell 3 rfl
  have z1_bA_4 := bA_1.out.cell 4 rfl
  by_cases hneg : r < 0
  · go_wp2_with fail
    go_ret
    exact ⟨rfl, hB1⟩
  have hsm : Hid h.small := hsm'.out.resolve_left hneg
  have hcnt : Hid ((1 : Int) + (cntL cntNode h.vNodes : Nat) + (cntL cntObj h.vObjs : Nat) + (cntL cntField h.vGlobals : Nat) ≤ 4611686018427387904) := cntHeap_le hsm.out
  have hneg' : decide (r < 0) = false := by simpa using hneg
  clear hsm' hneg
  go_wp2_with fail
  refine (toHeap_any (HeapAt_stays _ _ _ 0 _ _ (.of_below hB1) ht0.out) hsm.out).mono ?_
  rintro e w2 ⟨⟨cs2, rfl, ht2⟩, hb2⟩
  have hB2 : Below w.heap.size w w2 := hB1.trans (hb2.mono hB1.size)
  have s2 := hb2.size
  have ht2' : Hid (HeapAt w2 w1.heap.size cs2 h) := ht2
  have bA_2 : Hid (Box w2 w.heap.size [.int .i64 h.vNext, .int .i64 h.vDoc, .slice a2 h.vNodes.length cap2, .slice a3 h.vObjs.length cap3, .slice a4 h.vGlobals.length cap4] 35) := bA_1.out.below hb2 bA_1.out.lt
  clear bA_1
  clear z1_bA_0 z1_bA_1 z1_bA_2 z1_bA_3 z1_bA_4
  have z2_bA_0 := bA_2.out.cell 0 rfl
  have z2_bA_1 := bA_2.out.cell 1 rfl
  have z2_bA_2 := bA_2.out.cell 2 rfl
  have z2_bA_3 := bA_2.out.cell 3 rfl
  have z2_bA_4 := bA_2.out.cell 4 rfl
  clear hb2 ht2
  go_wp2_with fail
  refine (specLoopNew_any ht2'.out hsm.out).mono ?_
  rintro e w3 ⟨⟨csw, fw, rfl, own0, _, low0⟩, hb3⟩
  have hB3 : Below w.heap.size w w3 := hB2.trans (hb3.mono hB2.size)
  have s3 := hb3.size
  have hw3 : Hid (∀ b ∈ fw, b < w3.heap.size ∧ w2.heap.size ≤ b) := fun b q => ⟨LoopOwn_lt _ _ _ _ own0 b q, low0 b q⟩
  have bA_3 : Hid (Box w3 w.heap.size [.int .i64 h.vNext, .int .i64 h.vDoc, .slice a2 h.vNodes.length cap2, .slice a3 h.vObjs.length cap3, .slice a4 h.vGlobals.length cap4] 35) := bA_2.out.below hb3 bA_2.out.lt
  clear bA_2
  clear z2_bA_0 z2_bA_1 z2_bA_2 z2_bA_3 z2_bA_4
  have z3_bA_0 := bA_3.out.cell 0 rfl
  have z3_bA_1 := bA_3.out.cell 1 rfl
  have z3_bA_2 := bA_3.out.cell 2 rfl
  have z3_bA_3 := bA_3.out.cell 3 rfl
  have z3_bA_4 := bA_3.out.cell 4 rfl
  have hYC : Hid ((1 : Int) + (cntL cntNode (newLoop h).1.hp.vNodes : Nat) + (cntL cntObj (newLoop h).1.hp.vObjs : Nat) + (cntL cntField (newLoop h).1.hp.vGlobals : Nat) ≤ 4611686018427387904) := newLoop_cnt hcnt.out
  generalize hYS : newLoop h = rr at *
  have hYS' : Hid (newLoop h = rr) := hYS
  clear hYS
  obtain ⟨td, bb⟩ := rr
  dsimp only at own0 hYC ⊢
  obtain ⟨aw2, cw2, aw3, cw3, aw4, cw4, rfl, _⟩ := own0.form
  have v0_3 : Hid (LoopOwn w3 [.int .i64 0, .int .i64 td.nx, .int .i64 td.hp.vNext, .int .i64 td.hp.vDoc, .slice aw2 td.hp.vNodes.length cw2, .slice aw3 td.hp.vObjs.length cw3, .slice aw4 td.hp.vGlobals.length cw4, .slice none 0 0, .slice none 0 0, .slice none 0 0] td fw) := own0
  have hbV : Below w3.heap.size w3 (w3.alloc (.cells (List.toArray [.int .i64 0, .int .i64 td.nx, .int .i64 td.hp.vNext, .int .i64 td.hp.vDoc, .slice aw2 td.hp.vNodes.length cw2, .slice aw3 td.hp.vObjs.length cw3, .slice aw4 td.hp.vGlobals.length cw4, .slice none 0 0, .slice none 0 0, .slice none 0 0]) 45)) := (Below.refl _ _).alloc (Nat.le_refl _) _
  have hBV : Below w.heap.size w (w3.alloc (.cells (List.toArray [.int .i64 0, .int .i64 td.nx, .int .i64 td.hp.vNext, .int .i64 td.hp.vDoc, .slice aw2 td.hp.vNodes.length cw2, .slice aw3 td.hp.vObjs.length cw3, .slice aw4 td.hp.vGlobals.length cw4, .slice none 0 0, .slice none 0 0, .slice none 0 0]) 45)) := hB3.trans (hbV.mono hB3.size)
  clear own0 low0 hb3
  have bA_4 : Hid (Box (w3.alloc (.cells (List.toArray [.int .i64 0, .int .i64 td.nx, .int .i64 td.hp.vNext, .int .i64 td.hp.vDoc, .slice aw2 td.hp.vNodes.length cw2, .slice aw3 td.hp.vObjs.length cw3, .slice aw4 td.hp.vGlobals.length cw4, .slice none 0 0, .slice none 0 0, .slice none 0 0]) 45)) w.heap.size [.int .i64 h.vNext, .int .i64 h.vDoc, .slice a2 h.vNodes.length cap2, .slice a3 h.vObjs.length cap3, .slice a4 h.vGlobals.length cap4] 35) := bA_3.out.below hbV bA_3.out.lt
  have v0_4 : Hid (LoopOwn (w3.alloc (.cells (List.toArray [.int .i64 0, .int .i64 td.nx, .int .i64 td.hp.vNext, .int .i64 td.hp.vDoc, .slice aw2 td.hp.vNodes.length cw2, .slice aw3 td.hp.vObjs.length cw3, .slice aw4 td.hp.vGlobals.length cw4, .slice none 0 0, .slice none 0 0, .slice none 0 0]) 45)) [.int .i64 0, .int .i64 td.nx, .int .i64 td.hp.vNext, .int .i64 td.hp.vDoc, .slice aw2 td.hp.vNodes.length cw2, .slice aw3 td.hp.vObjs.length cw3, .slice aw4 td.hp.vGlobals.length cw4, .slice none 0 0, .slice none 0 0, .slice none 0 0] td fw) := LoopOwn_stays _ _ _ _ _ (fun x hx => (hbV).block x (LoopOwn_lt _ _ _ _ v0_3.out x hx)) v0_3.out
  clear bA_3 v0_3
  clear z3_bA_0 z3_bA_1 z3_bA_2 z3_bA_3 z3_bA_4
  have z4_bA_0 := bA_4.out.cell 0 rfl
  have z4_bA_1 := bA_4.out.cell 1 rfl
  have z4_bA_2 := bA_4.out.cell 2 rfl
  have z4_bA_3 := bA_4.out.cell 3 rfl
  have z4_bA_4 := bA_4.out.cell 4 rfl
  have bW_4 : Hid (Box (w3.alloc (.cells (List.toArray [.int .i64 0, .int .i64 td.nx, .int .i64 td.hp.vNext, .int .i64 td.hp.vDoc, .slice aw2 td.hp.vNodes.length cw2, .slice aw3 td.hp.vObjs.length cw3, .slice aw4 td.hp.vGlobals.length cw4, .slice none 0 0, .slice none 0 0, .slice none 0 0]) 45)) w3.heap.size [.int .i64 0, .int .i64 td.nx, .int .i64 td.hp.vNext, .int .i64 td.hp.vDoc, .slice aw2 td.hp.vNodes.length cw2, .slice aw3 td.hp.vObjs.length cw3, .slice aw4 td.hp.vGlobals.length cw4, .slice none 0 0, .slice none 0 0, .slice none 0 0] 45) := Box.new w3 _ _
  go_wp2_with fail
  refine (toHeap_own (HeapAt_stays _ _ _ 0 _ _ (.of_below hBV) ht0.out) hsm.out).mono ?_
  rintro e w4 ⟨⟨cs4, fx, rfl, ownx, ndx, lox⟩, hb4⟩
  have hB4 : Below w.heap.size w w4 := hBV.trans (hb4.mono hBV.size)
  have s4 : w3.heap.size + 1 ≤ w4.heap.size := by have := hb4.size; simpa using this
  have hx4 : Hid (∀ b ∈ fx, b < w4.heap.size ∧ w3.heap.size + 1 ≤ b) := fun b q => ⟨HeapOwn_lt _ _ _ _ ownx b q, by have := lox b q; simpa using this⟩
  have bA_5 : Hid (Box w4 w.heap.size [.int .i64 h.vNext, .int .i64 h.vDoc, .slice a2 h.vNodes.length cap2, .slice a3 h.vObjs.length cap3, .slice a4 h.vGlobals.length cap4] 35) := bA_4.out.below hb4 bA_4.out.lt
  have v0_5 : Hid (LoopOwn w4 [.int .i64 0, .int .i64 td.nx, .int .i64 td.hp.vNext, .int .i64 td.hp.vDoc, .slice aw2 td.hp.vNodes.length cw2, .slice aw3 td.hp.vObjs.length cw3, .slice aw4 td.hp.vGlobals.length cw4, .slice none 0 0, .slice none 0 0, .slice none 0 0] td fw) := LoopOwn_stays _ _ _ _ _ (fun x hx => (hb4).block x (LoopOwn_lt _ _ _ _ v0_4.out x hx)) v0_4.out
  have bW_5 : Hid (Box w4 w3.heap.size [.int .i64 0, .int .i64 td.nx, .int .i64 td.hp.vNext, .int .i64 td.hp.vDoc, .slice aw2 td.hp.vNodes.length cw2, .slice aw3 td.hp.vObjs.length cw3, .slice aw4 td.hp.vGlobals.length cw4, .slice none 0 0, .slice none 0 0, .slice none 0 0] 45) := bW_4.out.below hb4 bW_4.out.lt
  clear bA_4 v0_4 bW_4
  clear z4_bA_0 z4_bA_1 z4_bA_2 z4_bA_3 z4_bA_4
  have z5_bA_0 := bA_5.out.cell 0 rfl
  have z5_bA_1 := bA_5.out.cell 1 rfl
  have z5_bA_2 := bA_5.out.cell 2 rfl
  have z5_bA_3 := bA_5.out.cell 3 rfl
  have z5_bA_4 := bA_5.out.cell 4 rfl
  have z5_bW_0 := bW_5.out.cell 0 rfl
  have z5_bW_1 := bW_5.out.cell 1 rfl
  have z5_bW_2 := bW_5.out.cell 2 rfl
  have z5_bW_3 := bW_5.out.cell 3 rfl
  have z5_bW_4 := bW_5.out.cell 4 rfl
  have z5_bW_5 := bW_5.out.cell 5 rfl
  have z5_bW_6 := bW_5.out.cell 6 rfl
  have z5_bW_7 := bW_5.out.cell 7 rfl
  have z5_bW_8 := bW_5.out.cell 8 rfl
  have z5_bW_9 := bW_5.out.cell 9 rfl
  have x0_5 : Hid (HeapOwn w4 cs4 h fx) := ownx
  obtain ⟨j2, j3, j4, g2, g3, g4, rfl, t2, t3, t4, _⟩ := ownx
  obtain ⟨e2, dap2, rfl⟩ := t2.form
  obtain ⟨e3, dap3, rfl⟩ := t3.form
  obtain ⟨e4, dap4, rfl⟩ := t4.form
  clear t2 t3 t4 hb4 lox
  have hb5 : Below w4.heap.size w4 (w4.alloc (.cells (List.toArray [.int .i64 h.vNext, .int .i64 h.vDoc, .slice e2 h.vNodes.length dap2, .slice e3 h.vObjs.length dap3, .slice e4 h.vGlobals.length dap4]) 41)) := (Below.refl _ _).alloc (Nat.le_refl _) _
  have hB5 : Below w.heap.size w (w4.alloc (.cells (List.toArray [.int .i64 h.vNext, .int .i64 h.vDoc, .slice e2 h.vNodes.length dap2, .slice e3 h.vObjs.length dap3, .slice e4 h.vGlobals.length dap4]) 41)) := hB4.trans (hb5.mono hB4.size)
  go_wp2_with fail
  have bA_6 : Hid (Box (w4.alloc (.cells (List.toArray [.int .i64 h.vNext, .int .i64 h.vDoc, .slice e2 h.vNodes.length dap2, .slice e3 h.vObjs.length dap3, .slice e4 h.vGlobals.length dap4]) 41)) w.heap.size [.int .i64 h.vNext, .int .i64 h.vDoc, .slice a2 h.vNodes.length cap2, .slice a3 h.vObjs.length cap3, .slice a4 h.vGlobals.length cap4] 35) := bA_5.out.below hb5 bA_5.out.lt
  have v0_6 : Hid (LoopOwn (w4.alloc (.cells (List.toArray [.int .i64 h.vNext, .int .i64 h.vDoc, .slice e2 h.vNodes.length dap2, .slice e3 h.vObjs.length dap3, .slice e4 h.vGlobals.length dap4]) 41)) [.int .i64 0, .int .i64 td.nx, .int .i64 td.hp.vNext, .int .i64 td.hp.vDoc, .slice aw2 td.hp.vNodes.length cw2, .slice aw3 td.hp.vObjs.length cw3, .slice aw4 td.hp.vGlobals.length cw4, .slice none 0 0, .slice none 0 0, .slice none 0 0] td fw) := LoopOwn_stays _ _ _ _ _ (fun x hx => (hb5).block x (LoopOwn_lt _ _ _ _ v0_5.out x hx)) v0_5.out
  have bW_6 : Hid (Box (w4.alloc (.cells (List.toArray [.int .i64 h.vNext, .int .i64 h.vDoc, .slice e2 h.vNodes.length dap2, .slice e3 h.vObjs.length dap3, .slice e4 h.vGlobals.length dap4]) 41)) w3.heap.size [.int .i64 0, .int .i64 td.nx, .int .i64 td.hp.vNext, .int .i64 td.hp.vDoc, .slice aw2 td.hp.vNodes.length cw2, .slice aw3 td.hp.vObjs.length cw3, .slice aw4 td.hp.vGlobals.length cw4, .slice none 0 0, .slice none 0 0, .slice none 0 0] 45) := bW_5.out.below hb5 bW_5.out.lt
  have x0_6 : Hid (HeapOwn (w4.alloc (.cells (List.toArray [.int .i64 h.vNext, .int .i64 h.vDoc, .slice e2 h.vNodes.length dap2, .slice e3 h.vObjs.length dap3, .slice e4 h.vGlobals.length dap4]) 41)) [.int .i64 h.vNext, .int .i64 h.vDoc, .slice e2 h.vNodes.length dap2, .slice e3 h.vObjs.length dap3, .slice e4 h.vGlobals.length dap4] h fx) := HeapOwn_stays _ _ _ _ _ (fun x hx => (hb5).block x (HeapOwn_lt _ _ _ _ x0_5.out x hx)) x0_5.out
  clear bA_5 v0_5 bW_5 x0_5
  clear z5_bA_0 z5_bA_1 z5_bA_2 z5_bA_3 z5_bA_4 z5_bW_0 z5_bW_1 z5_bW_2 z5_bW_3 z5_bW_4 z5_bW_5 z5_bW_6 z5_bW_7 z5_bW_8 z5_bW_9
  have z6_bA_0 := bA_6.out.cell 0 rfl
  have z6_bA_1 := bA_6.out.cell 1 rfl
  have z6_bA_2 := bA_6.out.cell 2 rfl
  have z6_bA_3 := bA_6.out.cell 3 rfl
  have z6_bA_4 := bA_6.out.cell 4 rfl
  have z6_bW_0 := bW_6.out.cell 0 rfl
  have z6_bW_1 := bW_6.out.cell 1 rfl
  have z6_bW_2 := bW_6.out.cell 2 rfl
  have z6_bW_3 := bW_6.out.cell 3 rfl
  have z6_bW_4 := bW_6.out.cell 4 rfl
  have z6_bW_5 := bW_6.out.cell 5 rfl
  have z6_bW_6 := bW_6.out.cell 6 rfl
  have z6_bW_7 := bW_6.out.cell 7 rfl
  have z6_bW_8 := bW_6.out.cell 8 rfl
  have z6_bW_9 := bW_6.out.cell 9 rfl
  have bX_6 : Hid (Box (w4.alloc (.cells (List.toArray [.int .i64 h.vNext, .int .i64 h.vDoc, .slice e2 h.vNodes.length dap2, .slice e3 h.vObjs.length dap3, .slice e4 h.vGlobals.length dap4]) 41)) w4.heap.size [.int .i64 h.vNext, .int .i64 h.vDoc, .slice e2 h.vNodes.length dap2, .slice e3 h.vObjs.length dap3, .slice e4 h.vGlobals.length dap4] 41) := Box.new w4 _ _
  refine (implLoopNew_any (HeapOwn_at (lo := 0) _ _ _ _ x0_6.out (fun _ _ => Nat.zero_le _)) hsm.out).mono ?_
  rintro e w6 ⟨⟨csg, fg, rfl, owng, ndg0, logg⟩, hb6⟩
  have ndg : Hid fg.Nodup := ndg0
  clear ndg0
  rw [hYS'.out] at owng ⊢
  dsimp only at owng ⊢
  have hB6 : Below w.heap.size w w6 := hB5.trans (hb6.mono hB5.size)
  have s6 : w4.heap.size + 1 ≤ w6.heap.size := by have := hb6.size; simpa using this
  have hg6 : Hid (∀ b ∈ fg, b < w6.heap.size ∧ w4.heap.size + 1 ≤ b) := fun b q => ⟨LoopOwn_lt _ _ _ _ owng b q, by have := logg b q; simpa using this⟩
  have bA_7 : Hid (Box w6 w.heap.size [.int .i64 h.vNext, .int .i64 h.vDoc, .slice a2 h.vNodes.length cap2, .slice a3 h.vObjs.length cap3, .slice a4 h.vGlobals.length cap4] 35) := bA_6.out.below hb6 bA_6.out.lt
  have v0_7 : Hid (LoopOwn w6 [.int .i64 0, .int .i64 td.nx, .int .i64 td.hp.vNext, .int .i64 td.hp.vDoc, .slice aw2 td.hp.vNodes.length cw2, .slice aw3 td.hp.vObjs.length cw3, .slice aw4 td.hp.vGlobals.length cw4, .slice none 0 0, .slice none 0 0, .slice none 0 0] td fw) := LoopOwn_stays _ _ _ _ _ (fun x hx => (hb6).block x (LoopOwn_lt _ _ _ _ v0_6.out x hx)) v0_6.out
  have bW_7 : Hid (Box w6 w3.heap.size [.int .i64 0, .int .i64 td.nx, .int .i64 td.hp.vNext, .int .i64 td.hp.vDoc, .slice aw2 td.hp.vNodes.length cw2, .slice aw3 td.hp.vObjs.length cw3, .slice aw4 td.hp.vGlobals.length cw4, .slice none 0 0, .slice none 0 0, .slice none 0 0] 45) := bW_6.out.below hb6 bW_6.out.lt
  have x0_7 : Hid (HeapOwn w6 [.int .i64 h.vNext, .int .i64 h.vDoc, .slice e2 h.vNodes.length dap2, .slice e3 h.vObjs.length dap3, .slice e4 h.vGlobals.length dap4] h fx) := HeapOwn_stays _ _ _ _ _ (fun x hx => (hb6).block x (HeapOwn_lt _ _ _ _ x0_6.out x hx)) x0_6.out
  have bX_7 : Hid (Box w6 w4.heap.size [.int .i64 h.vNext, .int .i64 h.vDoc, .slice e2 h.vNodes.length dap2, .slice e3 h.vObjs.length dap3, .slice e4 h.vGlobals.length dap4] 41) := bX_6.out.below hb6 bX_6.out.lt
  clear bA_6 v0_6 bW_6 x0_6 bX_6
  clear z6_bA_0 z6_bA_1 z6_bA_2 z6_bA_3 z6_bA_4 z6_bW_0 z6_bW_1 z6_bW_2 z6_bW_3 z6_bW_4 z6_bW_5 z6_bW_6 z6_bW_7 z6_bW_8 z6_bW_9
  have z7_bA_0 := bA_7.out.cell 0 rfl
  have z7_bA_1 := bA_7.out.cell 1 rfl
  have z7_bA_2 := bA_7.out.cell 2 rfl
  have z7_bA_3 := bA_7.out.cell 3 rfl
  have z7_bA_4 := bA_7.out.cell 4 rfl
  have z7_bW_0 := bW_7.out.cell 0 rfl
  have z7_bW_1 := bW_7.out.cell 1 rfl
  have z7_bW_2 := bW_7.out.cell 2 rfl
  have z7_bW_3 := bW_7.out.cell 3 rfl
  have z7_bW_4 := bW_7.out.cell 4 rfl
  have z7_bW_5 := bW_7.out.cell 5 rfl
  have z7_bW_6 := bW_7.out.cell 6 rfl
  have z7_bW_7 := bW_7.out.cell 7 rfl
  have z7_bW_8 := bW_7.out.cell 8 rfl
  have z7_bW_9 := bW_7.out.cell 9 rfl
  have z7_bX_0 := bX_7.out.cell 0 rfl
  have z7_bX_1 := bX_7.out.cell 1 rfl
  have z7_bX_2 := bX_7.out.cell 2 rfl
  have z7_bX_3 := bX_7.out.cell 3 rfl
  have z7_bX_4 := bX_7.out.cell 4 rfl
  obtain ⟨ag2, cg2, ag3, cg3, ag4, cg4, rfl, _⟩ := owng.form
  have g0_7 : Hid (LoopOwn w6 [.int .i64 0, .int .i64 td.nx, .int .i64 td.hp.vNext, .int .i64 td.hp.vDoc, .slice ag2 td.hp.vNodes.length cg2, .slice ag3 td.hp.vObjs.length cg3, .slice ag4 td.hp.vGlobals.length cg4, .slice none 0 0, .slice none 0 0, .slice none 0 0] td fg) := owng
  have hbG : Below w6.heap.size w6 (w6.alloc (.cells (List.toArray [.int .i64 0, .int .i64 td.nx, .int .i64 td.hp.vNext, .int .i64 td.hp.vDoc, .slice ag2 td.hp.vNodes.length cg2, .slice ag3 td.hp.vObjs.length cg3, .slice ag4 td.hp.vGlobals.length cg4, .slice none 0 0, .slice none 0 0, .slice none 0 0]) 45)) := (Below.refl _ _).alloc (Nat.le_refl _) _
  have hBG : Below w.heap.size w (w6.alloc (.cells (List.toArray [.int .i64 0, .int .i64 td.nx, .int .i64 td.hp.vNext, .int .i64 td.hp.vDoc, .slice ag2 td.hp.vNodes.length cg2, .slice ag3 td.hp.vObjs.length cg3, .slice ag4 td.hp.vGlobals.length cg4, .slice none 0 0, .slice none 0 0, .slice none 0 0]) 45)) := hB6.trans (hbG.mono hB6.size)
  clear owng logg hb6
  have bA_8 : Hid (Box (w6.alloc (.cells (List.toArray [.int .i64 0, .int .i64 td.nx, .int .i64 td.hp.vNext, .int .i64 td.hp.vDoc, .slice ag2 td.hp.vNodes.length cg2, .slice ag3 td.hp.vObjs.length cg3, .slice ag4 td.hp.vGlobals.length cg4, .slice none 0 0, .slice none 0 0, .slice none 0 0]) 45)) w.heap.size [.int .i64 h.vNext, .int .i64 h.vDoc, .slice a2 h.vNodes.length cap2, .slice a3 h.vObjs.length cap3, .slice a4 h.vGlobals.length cap4] 35) := bA_7.out.below hbG bA_7.out.lt
  have v0_8 : Hid (LoopOwn (w6.alloc (.cells (List.toArray [.int .i64 0, .int .i64 td.nx, .int .i64 td.hp.vNext, .int .i64 td.hp.vDoc, .slice ag2 td.hp.vNodes.length cg2, .slice ag3 td.hp.vObjs.length cg3, .slice ag4 td.hp.vGlobals.length cg4, .slice none 0 0, .slice none 0 0, .slice none 0 0]) 45)) [.int .i64 0, .int .i64 td.nx, .int .i64 td.hp.vNext, .int .i64 td.hp.vDoc, .slice aw2 td.hp.vNodes.length cw2, .slice aw3 td.hp.vObjs.length cw3, .slice aw4 td.hp.vGlobals.length cw4, .slice none 0 0, .slice none 0 0, .slice none 0 0] td fw) := LoopOwn_stays _ _ _ _ _ (fun x hx => (hbG).block x (LoopOwn_lt _ _ _ _ v0_7.out x hx)) v0_7.out
  have bW_8 : Hid (Box (w6.alloc (.cells (List.toArray [.int .i64 0, .int .i64 td.nx, .int .i64 td.hp.vNext, .int .i64 td.hp.vDoc, .slice ag2 td.hp.vNodes.length cg2, .slice ag3 td.hp.vObjs.length cg3, .slice ag4 td.hp.vGlobals.length cg4, .slice none 0 0, .slice none 0 0, .slice none 0 0]) 45)) w3.heap.size [.int .i64 0, .int .i64 td.nx, .int .i64 td.hp.vNext, .int .i64 td.hp.vDoc, .slice aw2 td.hp.vNodes.length cw2, .slice aw3 td.hp.vObjs.length cw3, .slice aw4 td.hp.vGlobals.length cw4, .slice none 0 0, .slice none 0 0, .slice none 0 0] 45) := bW_7.out.below hbG bW_7.out.lt
  have x0_8 : Hid (HeapOwn (w6.alloc (.cells (List.toArray [.int .i64 0, .int .i64 td.nx, .int .i64 td.hp.vNext, .int .i64 td.hp.vDoc, .slice ag2 td.hp.vNodes.length cg2, .slice ag3 td.hp.vObjs.length cg3, .slice ag4 td.hp.vGlobals.length cg4, .slice none 0 0, .slice none 0 0, .slice none 0 0]) 45)) [.int .i64 h.vNext, .int .i64 h.vDoc, .slice e2 h.vNodes.length dap2, .slice e3 h.vObjs.length dap3, .slice e4 h.vGlobals.length dap4] h fx) := HeapOwn_stays _ _ _ _ _ (fun x hx => (hbG).block x (HeapOwn_lt _ _ _ _ x0_7.out x hx)) x0_7.out
  have bX_8 : Hid (Box (w6.alloc (.cells (List.toArray [.int .i64 0, .int .i64 td.nx, .int .i64 td.hp.vNext, .int .i64 td.hp.vDoc, .slice ag2 td.hp.vNodes.length cg2, .slice ag3 td.hp.vObjs.length cg3, .slice ag4 td.hp.vGlobals.length cg4, .slice none 0 0, .slice none 0 0, .slice none 0 0]) 45)) w4.heap.size [.int .i64 h.vNext, .int .i64 h.vDoc, .slice e2 h.vNodes.length dap2, .slice e3 h.vObjs.length dap3, .slice e4 h.vGlobals.length dap4] 41) := bX_7.out.below hbG bX_7.out.lt
  have g0_8 : Hid (LoopOwn (w6.alloc (.cells (List.toArray [.int .i64 0, .int .i64 td.nx, .int .i64 td.hp.vNext, .int .i64 td.hp.vDoc, .slice ag2 td.hp.vNodes.length cg2, .slice ag3 td.hp.vObjs.length cg3, .slice ag4 td.hp.vGlobals.length cg4, .slice none 0 0, .slice none 0 0, .slice none 0 0]) 45)) [.int .i64 0, .int .i64 td.nx, .int .i64 td.hp.vNext, .int .i64 td.hp.vDoc, .slice ag2 td.hp.vNodes.length cg2, .slice ag3 td.hp.vObjs.length cg3, .slice ag4 td.hp.vGlobals.length cg4, .slice none 0 0, .slice none 0 0, .slice none 0 0] td fg) := LoopOwn_stays _ _ _ _ _ (fun x hx => (hbG).block x (LoopOwn_lt _ _ _ _ g0_7.out x hx)) g0_7.out
  clear bA_7 v0_7 bW_7 x0_7 bX_7 g0_7
  clear z7_bA_0 z7_bA_1 z7_bA_2 z7_bA_3 z7_bA_4 z7_bW_0 z7_bW_1 z7_bW_2 z7_bW_3 z7_bW_4 z7_bW_5 z7_bW_6 z7_bW_7 z7_bW_8 z7_bW_9 z7_bX_0 z7_bX_1 z7_bX_2 z7_bX_3 z7_bX_4
  have z8_bA_0 := bA_8.out.cell 0 rfl
  have z8_bA_1 := bA_8.out.cell 1 rfl
  have z8_bA_2 := bA_8.out.cell 2 rfl
  have z8_bA_3 := bA_8.out.cell 3 rfl
  have z8_bA_4 := bA_8.out.cell 4 rfl
  have z8_bW_0 := bW_8.out.cell 0 rfl
  have z8_bW_1 := bW_8.out.cell 1 rfl
  have z8_bW_2 := bW_8.out.cell 2 rfl
  have z8_bW_3 := bW_8.out.cell 3 rfl
  have z8_bW_4 := bW_8.out.cell 4 rfl
  have z8_bW_5 := bW_8.out.cell 5 rfl
  have z8_bW_6 := bW_8.out.cell 6 rfl
  have z8_bW_7 := bW_8.out.cell 7 rfl
  have z8_bW_8 := bW_8.out.cell 8 rfl
  have z8_bW_9 := bW_8.out.cell 9 rfl
  have z8_bX_0 := bX_8.out.cell 0 rfl
  have z8_bX_1 := bX_8.out.cell 1 rfl
  have z8_bX_2 := bX_8.out.cell 2 rfl
  have z8_bX_3 := bX_8.out.cell 3 rfl
  have z8_bX_4 := bX_8.out.cell 4 rfl
  have bG_8 : Hid (Box (w6.alloc (.cells (List.toArray [.int .i64 0, .int .i64 td.nx, .int .i64 td.hp.vNext, .int .i64 td.hp.vDoc, .slice ag2 td.hp.vNodes.length cg2, .slice ag3 td.hp.vObjs.length cg3, .slice ag4 td.hp.vGlobals.length cg4, .slice none 0 0, .slice none 0 0, .slice none 0 0]) 45)) w6.heap.size [.int .i64 0, .int .i64 td.nx, .int .i64 td.hp.vNext, .int .i64 td.hp.vDoc, .slice ag2 td.hp.vNodes.length cg2, .slice ag3 td.hp.vObjs.length cg3, .slice ag4 td.hp.vGlobals.length cg4, .slice none 0 0, .slice none 0 0, .slice none 0 0] 45) := Box.new w6 _ _
  go_wp2_with fail
  refine (eqLoop_any (lo := 0) (lo2 := 0) (by exact LoopOwn_at (lo := 0) _ _ _ _ g0_8.out (fun _ _ => Nat.zero_le _)) (by exact LoopOwn_at (lo := 0) _ _ _ _ v0_8.out (fun _ _ => Nat.zero_le _))).mono ?_
  rintro e w7 ⟨rfl, hb7⟩
  have hB7 : Below w.heap.size w w7 := hBG.trans (hb7.mono hBG.size)
  have s7 : w6.heap.size + 1 ≤ w7.heap.size := by have := hb7.size; simpa using this
  have bA_9 : Hid (Box w7 w.heap.size [.int .i64 h.vNext, .int .i64 h.vDoc, .slice a2 h.vNodes.length cap2, .slice a3 h.vObjs.length cap3, .slice a4 h.vGlobals.length cap4] 35) := bA_8.out.below hb7 bA_8.out.lt
  have v0_9 : Hid (LoopOwn w7 [.int .i64 0, .int .i64 td.nx, .int .i64 td.hp.vNext, .int .i64 td.hp.vDoc, .slice aw2 td.hp.vNodes.length cw2, .slice aw3 td.hp.vObjs.length cw3, .slice aw4 td.hp.vGlobals.length cw4, .slice none 0 0, .slice none 0 0, .slice none 0 0] td fw) := LoopOwn_stays _ _ _ _ _ (fun x hx => (hb7).block x (LoopOwn_lt _ _ _ _ v0_8.out x hx)) v0_8.out
  have bW_9 : Hid (Box w7 w3.heap.size [.int .i64 0, .int .i64 td.nx, .int .i64 td.hp.vNext, .int .i64 td.hp.vDoc, .slice aw2 td.hp.vNodes.length cw2, .slice aw3 td.hp.vObjs.length cw3, .slice aw4 td.hp.vGlobals.length cw4, .slice none 0 0, .slice none 0 0, .slice none 0 0] 45) := bW_8.out.below hb7 bW_8.out.lt
  have x0_9 : Hid (HeapOwn w7 [.int .i64 h.vNext, .int .i64 h.vDoc, .slice e2 h.vNodes.length dap2, .slice e3 h.vObjs.length dap3, .slice e4 h.vGlobals.length dap4] h fx) := HeapOwn_stays _ _ _ _ _ (fun x hx => (hb7).block x (HeapOwn_lt _ _ _ _ x0_8.out x hx)) x0_8.out
  have bX_9 : Hid (Box w7 w4.heap.size [.int .i64 h.vNext, .int .i64 h.vDoc, .slice e2 h.vNodes.length dap2, .slice e3 h.vObjs.length dap3, .slice e4 h.vGlobals.length dap4] 41) := bX_8.out.below hb7 bX_8.out.lt
  have g0_9 : Hid (LoopOwn w7 [.int .i64 0, .int .i64 td.nx, .int .i64 td.hp.vNext, .int .i64 td.hp.vDoc, .slice ag2 td.hp.vNodes.length cg2, .slice ag3 td.hp.vObjs.length cg3, .slice ag4 td.hp.vGlobals.length cg4, .slice none 0 0, .slice none 0 0, .slice none 0 0] td fg) := LoopOwn_stays _ _ _ _ _ (fun x hx => (hb7).block x (LoopOwn_lt _ _ _ _ g0_8.out x hx)) g0_8.out
  have bG_9 : Hid (Box w7 w6.heap.size [.int .i64 0, .int .i64 td.nx, .int .i64 td.hp.vNext, .int .i64 td.hp.vDoc, .slice ag2 td.hp.vNodes.length cg2, .slice ag3 td.hp.vObjs.length cg3, .slice ag4 td.hp.vGlobals.length cg4, .slice none 0 0, .slice none 0 0, .slice none 0 0] 45) := bG_8.out.below hb7 bG_8.out.lt
  clear bA_8 v0_8 bW_8 x0_8 bX_8 g0_8 bG_8
  clear z8_bA_0 z8_bA_1 z8_bA_2 z8_bA_3 z8_bA_4 z8_bW_0 z8_bW_1 z8_bW_2 z8_bW_3 z8_bW_4 z8_bW_5 z8_bW_6 z8_bW_7 z8_bW_8 z8_bW_9 z8_bX_0 z8_bX_1 z8_bX_2 z8_bX_3 z8_bX_4
  have z9_bA_0 := bA_9.out.cell 0 rfl
  have z9_bA_1 := bA_9.out.cell 1 rfl
  have z9_bA_2 := bA_9.out.cell 2 rfl
  have z9_bA_3 := bA_9.out.cell 3 rfl
  have z9_bA_4 := bA_9.out.cell 4 rfl
  have z9_bW_0 := bW_9.out.cell 0 rfl
  have z9_bW_1 := bW_9.out.cell 1 rfl
  have z9_bW_2 := bW_9.out.cell 2 rfl
  have z9_bW_3 := bW_9.out.cell 3 rfl
  have z9_bW_4 := bW_9.out.cell 4 rfl
  have z9_bW_5 := bW_9.out.cell 5 rfl
  have z9_bW_6 := bW_9.out.cell 6 rfl
  have z9_bW_7 := bW_9.out.cell 7 rfl
  have z9_bW_8 := bW_9.out.cell 8 rfl
  have z9_bW_9 := bW_9.out.cell 9 rfl
  have z9_bX_0 := bX_9.out.cell 0 rfl
  have z9_bX_1 := bX_9.out.cell 1 rfl
  have z9_bX_2 := bX_9.out.cell 2 rfl
  have z9_bX_3 := bX_9.out.cell 3 rfl
  have z9_bX_4 := bX_9.out.cell 4 rfl
  have z9_bG_0 := bG_9.out.cell 0 rfl
  have z9_bG_1 := bG_9.out.cell 1 rfl
  have z9_bG_2 := bG_9.out.cell 2 rfl
  have z9_bG_3 := bG_9.out.cell 3 rfl
  have z9_bG_4 := bG_9.out.cell 4 rfl
  have z9_bG_5 := bG_9.out.cell 5 rfl
  have z9_bG_6 := bG_9.out.cell 6 rfl
  have z9_bG_7 := bG_9.out.cell 7 rfl
  have z9_bG_8 := bG_9.out.cell 8 rfl
  have z9_bG_9 := bG_9.out.cell 9 rfl
  have PK : Hid (Box w7 w4.heap.size [.int .i64 h.vNext, .int .i64 h.vDoc, .slice e2 h.vNodes.length dap2, .slice e3 h.vObjs.length dap3, .slice e4 h.vGlobals.length dap4] 41 ∧ Box w7 w.heap.size [.int .i64 h.vNext, .int .i64 h.vDoc, .slice a2 h.vNodes.length cap2, .slice a3 h.vObjs.length cap3, .slice a4 h.vGlobals.length cap4] 35) := ⟨bX_9.out, bA_9.out⟩
  have hX7 : Hid (HeapAt w7 0 [.int .i64 h.vNext, .int .i64 h.vDoc, .slice e2 h.vNodes.length dap2, .slice e3 h.vObjs.length dap3, .slice e4 h.vGlobals.length dap4] h) := HeapOwn_at (lo := 0) _ _ _ _ x0_9.out (fun _ _ => Nat.zero_le _)
  go_wp2_with fail
  go_region_held3 (fun w' => w'.cell? ⟨w4.heap.size, 0, none⟩ = some (.int .i64 h.vNext) ∧ w'.cell? ⟨w4.heap.size, 1, none⟩ = some (.int .i64 h.vDoc) ∧ w'.cell? ⟨w4.heap.size, 2, none⟩ = some (.slice e2 h.vNodes.length dap2) ∧ w'.cell? ⟨w4.heap.size, 3, none⟩ = some (.slice e3 h.vObjs.length dap3) ∧ w'.cell? ⟨w4.heap.size, 4, none⟩ = some (.slice e4 h.vGlobals.length dap4) ∧ w'.cell? ⟨w.heap.size, 0, none⟩ = some (.int .i64 h.vNext) ∧ w'.cell? ⟨w.heap.size, 1, none⟩ = some (.int .i64 h.vDoc) ∧ w'.cell? ⟨w.heap.size, 2, none⟩ = some (.slice a2 h.vNodes.length cap2) ∧ w'.cell? ⟨w.heap.size, 3, none⟩ = some (.slice a3 h.vObjs.length cap3) ∧ w'.cell? ⟨w.heap.size, 4, none⟩ = some (.slice a4 h.vGlobals.length cap4)) (go_keep)
    (first | (go_at_call 12; refine (toHeap_any (by exact HeapAt_stays _ _ _ 0 _ _ (.of_below hB7.drew) ht0.out) hsm.out).mono ?_; rintro e w8 ⟨⟨cs8, rfl, ht8⟩, hb8⟩; obtain ⟨y0, y1, y2, y3, y4, y5, y6, y7, y8, y9, hB8⟩ := keepH hB7 (undrew hb8) PK.out.1 PK.out.2; have ht8a : Hid (HeapAt w8 0 [.int .i64 h.vNext, .int .i64 h.vDoc, .slice e2 h.vNodes.length dap2, .slice e3 h.vObjs.length dap3, .slice e4 h.vGlobals.length dap4] h) := HeapAt_stays _ _ _ _ _ _ (.of_below (undrew hb8)) hX7.out; have ht8b : Hid _ := ht8; have hb8' : Hid (Below w7.heap.size w7 w8) := undrew hb8; clear ht8 hb8) | (go_at_call 15; refine (eqHeap_any (by exact ht8a.out) (by exact ht8b.out)).mono ?_; rintro e w9 ⟨rfl, hb9⟩; obtain ⟨y0, y1, y2, y3, y4, y5, y6, y7, y8, y9, hB9⟩ := keepH hB8.out.1 hb9 hB8.out.2.1 hB8.out.2.2; have hb9' : Hid (Below w8.heap.size w8 w9) := hb9; clear hb9))
  have hb79 : Below w7.heap.size w7 w9 := hb8'.out.trans (hb9'.out.mono hb8'.out.size)
  have hBw9 : Below w.heap.size w w9 := hB9.out.1
  have s9 := hb79.size
  clear PK hX7 ht8a ht8b hB8 hB9 hb8' hb9'
  have bA_10 : Hid (Box w9 w.heap.size [.int .i64 h.vNext, .int .i64 h.vDoc, .slice a2 h.vNodes.length cap2, .slice a3 h.vObjs.length cap3, .slice a4 h.vGlobals.length cap4] 35) := bA_9.out.below hb79 bA_9.out.lt
  have v0_10 : Hid (LoopOwn w9 [.int .i64 0, .int .i64 td.nx, .int .i64 td.hp.vNext, .int .i64 td.hp.vDoc, .slice aw2 td.hp.vNodes.length cw2, .slice aw3 td.hp.vObjs.length cw3, .slice aw4 td.hp.vGlobals.length cw4, .slice none 0 0, .slice none 0 0, .slice none 0 0] td fw) := LoopOwn_stays _ _ _ _ _ (fun x hx => (hb79).block x (LoopOwn_lt _ _ _ _ v0_9.out x hx)) v0_9.out
  have bW_10 : Hid (Box w9 w3.heap.size [.int .i64 0, .int .i64 td.nx, .int .i64 td.hp.vNext, .int .i64 td.hp.vDoc, .slice aw2 td.hp.vNodes.length cw2, .slice aw3 td.hp.vObjs.length cw3, .slice aw4 td.hp.vGlobals.length cw4, .slice none 0 0, .slice none 0 0, .slice none 0 0] 45) := bW_9.out.below hb79 bW_9.out.lt
  have x0_10 : Hid (HeapOwn w9 [.int .i64 h.vNext, .int .i64 h.vDoc, .slice e2 h.vNodes.length dap2, .slice e3 h.vObjs.length dap3, .slice e4 h.vGlobals.length dap4] h fx) := HeapOwn_stays _ _ _ _ _ (fun x hx => (hb79).block x (HeapOwn_lt _ _ _ _ x0_9.out x hx)) x0_9.out
  have bX_10 : Hid (Box w9 w4.heap.size [.int .i64 h.vNext, .int .i64 h.vDoc, .slice e2 h.vNodes.length dap2, .slice e3 h.vObjs.length dap3, .slice e4 h.vGlobals.length dap4] 41) := bX_9.out.below hb79 bX_9.out.lt
  have g0_10 : Hid (LoopOwn w9 [.int .i64 0, .int .i64 td.nx, .int .i64 td.hp.vNext, .int .i64 td.hp.vDoc, .slice ag2 td.hp.vNodes.length cg2, .slice ag3 td.hp.vObjs.length cg3, .slice ag4 td.hp.vGlobals.length cg4, .slice none 0 0, .slice none 0 0, .slice none 0 0] td fg) := LoopOwn_stays _ _ _ _ _ (fun x hx => (hb79).block x (LoopOwn_lt _ _ _ _ g0_9.out x hx)) g0_9.out
  have bG_10 : Hid (Box w9 w6.heap.size [.int .i64 0, .int .i64 td.nx, .int .i64 td.hp.vNext, .int .i64 td.hp.vDoc, .slice ag2 td.hp.vNodes.length cg2, .slice ag3 td.hp.vObjs.length cg3, .slice ag4 td.hp.vGlobals.length cg4, .slice none 0 0, .slice none 0 0, .slice none 0 0] 45) := bG_9.out.below hb79 bG_9.out.lt
  clear bA_9 v0_9 bW_9 x0_9 bX_9 g0_9 bG_9
  clear z9_bA_0 z9_bA_1 z9_bA_2 z9_bA_3 z9_bA_4 z9_bW_0 z9_bW_1 z9_bW_2 z9_bW_3 z9_bW_4 z9_bW_5 z9_bW_6 z9_bW_7 z9_bW_8 z9_bW_9 z9_bX_0 z9_bX_1 z9_bX_2 z9_bX_3 z9_bX_4 z9_bG_0 z9_bG_1 z9_bG_2 z9_bG_3 z9_bG_4 z9_bG_5 z9_bG_6 z9_bG_7 z9_bG_8 z9_bG_9
  have z10_bA_0 := bA_10.out.cell 0 rfl
  have z10_bA_1 := bA_10.out.cell 1 rfl
  have z10_bA_2 := bA_10.out.cell 2 rfl
  have z10_bA_3 := bA_10.out.cell 3 rfl
  have z10_bA_4 := bA_10.out.cell 4 rfl
  have z10_bW_0 := bW_10.out.cell 0 rfl
  have z10_bW_1 := bW_10.out.cell 1 rfl
  have z10_bW_2 := bW_10.out.cell 2 rfl
  have z10_bW_3 := bW_10.out.cell 3 rfl
  have z10_bW_4 := bW_10.out.cell 4 rfl
  have z10_bW_5 := bW_10.out.cell 5 rfl
  have z10_bW_6 := bW_10.out.cell 6 rfl
  have z10_bW_7 := bW_10.out.cell 7 rfl
  have z10_bW_8 := bW_10.out.cell 8 rfl
  have z10_bW_9 := bW_10.out.cell 9 rfl
  have z10_bX_0 := bX_10.out.cell 0 rfl
  have z10_bX_1 := bX_10.out.cell 1 rfl
  have z10_bX_2 := bX_10.out.cell 2 rfl
  have z10_bX_3 := bX_10.out.cell 3 rfl
  have z10_bX_4 := bX_10.out.cell 4 rfl
  have z10_bG_0 := bG_10.out.cell 0 rfl
  have z10_bG_1 := bG_10.out.cell 1 rfl
  have z10_bG_2 := bG_10.out.cell 2 rfl
  have z10_bG_3 := bG_10.out.cell 3 rfl
  have z10_bG_4 := bG_10.out.cell 4 rfl
  have z10_bG_5 := bG_10.out.cell 5 rfl
  have z10_bG_6 := bG_10.out.cell 6 rfl
  have z10_bG_7 := bG_10.out.cell 7 rfl
  have z10_bG_8 := bG_10.out.cell 8 rfl
  have z10_bG_9 := bG_10.out.cell 9 rfl
  go_wp2_with fail
  refine (markHeap_any x0_10.out ndx (by omega) hcnt.out).mono ?_
  rintro e w10 ⟨rfl, own10, ho10⟩
  have s10 := ho10.2.2.2.1
  have hB10 : Below w.heap.size w w10 := hBw9.trans (ho10.below hBw9.size (fun x hx => by have := hx4.out x hx; omega))
  have bA_11 : Hid (Box w10 w.heap.size [.int .i64 h.vNext, .int .i64 h.vDoc, .slice a2 h.vNodes.length cap2, .slice a3 h.vObjs.length cap3, .slice a4 h.vGlobals.length cap4] 35) := ((ho10).keep bA_10.out.lt (fun q => by have := hx4.out _ q; omega)).trans bA_10.out
  have v0_11 : Hid (LoopOwn w10 [.int .i64 0, .int .i64 td.nx, .int .i64 td.hp.vNext, .int .i64 td.hp.vDoc, .slice aw2 td.hp.vNodes.length cw2, .slice aw3 td.hp.vObjs.length cw3, .slice aw4 td.hp.vGlobals.length cw4, .slice none 0 0, .slice none 0 0, .slice none 0 0] td fw) := LoopOwn_stays _ _ _ _ _ (fun x hx => (ho10).keep (LoopOwn_lt _ _ _ _ v0_10.out x hx) (fun q => by have := hx4.out _ q; have := hw3.out _ hx; omega)) v0_10.out
  have bW_11 : Hid (Box w10 w3.heap.size [.int .i64 0, .int .i64 td.nx, .int .i64 td.hp.vNext, .int .i64 td.hp.vDoc, .slice aw2 td.hp.vNodes.length cw2, .slice aw3 td.hp.vObjs.length cw3, .slice aw4 td.hp.vGlobals.length cw4, .slice none 0 0, .slice none 0 0, .slice none 0 0] 45) := ((ho10).keep bW_10.out.lt (fun q => by have := hx4.out _ q; omega)).trans bW_10.out
  have bX_11 : Hid (Box w10 w4.heap.size [.int .i64 h.vNext, .int .i64 h.vDoc, .slice e2 h.vNodes.length dap2, .slice e3 h.vObjs.length dap3, .slice e4 h.vGlobals.length dap4] 41) := ((ho10).keep bX_10.out.lt (fun q => by have := hx4.out _ q; omega)).trans bX_10.out
  have g0_11 : Hid (LoopOwn w10 [.int .i64 0, .int .i64 td.nx, .int .i64 td.hp.vNext, .int .i64 td.hp.vDoc, .slice ag2 td.hp.vNodes.length cg2, .slice ag3 td.hp.vObjs.length cg3, .slice ag4 td.hp.vGlobals.length cg4, .slice none 0 0, .slice none 0 0, .slice none 0 0] td fg) := LoopOwn_stays _ _ _ _ _ (fun x hx => (ho10).keep (LoopOwn_lt _ _ _ _ g0_10.out x hx) (fun q => by have := hx4.out _ q; have := hg6.out _ hx; omega)) g0_10.out
  have bG_11 : Hid (Box w10 w6.heap.size [.int .i64 0, .int .i64 td.nx, .int .i64 td.hp.vNext, .int .i64 td.hp.vDoc, .slice ag2 td.hp.vNodes.length cg2, .slice ag3 td.hp.vObjs.length cg3, .slice ag4 td.hp.vGlobals.length cg4, .slice none 0 0, .slice none 0 0, .slice none 0 0] 45) := ((ho10).keep bG_10.out.lt (fun q => by have := hx4.out _ q; omega)).trans bG_10.out
  clear bA_10 v0_10 bW_10 x0_10 bX_10 g0_10 bG_10
  clear z10_bA_0 z10_bA_1 z10_bA_2 z10_bA_3 z10_bA_4 z10_bW_0 z10_bW_1 z10_bW_2 z10_bW_3 z10_bW_4 z10_bW_5 z10_bW_6 z10_bW_7 z10_bW_8 z10_bW_9 z10_bX_0 z10_bX_1 z10_bX_2 z10_bX_3 z10_bX_4 z10_bG_0 z10_bG_1 z10_bG_2 z10_bG_3 z10_bG_4 z10_bG_5 z10_bG_6 z10_bG_7 z10_bG_8 z10_bG_9
  have z11_bA_0 := bA_11.out.cell 0 rfl
  have z11_bA_1 := bA_11.out.cell 1 rfl
  have z11_bA_2 := bA_11.out.cell 2 rfl
  have z11_bA_3 := bA_11.out.cell 3 rfl
  have z11_bA_4 := bA_11.out.cell 4 rfl
  have z11_bW_0 := bW_11.out.cell 0 rfl
  have z11_bW_1 := bW_11.out.cell 1 rfl
  have z11_bW_2 := bW_11.out.cell 2 rfl
  have z11_bW_3 := bW_11.out.cell 3 rfl
  have z11_bW_4 := bW_11.out.cell 4 rfl
  have z11_bW_5 := bW_11.out.cell 5 rfl
  have z11_bW_6 := bW_11.out.cell 6 rfl
  have z11_bW_7 := bW_11.out.cell 7 rfl
  have z11_bW_8 := bW_11.out.cell 8 rfl
  have z11_bW_9 := bW_11.out.cell 9 rfl
  have z11_bX_0 := bX_11.out.cell 0 rfl
  have z11_bX_1 := bX_11.out.cell 1 rfl
  have z11_bX_2 := bX_11.out.cell 2 rfl
  have z11_bX_3 := bX_11.out.cell 3 rfl
  have z11_bX_4 := bX_11.out.cell 4 rfl
  have z11_bG_0 := bG_11.out.cell 0 rfl
  have z11_bG_1 := bG_11.out.cell 1 rfl
  have z11_bG_2 := bG_11.out.cell 2 rfl
  have z11_bG_3 := bG_11.out.cell 3 rfl
  have z11_bG_4 := bG_11.out.cell 4 rfl
  have z11_bG_5 := bG_11.out.cell 5 rfl
  have z11_bG_6 := bG_11.out.cell 6 rfl
  have z11_bG_7 := bG_11.out.cell 7 rfl
  have z11_bG_8 := bG_11.out.cell 8 rfl
  have z11_bG_9 := bG_11.out.cell 9 rfl
  have hk0 : ((1 : Int) + (cntL cntNode h.vNodes : Nat) + (cntL cntObj h.vObjs : Nat) + (cntL cntField h.vGlobals : Nat) : Int) < 0 → False := by omega
  generalize hSUM : (1 : Int) + (cntL cntNode h.vNodes : Nat) + (cntL cntObj h.vObjs : Nat) + (cntL cntField h.vGlobals : Nat) = K at *
  have hk1 : decide (K < 0) = false := by simp; omega
  clear hSUM own10
  go_wp2_with fail
  refine (eqLoop_any (lo := 0) (lo2 := 0) (by exact LoopOwn_at (lo := 0) _ _ _ _ g0_11.out (fun _ _ => Nat.zero_le _)) (by exact LoopOwn_at (lo := 0) _ _ _ _ v0_11.out (fun _ _ => Nat.zero_le _))).mono ?_
  rintro e w11 ⟨rfl, hb11⟩
  have hB11 : Below w.heap.size w w11 := hB10.trans (hb11.mono hB10.size)
  have s11 := hb11.size
  have bA_12 : Hid (Box w11 w.heap.size [.int .i64 h.vNext, .int .i64 h.vDoc, .slice a2 h.vNodes.length cap2, .slice a3 h.vObjs.length cap3, .slice a4 h.vGlobals.length cap4] 35) := bA_11.out.below hb11 bA_11.out.lt
  have v0_12 : Hid (LoopOwn w11 [.int .i64 0, .int .i64 td.nx, .int .i64 td.hp.vNext, .int .i64 td.hp.vDoc, .slice aw2 td.hp.vNodes.length cw2, .slice aw3 td.hp.vObjs.length cw3, .slice aw4 td.hp.vGlobals.length cw4, .slice none 0 0, .slice none 0 0, .slice none 0 0] td fw) := LoopOwn_stays _ _ _ _ _ (fun x hx => (hb11).block x (LoopOwn_lt _ _ _ _ v0_11.out x hx)) v0_11.out
  have bW_12 : Hid (Box w11 w3.heap.size [.int .i64 0, .int .i64 td.nx, .int .i64 td.hp.vNext, .int .i64 td.hp.vDoc, .slice aw2 td.hp.vNodes.length cw2, .slice aw3 td.hp.vObjs.length cw3, .slice aw4 td.hp.vGlobals.length cw4, .slice none 0 0, .slice none 0 0, .slice none 0 0] 45) := bW_11.out.below hb11 bW_11.out.lt
  have bX_12 : Hid (Box w11 w4.heap.size [.int .i64 h.vNext, .int .i64 h.vDoc, .slice e2 h.vNodes.length dap2, .slice e3 h.vObjs.length dap3, .slice e4 h.vGlobals.length dap4] 41) := bX_11.out.below hb11 bX_11.out.lt
  have g0_12 : Hid (LoopOwn w11 [.int .i64 0, .int .i64 td.nx, .int .i64 td.hp.vNext, .int .i64 td.hp.vDoc, .slice ag2 td.hp.vNodes.length cg2, .slice ag3 td.hp.vObjs.length cg3, .slice ag4 td.hp.vGlobals.length cg4, .slice none 0 0, .slice none 0 0, .slice none 0 0] td fg) := LoopOwn_stays _ _ _ _ _ (fun x hx => (hb11).block x (LoopOwn_lt _ _ _ _ g0_11.out x hx)) g0_11.out
  have bG_12 : Hid (Box w11 w6.heap.size [.int .i64 0, .int .i64 td.nx, .int .i64 td.hp.vNext, .int .i64 td.hp.vDoc, .slice ag2 td.hp.vNodes.length cg2, .slice ag3 td.hp.vObjs.length cg3, .slice ag4 td.hp.vGlobals.length cg4, .slice none 0 0, .slice none 0 0, .slice none 0 0] 45) := bG_11.out.below hb11 bG_11.out.lt
  clear bA_11 v0_11 bW_11 bX_11 g0_11 bG_11
  clear z11_bA_0 z11_bA_1 z11_bA_2 z11_bA_3 z11_bA_4 z11_bW_0 z11_bW_1 z11_bW_2 z11_bW_3 z11_bW_4 z11_bW_5 z11_bW_6 z11_bW_7 z11_bW_8 z11_bW_9 z11_bX_0 z11_bX_1 z11_bX_2 z11_bX_3 z11_bX_4 z11_bG_0 z11_bG_1 z11_bG_2 z11_bG_3 z11_bG_4 z11_bG_5 z11_bG_6 z11_bG_7 z11_bG_8 z11_bG_9
  have z12_bA_0 := bA_12.out.cell 0 rfl
  have z12_bA_1 := bA_12.out.cell 1 rfl
  have z12_bA_2 := bA_12.out.cell 2 rfl
  have z12_bA_3 := bA_12.out.cell 3 rfl
  have z12_bA_4 := bA_12.out.cell 4 rfl
  have z12_bW_0 := bW_12.out.cell 0 rfl
  have z12_bW_1 := bW_12.out.cell 1 rfl
  have z12_bW_2 := bW_12.out.cell 2 rfl
  have z12_bW_3 := bW_12.out.cell 3 rfl
  have z12_bW_4 := bW_12.out.cell 4 rfl
  have z12_bW_5 := bW_12.out.cell 5 rfl
  have z12_bW_6 := bW_12.out.cell 6 rfl
  have z12_bW_7 := bW_12.out.cell 7 rfl
  have z12_bW_8 := bW_12.out.cell 8 rfl
  have z12_bW_9 := bW_12.out.cell 9 rfl
  have z12_bX_0 := bX_12.out.cell 0 rfl
  have z12_bX_1 := bX_12.out.cell 1 rfl
  have z12_bX_2 := bX_12.out.cell 2 rfl
  have z12_bX_3 := bX_12.out.cell 3 rfl
  have z12_bX_4 := bX_12.out.cell 4 rfl
  have z12_bG_0 := bG_12.out.cell 0 rfl
  have z12_bG_1 := bG_12.out.cell 1 rfl
  have z12_bG_2 := bG_12.out.cell 2 rfl
  have z12_bG_3 := bG_12.out.cell 3 rfl
  have z12_bG_4 := bG_12.out.cell 4 rfl
  have z12_bG_5 := bG_12.out.cell 5 rfl
  have z12_bG_6 := bG_12.out.cell 6 rfl
  have z12_bG_7 := bG_12.out.cell 7 rfl
  have z12_bG_8 := bG_12.out.cell 8 rfl
  have z12_bG_9 := bG_12.out.cell 9 rfl
  go_wp2_with fail
  refine (markLoop_any g0_12.out ndg.out (by omega) hYC.out).mono ?_
  rintro e w12 ⟨rfl, own12, ho12⟩
  have s12 := ho12.2.2.2.1
  have hB12 : Below w.heap.size w w12 := hB11.trans (ho12.below hB11.size (fun x hx => by have := hg6.out x hx; omega))
  have bA_13 : Hid (Box w12 w.heap.size [.int .i64 h.vNext, .int .i64 h.vDoc, .slice a2 h.vNodes.length cap2, .slice a3 h.vObjs.length cap3, .slice a4 h.vGlobals.length cap4] 35) := ((ho12).keep bA_12.out.lt (fun q => by have := hg6.out _ q; omega)).trans bA_12.out
  have v0_13 : Hid (LoopOwn w12 [.int .i64 0, .int .i64 td.nx, .int .i64 td.hp.vNext, .int .i64 td.hp.vDoc, .slice aw2 td.hp.vNodes.length cw2, .slice aw3 td.hp.vObjs.length cw3, .slice aw4 td.hp.vGlobals.length cw4, .slice none 0 0, .slice none 0 0, .slice none 0 0] td fw) := LoopOwn_stays _ _ _ _ _ (fun x hx => (ho12).keep (LoopOwn_lt _ _ _ _ v0_12.out x hx) (fun q => by have := hg6.out _ q; have := hw3.out _ hx; omega)) v0_12.out
  have bW_13 : Hid (Box w12 w3.heap.size [.int .i64 0, .int .i64 td.nx, .int .i64 td.hp.vNext, .int .i64 td.hp.vDoc, .slice aw2 td.hp.vNodes.length cw2, .slice aw3 td.hp.vObjs.length cw3, .slice aw4 td.hp.vGlobals.length cw4, .slice none 0 0, .slice none 0 0, .slice none 0 0] 45) := ((ho12).keep bW_12.out.lt (fun q => by have := hg6.out _ q; omega)).trans bW_12.out
  have bX_13 : Hid (Box w12 w4.heap.size [.int .i64 h.vNext, .int .i64 h.vDoc, .slice e2 h.vNodes.length dap2, .slice e3 h.vObjs.length dap3, .slice e4 h.vGlobals.length dap4] 41) := ((ho12).keep bX_12.out.lt (fun q => by have := hg6.out _ q; omega)).trans bX_12.out
  have bG_13 : Hid (Box w12 w6.heap.size [.int .i64 0, .int .i64 td.nx, .int .i64 td.hp.vNext, .int .i64 td.hp.vDoc, .slice ag2 td.hp.vNodes.length cg2, .slice ag3 td.hp.vObjs.length cg3, .slice ag4 td.hp.vGlobals.length cg4, .slice none 0 0, .slice none 0 0, .slice none 0 0] 45) := ((ho12).keep bG_12.out.lt (fun q => by have := hg6.out _ q; omega)).trans bG_12.out
  clear bA_12 v0_12 bW_12 bX_12 g0_12 bG_12
  clear z12_bA_0 z12_bA_1 z12_bA_2 z12_bA_3 z12_bA_4 z12_bW_0 z12_bW_1 z12_bW_2 z12_bW_3 z12_bW_4 z12_bW_5 z12_bW_6 z12_bW_7 z12_bW_8 z12_bW_9 z12_bX_0 z12_bX_1 z12_bX_2 z12_bX_3 z12_bX_4 z12_bG_0 z12_bG_1 z12_bG_2 z12_bG_3 z12_bG_4 z12_bG_5 z12_bG_6 z12_bG_7 z12_bG_8 z12_bG_9
  have z13_bA_0 := bA_13.out.cell 0 rfl
  have z13_bA_1 := bA_13.out.cell 1 rfl
  have z13_bA_2 := bA_13.out.cell 2 rfl
  have z13_bA_3 := bA_13.out.cell 3 rfl
  have z13_bA_4 := bA_13.out.cell 4 rfl
  have z13_bW_0 := bW_13.out.cell 0 rfl
  have z13_bW_1 := bW_13.out.cell 1 rfl
  have z13_bW_2 := bW_13.out.cell 2 rfl
  have z13_bW_3 := bW_13.out.cell 3 rfl
  have z13_bW_4 := bW_13.out.cell 4 rfl
  have z13_bW_5 := bW_13.out.cell 5 rfl
  have z13_bW_6 := bW_13.out.cell 6 rfl
  have z13_bW_7 := bW_13.out.cell 7 rfl
  have z13_bW_8 := bW_13.out.cell 8 rfl
  have z13_bW_9 := bW_13.out.cell 9 rfl
  have z13_bX_0 := bX_13.out.cell 0 rfl
  have z13_bX_1 := bX_13.out.cell 1 rfl
  have z13_bX_2 := bX_13.out.cell 2 rfl
  have z13_bX_3 := bX_13.out.cell 3 rfl
  have z13_bX_4 := bX_13.out.cell 4 rfl
  have z13_bG_0 := bG_13.out.cell 0 rfl
  have z13_bG_1 := bG_13.out.cell 1 rfl
  have z13_bG_2 := bG_13.out.cell 2 rfl
  have z13_bG_3 := bG_13.out.cell 3 rfl
  have z13_bG_4 := bG_13.out.cell 4 rfl
  have z13_bG_5 := bG_13.out.cell 5 rfl
  have z13_bG_6 := bG_13.out.cell 6 rfl
  have z13_bG_7 := bG_13.out.cell 7 rfl
  have z13_bG_8 := bG_13.out.cell 8 rfl
  have z13_bG_9 := bG_13.out.cell 9 rfl
  have g0_13 : Hid (LoopOwn w12 [.int .i64 0, .int .i64 td.nx, .int .i64 td.hp.vNext, .int .i64 td.hp.vDoc, .slice ag2 td.hp.vNodes.length cg2, .slice ag3 td.hp.vObjs.length cg3, .slice ag4 td.hp.vGlobals.length cg4, .slice none 0 0, .slice none 0 0, .slice none 0 0] (mkTLoop td 1) fg) := own12
  clear own12
  generalize hCI : (1 : Int) + (cntL cntNode td.hp.vNodes : Nat) + (cntL cntObj td.hp.vObjs : Nat) + (cntL cntField td.hp.vGlobals : Nat) = M at *
  have hCI' : Hid _ := hCI
  clear hCI
  have hM0 : 0 ≤ M := by have := hCI'.out; omega
  have hM1 : decide (M < 0) = false := by simp; omega
  go_wp2_with fail
  refine (heldLoop_any (lo := 0) (m := 1) (y := td) (by exact LoopOwn_at (lo := 0) _ _ _ _ g0_13.out (fun _ _ => Nat.zero_le _)) (by omega) (by rw [hCI'.out]; exact hYC.out)).mono ?_
  rintro e w13 ⟨rfl, hb13⟩
  rw [hCI'.out]
  have hB13 : Below w.heap.size w w13 := hB12.trans (hb13.mono hB12.size)
  have s13 := hb13.size
  have bA_14 : Hid (Box w13 w.heap.size [.int .i64 h.vNext, .int .i64 h.vDoc, .slice a2 h.vNodes.length cap2, .slice a3 h.vObjs.length cap3, .slice a4 h.vGlobals.length cap4] 35) := bA_13.out.below hb13 bA_13.out.lt
  have v0_14 : Hid (LoopOwn w13 [.int .i64 0, .int .i64 td.nx, .int .i64 td.hp.vNext, .int .i64 td.hp.vDoc, .slice aw2 td.hp.vNodes.length cw2, .slice aw3 td.hp.vObjs.length cw3, .slice aw4 td.hp.vGlobals.length cw4, .slice none 0 0, .slice none 0 0, .slice none 0 0] td fw) := LoopOwn_stays _ _ _ _ _ (fun x hx => (hb13).block x (LoopOwn_lt _ _ _ _ v0_13.out x hx)) v0_13.out
  have bW_14 : Hid (Box w13 w3.heap.size [.int .i64 0, .int .i64 td.nx, .int .i64 td.hp.vNext, .int .i64 td.hp.vDoc, .slice aw2 td.hp.vNodes.length cw2, .slice aw3 td.hp.vObjs.length cw3, .slice aw4 td.hp.vGlobals.length cw4, .slice none 0 0, .slice none 0 0, .slice none 0 0] 45) := bW_13.out.below hb13 bW_13.out.lt
  have bX_14 : Hid (Box w13 w4.heap.size [.int .i64 h.vNext, .int .i64 h.vDoc, .slice e2 h.vNodes.length dap2, .slice e3 h.vObjs.length dap3, .slice e4 h.vGlobals.length dap4] 41) := bX_13.out.below hb13 bX_13.out.lt
  have g0_14 : Hid (LoopOwn w13 [.int .i64 0, .int .i64 td.nx, .int .i64 td.hp.vNext, .int .i64 td.hp.vDoc, .slice ag2 td.hp.vNodes.length cg2, .slice ag3 td.hp.vObjs.length cg3, .slice ag4 td.hp.vGlobals.length cg4, .slice none 0 0, .slice none 0 0, .slice none 0 0] (mkTLoop td 1) fg) := LoopOwn_stays _ _ _ _ _ (fun x hx => (hb13).block x (LoopOwn_lt _ _ _ _ g0_13.out x hx)) g0_13.out
  have bG_14 : Hid (Box w13 w6.heap.size [.int .i64 0, .int .i64 td.nx, .int .i64 td.hp.vNext, .int .i64 td.hp.vDoc, .slice ag2 td.hp.vNodes.length cg2, .slice ag3 td.hp.vObjs.length cg3, .slice ag4 td.hp.vGlobals.length cg4, .slice none 0 0, .slice none 0 0, .slice none 0 0] 45) := bG_13.out.below hb13 bG_13.out.lt
  clear bA_13 v0_13 bW_13 bX_13 g0_13 bG_13
  clear z13_bA_0 z13_bA_1 z13_bA_2 z13_bA_3 z13_bA_4 z13_bW_0 z13_bW_1 z13_bW_2 z13_bW_3 z13_bW_4 z13_bW_5 z13_bW_6 z13_bW_7 z13_bW_8 z13_bW_9 z13_bX_0 z13_bX_1 z13_bX_2 z13_bX_3 z13_bX_4 z13_bG_0 z13_bG_1 z13_bG_2 z13_bG_3 z13_bG_4 z13_bG_5 z13_bG_6 z13_bG_7 z13_bG_8 z13_bG_9
  have z14_bA_0 := bA_14.out.cell 0 rfl
  have z14_bA_1 := bA_14.out.cell 1 rfl
  have z14_bA_2 := bA_14.out.cell 2 rfl
  have z14_bA_3 := bA_14.out.cell 3 rfl
  have z14_bA_4 := bA_14.out.cell 4 rfl
  have z14_bW_0 := bW_14.out.cell 0 rfl
  have z14_bW_1 := bW_14.out.cell 1 rfl
  have z14_bW_2 := bW_14.out.cell 2 rfl
  have z14_bW_3 := bW_14.out.cell 3 rfl
  have z14_bW_4 := bW_14.out.cell 4 rfl
  have z14_bW_5 := bW_14.out.cell 5 rfl
  have z14_bW_6 := bW_14.out.cell 6 rfl
  have z14_bW_7 := bW_14.out.cell 7 rfl
  have z14_bW_8 := bW_14.out.cell 8 rfl
  have z14_bW_9 := bW_14.out.cell 9 rfl
  have z14_bX_0 := bX_14.out.cell 0 rfl
  have z14_bX_1 := bX_14.out.cell 1 rfl
  have z14_bX_2 := bX_14.out.cell 2 rfl
  have z14_bX_3 := bX_14.out.cell 3 rfl
  have z14_bX_4 := bX_14.out.cell 4 rfl
  have z14_bG_0 := bG_14.out.cell 0 rfl
  have z14_bG_1 := bG_14.out.cell 1 rfl
  have z14_bG_2 := bG_14.out.cell 2 rfl
  have z14_bG_3 := bG_14.out.cell 3 rfl
  have z14_bG_4 := bG_14.out.cell 4 rfl
  have z14_bG_5 := bG_14.out.cell 5 rfl
  have z14_bG_6 := bG_14.out.cell 6 rfl
  have z14_bG_7 := bG_14.out.cell 7 rfl
  have z14_bG_8 := bG_14.out.cell 8 rfl
  have z14_bG_9 := bG_14.out.cell 9 rfl
  go_wp2_with fail
  refine (toHeap_any (HeapAt_stays _ _ _ 0 _ _ (.of_below hB13) ht0.out) hsm.out).mono ?_
  rintro e w14 ⟨⟨cs14, rfl, ht14⟩, hb14⟩
  have hB14 : Below w.heap.size w w14 := hB13.trans (hb14.mono hB13.size)
  have s14 := hb14.size
  have ht14' : Hid (HeapAt w14 w13.heap.size cs14 h) := ht14
  have bA_15 : Hid (Box w14 w.heap.size [.int .i64 h.vNext, .int .i64 h.vDoc, .slice a2 h.vNodes.length cap2, .slice a3 h.vObjs.length cap3, .slice a4 h.vGlobals.length cap4] 35) := bA_14.out.below hb14 bA_14.out.lt
  have v0_15 : Hid (LoopOwn w14 [.int .i64 0, .int .i64 td.nx, .int .i64 td.hp.vNext, .int .i64 td.hp.vDoc, .slice aw2 td.hp.vNodes.length cw2, .slice aw3 td.hp.vObjs.length cw3, .slice aw4 td.hp.vGlobals.length cw4, .slice none 0 0, .slice none 0 0, .slice none 0 0] td fw) := LoopOwn_stays _ _ _ _ _ (fun x hx => (hb14).block x (LoopOwn_lt _ _ _ _ v0_14.out x hx)) v0_14.out
  have bW_15 : Hid (Box w14 w3.heap.size [.int .i64 0, .int .i64 td.nx, .int .i64 td.hp.vNext, .int .i64 td.hp.vDoc, .slice aw2 td.hp.vNodes.length cw2, .slice aw3 td.hp.vObjs.length cw3, .slice aw4 td.hp.vGlobals.length cw4, .slice none 0 0, .slice none 0 0, .slice none 0 0] 45) := bW_14.out.below hb14 bW_14.out.lt
  have bX_15 : Hid (Box w14 w4.heap.size [.int .i64 h.vNext, .int .i64 h.vDoc, .slice e2 h.vNodes.length dap2, .slice e3 h.vObjs.length dap3, .slice e4 h.vGlobals.length dap4] 41) := bX_14.out.below hb14 bX_14.out.lt
  have g0_15 : Hid (LoopOwn w14 [.int .i64 0, .int .i64 td.nx, .int .i64 td.hp.vNext, .int .i64 td.hp.vDoc, .slice ag2 td.hp.vNodes.length cg2, .slice ag3 td.hp.vObjs.length cg3, .slice ag4 td.hp.vGlobals.length cg4, .slice none 0 0, .slice none 0 0, .slice none 0 0] (mkTLoop td 1) fg) := LoopOwn_stays _ _ _ _ _ (fun x hx => (hb14).block x (LoopOwn_lt _ _ _ _ g0_14.out x hx)) g0_14.out
  have bG_15 : Hid (Box w14 w6.heap.size [.int .i64 0, .int .i64 td.nx, .int .i64 td.hp.vNext, .int .i64 td.hp.vDoc, .slice ag2 td.hp.vNodes.length cg2, .slice ag3 td.hp.vObjs.length cg3, .slice ag4 td.hp.vGlobals.length cg4, .slice none 0 0, .slice none 0 0, .slice none 0 0] 45) := bG_14.out.below hb14 bG_14.out.lt
  clear bA_14 v0_14 bW_14 bX_14 g0_14 bG_14
  clear z14_bA_0 z14_bA_1 z14_bA_2 z14_bA_3 z14_bA_4 z14_bW_0 z14_bW_1 z14_bW_2 z14_bW_3 z14_bW_4 z14_bW_5 z14_bW_6 z14_bW_7 z14_bW_8 z14_bW_9 z14_bX_0 z14_bX_1 z14_bX_2 z14_bX_3 z14_bX_4 z14_bG_0 z14_bG_1 z14_bG_2 z14_bG_3 z14_bG_4 z14_bG_5 z14_bG_6 z14_bG_7 z14_bG_8 z14_bG_9
  have z15_bA_0 := bA_15.out.cell 0 rfl
  have z15_bA_1 := bA_15.out.cell 1 rfl
  have z15_bA_2 := bA_15.out.cell 2 rfl
  have z15_bA_3 := bA_15.out.cell 3 rfl
  have z15_bA_4 := bA_15.out.cell 4 rfl
  have z15_bW_0 := bW_15.out.cell 0 rfl
  have z15_bW_1 := bW_15.out.cell 1 rfl
  have z15_bW_2 := bW_15.out.cell 2 rfl
  have z15_bW_3 := bW_15.out.cell 3 rfl
  have z15_bW_4 := bW_15.out.cell 4 rfl
  have z15_bW_5 := bW_15.out.cell 5 rfl
  have z15_bW_6 := bW_15.out.cell 6 rfl
  have z15_bW_7 := bW_15.out.cell 7 rfl
  have z15_bW_8 := bW_15.out.cell 8 rfl
  have z15_bW_9 := bW_15.out.cell 9 rfl
  have z15_bX_0 := bX_15.out.cell 0 rfl
  have z15_bX_1 := bX_15.out.cell 1 rfl
  have z15_bX_2 := bX_15.out.cell 2 rfl
  have z15_bX_3 := bX_15.out.cell 3 rfl
  have z15_bX_4 := bX_15.out.cell 4 rfl
  have z15_bG_0 := bG_15.out.cell 0 rfl
  have z15_bG_1 := bG_15.out.cell 1 rfl
  have z15_bG_2 := bG_15.out.cell 2 rfl
  have z15_bG_3 := bG_15.out.cell 3 rfl
  have z15_bG_4 := bG_15.out.cell 4 rfl
  have z15_bG_5 := bG_15.out.cell 5 rfl
  have z15_bG_6 := bG_15.out.cell 6 rfl
  have z15_bG_7 := bG_15.out.cell 7 rfl
  have z15_bG_8 := bG_15.out.cell 8 rfl
  have z15_bG_9 := bG_15.out.cell 9 rfl
  clear ht14 hb14
  go_wp2_with fail
  refine (implLoopNew_any ht14'.out hsm.out).mono ?_
  rintro e w15 ⟨⟨csh, fh, rfl, ownh, _⟩, hb15⟩
  rw [hYS'.out] at ownh ⊢
  dsimp only at ownh ⊢
  have hB15 : Below w.heap.size w w15 := hB14.trans (hb15.mono hB14.size)
  have s15 := hb15.size
  have bA_16 : Hid (Box w15 w.heap.size [.int .i64 h.vNext, .int .i64 h.vDoc, .slice a2 h.vNodes.length cap2, .slice a3 h.vObjs.length cap3, .slice a4 h.vGlobals.length cap4] 35) := bA_15.out.below hb15 bA_15.out.lt
  have v0_16 : Hid (LoopOwn w15 [.int .i64 0, .int .i64 td.nx, .int .i64 td.hp.vNext, .int .i64 td.hp.vDoc, .slice aw2 td.hp.vNodes.length cw2, .slice aw3 td.hp.vObjs.length cw3, .slice aw4 td.hp.vGlobals.length cw4, .slice none 0 0, .slice none 0 0, .slice none 0 0] td fw) := LoopOwn_stays _ _ _ _ _ (fun x hx => (hb15).block x (LoopOwn_lt _ _ _ _ v0_15.out x hx)) v0_15.out
  have bW_16 : Hid (Box w15 w3.heap.size [.int .i64 0, .int .i64 td.nx, .int .i64 td.hp.vNext, .int .i64 td.hp.vDoc, .slice aw2 td.hp.vNodes.length cw2, .slice aw3 td.hp.vObjs.length cw3, .slice aw4 td.hp.vGlobals.length cw4, .slice none 0 0, .slice none 0 0, .slice none 0 0] 45) := bW_15.out.below hb15 bW_15.out.lt
  have bX_16 : Hid (Box w15 w4.heap.size [.int .i64 h.vNext, .int .i64 h.vDoc, .slice e2 h.vNodes.length dap2, .slice e3 h.vObjs.length dap3, .slice e4 h.vGlobals.length dap4] 41) := bX_15.out.below hb15 bX_15.out.lt
  have g0_16 : Hid (LoopOwn w15 [.int .i64 0, .int .i64 td.nx, .int .i64 td.hp.vNext, .int .i64 td.hp.vDoc, .slice ag2 td.hp.vNodes.length cg2, .slice ag3 td.hp.vObjs.length cg3, .slice ag4 td.hp.vGlobals.length cg4, .slice none 0 0, .slice none 0 0, .slice none 0 0] (mkTLoop td 1) fg) := LoopOwn_stays _ _ _ _ _ (fun x hx => (hb15).block x (LoopOwn_lt _ _ _ _ g0_15.out x hx)) g0_15.out
  have bG_16 : Hid (Box w15 w6.heap.size [.int .i64 0, .int .i64 td.nx, .int .i64 td.hp.vNext, .int .i64 td.hp.vDoc, .slice ag2 td.hp.vNodes.length cg2, .slice ag3 td.hp.vObjs.length cg3, .slice ag4 td.hp.vGlobals.length cg4, .slice none 0 0, .slice none 0 0, .slice none 0 0] 45) := bG_15.out.below hb15 bG_15.out.lt
  clear bA_15 v0_15 bW_15 bX_15 g0_15 bG_15
  clear z15_bA_0 z15_bA_1 z15_bA_2 z15_bA_3 z15_bA_4 z15_bW_0 z15_bW_1 z15_bW_2 z15_bW_3 z15_bW_4 z15_bW_5 z15_bW_6 z15_bW_7 z15_bW_8 z15_bW_9 z15_bX_0 z15_bX_1 z15_bX_2 z15_bX_3 z15_bX_4 z15_bG_0 z15_bG_1 z15_bG_2 z15_bG_3 z15_bG_4 z15_bG_5 z15_bG_6 z15_bG_7 z15_bG_8 z15_bG_9
  have z16_bA_0 := bA_16.out.cell 0 rfl
  have z16_bA_1 := bA_16.out.cell 1 rfl
  have z16_bA_2 := bA_16.out.cell 2 rfl
  have z16_bA_3 := bA_16.out.cell 3 rfl
  have z16_bA_4 := bA_16.out.cell 4 rfl
  have z16_bW_0 := bW_16.out.cell 0 rfl
  have z16_bW_1 := bW_16.out.cell 1 rfl
  have z16_bW_2 := bW_16.out.cell 2 rfl
  have z16_bW_3 := bW_16.out.cell 3 rfl
  have z16_bW_4 := bW_16.out.cell 4 rfl
  have z16_bW_5 := bW_16.out.cell 5 rfl
  have z16_bW_6 := bW_16.out.cell 6 rfl
  have z16_bW_7 := bW_16.out.cell 7 rfl
  have z16_bW_8 := bW_16.out.cell 8 rfl
  have z16_bW_9 := bW_16.out.cell 9 rfl
  have z16_bX_0 := bX_16.out.cell 0 rfl
  have z16_bX_1 := bX_16.out.cell 1 rfl
  have z16_bX_2 := bX_16.out.cell 2 rfl
  have z16_bX_3 := bX_16.out.cell 3 rfl
  have z16_bX_4 := bX_16.out.cell 4 rfl
  have z16_bG_0 := bG_16.out.cell 0 rfl
  have z16_bG_1 := bG_16.out.cell 1 rfl
  have z16_bG_2 := bG_16.out.cell 2 rfl
  have z16_bG_3 := bG_16.out.cell 3 rfl
  have z16_bG_4 := bG_16.out.cell 4 rfl
  have z16_bG_5 := bG_16.out.cell 5 rfl
  have z16_bG_6 := bG_16.out.cell 6 rfl
  have z16_bG_7 := bG_16.out.cell 7 rfl
  have z16_bG_8 := bG_16.out.cell 8 rfl
  have z16_bG_9 := bG_16.out.cell 9 rfl
  obtain ⟨ah2, ch2, ah3, ch3, ah4, ch4, rfl, _⟩ := ownh.form
  have h0_16 : Hid (LoopOwn w15 [.int .i64 0, .int .i64 td.nx, .int .i64 td.hp.vNext, .int .i64 td.hp.vDoc, .slice ah2 td.hp.vNodes.length ch2, .slice ah3 td.hp.vObjs.length ch3, .slice ah4 td.hp.vGlobals.length ch4, .slice none 0 0, .slice none 0 0, .slice none 0 0] td fh) := ownh
  have hbH : Below w15.heap.size w15 (w15.alloc (.cells (List.toArray [.int .i64 0, .int .i64 td.nx, .int .i64 td.hp.vNext, .int .i64 td.hp.vDoc, .slice ah2 td.hp.vNodes.length ch2, .slice ah3 td.hp.vObjs.length ch3, .slice ah4 td.hp.vGlobals.length ch4, .slice none 0 0, .slice none 0 0, .slice none 0 0]) 45)) := (Below.refl _ _).alloc (Nat.le_refl _) _
  have hBH : Below w.heap.size w (w15.alloc (.cells (List.toArray [.int .i64 0, .int .i64 td.nx, .int .i64 td.hp.vNext, .int .i64 td.hp.vDoc, .slice ah2 td.hp.vNodes.length ch2, .slice ah3 td.hp.vObjs.length ch3, .slice ah4 td.hp.vGlobals.length ch4, .slice none 0 0, .slice none 0 0, .slice none 0 0]) 45)) := hB15.trans (hbH.mono hB15.size)
  clear ownh hb15
  have bA_17 : Hid (Box (w15.alloc (.cells (List.toArray [.int .i64 0, .int .i64 td.nx, .int .i64 td.hp.vNext, .int .i64 td.hp.vDoc, .slice ah2 td.hp.vNodes.length ch2, .slice ah3 td.hp.vObjs.length ch3, .slice ah4 td.hp.vGlobals.length ch4, .slice none 0 0, .slice none 0 0, .slice none 0 0]) 45)) w.heap.size [.int .i64 h.vNext, .int .i64 h.vDoc, .slice a2 h.vNodes.length cap2, .slice a3 h.vObjs.length cap3, .slice a4 h.vGlobals.length cap4] 35) := bA_16.out.below hbH bA_16.out.lt
  have v0_17 : Hid (LoopOwn (w15.alloc (.cells (List.toArray [.int .i64 0, .int .i64 td.nx, .int .i64 td.hp.vNext, .int .i64 td.hp.vDoc, .slice ah2 td.hp.vNodes.length ch2, .slice ah3 td.hp.vObjs.length ch3, .slice ah4 td.hp.vGlobals.length ch4, .slice none 0 0, .slice none 0 0, .slice none 0 0]) 45)) [.int .i64 0, .int .i64 td.nx, .int .i64 td.hp.vNext, .int .i64 td.hp.vDoc, .slice aw2 td.hp.vNodes.length cw2, .slice aw3 td.hp.vObjs.length cw3, .slice aw4 td.hp.vGlobals.length cw4, .slice none 0 0, .slice none 0 0, .slice none 0 0] td fw) := LoopOwn_stays _ _ _ _ _ (fun x hx => (hbH).block x (LoopOwn_lt _ _ _ _ v0_16.out x hx)) v0_16.out
  have bW_17 : Hid (Box (w15.alloc (.cells (List.toArray [.int .i64 0, .int .i64 td.nx, .int .i64 td.hp.vNext, .int .i64 td.hp.vDoc, .slice ah2 td.hp.vNodes.length ch2, .slice ah3 td.hp.vObjs.length ch3, .slice ah4 td.hp.vGlobals.length ch4, .slice none 0 0, .slice none 0 0, .slice none 0 0]) 45)) w3.heap.size [.int .i64 0, .int .i64 td.nx, .int .i64 td.hp.vNext, .int .i64 td.hp.vDoc, .slice aw2 td.hp.vNodes.length cw2, .slice aw3 td.hp.vObjs.length cw3, .slice aw4 td.hp.vGlobals.length cw4, .slice none 0 0, .slice none 0 0, .slice none 0 0] 45) := bW_16.out.below hbH bW_16.out.lt
  have bX_17 : Hid (Box (w15.alloc (.cells (List.toArray [.int .i64 0, .int .i64 td.nx, .int .i64 td.hp.vNext, .int .i64 td.hp.vDoc, .slice ah2 td.hp.vNodes.length ch2, .slice ah3 td.hp.vObjs.length ch3, .slice ah4 td.hp.vGlobals.length ch4, .slice none 0 0, .slice none 0 0, .slice none 0 0]) 45)) w4.heap.size [.int .i64 h.vNext, .int .i64 h.vDoc, .slice e2 h.vNodes.length dap2, .slice e3 h.vObjs.length dap3, .slice e4 h.vGlobals.length dap4] 41) := bX_16.out.below hbH bX_16.out.lt
  have g0_17 : Hid (LoopOwn (w15.alloc (.cells (List.toArray [.int .i64 0, .int .i64 td.nx, .int .i64 td.hp.vNext, .int .i64 td.hp.vDoc, .slice ah2 td.hp.vNodes.length ch2, .slice ah3 td.hp.vObjs.length ch3, .slice ah4 td.hp.vGlobals.length ch4, .slice none 0 0, .slice none 0 0, .slice none 0 0]) 45)) [.int .i64 0, .int .i64 td.nx, .int .i64 td.hp.vNext, .int .i64 td.hp.vDoc, .slice ag2 td.hp.vNodes.length cg2, .slice ag3 td.hp.vObjs.length cg3, .slice ag4 td.hp.vGlobals.length cg4, .slice none 0 0, .slice none 0 0, .slice none 0 0] (mkTLoop td 1) fg) := LoopOwn_stays _ _ _ _ _ (fun x hx => (hbH).block x (LoopOwn_lt _ _ _ _ g0_16.out x hx)) g0_16.out
  have bG_17 : Hid (Box (w15.alloc (.cells (List.toArray [.int .i64 0, .int .i64 td.nx, .int .i64 td.hp.vNext, .int .i64 td.hp.vDoc, .slice ah2 td.hp.vNodes.length ch2, .slice ah3 td.hp.vObjs.length ch3, .slice ah4 td.hp.vGlobals.length ch4, .slice none 0 0, .slice none 0 0, .slice none 0 0]) 45)) w6.heap.size [.int .i64 0, .int .i64 td.nx, .int .i64 td.hp.vNext, .int .i64 td.hp.vDoc, .slice ag2 td.hp.vNodes.length cg2, .slice ag3 td.hp.vObjs.length cg3, .slice ag4 td.hp.vGlobals.length cg4, .slice none 0 0, .slice none 0 0, .slice none 0 0] 45) := bG_16.out.below hbH bG_16.out.lt
  have h0_17 : Hid (LoopOwn (w15.alloc (.cells (List.toArray [.int .i64 0, .int .i64 td.nx, .int .i64 td.hp.vNext, .int .i64 td.hp.vDoc, .slice ah2 td.hp.vNodes.length ch2, .slice ah3 td.hp.vObjs.length ch3, .slice ah4 td.hp.vGlobals.length ch4, .slice none 0 0, .slice none 0 0, .slice none 0 0]) 45)) [.int .i64 0, .int .i64 td.nx, .int .i64 td.hp.vNext, .int .i64 td.hp.vDoc, .slice ah2 td.hp.vNodes.length ch2, .slice ah3 td.hp.vObjs.length ch3, .slice ah4 td.hp.vGlobals.length ch4, .slice none 0 0, .slice none 0 0, .slice none 0 0] td fh) := LoopOwn_stays _ _ _ _ _ (fun x hx => (hbH).block x (LoopOwn_lt _ _ _ _ h0_16.out x hx)) h0_16.out
  clear bA_16 v0_16 bW_16 bX_16 g0_16 bG_16 h0_16
  clear z16_bA_0 z16_bA_1 z16_bA_2 z16_bA_3 z16_bA_4 z16_bW_0 z16_bW_1 z16_bW_2 z16_bW_3 z16_bW_4 z16_bW_5 z16_bW_6 z16_bW_7 z16_bW_8 z16_bW_9 z16_bX_0 z16_bX_1 z16_bX_2 z16_bX_3 z16_bX_4 z16_bG_0 z16_bG_1 z16_bG_2 z16_bG_3 z16_bG_4 z16_bG_5 z16_bG_6 z16_bG_7 z16_bG_8 z16_bG_9
  have z17_bA_0 := bA_17.out.cell 0 rfl
  have z17_bA_1 := bA_17.out.cell 1 rfl
  have z17_bA_2 := bA_17.out.cell 2 rfl
  have z17_bA_3 := bA_17.out.cell 3 rfl
  have z17_bA_4 := bA_17.out.cell 4 rfl
  have z17_bW_0 := bW_17.out.cell 0 rfl
  have z17_bW_1 := bW_17.out.cell 1 rfl
  have z17_bW_2 := bW_17.out.cell 2 rfl
  have z17_bW_3 := bW_17.out.cell 3 rfl
  have z17_bW_4 := bW_17.out.cell 4 rfl
  have z17_bW_5 := bW_17.out.cell 5 rfl
  have z17_bW_6 := bW_17.out.cell 6 rfl
  have z17_bW_7 := bW_17.out.cell 7 rfl
  have z17_bW_8 := bW_17.out.cell 8 rfl
  have z17_bW_9 := bW_17.out.cell 9 rfl
  have z17_bX_0 := bX_17.out.cell 0 rfl
  have z17_bX_1 := bX_17.out.cell 1 rfl
  have z17_bX_2 := bX_17.out.cell 2 rfl
  have z17_bX_3 := bX_17.out.cell 3 rfl
  have z17_bX_4 := bX_17.out.cell 4 rfl
  have z17_bG_0 := bG_17.out.cell 0 rfl
  have z17_bG_1 := bG_17.out.cell 1 rfl
  have z17_bG_2 := bG_17.out.cell 2 rfl
  have z17_bG_3 := bG_17.out.cell 3 rfl
  have z17_bG_4 := bG_17.out.cell 4 rfl
  have z17_bG_5 := bG_17.out.cell 5 rfl
  have z17_bG_6 := bG_17.out.cell 6 rfl
  have z17_bG_7 := bG_17.out.cell 7 rfl
  have z17_bG_8 := bG_17.out.cell 8 rfl
  have z17_bG_9 := bG_17.out.cell 9 rfl
  go_wp2_with fail
  refine (eqLoop_any (lo := 0) (lo2 := 0) (by exact LoopOwn_at (lo := 0) _ _ _ _ h0_17.out (fun _ _ => Nat.zero_le _)) (by exact LoopOwn_at (lo := 0) _ _ _ _ v0_17.out (fun _ _ => Nat.zero_le _))).mono ?_
  rintro e w16 ⟨rfl, hb16⟩
  have hB16 : Below w.heap.size w w16 := hBH.trans (hb16.mono hBH.size)
  have bA_18 : Hid (Box w16 w.heap.size [.int .i64 h.vNext, .int .i64 h.vDoc, .slice a2 h.vNodes.length cap2, .slice a3 h.vObjs.length cap3, .slice a4 h.vGlobals.length cap4] 35) := bA_17.out.below hb16 bA_17.out.lt
  have v0_18 : Hid (LoopOwn w16 [.int .i64 0, .int .i64 td.nx, .int .i64 td.hp.vNext, .int .i64 td.hp.vDoc, .slice aw2 td.hp.vNodes.length cw2, .slice aw3 td.hp.vObjs.length cw3, .slice aw4 td.hp.vGlobals.length cw4, .slice none 0 0, .slice none 0 0, .slice none 0 0] td fw) := LoopOwn_stays _ _ _ _ _ (fun x hx => (hb16).block x (LoopOwn_lt _ _ _ _ v0_17.out x hx)) v0_17.out
  have bW_18 : Hid (Box w16 w3.heap.size [.int .i64 0, .int .i64 td.nx, .int .i64 td.hp.vNext, .int .i64 td.hp.vDoc, .slice aw2 td.hp.vNodes.length cw2, .slice aw3 td.hp.vObjs.length cw3, .slice aw4 td.hp.vGlobals.length cw4, .slice none 0 0, .slice none 0 0, .slice none 0 0] 45) := bW_17.out.below hb16 bW_17.out.lt
  have bX_18 : Hid (Box w16 w4.heap.size [.int .i64 h.vNext, .int .i64 h.vDoc, .slice e2 h.vNodes.length dap2, .slice e3 h.vObjs.length dap3, .slice e4 h.vGlobals.length dap4] 41) := bX_17.out.below hb16 bX_17.out.lt
  have g0_18 : Hid (LoopOwn w16 [.int .i64 0, .int .i64 td.nx, .int .i64 td.hp.vNext, .int .i64 td.hp.vDoc, .slice ag2 td.hp.vNodes.length cg2, .slice ag3 td.hp.vObjs.length cg3, .slice ag4 td.hp.vGlobals.length cg4, .slice none 0 0, .slice none 0 0, .slice none 0 0] (mkTLoop td 1) fg) := LoopOwn_stays _ _ _ _ _ (fun x hx => (hb16).block x (LoopOwn_lt _ _ _ _ g0_17.out x hx)) g0_17.out
  have bG_18 : Hid (Box w16 w6.heap.size [.int .i64 0, .int .i64 td.nx, .int .i64 td.hp.vNext, .int .i64 td.hp.vDoc, .slice ag2 td.hp.vNodes.length cg2, .slice ag3 td.hp.vObjs.length cg3, .slice ag4 td.hp.vGlobals.length cg4, .slice none 0 0, .slice none 0 0, .slice none 0 0] 45) := bG_17.out.below hb16 bG_17.out.lt
  have h0_18 : Hid (LoopOwn w16 [.int .i64 0, .int .i64 td.nx, .int .i64 td.hp.vNext, .int .i64 td.hp.vDoc, .slice ah2 td.hp.vNodes.length ch2, .slice ah3 td.hp.vObjs.length ch3, .slice ah4 td.hp.vGlobals.length ch4, .slice none 0 0, .slice none 0 0, .slice none 0 0] td fh) := LoopOwn_stays _ _ _ _ _ (fun x hx => (hb16).block x (LoopOwn_lt _ _ _ _ h0_17.out x hx)) h0_17.out
  clear bA_17 v0_17 bW_17 bX_17 g0_17 bG_17 h0_17
  clear z17_bA_0 z17_bA_1 z17_bA_2 z17_bA_3 z17_bA_4 z17_bW_0 z17_bW_1 z17_bW_2 z17_bW_3 z17_bW_4 z17_bW_5 z17_bW_6 z17_bW_7 z17_bW_8 z17_bW_9 z17_bX_0 z17_bX_1 z17_bX_2 z17_bX_3 z17_bX_4 z17_bG_0 z17_bG_1 z17_bG_2 z17_bG_3 z17_bG_4 z17_bG_5 z17_bG_6 z17_bG_7 z17_bG_8 z17_bG_9
  have z18_bA_0 := bA_18.out.cell 0 rfl
  have z18_bA_1 := bA_18.out.cell 1 rfl
  have z18_bA_2 := bA_18.out.cell 2 rfl
  have z18_bA_3 := bA_18.out.cell 3 rfl
  have z18_bA_4 := bA_18.out.cell 4 rfl
  have z18_bW_0 := bW_18.out.cell 0 rfl
  have z18_bW_1 := bW_18.out.cell 1 rfl
  have z18_bW_2 := bW_18.out.cell 2 rfl
  have z18_bW_3 := bW_18.out.cell 3 rfl
  have z18_bW_4 := bW_18.out.cell 4 rfl
  have z18_bW_5 := bW_18.out.cell 5 rfl
  have z18_bW_6 := bW_18.out.cell 6 rfl
  have z18_bW_7 := bW_18.out.cell 7 rfl
  have z18_bW_8 := bW_18.out.cell 8 rfl
  have z18_bW_9 := bW_18.out.cell 9 rfl
  have z18_bX_0 := bX_18.out.cell 0 rfl
  have z18_bX_1 := bX_18.out.cell 1 rfl
  have z18_bX_2 := bX_18.out.cell 2 rfl
  have z18_bX_3 := bX_18.out.cell 3 rfl
  have z18_bX_4 := bX_18.out.cell 4 rfl
  have z18_bG_0 := bG_18.out.cell 0 rfl
  have z18_bG_1 := bG_18.out.cell 1 rfl
  have z18_bG_2 := bG_18.out.cell 2 rfl
  have z18_bG_3 := bG_18.out.cell 3 rfl
  have z18_bG_4 := bG_18.out.cell 4 rfl
  have z18_bG_5 := bG_18.out.cell 5 rfl
  have z18_bG_6 := bG_18.out.cell 6 rfl
  have z18_bG_7 := bG_18.out.cell 7 rfl
  have z18_bG_8 := bG_18.out.cell 8 rfl
  have z18_bG_9 := bG_18.out.cell 9 rfl
  go_wp2_with fail
  refine (heldLoop_any (lo := 0) (m := 1) (y := td) (by exact LoopOwn_at (lo := 0) _ _ _ _ g0_18.out (fun _ _ => Nat.zero_le _)) (by omega) (by rw [hCI'.out]; exact hYC.out)).mono ?_
  rintro e w17 ⟨rfl, hb17⟩
  rw [hCI'.out]
  have hB17 : Below w.heap.size w w17 := hB16.trans (hb17.mono hB16.size)
  go_wp2_with fail
  go_ret
  exact ⟨rfl, hB17⟩
/-! The row -/
set_option maxRecDepth 100000 in
theorem lifted (os : Os) (started : os.Started) (H : Type) (enc : TypeId × Value → H) :
    ReturnsInHanded {} Try.checked os 4 .any (Rows.fnExactLoopNewSpec.pre6 enc Try.prog Try.f4 Rows.fnExactLoopNewRow.domain false) (Rows.fnExactLoopNewSpec.post enc Try.prog Try.f4 false true false false) := by
  refine returnsInHanded_of_change (C := Try.checked) own started (by kernel_rfl) Try.func4
    (ChangeSpec.witness6 (enc := enc) (C := Try.checked) false ⟨#[], #[.agg #[.int .i64 0, .int .i64 0, .slice none 0 0, .slice none 0 0, .slice none 0 0]], []⟩ 8 (by kernel_rfl) (by kernel_rfl) (by kernel_rfl) (by kernel_rfl)) ?_
  intro W base args ds gs before hval0 hW hcnd _
  have hval : ∀ (j : Nat) t v, Try.f4.params[j]? = some t → args[j]? = some v → Value.okWide Try.prog W .any base t v := hval0
  have hW' := hW
  obtain ⟨p, q, hA0, hV, rfl, hfz, hnd⟩ := hW
  have hA : DataW.TrodAll enc Try.prog W 0 (fun _ => true) true Try.f4.params.toList args.toList ds p := hA0
  rw [Try.params4] at hA hval
  obtain ⟨v0, vs0, d0, ds0, p0, q0, hargs, rfl, rfl, h0, r0⟩ := trodAll_cons hA
  obtain ⟨rfl, rfl, rfl⟩ := trodAll_nil r0
  obtain rfl : args = #[v0] := by cases args; simp_all
  obtain ⟨rfl, rfl⟩ := trodVars_none hV
  have k0 := h0
  have lt0 : ∀ x ∈ p0, x.block < W.heap.size := by obtain ⟨m, hm⟩ := k0; exact DataW.trod_lt m _ _ _ hm
  obtain ⟨cs, rfl, _⟩ := okWide_struct Try.underlying35 (hval 0 35 v0 rfl rfl)
  obtain ⟨fuel, hf⟩ := h0
  obtain ⟨h, ht⟩ := HeapAt_of_trod fuel _ _ hf
  have hcs : (Value.agg cs).cells = cs := rfl
  rw [hcs] at ht
  clear hA0 hval0
  have hwk := walk  ht
  rw [Array.toArray_toList] at hwk
  refine hwk.mono fun e W' ⟨he, bel⟩ => ?_
  subst he
  exact ⟨_, rfl, _, _, _, [], _, [], hW', trodAll_mk1 (shut_bool Try.underlying4 _), (trodAll_cons_mk (Below.trod laidOut (by kernel_rfl) (of_decide_eq_true (by kernel_rfl)) k0 bel lt0) trodAll_mk0), rfl, bel.frame _, fun h => by cases h⟩
theorem over : Rows.fnExactLoopNewRow.holds Try.pinned (OpenSpec.ofChange Rows.fnExactLoopNewSpec) :=
  OpenClaim.holds_of_wide 4 Try.f4 rfl rfl rfl rfl rfl rfl rfl ⟨rfl, rfl, rfl, rfl, rfl⟩ rfl rfl rfl rfl rfl (by kernel_rfl) Try.func4 (by kernel_rfl)
    (of_decide_eq_true (by kernel_rfl)) (by unfold Func.isWrapper; first | (rw [if_pos (by decide +kernel)]; kernel_rfl) | (rw [if_neg (by decide +kernel)]; exact ⟨rfl, rfl⟩))
    (fun os started H enc _ => lifted os started H enc)
end Go.Proofs.Ytdhjaokanllcgaa.fnExactLoopNew
namespace Go.Proofs.Ytdhjaokanllcgaa
theorem fnExactLoopNew_holds : Rows.FnExactLoopNewSaid := fnExactLoopNew.over
end Go.Proofs.Ytdhjaokanllcgaa
