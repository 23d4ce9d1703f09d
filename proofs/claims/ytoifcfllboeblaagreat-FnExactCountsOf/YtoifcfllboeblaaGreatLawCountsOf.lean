/- At every heap CountsOf answers as its specification, writes into no argument, and its answer owns its memory. No condition. -/
import Derived.Test.YtoifcfllboeblaaGreatSzRecs
import Derived.Test.YtoifcfllboeblaaGreatToOwn
import Derived.Test.YtoifcfllboeblaaGreatEqRecs
import Derived.Test.YtoifcfllboeblaaGreatMarkTops
import Derived.Test.YtoifcfllboeblaaGreatCntPlain
import Derived.Test.YtoifcfllboeblaaGreatCountBoth
import Derived.Test.YtoifcfllboeblaaGreatCountRecs
import Derived.ProofKit
import Derived.OpenShut
import Derived.ShutString
import Derived.ChangeOld
import Derived.Below
import Derived.ChangeMaps5
namespace Go.Proofs.YtoifcfllboeblaaGreat.fnExactCountsOf
open Go.ChangeShapes Go.WideShapes Go.ChangeAt Go.RowKit
theorem own : ownKnob Tryz.prog.godebug = none := by kernel_rfl
theorem laidOut : laidOutB Tryz.prog = true := by kernel_rfl
theorem keepH {w wr w1 : World} {g1 g2 T1 T2 : Nat} {v0 v1 v2 v3 v4 u0 u1 u2 u3 u4 : Value} (hb : Below w.heap.size w wr) (hb1 : Below wr.heap.size wr w1) (b1 : Box wr g1 [v0, v1, v2, v3, v4] T1) (b2 : Box wr g2 [u0, u1, u2, u3, u4] T2) :
    w1.cell? ⟨g1, 0, none⟩ = some v0 ∧ w1.cell? ⟨g1, 1, none⟩ = some v1 ∧ w1.cell? ⟨g1, 2, none⟩ = some v2 ∧ w1.cell? ⟨g1, 3, none⟩ = some v3 ∧ w1.cell? ⟨g1, 4, none⟩ = some v4 ∧ w1.cell? ⟨g2, 0, none⟩ = some u0 ∧ w1.cell? ⟨g2, 1, none⟩ = some u1 ∧ w1.cell? ⟨g2, 2, none⟩ = some u2 ∧ w1.cell? ⟨g2, 3, none⟩ = some u3 ∧ w1.cell? ⟨g2, 4, none⟩ = some u4 ∧ Hid (Below w.heap.size w w1 ∧ Box w1 g1 [v0, v1, v2, v3, v4] T1 ∧ Box w1 g2 [u0, u1, u2, u3, u4] T2) := by
  have k1 := b1.below hb1 b1.lt
  have k2 := b2.below hb1 b2.lt
  exact ⟨k1.cell 0 rfl, k1.cell 1 rfl, k1.cell 2 rfl, k1.cell 3 rfl, k1.cell 4 rfl, k2.cell 0 rfl, k2.cell 1 rfl, k2.cell 2 rfl, k2.cell 3 rfl, k2.cell 4 rfl, hb.trans (hb1.mono hb.size), k1, k2⟩
set_option maxRecDepth 100000 in
set_option maxHeartbeats 6400000 in
theorem walk {w : World} {cs : List Value} {h : HeapD} (ht : HeapAt w 0 cs h) :
    Calls Tryz.prog 4 #[.agg cs.toArray] w fun e w' => e = .returned (.bool true) ∧ Below w.heap.size w w' := by
  have ht0 : Hid (HeapAt w 0 cs h) := ht
  obtain ⟨k2, k3, k4, rfl, s2, s3, s4, _⟩ := ht
  obtain ⟨a2, cap2, rfl⟩ := s2.form
  obtain ⟨a3, cap3, rfl⟩ := s3.form
  obtain ⟨a4, cap4, rfl⟩ := s4.form
  clear s2 s3 s4
  have hb0 : Below w.heap.size w (w.alloc (.cells (List.toArray [.int .i64 h.vNext, .int .i64 h.vDoc, .slice a2 h.vNodes.length cap2, .slice a3 h.vObjs.length cap3, .slice a4 h.vGlobals.length cap4]) 26)) := (Below.refl _ _).alloc (Nat.le_refl _) _
  have bA_0 : Hid (Box (w.alloc (.cells (List.toArray [.int .i64 h.vNext, .int .i64 h.vDoc, .slice a2 h.vNodes.length cap2, .slice a3 h.vObjs.length cap3, .slice a4 h.vGlobals.length cap4]) 26)) w.heap.size [.int .i64 h.vNext, .int .i64 h.vDoc, .slice a2 h.vNodes.length cap2, .slice a3 h.vObjs.length cap3, .slice a4 h.vGlobals.length cap4] 26) := Box.new w _ _
  go_enter Tryz.func4, Tryz.ntmps4
  go_wp2_with fail
  refine (szHeap_any (HeapAt_stays _ _ _ 0 _ _ (.of_below hb0) ht0.out) (by omega) (by omega)).mono ?_
  rintro e w1 ⟨⟨r, rfl, hr1, hr2, hsm⟩, hb1⟩
  have hsm' : Hid _ := hsm
  clear hsm
  have hB1 : Below w.heap.size w w1 := hb0.trans (hb1.mono hb0.size)
  have s1 : w.heap.size + 1 ≤ w1.heap.size := by have := hb1.size; simpa using this
  have bA_1 : Hid (Box w1 w.heap.size [.int .i64 h.vNext, .int .i64 h.vDoc, .slice a2 h.vNodes.length cap2, .slice a3 h.vObjs.length cap3, .slice a4 h.vGlobals.length cap4] 26) := bA_0.out.below hb1 bA_0.out.lt
  clear bA_0
  have z1_bA_0 := bA_1.out.cell 0 rfl
  have z1_bA_1 := bA_1.out.cell 1 rfl
  have z1_bA_2 := bA_1.out.cell 2 rfl
  have z1_bA_3 := bA_1.out.cell 3 rfl
  have z1_bA_4 := bA_1.out.cell 4 rfl
  by_cases hneg : r < 0
  · go_wp2_with fail
    go_ret
    exact ⟨rfl, hB1⟩
  have hsm : Hid h.small := hsm'.out.resolve_left hneg
  have hcnt : Hid ((1 : Int) + (cntL cntNode h.vNodes : Nat) + (cntL cntObj h.vObjs : Nat) + (cntL cntField h.vGlobals : Nat) ≤ 4611686018427387904) := cntHeap_le hsm.out
  have hneg' : decide (r < 0) = false := by simpa using hneg
  clear hsm' hneg
  go_wp2_with fail
  refine (toHeap_any (HeapAt_stays _ _ _ 0 _ _ (.of_below hB1) ht0.out) hsm.out).mono ?_
  rintro e w2 ⟨⟨cs2, rfl, ht2⟩, hb2⟩
  have hB2 : Below w.heap.size w w2 := hB1.trans (hb2.mono hB1.size)
  have s2 := hb2.size
  have ht2' : Hid (HeapAt w2 w1.heap.size cs2 h) := ht2
  have bA_2 : Hid (Box w2 w.heap.size [.int .i64 h.vNext, .int .i64 h.vDoc, .slice a2 h.vNodes.length cap2, .slice a3 h.vObjs.length cap3, .slice a4 h.vGlobals.length cap4] 26) := bA_1.out.below hb2 bA_1.out.lt
  clear bA_1
  clear z1_bA_0 z1_bA_1 z1_bA_2 z1_bA_3 z1_bA_4
  have z2_bA_0 := bA_2.out.cell 0 rfl
  have z2_bA_1 := bA_2.out.cell 1 rfl
  have z2_bA_2 := bA_2.out.cell 2 rfl
  have z2_bA_3 := bA_2.out.cell 3 rfl
  have z2_bA_4 := bA_2.out.cell 4 rfl
  clear hb2 ht2
  go_wp2_with fail
  refine (specCountsOf_any ht2'.out hsm.out).mono ?_
  rintro e w3 ⟨⟨v0, fw, rfl, own0, low0⟩, hb3⟩
  have hB3 : Below w.heap.size w w3 := hB2.trans (hb3.mono hB2.size)
  have s3 := hb3.size
  have hw3 : Hid (∀ b ∈ fw, b < w3.heap.size ∧ w2.heap.size ≤ b) := fun b q => ⟨SeqOwn.lt CountOwn_lt own0 b q, low0 b q⟩
  have bA_3 : Hid (Box w3 w.heap.size [.int .i64 h.vNext, .int .i64 h.vDoc, .slice a2 h.vNodes.length cap2, .slice a3 h.vObjs.length cap3, .slice a4 h.vGlobals.length cap4] 26) := bA_2.out.below hb3 bA_2.out.lt
  clear bA_2
  clear z2_bA_0 z2_bA_1 z2_bA_2 z2_bA_3 z2_bA_4
  have z3_bA_0 := bA_3.out.cell 0 rfl
  have z3_bA_1 := bA_3.out.cell 1 rfl
  have z3_bA_2 := bA_3.out.cell 2 rfl
  have z3_bA_3 := bA_3.out.cell 3 rfl
  have z3_bA_4 := bA_3.out.cell 4 rfl
  have hYL : Hid ((countsD h).length ≤ 1048576) := countsD_len
  generalize hYS : countsD h = ys at *
  have hYS' : Hid (countsD h = ys) := hYS
  clear hYS
  have v0_3 : Hid (SeqOwn 2 CountOwn w3 v0 ys fw) := own0
  obtain ⟨av, capv, rfl⟩ := own0.form
  clear own0 low0 hb3
  go_wp2_with fail
  refine (toHeap_own (HeapAt_stays _ _ _ 0 _ _ (.of_below hB3) ht0.out) hsm.out).mono ?_
  rintro e w4 ⟨⟨cs4, fx, rfl, ownx, ndx, lox⟩, hb4⟩
  have hB4 : Below w.heap.size w w4 := hB3.trans (hb4.mono hB3.size)
  have s4 := hb4.size
  have hx4 : Hid (∀ b ∈ fx, b < w4.heap.size ∧ w3.heap.size ≤ b) := fun b q => ⟨HeapOwn_lt _ _ _ _ ownx b q, lox b q⟩
  have bA_4 : Hid (Box w4 w.heap.size [.int .i64 h.vNext, .int .i64 h.vDoc, .slice a2 h.vNodes.length cap2, .slice a3 h.vObjs.length cap3, .slice a4 h.vGlobals.length cap4] 26) := bA_3.out.below hb4 bA_3.out.lt
  have v0_4 : Hid (SeqOwn 2 CountOwn w4 (.slice av ys.length capv) ys fw) := SeqOwn.below CountOwn_stays CountOwn_lt v0_3.out (hb4)
  clear bA_3 v0_3
  clear z3_bA_0 z3_bA_1 z3_bA_2 z3_bA_3 z3_bA_4
  have z4_bA_0 := bA_4.out.cell 0 rfl
  have z4_bA_1 := bA_4.out.cell 1 rfl
  have z4_bA_2 := bA_4.out.cell 2 rfl
  have z4_bA_3 := bA_4.out.cell 3 rfl
  have z4_bA_4 := bA_4.out.cell 4 rfl
  have x0_4 : Hid (HeapOwn w4 cs4 h fx) := ownx
  obtain ⟨j2, j3, j4, g2, g3, g4, rfl, t2, t3, t4, _⟩ := ownx
  obtain ⟨e2, dap2, rfl⟩ := t2.form
  obtain ⟨e3, dap3, rfl⟩ := t3.form
  obtain ⟨e4, dap4, rfl⟩ := t4.form
  clear t2 t3 t4 hb4 lox
  have hb5 : Below w4.heap.size w4 (w4.alloc (.cells (List.toArray [.int .i64 h.vNext, .int .i64 h.vDoc, .slice e2 h.vNodes.length dap2, .slice e3 h.vObjs.length dap3, .slice e4 h.vGlobals.length dap4]) 34)) := (Below.refl _ _).alloc (Nat.le_refl _) _
  have hB5 : Below w.heap.size w (w4.alloc (.cells (List.toArray [.int .i64 h.vNext, .int .i64 h.vDoc, .slice e2 h.vNodes.length dap2, .slice e3 h.vObjs.length dap3, .slice e4 h.vGlobals.length dap4]) 34)) := hB4.trans (hb5.mono hB4.size)
  go_wp2_with fail
  have bA_5 : Hid (Box (w4.alloc (.cells (List.toArray [.int .i64 h.vNext, .int .i64 h.vDoc, .slice e2 h.vNodes.length dap2, .slice e3 h.vObjs.length dap3, .slice e4 h.vGlobals.length dap4]) 34)) w.heap.size [.int .i64 h.vNext, .int .i64 h.vDoc, .slice a2 h.vNodes.length cap2, .slice a3 h.vObjs.length cap3, .slice a4 h.vGlobals.length cap4] 26) := bA_4.out.below hb5 bA_4.out.lt
  have v0_5 : Hid (SeqOwn 2 CountOwn (w4.alloc (.cells (List.toArray [.int .i64 h.vNext, .int .i64 h.vDoc, .slice e2 h.vNodes.length dap2, .slice e3 h.vObjs.length dap3, .slice e4 h.vGlobals.length dap4]) 34)) (.slice av ys.length capv) ys fw) := SeqOwn.below CountOwn_stays CountOwn_lt v0_4.out (hb5)
  have x0_5 : Hid (HeapOwn (w4.alloc (.cells (List.toArray [.int .i64 h.vNext, .int .i64 h.vDoc, .slice e2 h.vNodes.length dap2, .slice e3 h.vObjs.length dap3, .slice e4 h.vGlobals.length dap4]) 34)) [.int .i64 h.vNext, .int .i64 h.vDoc, .slice e2 h.vNodes.length dap2, .slice e3 h.vObjs.length dap3, .slice e4 h.vGlobals.length dap4] h fx) := HeapOwn_stays _ _ _ _ _ (fun x hx => (hb5).block x (HeapOwn_lt _ _ _ _ x0_4.out x hx)) x0_4.out
  clear bA_4 v0_4 x0_4
  clear z4_bA_0 z4_bA_1 z4_bA_2 z4_bA_3 z4_bA_4
  have z5_bA_0 := bA_5.out.cell 0 rfl
  have z5_bA_1 := bA_5.out.cell 1 rfl
  have z5_bA_2 := bA_5.out.cell 2 rfl
  have z5_bA_3 := bA_5.out.cell 3 rfl
  have z5_bA_4 := bA_5.out.cell 4 rfl
  have bX_5 : Hid (Box (w4.alloc (.cells (List.toArray [.int .i64 h.vNext, .int .i64 h.vDoc, .slice e2 h.vNodes.length dap2, .slice e3 h.vObjs.length dap3, .slice e4 h.vGlobals.length dap4]) 34)) w4.heap.size [.int .i64 h.vNext, .int .i64 h.vDoc, .slice e2 h.vNodes.length dap2, .slice e3 h.vObjs.length dap3, .slice e4 h.vGlobals.length dap4] 34) := Box.new w4 _ _
  refine (implCountsOf_any (HeapOwn_at (lo := 0) _ _ _ _ x0_5.out (fun _ _ => Nat.zero_le _)) hsm.out).mono ?_
  rintro e w6 ⟨⟨g0, fg, rfl, owng, logg⟩, hb6⟩
  have hB6 : Below w.heap.size w w6 := hB5.trans (hb6.mono hB5.size)
  have s6 : w4.heap.size + 1 ≤ w6.heap.size := by have := hb6.size; simpa using this
  have hg6 : Hid (∀ b ∈ fg, b < w6.heap.size ∧ w4.heap.size + 1 ≤ b) := fun b q => ⟨SeqOwn.lt CountOwn_lt owng b q, by have := logg b q; simpa using this⟩
  have bA_6 : Hid (Box w6 w.heap.size [.int .i64 h.vNext, .int .i64 h.vDoc, .slice a2 h.vNodes.length cap2, .slice a3 h.vObjs.length cap3, .slice a4 h.vGlobals.length cap4] 26) := bA_5.out.below hb6 bA_5.out.lt
  have v0_6 : Hid (SeqOwn 2 CountOwn w6 (.slice av ys.length capv) ys fw) := SeqOwn.below CountOwn_stays CountOwn_lt v0_5.out (hb6)
  have x0_6 : Hid (HeapOwn w6 [.int .i64 h.vNext, .int .i64 h.vDoc, .slice e2 h.vNodes.length dap2, .slice e3 h.vObjs.length dap3, .slice e4 h.vGlobals.length dap4] h fx) := HeapOwn_stays _ _ _ _ _ (fun x hx => (hb6).block x (HeapOwn_lt _ _ _ _ x0_5.out x hx)) x0_5.out
  have bX_6 : Hid (Box w6 w4.heap.size [.int .i64 h.vNext, .int .i64 h.vDoc, .slice e2 h.vNodes.length dap2, .slice e3 h.vObjs.length dap3, .slice e4 h.vGlobals.length dap4] 34) := bX_5.out.below hb6 bX_5.out.lt
  clear bA_5 v0_5 x0_5 bX_5
  clear z5_bA_0 z5_bA_1 z5_bA_2 z5_bA_3 z5_bA_4
  have z6_bA_0 := bA_6.out.cell 0 rfl
  have z6_bA_1 := bA_6.out.cell 1 rfl
  have z6_bA_2 := bA_6.out.cell 2 rfl
  have z6_bA_3 := bA_6.out.cell 3 rfl
  have z6_bA_4 := bA_6.out.cell 4 rfl
  have z6_bX_0 := bX_6.out.cell 0 rfl
  have z6_bX_1 := bX_6.out.cell 1 rfl
  have z6_bX_2 := bX_6.out.cell 2 rfl
  have z6_bX_3 := bX_6.out.cell 3 rfl
  have z6_bX_4 := bX_6.out.cell 4 rfl
  have owng' : SeqOwn 2 CountOwn w6 g0 ys fg := by rw [← hYS'.out]; exact owng
  have g0_6 : Hid (SeqOwn 2 CountOwn w6 g0 ys fg) := owng'
  obtain ⟨ag, capg, rfl⟩ := owng'.form
  clear owng owng' logg hb6
  go_wp2_with fail
  refine (eqCountS_any (lo := 0) (lo2 := 0) (by exact SeqOwn.at (CountOwn_at (lo := 0)) g0_6.out (fun _ _ => Nat.zero_le _)) (by exact SeqOwn.at (CountOwn_at (lo := 0)) v0_6.out (fun _ _ => Nat.zero_le _))).mono ?_
  rintro e w7 ⟨rfl, hb7⟩
  have hB7 : Below w.heap.size w w7 := hB6.trans (hb7.mono hB6.size)
  have s7 := hb7.size
  have bA_7 : Hid (Box w7 w.heap.size [.int .i64 h.vNext, .int .i64 h.vDoc, .slice a2 h.vNodes.length cap2, .slice a3 h.vObjs.length cap3, .slice a4 h.vGlobals.length cap4] 26) := bA_6.out.below hb7 bA_6.out.lt
  have v0_7 : Hid (SeqOwn 2 CountOwn w7 (.slice av ys.length capv) ys fw) := SeqOwn.below CountOwn_stays CountOwn_lt v0_6.out (hb7)
  have x0_7 : Hid (HeapOwn w7 [.int .i64 h.vNext, .int .i64 h.vDoc, .slice e2 h.vNodes.length dap2, .slice e3 h.vObjs.length dap3, .slice e4 h.vGlobals.length dap4] h fx) := HeapOwn_stays _ _ _ _ _ (fun x hx => (hb7).block x (HeapOwn_lt _ _ _ _ x0_6.out x hx)) x0_6.out
  have bX_7 : Hid (Box w7 w4.heap.size [.int .i64 h.vNext, .int .i64 h.vDoc, .slice e2 h.vNodes.length dap2, .slice e3 h.vObjs.length dap3, .slice e4 h.vGlobals.length dap4] 34) := bX_6.out.below hb7 bX_6.out.lt
  have g0_7 : Hid (SeqOwn 2 CountOwn w7 (.slice ag ys.length capg) ys fg) := SeqOwn.below CountOwn_stays CountOwn_lt g0_6.out (hb7)
  clear bA_6 v0_6 x0_6 bX_6 g0_6
  clear z6_bA_0 z6_bA_1 z6_bA_2 z6_bA_3 z6_bA_4 z6_bX_0 z6_bX_1 z6_bX_2 z6_bX_3 z6_bX_4
  have z7_bA_0 := bA_7.out.cell 0 rfl
  have z7_bA_1 := bA_7.out.cell 1 rfl
  have z7_bA_2 := bA_7.out.cell 2 rfl
  have z7_bA_3 := bA_7.out.cell 3 rfl
  have z7_bA_4 := bA_7.out.cell 4 rfl
  have z7_bX_0 := bX_7.out.cell 0 rfl
  have z7_bX_1 := bX_7.out.cell 1 rfl
  have z7_bX_2 := bX_7.out.cell 2 rfl
  have z7_bX_3 := bX_7.out.cell 3 rfl
  have z7_bX_4 := bX_7.out.cell 4 rfl
  have PK : Hid (Box w7 w4.heap.size [.int .i64 h.vNext, .int .i64 h.vDoc, .slice e2 h.vNodes.length dap2, .slice e3 h.vObjs.length dap3, .slice e4 h.vGlobals.length dap4] 34 ∧ Box w7 w.heap.size [.int .i64 h.vNext, .int .i64 h.vDoc, .slice a2 h.vNodes.length cap2, .slice a3 h.vObjs.length cap3, .slice a4 h.vGlobals.length cap4] 26) := ⟨bX_7.out, bA_7.out⟩
  have hX7 : Hid (HeapAt w7 0 [.int .i64 h.vNext, .int .i64 h.vDoc, .slice e2 h.vNodes.length dap2, .slice e3 h.vObjs.length dap3, .slice e4 h.vGlobals.length dap4] h) := HeapOwn_at (lo := 0) _ _ _ _ x0_7.out (fun _ _ => Nat.zero_le _)
  go_wp2_with fail
  go_region_held3 (fun w' => w'.cell? ⟨w4.heap.size, 0, none⟩ = some (.int .i64 h.vNext) ∧ w'.cell? ⟨w4.heap.size, 1, none⟩ = some (.int .i64 h.vDoc) ∧ w'.cell? ⟨w4.heap.size, 2, none⟩ = some (.slice e2 h.vNodes.length dap2) ∧ w'.cell? ⟨w4.heap.size, 3, none⟩ = some (.slice e3 h.vObjs.length dap3) ∧ w'.cell? ⟨w4.heap.size, 4, none⟩ = some (.slice e4 h.vGlobals.length dap4) ∧ w'.cell? ⟨w.heap.size, 0, none⟩ = some (.int .i64 h.vNext) ∧ w'.cell? ⟨w.heap.size, 1, none⟩ = some (.int .i64 h.vDoc) ∧ w'.cell? ⟨w.heap.size, 2, none⟩ = some (.slice a2 h.vNodes.length cap2) ∧ w'.cell? ⟨w.heap.size, 3, none⟩ = some (.slice a3 h.vObjs.length cap3) ∧ w'.cell? ⟨w.heap.size, 4, none⟩ = some (.slice a4 h.vGlobals.length cap4)) (go_keep)
    (first | (go_at_call 10; refine (toHeap_any (by exact HeapAt_stays _ _ _ 0 _ _ (.of_below hB7.drew) ht0.out) hsm.out).mono ?_; rintro e w8 ⟨⟨cs8, rfl, ht8⟩, hb8⟩; obtain ⟨y0, y1, y2, y3, y4, y5, y6, y7, y8, y9, hB8⟩ := keepH hB7 (undrew hb8) PK.out.1 PK.out.2; have ht8a : Hid (HeapAt w8 0 [.int .i64 h.vNext, .int .i64 h.vDoc, .slice e2 h.vNodes.length dap2, .slice e3 h.vObjs.length dap3, .slice e4 h.vGlobals.length dap4] h) := HeapAt_stays _ _ _ _ _ _ (.of_below (undrew hb8)) hX7.out; have ht8b : Hid _ := ht8; have hb8' : Hid (Below w7.heap.size w7 w8) := undrew hb8; clear ht8 hb8) | (go_at_call 13; refine (eqHeap_any (by exact ht8a.out) (by exact ht8b.out)).mono ?_; rintro e w9 ⟨rfl, hb9⟩; obtain ⟨y0, y1, y2, y3, y4, y5, y6, y7, y8, y9, hB9⟩ := keepH hB8.out.1 hb9 hB8.out.2.1 hB8.out.2.2; have hb9' : Hid (Below w8.heap.size w8 w9) := hb9; clear hb9))
  have hb79 : Below w7.heap.size w7 w9 := hb8'.out.trans (hb9'.out.mono hb8'.out.size)
  have hBw9 : Below w.heap.size w w9 := hB9.out.1
  have s9 := hb79.size
  clear PK hX7 ht8a ht8b hB8 hB9 hb8' hb9'
  have bA_8 : Hid (Box w9 w.heap.size [.int .i64 h.vNext, .int .i64 h.vDoc, .slice a2 h.vNodes.length cap2, .slice a3 h.vObjs.length cap3, .slice a4 h.vGlobals.length cap4] 26) := bA_7.out.below hb79 bA_7.out.lt
  have v0_8 : Hid (SeqOwn 2 CountOwn w9 (.slice av ys.length capv) ys fw) := SeqOwn.below CountOwn_stays CountOwn_lt v0_7.out (hb79)
  have x0_8 : Hid (HeapOwn w9 [.int .i64 h.vNext, .int .i64 h.vDoc, .slice e2 h.vNodes.length dap2, .slice e3 h.vObjs.length dap3, .slice e4 h.vGlobals.length dap4] h fx) := HeapOwn_stays _ _ _ _ _ (fun x hx => (hb79).block x (HeapOwn_lt _ _ _ _ x0_7.out x hx)) x0_7.out
  have bX_8 : Hid (Box w9 w4.heap.size [.int .i64 h.vNext, .int .i64 h.vDoc, .slice e2 h.vNodes.length dap2, .slice e3 h.vObjs.length dap3, .slice e4 h.vGlobals.length dap4] 34) := bX_7.out.below hb79 bX_7.out.lt
  have g0_8 : Hid (SeqOwn 2 CountOwn w9 (.slice ag ys.length capg) ys fg) := SeqOwn.below CountOwn_stays CountOwn_lt g0_7.out (hb79)
  clear bA_7 v0_7 x0_7 bX_7 g0_7
  clear z7_bA_0 z7_bA_1 z7_bA_2 z7_bA_3 z7_bA_4 z7_bX_0 z7_bX_1 z7_bX_2 z7_bX_3 z7_bX_4
  have z8_bA_0 := bA_8.out.cell 0 rfl
  have z8_bA_1 := bA_8.out.cell 1 rfl
  have z8_bA_2 := bA_8.out.cell 2 rfl
  have z8_bA_3 := bA_8.out.cell 3 rfl
  have z8_bA_4 := bA_8.out.cell 4 rfl
  have z8_bX_0 := bX_8.out.cell 0 rfl
  have z8_bX_1 := bX_8.out.cell 1 rfl
  have z8_bX_2 := bX_8.out.cell 2 rfl
  have z8_bX_3 := bX_8.out.cell 3 rfl
  have z8_bX_4 := bX_8.out.cell 4 rfl
  go_wp2_with fail
  refine (markHeap_any x0_8.out ndx (by omega) hcnt.out).mono ?_
  rintro e w10 ⟨rfl, own10, ho10⟩
  have s10 := ho10.2.2.2.1
  have hB10 : Below w.heap.size w w10 := hBw9.trans (ho10.below hBw9.size (fun x hx => by have := hx4.out x hx; omega))
  have bA_9 : Hid (Box w10 w.heap.size [.int .i64 h.vNext, .int .i64 h.vDoc, .slice a2 h.vNodes.length cap2, .slice a3 h.vObjs.length cap3, .slice a4 h.vGlobals.length cap4] 26) := ((ho10).keep bA_8.out.lt (fun q => by have := hx4.out _ q; omega)).trans bA_8.out
  have v0_9 : Hid (SeqOwn 2 CountOwn w10 (.slice av ys.length capv) ys fw) := SeqOwn.stays CountOwn_stays v0_8.out (fun x hx => (ho10).keep (SeqOwn.lt CountOwn_lt v0_8.out x hx) (fun q => by have := hx4.out _ q; have := hw3.out _ hx; omega))
  have bX_9 : Hid (Box w10 w4.heap.size [.int .i64 h.vNext, .int .i64 h.vDoc, .slice e2 h.vNodes.length dap2, .slice e3 h.vObjs.length dap3, .slice e4 h.vGlobals.length dap4] 34) := ((ho10).keep bX_8.out.lt (fun q => by have := hx4.out _ q; omega)).trans bX_8.out
  have g0_9 : Hid (SeqOwn 2 CountOwn w10 (.slice ag ys.length capg) ys fg) := SeqOwn.stays CountOwn_stays g0_8.out (fun x hx => (ho10).keep (SeqOwn.lt CountOwn_lt g0_8.out x hx) (fun q => by have := hx4.out _ q; have := hg6.out _ hx; omega))
  clear bA_8 v0_8 x0_8 bX_8 g0_8
  clear z8_bA_0 z8_bA_1 z8_bA_2 z8_bA_3 z8_bA_4 z8_bX_0 z8_bX_1 z8_bX_2 z8_bX_3 z8_bX_4
  have z9_bA_0 := bA_9.out.cell 0 rfl
  have z9_bA_1 := bA_9.out.cell 1 rfl
  have z9_bA_2 := bA_9.out.cell 2 rfl
  have z9_bA_3 := bA_9.out.cell 3 rfl
  have z9_bA_4 := bA_9.out.cell 4 rfl
  have z9_bX_0 := bX_9.out.cell 0 rfl
  have z9_bX_1 := bX_9.out.cell 1 rfl
  have z9_bX_2 := bX_9.out.cell 2 rfl
  have z9_bX_3 := bX_9.out.cell 3 rfl
  have z9_bX_4 := bX_9.out.cell 4 rfl
  have hk0 : ((1 : Int) + (cntL cntNode h.vNodes : Nat) + (cntL cntObj h.vObjs : Nat) + (cntL cntField h.vGlobals : Nat) : Int) < 0 → False := by omega
  generalize hSUM : (1 : Int) + (cntL cntNode h.vNodes : Nat) + (cntL cntObj h.vObjs : Nat) + (cntL cntField h.vGlobals : Nat) = K at *
  have hk1 : decide (K < 0) = false := by simp; omega
  clear hSUM own10
  go_wp2_with fail
  refine (eqCountS_any (lo := 0) (lo2 := 0) (by exact SeqOwn.at (CountOwn_at (lo := 0)) g0_9.out (fun _ _ => Nat.zero_le _)) (by exact SeqOwn.at (CountOwn_at (lo := 0)) v0_9.out (fun _ _ => Nat.zero_le _))).mono ?_
  rintro e w11 ⟨rfl, hb11⟩
  have hB11 : Below w.heap.size w w11 := hB10.trans (hb11.mono hB10.size)
  have s11 := hb11.size
  have bA_10 : Hid (Box w11 w.heap.size [.int .i64 h.vNext, .int .i64 h.vDoc, .slice a2 h.vNodes.length cap2, .slice a3 h.vObjs.length cap3, .slice a4 h.vGlobals.length cap4] 26) := bA_9.out.below hb11 bA_9.out.lt
  have v0_10 : Hid (SeqOwn 2 CountOwn w11 (.slice av ys.length capv) ys fw) := SeqOwn.below CountOwn_stays CountOwn_lt v0_9.out (hb11)
  have bX_10 : Hid (Box w11 w4.heap.size [.int .i64 h.vNext, .int .i64 h.vDoc, .slice e2 h.vNodes.length dap2, .slice e3 h.vObjs.length dap3, .slice e4 h.vGlobals.length dap4] 34) := bX_9.out.below hb11 bX_9.out.lt
  have g0_10 : Hid (SeqOwn 2 CountOwn w11 (.slice ag ys.length capg) ys fg) := SeqOwn.below CountOwn_stays CountOwn_lt g0_9.out (hb11)
  clear bA_9 v0_9 bX_9 g0_9
  clear z9_bA_0 z9_bA_1 z9_bA_2 z9_bA_3 z9_bA_4 z9_bX_0 z9_bX_1 z9_bX_2 z9_bX_3 z9_bX_4
  have z10_bA_0 := bA_10.out.cell 0 rfl
  have z10_bA_1 := bA_10.out.cell 1 rfl
  have z10_bA_2 := bA_10.out.cell 2 rfl
  have z10_bA_3 := bA_10.out.cell 3 rfl
  have z10_bA_4 := bA_10.out.cell 4 rfl
  have z10_bX_0 := bX_10.out.cell 0 rfl
  have z10_bX_1 := bX_10.out.cell 1 rfl
  have z10_bX_2 := bX_10.out.cell 2 rfl
  have z10_bX_3 := bX_10.out.cell 3 rfl
  have z10_bX_4 := bX_10.out.cell 4 rfl
  go_wp2_with fail
  have hM : Hid ((1 : Int) + (cntL cntCount ys : Nat) ≤ 4611686018427387904) := by show _ ≤ _; rw [cntL_count]; have := hYL.out; omega
  refine (markCountS_any g0_10.out (by omega) hM.out).mono ?_
  rintro e w12 ⟨rfl, own12, ho12⟩
  have s12 := ho12.2.2.2.1
  have hB12 : Below w.heap.size w w12 := hB11.trans (ho12.below hB11.size (fun x hx => by have := hg6.out x hx; omega))
  have bA_11 : Hid (Box w12 w.heap.size [.int .i64 h.vNext, .int .i64 h.vDoc, .slice a2 h.vNodes.length cap2, .slice a3 h.vObjs.length cap3, .slice a4 h.vGlobals.length cap4] 26) := ((ho12).keep bA_10.out.lt (fun q => by have := hg6.out _ q; omega)).trans bA_10.out
  have v0_11 : Hid (SeqOwn 2 CountOwn w12 (.slice av ys.length capv) ys fw) := SeqOwn.stays CountOwn_stays v0_10.out (fun x hx => (ho12).keep (SeqOwn.lt CountOwn_lt v0_10.out x hx) (fun q => by have := hg6.out _ q; have := hw3.out _ hx; omega))
  have bX_11 : Hid (Box w12 w4.heap.size [.int .i64 h.vNext, .int .i64 h.vDoc, .slice e2 h.vNodes.length dap2, .slice e3 h.vObjs.length dap3, .slice e4 h.vGlobals.length dap4] 34) := ((ho12).keep bX_10.out.lt (fun q => by have := hg6.out _ q; omega)).trans bX_10.out
  clear bA_10 v0_10 bX_10 g0_10
  clear z10_bA_0 z10_bA_1 z10_bA_2 z10_bA_3 z10_bA_4 z10_bX_0 z10_bX_1 z10_bX_2 z10_bX_3 z10_bX_4
  have z11_bA_0 := bA_11.out.cell 0 rfl
  have z11_bA_1 := bA_11.out.cell 1 rfl
  have z11_bA_2 := bA_11.out.cell 2 rfl
  have z11_bA_3 := bA_11.out.cell 3 rfl
  have z11_bA_4 := bA_11.out.cell 4 rfl
  have z11_bX_0 := bX_11.out.cell 0 rfl
  have z11_bX_1 := bX_11.out.cell 1 rfl
  have z11_bX_2 := bX_11.out.cell 2 rfl
  have z11_bX_3 := bX_11.out.cell 3 rfl
  have z11_bX_4 := bX_11.out.cell 4 rfl
  have g0_11 : Hid (SeqOwn 2 CountOwn w12 (.slice ag ys.length capg) (mkL cntCount mkCount ys 1) fg) := own12
  clear own12
  generalize hCI : (1 : Int) + (cntL cntCount ys : Nat) = M at *
  have hCI' : Hid _ := hCI
  clear hCI
  have hM0 : 0 ≤ M := by have := hCI'.out; omega
  have hM1 : decide (M < 0) = false := by simp; omega
  go_wp2_with fail
  refine (heldCountS_any (lo := 0) (m := 1) (xs := ys) (by exact SeqOwn.at (CountOwn_at (lo := 0)) g0_11.out (fun _ _ => Nat.zero_le _)) (by omega) (by rw [hCI'.out]; exact hM.out)).mono ?_
  rintro e w13 ⟨rfl, hb13⟩
  rw [hCI'.out]
  have hB13 : Below w.heap.size w w13 := hB12.trans (hb13.mono hB12.size)
  have s13 := hb13.size
  have bA_12 : Hid (Box w13 w.heap.size [.int .i64 h.vNext, .int .i64 h.vDoc, .slice a2 h.vNodes.length cap2, .slice a3 h.vObjs.length cap3, .slice a4 h.vGlobals.length cap4] 26) := bA_11.out.below hb13 bA_11.out.lt
  have v0_12 : Hid (SeqOwn 2 CountOwn w13 (.slice av ys.length capv) ys fw) := SeqOwn.below CountOwn_stays CountOwn_lt v0_11.out (hb13)
  have bX_12 : Hid (Box w13 w4.heap.size [.int .i64 h.vNext, .int .i64 h.vDoc, .slice e2 h.vNodes.length dap2, .slice e3 h.vObjs.length dap3, .slice e4 h.vGlobals.length dap4] 34) := bX_11.out.below hb13 bX_11.out.lt
  have g0_12 : Hid (SeqOwn 2 CountOwn w13 (.slice ag ys.length capg) (mkL cntCount mkCount ys 1) fg) := SeqOwn.below CountOwn_stays CountOwn_lt g0_11.out (hb13)
  clear bA_11 v0_11 bX_11 g0_11
  clear z11_bA_0 z11_bA_1 z11_bA_2 z11_bA_3 z11_bA_4 z11_bX_0 z11_bX_1 z11_bX_2 z11_bX_3 z11_bX_4
  have z12_bA_0 := bA_12.out.cell 0 rfl
  have z12_bA_1 := bA_12.out.cell 1 rfl
  have z12_bA_2 := bA_12.out.cell 2 rfl
  have z12_bA_3 := bA_12.out.cell 3 rfl
  have z12_bA_4 := bA_12.out.cell 4 rfl
  have z12_bX_0 := bX_12.out.cell 0 rfl
  have z12_bX_1 := bX_12.out.cell 1 rfl
  have z12_bX_2 := bX_12.out.cell 2 rfl
  have z12_bX_3 := bX_12.out.cell 3 rfl
  have z12_bX_4 := bX_12.out.cell 4 rfl
  go_wp2_with fail
  refine (toHeap_any (HeapAt_stays _ _ _ 0 _ _ (.of_below hB13) ht0.out) hsm.out).mono ?_
  rintro e w14 ⟨⟨cs14, rfl, ht14⟩, hb14⟩
  have hB14 : Below w.heap.size w w14 := hB13.trans (hb14.mono hB13.size)
  have s14 := hb14.size
  have ht14' : Hid (HeapAt w14 w13.heap.size cs14 h) := ht14
  have bA_13 : Hid (Box w14 w.heap.size [.int .i64 h.vNext, .int .i64 h.vDoc, .slice a2 h.vNodes.length cap2, .slice a3 h.vObjs.length cap3, .slice a4 h.vGlobals.length cap4] 26) := bA_12.out.below hb14 bA_12.out.lt
  have v0_13 : Hid (SeqOwn 2 CountOwn w14 (.slice av ys.length capv) ys fw) := SeqOwn.below CountOwn_stays CountOwn_lt v0_12.out (hb14)
  have bX_13 : Hid (Box w14 w4.heap.size [.int .i64 h.vNext, .int .i64 h.vDoc, .slice e2 h.vNodes.length dap2, .slice e3 h.vObjs.length dap3, .slice e4 h.vGlobals.length dap4] 34) := bX_12.out.below hb14 bX_12.out.lt
  have g0_13 : Hid (SeqOwn 2 CountOwn w14 (.slice ag ys.length capg) (mkL cntCount mkCount ys 1) fg) := SeqOwn.below CountOwn_stays CountOwn_lt g0_12.out (hb14)
  clear bA_12 v0_12 bX_12 g0_12
  clear z12_bA_0 z12_bA_1 z12_bA_2 z12_bA_3 z12_bA_4 z12_bX_0 z12_bX_1 z12_bX_2 z12_bX_3 z12_bX_4
  have z13_bA_0 := bA_13.out.cell 0 rfl
  have z13_bA_1 := bA_13.out.cell 1 rfl
  have z13_bA_2 := bA_13.out.cell 2 rfl
  have z13_bA_3 := bA_13.out.cell 3 rfl
  have z13_bA_4 := bA_13.out.cell 4 rfl
  have z13_bX_0 := bX_13.out.cell 0 rfl
  have z13_bX_1 := bX_13.out.cell 1 rfl
  have z13_bX_2 := bX_13.out.cell 2 rfl
  have z13_bX_3 := bX_13.out.cell 3 rfl
  have z13_bX_4 := bX_13.out.cell 4 rfl
  clear ht14 hb14
  go_wp2_with fail
  refine (implCountsOf_any ht14'.out hsm.out).mono ?_
  rintro e w15 ⟨⟨h0, fh, rfl, ownh, _⟩, hb15⟩
  have hB15 : Below w.heap.size w w15 := hB14.trans (hb15.mono hB14.size)
  have s15 := hb15.size
  have bA_14 : Hid (Box w15 w.heap.size [.int .i64 h.vNext, .int .i64 h.vDoc, .slice a2 h.vNodes.length cap2, .slice a3 h.vObjs.length cap3, .slice a4 h.vGlobals.length cap4] 26) := bA_13.out.below hb15 bA_13.out.lt
  have v0_14 : Hid (SeqOwn 2 CountOwn w15 (.slice av ys.length capv) ys fw) := SeqOwn.below CountOwn_stays CountOwn_lt v0_13.out (hb15)
  have bX_14 : Hid (Box w15 w4.heap.size [.int .i64 h.vNext, .int .i64 h.vDoc, .slice e2 h.vNodes.length dap2, .slice e3 h.vObjs.length dap3, .slice e4 h.vGlobals.length dap4] 34) := bX_13.out.below hb15 bX_13.out.lt
  have g0_14 : Hid (SeqOwn 2 CountOwn w15 (.slice ag ys.length capg) (mkL cntCount mkCount ys 1) fg) := SeqOwn.below CountOwn_stays CountOwn_lt g0_13.out (hb15)
  clear bA_13 v0_13 bX_13 g0_13
  clear z13_bA_0 z13_bA_1 z13_bA_2 z13_bA_3 z13_bA_4 z13_bX_0 z13_bX_1 z13_bX_2 z13_bX_3 z13_bX_4
  have z14_bA_0 := bA_14.out.cell 0 rfl
  have z14_bA_1 := bA_14.out.cell 1 rfl
  have z14_bA_2 := bA_14.out.cell 2 rfl
  have z14_bA_3 := bA_14.out.cell 3 rfl
  have z14_bA_4 := bA_14.out.cell 4 rfl
  have z14_bX_0 := bX_14.out.cell 0 rfl
  have z14_bX_1 := bX_14.out.cell 1 rfl
  have z14_bX_2 := bX_14.out.cell 2 rfl
  have z14_bX_3 := bX_14.out.cell 3 rfl
  have z14_bX_4 := bX_14.out.cell 4 rfl
  have ownh' : SeqOwn 2 CountOwn w15 h0 ys fh := by rw [← hYS'.out]; exact ownh
  have h0_14 : Hid (SeqOwn 2 CountOwn w15 h0 ys fh) := ownh'
  obtain ⟨ah, caph, rfl⟩ := ownh'.form
  clear ownh ownh' hb15
  go_wp2_with fail
  refine (eqCountS_any (lo := 0) (lo2 := 0) (by exact SeqOwn.at (CountOwn_at (lo := 0)) h0_14.out (fun _ _ => Nat.zero_le _)) (by exact SeqOwn.at (CountOwn_at (lo := 0)) v0_14.out (fun _ _ => Nat.zero_le _))).mono ?_
  rintro e w16 ⟨rfl, hb16⟩
  have hB16 : Below w.heap.size w w16 := hB15.trans (hb16.mono hB15.size)
  have bA_15 : Hid (Box w16 w.heap.size [.int .i64 h.vNext, .int .i64 h.vDoc, .slice a2 h.vNodes.length cap2, .slice a3 h.vObjs.length cap3, .slice a4 h.vGlobals.length cap4] 26) := bA_14.out.below hb16 bA_14.out.lt
  have v0_15 : Hid (SeqOwn 2 CountOwn w16 (.slice av ys.length capv) ys fw) := SeqOwn.below CountOwn_stays CountOwn_lt v0_14.out (hb16)
  have bX_15 : Hid (Box w16 w4.heap.size [.int .i64 h.vNext, .int .i64 h.vDoc, .slice e2 h.vNodes.length dap2, .slice e3 h.vObjs.length dap3, .slice e4 h.vGlobals.length dap4] 34) := bX_14.out.below hb16 bX_14.out.lt
  have g0_15 : Hid (SeqOwn 2 CountOwn w16 (.slice ag ys.length capg) (mkL cntCount mkCount ys 1) fg) := SeqOwn.below CountOwn_stays CountOwn_lt g0_14.out (hb16)
  have h0_15 : Hid (SeqOwn 2 CountOwn w16 (.slice ah ys.length caph) ys fh) := SeqOwn.below CountOwn_stays CountOwn_lt h0_14.out (hb16)
  clear bA_14 v0_14 bX_14 g0_14 h0_14
  clear z14_bA_0 z14_bA_1 z14_bA_2 z14_bA_3 z14_bA_4 z14_bX_0 z14_bX_1 z14_bX_2 z14_bX_3 z14_bX_4
  have z15_bA_0 := bA_15.out.cell 0 rfl
  have z15_bA_1 := bA_15.out.cell 1 rfl
  have z15_bA_2 := bA_15.out.cell 2 rfl
  have z15_bA_3 := bA_15.out.cell 3 rfl
  have z15_bA_4 := bA_15.out.cell 4 rfl
  have z15_bX_0 := bX_15.out.cell 0 rfl
  have z15_bX_1 := bX_15.out.cell 1 rfl
  have z15_bX_2 := bX_15.out.cell 2 rfl
  have z15_bX_3 := bX_15.out.cell 3 rfl
  have z15_bX_4 := bX_15.out.cell 4 rfl
  go_wp2_with fail
  refine (heldCountS_any (lo := 0) (m := 1) (xs := ys) (by exact SeqOwn.at (CountOwn_at (lo := 0)) g0_15.out (fun _ _ => Nat.zero_le _)) (by omega) (by rw [hCI'.out]; exact hM.out)).mono ?_
  rintro e w17 ⟨rfl, hb17⟩
  rw [hCI'.out]
  have hB17 : Below w.heap.size w w17 := hB16.trans (hb17.mono hB16.size)
  go_wp2_with fail
  go_ret
  exact ⟨rfl, hB17⟩
/-! The row -/
set_option maxRecDepth 100000 in
theorem lifted (os : Os) (started : os.Started) (H : Type) (enc : TypeId × Value → H) :
    ReturnsInHanded {} Tryz.checked os 4 .any (Rows.fnExactCountsOfSpec.pre6 enc Tryz.prog Tryz.f4 Rows.fnExactCountsOfRow.domain false) (Rows.fnExactCountsOfSpec.post enc Tryz.prog Tryz.f4 false true false false) := by
  refine returnsInHanded_of_change (C := Tryz.checked) own started (by kernel_rfl) Tryz.func4
    (ChangeSpec.witness6 (enc := enc) (C := Tryz.checked) false ⟨#[], #[.agg #[.int .i64 0, .int .i64 0, .slice none 0 0, .slice none 0 0, .slice none 0 0]], []⟩ 8 (by kernel_rfl) (by kernel_rfl) (by kernel_rfl) (by kernel_rfl)) ?_
  intro W base args ds gs before hval0 hW hcnd _
  have hval : ∀ (j : Nat) t v, Tryz.f4.params[j]? = some t → args[j]? = some v → Value.okWide Tryz.prog W .any base t v := hval0
  have hW' := hW
  obtain ⟨p, q, hA0, hV, rfl, hfz, hnd⟩ := hW
  have hA : DataW.TrodAll enc Tryz.prog W 0 (fun _ => true) true Tryz.f4.params.toList args.toList ds p := hA0
  rw [Tryz.params4] at hA hval
  obtain ⟨v0, vs0, d0, ds0, p0, q0, hargs, rfl, rfl, h0, r0⟩ := trodAll_cons hA
  obtain ⟨rfl, rfl, rfl⟩ := trodAll_nil r0
  obtain rfl : args = #[v0] := by cases args; simp_all
  obtain ⟨rfl, rfl⟩ := trodVars_none hV
  have k0 := h0
  have lt0 : ∀ x ∈ p0, x.block < W.heap.size := by obtain ⟨m, hm⟩ := k0; exact DataW.trod_lt m _ _ _ hm
  obtain ⟨cs, rfl, _⟩ := okWide_struct Tryz.underlying26 (hval 0 26 v0 rfl rfl)
  obtain ⟨fuel, hf⟩ := h0
  obtain ⟨h, ht⟩ := HeapAt_of_trod fuel _ _ hf
  have hcs : (Value.agg cs).cells = cs := rfl
  rw [hcs] at ht
  clear hA0 hval0
  have hwk := walk  ht
  rw [Array.toArray_toList] at hwk
  refine hwk.mono fun e W' ⟨he, bel⟩ => ?_
  subst he
  exact ⟨_, rfl, _, _, _, [], _, [], hW', trodAll_mk1 (shut_bool Tryz.underlying4 _), (trodAll_cons_mk (Below.trod laidOut (by kernel_rfl) (of_decide_eq_true (by kernel_rfl)) k0 bel lt0) trodAll_mk0), rfl, bel.frame _, fun h => by cases h⟩
theorem over : Rows.fnExactCountsOfRow.holds Tryz.pinned (OpenSpec.ofChange Rows.fnExactCountsOfSpec) :=
  OpenClaim.holds_of_wide 4 Tryz.f4 rfl rfl rfl rfl rfl rfl rfl ⟨rfl, rfl, rfl, rfl, rfl⟩ rfl rfl rfl rfl rfl (by kernel_rfl) Tryz.func4 (by kernel_rfl)
    (of_decide_eq_true (by kernel_rfl)) (by unfold Func.isWrapper; first | (rw [if_pos (by decide +kernel)]; kernel_rfl) | (rw [if_neg (by decide +kernel)]; exact ⟨rfl, rfl⟩))
    (fun os started H enc _ => lifted os started H enc)
end Go.Proofs.YtoifcfllboeblaaGreat.fnExactCountsOf
namespace Go.Proofs.YtoifcfllboeblaaGreat
theorem fnExactCountsOf_holds : Rows.FnExactCountsOfSaid := fnExactCountsOf.over
end Go.Proofs.YtoifcfllboeblaaGreat
