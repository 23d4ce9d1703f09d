/- At every heap Collected answers as its specification, writes into no argument, and its answers own their memory, behind another call too. No condition. -/
import Derived.Test.YtnonfehmbabfhaaGreatSzRecs
import Derived.Test.YtnonfehmbabfhaaGreatToOwn
import Derived.Test.YtnonfehmbabfhaaGreatEqRecs
import Derived.Test.YtnonfehmbabfhaaGreatMarkTops
import Derived.Test.YtnonfehmbabfhaaGreatCntPlain
import Derived.Test.YtnonfehmbabfhaaGreatCollTop
import Derived.ProofKit
import Derived.OpenShut
import Derived.ShutString
import Derived.ChangeOld
import Derived.Below
import Derived.ChangeMaps5
namespace Go.Proofs.YtnonfehmbabfhaaGreat.fnExactCollected
open Go.ChangeShapes Go.WideShapes Go.ChangeAt Go.RowKit
theorem own : ownKnob Tryz.prog.godebug = none := by kernel_rfl
theorem laidOut : laidOutB Tryz.prog = true := by kernel_rfl
theorem toHeap_at {w : World} {lo : Nat} {cs : List Value} {x : HeapD} (hx : HeapAt w lo cs x) (hs : x.small) :
    Calls Tryz.prog 7 #[.agg cs.toArray] w fun e w' => (∃ cs', e = .returned (.agg cs'.toArray) ∧ HeapAt w' w.heap.size cs' x) ∧ Below w.heap.size w w' :=
  (toHeap_own hx hs).mono fun _ _ ⟨⟨cs', _, he, ho, _, hl⟩, hb⟩ => ⟨⟨cs', he, HeapOwn_at _ _ _ _ ho hl⟩, hb⟩
theorem toInt64S_at {w : World} {lo : Nat} {k : Value} {xs : List Int} (hk : SeqAt 1 IntAt w lo k xs) (hl : xs.length ≤ 1048576) :
    Calls Tryz.prog 16 #[k] w fun e w' => (∃ k', e = .returned k' ∧ SeqAt 1 IntAt w' w.heap.size k' xs) ∧ Below w.heap.size w w' :=
  (toInt64S_own hk hl).mono fun _ _ ⟨⟨k', _, he, ho, _, hlo⟩, hb⟩ => ⟨⟨k', he, ho.at (intOwn_at (lo := _)) hlo⟩, hb⟩
theorem cntHeap_small {h : HeapD} (hs : h.small) : (1 : Int) + (cntL cntNode h.vNodes : Nat) + (cntL cntObj h.vObjs : Nat) + (cntL cntField h.vGlobals : Nat) ≤ 20000000000000 := by
  obtain ⟨hn, ho, hg, _⟩ := hs
  have h1 : cntL cntNode h.vNodes ≤ 1048576 * (1048576 * 8) := cntL_most hn.1 fun i hi => by
    obtain ⟨_, hk, hl, _⟩ := hn.2 i hi
    have k1 : cntL cntI h.vNodes[i].vKids ≤ 1048576 := by rw [cntL_int]; exact hk
    have k2 : cntL cntListener h.vNodes[i].vListeners ≤ 1048576 * 5 := cntL_most hl.1 fun j hj => Nat.le_refl _
    unfold cntNode
    omega
  have h2 : cntL cntObj h.vObjs ≤ 1048576 * (1048576 * 8) := cntL_most ho.1 fun i hi => by
    obtain ⟨hf, _⟩ := ho.2 i hi
    have k2 : cntL cntField h.vObjs[i].vFields ≤ 1048576 * 2 := cntL_most hf.1 fun j hj => Nat.le_refl _
    unfold cntObj
    omega
  have h3 : cntL cntField h.vGlobals ≤ 1048576 * 2 := cntL_most hg.1 fun j hj => Nat.le_refl _
  omega
theorem keepH {w wr w1 : World} {g1 g2 T1 T2 : Nat} {v0 v1 v2 v3 v4 u0 u1 u2 u3 u4 : Value} (hb : Below w.heap.size w wr) (hb1 : Below wr.heap.size wr w1) (b1 : Box wr g1 [v0, v1, v2, v3, v4] T1) (b2 : Box wr g2 [u0, u1, u2, u3, u4] T2) :
    w1.cell? ⟨g1, 0, none⟩ = some v0 ∧ w1.cell? ⟨g1, 1, none⟩ = some v1 ∧ w1.cell? ⟨g1, 2, none⟩ = some v2 ∧ w1.cell? ⟨g1, 3, none⟩ = some v3 ∧ w1.cell? ⟨g1, 4, none⟩ = some v4 ∧ w1.cell? ⟨g2, 0, none⟩ = some u0 ∧ w1.cell? ⟨g2, 1, none⟩ = some u1 ∧ w1.cell? ⟨g2, 2, none⟩ = some u2 ∧ w1.cell? ⟨g2, 3, none⟩ = some u3 ∧ w1.cell? ⟨g2, 4, none⟩ = some u4 ∧ Hid (Below w.heap.size w w1 ∧ Box w1 g1 [v0, v1, v2, v3, v4] T1 ∧ Box w1 g2 [u0, u1, u2, u3, u4] T2) := by
  have k1 := b1.below hb1 b1.lt
  have k2 := b2.below hb1 b2.lt
  exact ⟨k1.cell 0 rfl, k1.cell 1 rfl, k1.cell 2 rfl, k1.cell 3 rfl, k1.cell 4 rfl, k2.cell 0 rfl, k2.cell 1 rfl, k2.cell 2 rfl, k2.cell 3 rfl, k2.cell 4 rfl, hb.trans (hb1.mono hb.size), k1, k2⟩
set_option maxRecDepth 100000 in
set_option maxHeartbeats 6400000 in
theorem walk {w : World} {cs : List Value} {h : HeapD} (ht : HeapAt w 0 cs h) :
    Calls Tryz.prog 3 #[.agg cs.toArray] w fun e w' => e = .returned (.bool true) ∧ Below w.heap.size w w' := by
  have ht0 : Hid (HeapAt w 0 cs h) := ht
  obtain ⟨k2, k3, k4, rfl, s2, s3, s4, _⟩ := ht
  obtain ⟨a2, cap2, rfl⟩ := s2.form
  obtain ⟨a3, cap3, rfl⟩ := s3.form
  obtain ⟨a4, cap4, rfl⟩ := s4.form
  clear s2 s3 s4
  have hb0 : Below w.heap.size w (w.alloc (.cells #[.int .i64 h.vNext, .int .i64 h.vDoc, .slice a2 h.vNodes.length cap2, .slice a3 h.vObjs.length cap3, .slice a4 h.vGlobals.length cap4] 26)) := (Below.refl _ _).alloc (Nat.le_refl _) _
  have bA_0 : Hid (Box (w.alloc (.cells #[.int .i64 h.vNext, .int .i64 h.vDoc, .slice a2 h.vNodes.length cap2, .slice a3 h.vObjs.length cap3, .slice a4 h.vGlobals.length cap4] 26)) w.heap.size [.int .i64 h.vNext, .int .i64 h.vDoc, .slice a2 h.vNodes.length cap2, .slice a3 h.vObjs.length cap3, .slice a4 h.vGlobals.length cap4] 26) := Box.new w _ _
  obtain ⟨bb, hbb⟩ : ∃ bb, specB h = bb := ⟨_, rfl⟩
  have hbb' : Hid (specB h = bb) := hbb
  clear hbb
  go_enter Tryz.func3, Tryz.ntmps3
  go_wp2_with fail
  refine (szHeap_any (HeapAt_stays _ _ _ 0 _ _ (.of_below hb0) ht0.out) (by omega) (by omega)).mono ?_
  rintro e w1 ⟨⟨r, rfl, hr1, hr2, hsm⟩, hb1⟩
  have hsm' : Hid _ := hsm
  clear hsm
  have hB1 : Below w.heap.size w w1 := hb0.trans (hb1.mono hb0.size)
  have s1 : w.heap.size + 1 ≤ w1.heap.size := by have := hb1.size; simpa using this
  have bA_1 : Hid (Box w1 w.heap.size [.int .i64 h.vNext, .int .i64 h.vDoc, .slice a2 h.vNodes.length cap2, .slice a3 h.vObjs.length cap3, .slice a4 h.vGlobals.length cap4] 26) := bA_0.out.below hb1 bA_0.out.lt
  clear bA_0
  have z1_bA_0 := bA_1.out.cell 0 rfl
  have z1_bA_1 := bA_1.out.cell 1 rfl
  have z1_bA_2 := bA_1.out.cell 2 rfl
  have z1_bA_3 := bA_1.out.cell 3 rfl
  have z1_bA_4 := bA_1.out.cell 4 rfl
  by_cases hneg : r < 0
  · go_wp2_with fail
    go_ret
    exact ⟨rfl, hB1⟩
  have hsm : Hid h.small := hsm'.out.resolve_left hneg
  have hcnt0 : Hid ((1 : Int) + (cntL cntNode h.vNodes : Nat) + (cntL cntObj h.vObjs : Nat) + (cntL cntField h.vGlobals : Nat) ≤ 20000000000000) := cntHeap_small hsm.out
  have hcnt : Hid ((1 : Int) + (cntL cntNode h.vNodes : Nat) + (cntL cntObj h.vObjs : Nat) + (cntL cntField h.vGlobals : Nat) ≤ 4611686018427387904) := by show _ ≤ _; have := hcnt0.out; omega
  have hneg' : decide (r < 0) = false := by simpa using hneg
  clear hsm' hneg
  go_wp2_with fail
  refine (toHeap_at (HeapAt_stays _ _ _ 0 _ _ (.of_below hB1) ht0.out) hsm.out).mono ?_
  rintro e w2 ⟨⟨cs2, rfl, ht2⟩, hb2⟩
  have hB2 : Below w.heap.size w w2 := hB1.trans (hb2.mono hB1.size)
  have s2 := hb2.size
  have ht2' : Hid (HeapAt w2 w1.heap.size cs2 h) := ht2
  have bA_2 : Hid (Box w2 w.heap.size [.int .i64 h.vNext, .int .i64 h.vDoc, .slice a2 h.vNodes.length cap2, .slice a3 h.vObjs.length cap3, .slice a4 h.vGlobals.length cap4] 26) := bA_1.out.below hb2 bA_1.out.lt
  clear bA_1
  clear z1_bA_0 z1_bA_1 z1_bA_2 z1_bA_3 z1_bA_4
  have z2_bA_0 := bA_2.out.cell 0 rfl
  have z2_bA_1 := bA_2.out.cell 1 rfl
  have z2_bA_2 := bA_2.out.cell 2 rfl
  have z2_bA_3 := bA_2.out.cell 3 rfl
  have z2_bA_4 := bA_2.out.cell 4 rfl
  clear hb2 ht2
  go_wp2_with fail
  refine (specCollected_any ht2'.out hsm.out hbb'.out).mono ?_
  rintro e w3 ⟨⟨csw, vw1, fw, fwi, rfl, own0, own0i, _, low0⟩, hb3⟩
  have hB3 : Below w.heap.size w w3 := hB2.trans (hb3.mono hB2.size)
  have s3 := hb3.size
  have hw3 : Hid (∀ b ∈ fw, b < w3.heap.size ∧ w2.heap.size ≤ b) := fun b q => ⟨HeapOwn_lt _ _ _ _ own0 b q, by have := low0 b (List.mem_append_left _ q); omega⟩
  have hw3i : Hid (∀ b ∈ fwi, b < w3.heap.size ∧ w2.heap.size ≤ b) := fun b q => ⟨SeqOwn.lt intOwn_lt own0i b q, by have := low0 b (List.mem_append_right _ q); omega⟩
  have bA_3 : Hid (Box w3 w.heap.size [.int .i64 h.vNext, .int .i64 h.vDoc, .slice a2 h.vNodes.length cap2, .slice a3 h.vObjs.length cap3, .slice a4 h.vGlobals.length cap4] 26) := bA_2.out.below hb3 bA_2.out.lt
  clear bA_2
  clear z2_bA_0 z2_bA_1 z2_bA_2 z2_bA_3 z2_bA_4
  have z3_bA_0 := bA_3.out.cell 0 rfl
  have z3_bA_1 := bA_3.out.cell 1 rfl
  have z3_bA_2 := bA_3.out.cell 2 rfl
  have z3_bA_3 := bA_3.out.cell 3 rfl
  have z3_bA_4 := bA_3.out.cell 4 rfl
  have hYL : Hid ((1 : Int) + (cntL cntNode (collD h).1.vNodes : Nat) + (cntL cntObj (collD h).1.vObjs : Nat) + (cntL cntField (collD h).1.vGlobals : Nat) ≤ 20000000000000) := cntHeap_small (coll_small hsm.out)
  have hZL : Hid ((collD h).2.length ≤ 32) := coll_len
  generalize hYS : collD h = yz at *
  have hYS' : Hid (collD h = yz) := hYS
  clear hYS
  obtain ⟨ys, zs⟩ := yz
  dsimp only at own0 own0i hYL hZL ⊢
  have v0_3 : Hid (HeapOwn w3 csw ys fw) := own0
  have vi_3 : Hid (SeqOwn 1 IntOwn w3 vw1 zs fwi) := own0i
  obtain ⟨avi, cvi, rfl⟩ := own0i.form
  obtain ⟨q2_, q3_, q4_, _, _, _, rfl, r2_, r3_, r4_, _⟩ := own0
  obtain ⟨aw2, cw2, rfl⟩ := r2_.form
  obtain ⟨aw3, cw3, rfl⟩ := r3_.form
  obtain ⟨aw4, cw4, rfl⟩ := r4_.form
  clear r2_ r3_ r4_
  have hbV : Below w3.heap.size w3 (w3.alloc (.cells #[.int .i64 ys.vNext, .int .i64 ys.vDoc, .slice aw2 ys.vNodes.length cw2, .slice aw3 ys.vObjs.length cw3, .slice aw4 ys.vGlobals.length cw4] 32)) := (Below.refl _ _).alloc (Nat.le_refl _) _
  have hBV : Below w.heap.size w (w3.alloc (.cells #[.int .i64 ys.vNext, .int .i64 ys.vDoc, .slice aw2 ys.vNodes.length cw2, .slice aw3 ys.vObjs.length cw3, .slice aw4 ys.vGlobals.length cw4] 32)) := hB3.trans (hbV.mono hB3.size)
  clear low0 hb3 own0i
  have bA_4 : Hid (Box (w3.alloc (.cells #[.int .i64 ys.vNext, .int .i64 ys.vDoc, .slice aw2 ys.vNodes.length cw2, .slice aw3 ys.vObjs.length cw3, .slice aw4 ys.vGlobals.length cw4] 32)) w.heap.size [.int .i64 h.vNext, .int .i64 h.vDoc, .slice a2 h.vNodes.length cap2, .slice a3 h.vObjs.length cap3, .slice a4 h.vGlobals.length cap4] 26) := bA_3.out.below hbV bA_3.out.lt
  have v0_4 : Hid (HeapOwn (w3.alloc (.cells #[.int .i64 ys.vNext, .int .i64 ys.vDoc, .slice aw2 ys.vNodes.length cw2, .slice aw3 ys.vObjs.length cw3, .slice aw4 ys.vGlobals.length cw4] 32)) [.int .i64 ys.vNext, .int .i64 ys.vDoc, .slice aw2 ys.vNodes.length cw2, .slice aw3 ys.vObjs.length cw3, .slice aw4 ys.vGlobals.length cw4] ys fw) := HeapOwn_stays _ _ _ _ _ (fun x hx => (hbV).block x (HeapOwn_lt _ _ _ _ v0_3.out x hx)) v0_3.out
  have vi_4 : Hid (SeqOwn 1 IntOwn (w3.alloc (.cells #[.int .i64 ys.vNext, .int .i64 ys.vDoc, .slice aw2 ys.vNodes.length cw2, .slice aw3 ys.vObjs.length cw3, .slice aw4 ys.vGlobals.length cw4] 32)) (.slice avi zs.length cvi) zs fwi) := SeqOwn.below intOwn_stays intOwn_lt vi_3.out (hbV)
  clear bA_3 v0_3 vi_3
  clear z3_bA_0 z3_bA_1 z3_bA_2 z3_bA_3 z3_bA_4
  have z4_bA_0 := bA_4.out.cell 0 rfl
  have z4_bA_1 := bA_4.out.cell 1 rfl
  have z4_bA_2 := bA_4.out.cell 2 rfl
  have z4_bA_3 := bA_4.out.cell 3 rfl
  have z4_bA_4 := bA_4.out.cell 4 rfl
  have bW_4 : Hid (Box (w3.alloc (.cells #[.int .i64 ys.vNext, .int .i64 ys.vDoc, .slice aw2 ys.vNodes.length cw2, .slice aw3 ys.vObjs.length cw3, .slice aw4 ys.vGlobals.length cw4] 32)) w3.heap.size [.int .i64 ys.vNext, .int .i64 ys.vDoc, .slice aw2 ys.vNodes.length cw2, .slice aw3 ys.vObjs.length cw3, .slice aw4 ys.vGlobals.length cw4] 32) := Box.new w3 _ _
  go_wp2_with fail
  refine (toHeap_own (HeapAt_stays _ _ _ 0 _ _ (.of_below hBV) ht0.out) hsm.out).mono ?_
  rintro e w4 ⟨⟨cs4, fx, rfl, ownx, ndx, lox⟩, hb4⟩
  have hB4 : Below w.heap.size w w4 := hBV.trans (hb4.mono hBV.size)
  have s4 : w3.heap.size + 1 ≤ w4.heap.size := by have := hb4.size; simpa using this
  have hx4 : Hid (∀ b ∈ fx, b < w4.heap.size ∧ w3.heap.size + 1 ≤ b) := fun b q => ⟨HeapOwn_lt _ _ _ _ ownx b q, by have := lox b q; simpa using this⟩
  have bA_5 : Hid (Box w4 w.heap.size [.int .i64 h.vNext, .int .i64 h.vDoc, .slice a2 h.vNodes.length cap2, .slice a3 h.vObjs.length cap3, .slice a4 h.vGlobals.length cap4] 26) := bA_4.out.below hb4 bA_4.out.lt
  have v0_5 : Hid (HeapOwn w4 [.int .i64 ys.vNext, .int .i64 ys.vDoc, .slice aw2 ys.vNodes.length cw2, .slice aw3 ys.vObjs.length cw3, .slice aw4 ys.vGlobals.length cw4] ys fw) := HeapOwn_stays _ _ _ _ _ (fun x hx => (hb4).block x (HeapOwn_lt _ _ _ _ v0_4.out x hx)) v0_4.out
  have vi_5 : Hid (SeqOwn 1 IntOwn w4 (.slice avi zs.length cvi) zs fwi) := SeqOwn.below intOwn_stays intOwn_lt vi_4.out (hb4)
  have bW_5 : Hid (Box w4 w3.heap.size [.int .i64 ys.vNext, .int .i64 ys.vDoc, .slice aw2 ys.vNodes.length cw2, .slice aw3 ys.vObjs.length cw3, .slice aw4 ys.vGlobals.length cw4] 32) := bW_4.out.below hb4 bW_4.out.lt
  clear bA_4 v0_4 vi_4 bW_4
  clear z4_bA_0 z4_bA_1 z4_bA_2 z4_bA_3 z4_bA_4
  have z5_bA_0 := bA_5.out.cell 0 rfl
  have z5_bA_1 := bA_5.out.cell 1 rfl
  have z5_bA_2 := bA_5.out.cell 2 rfl
  have z5_bA_3 := bA_5.out.cell 3 rfl
  have z5_bA_4 := bA_5.out.cell 4 rfl
  have z5_bW_0 := bW_5.out.cell 0 rfl
  have z5_bW_1 := bW_5.out.cell 1 rfl
  have z5_bW_2 := bW_5.out.cell 2 rfl
  have z5_bW_3 := bW_5.out.cell 3 rfl
  have z5_bW_4 := bW_5.out.cell 4 rfl
  have x0_5 : Hid (HeapOwn w4 cs4 h fx) := ownx
  obtain ⟨j2, j3, j4, g2, g3, g4, rfl, t2, t3, t4, _⟩ := ownx
  obtain ⟨e2, dap2, rfl⟩ := t2.form
  obtain ⟨e3, dap3, rfl⟩ := t3.form
  obtain ⟨e4, dap4, rfl⟩ := t4.form
  clear t2 t3 t4 hb4 lox
  have hb5 : Below w4.heap.size w4 (w4.alloc (.cells #[.int .i64 h.vNext, .int .i64 h.vDoc, .slice e2 h.vNodes.length dap2, .slice e3 h.vObjs.length dap3, .slice e4 h.vGlobals.length dap4] 32)) := (Below.refl _ _).alloc (Nat.le_refl _) _
  have hB5 : Below w.heap.size w (w4.alloc (.cells #[.int .i64 h.vNext, .int .i64 h.vDoc, .slice e2 h.vNodes.length dap2, .slice e3 h.vObjs.length dap3, .slice e4 h.vGlobals.length dap4] 32)) := hB4.trans (hb5.mono hB4.size)
  go_wp2_with fail
  have bA_6 : Hid (Box (w4.alloc (.cells #[.int .i64 h.vNext, .int .i64 h.vDoc, .slice e2 h.vNodes.length dap2, .slice e3 h.vObjs.length dap3, .slice e4 h.vGlobals.length dap4] 32)) w.heap.size [.int .i64 h.vNext, .int .i64 h.vDoc, .slice a2 h.vNodes.length cap2, .slice a3 h.vObjs.length cap3, .slice a4 h.vGlobals.length cap4] 26) := bA_5.out.below hb5 bA_5.out.lt
  have v0_6 : Hid (HeapOwn (w4.alloc (.cells #[.int .i64 h.vNext, .int .i64 h.vDoc, .slice e2 h.vNodes.length dap2, .slice e3 h.vObjs.length dap3, .slice e4 h.vGlobals.length dap4] 32)) [.int .i64 ys.vNext, .int .i64 ys.vDoc, .slice aw2 ys.vNodes.length cw2, .slice aw3 ys.vObjs.length cw3, .slice aw4 ys.vGlobals.length cw4] ys fw) := HeapOwn_stays _ _ _ _ _ (fun x hx => (hb5).block x (HeapOwn_lt _ _ _ _ v0_5.out x hx)) v0_5.out
  have vi_6 : Hid (SeqOwn 1 IntOwn (w4.alloc (.cells #[.int .i64 h.vNext, .int .i64 h.vDoc, .slice e2 h.vNodes.length dap2, .slice e3 h.vObjs.length dap3, .slice e4 h.vGlobals.length dap4] 32)) (.slice avi zs.length cvi) zs fwi) := SeqOwn.below intOwn_stays intOwn_lt vi_5.out (hb5)
  have bW_6 : Hid (Box (w4.alloc (.cells #[.int .i64 h.vNext, .int .i64 h.vDoc, .slice e2 h.vNodes.length dap2, .slice e3 h.vObjs.length dap3, .slice e4 h.vGlobals.length dap4] 32)) w3.heap.size [.int .i64 ys.vNext, .int .i64 ys.vDoc, .slice aw2 ys.vNodes.length cw2, .slice aw3 ys.vObjs.length cw3, .slice aw4 ys.vGlobals.length cw4] 32) := bW_5.out.below hb5 bW_5.out.lt
  have x0_6 : Hid (HeapOwn (w4.alloc (.cells #[.int .i64 h.vNext, .int .i64 h.vDoc, .slice e2 h.vNodes.length dap2, .slice e3 h.vObjs.length dap3, .slice e4 h.vGlobals.length dap4] 32)) [.int .i64 h.vNext, .int .i64 h.vDoc, .slice e2 h.vNodes.length dap2, .slice e3 h.vObjs.length dap3, .slice e4 h.vGlobals.length dap4] h fx) := HeapOwn_stays _ _ _ _ _ (fun x hx => (hb5).block x (HeapOwn_lt _ _ _ _ x0_5.out x hx)) x0_5.out
  clear bA_5 v0_5 vi_5 bW_5 x0_5
  clear z5_bA_0 z5_bA_1 z5_bA_2 z5_bA_3 z5_bA_4 z5_bW_0 z5_bW_1 z5_bW_2 z5_bW_3 z5_bW_4
  have z6_bA_0 := bA_6.out.cell 0 rfl
  have z6_bA_1 := bA_6.out.cell 1 rfl
  have z6_bA_2 := bA_6.out.cell 2 rfl
  have z6_bA_3 := bA_6.out.cell 3 rfl
  have z6_bA_4 := bA_6.out.cell 4 rfl
  have z6_bW_0 := bW_6.out.cell 0 rfl
  have z6_bW_1 := bW_6.out.cell 1 rfl
  have z6_bW_2 := bW_6.out.cell 2 rfl
  have z6_bW_3 := bW_6.out.cell 3 rfl
  have z6_bW_4 := bW_6.out.cell 4 rfl
  have bX_6 : Hid (Box (w4.alloc (.cells #[.int .i64 h.vNext, .int .i64 h.vDoc, .slice e2 h.vNodes.length dap2, .slice e3 h.vObjs.length dap3, .slice e4 h.vGlobals.length dap4] 32)) w4.heap.size [.int .i64 h.vNext, .int .i64 h.vDoc, .slice e2 h.vNodes.length dap2, .slice e3 h.vObjs.length dap3, .slice e4 h.vGlobals.length dap4] 32) := Box.new w4 _ _
  refine (implCollected_any (HeapOwn_at (lo := 0) _ _ _ _ x0_6.out (fun _ _ => Nat.zero_le _)) hsm.out hbb'.out).mono ?_
  rintro e w6 ⟨⟨csg, vg1, fg, fgi, rfl, owng, owngi, ndg0, logg⟩, hb6⟩
  rw [hYS'.out] at owng owngi
  dsimp only at owng owngi
  have ndg : Hid fg.Nodup := (List.nodup_append.1 ndg0).1
  have dgi : Hid (∀ b ∈ fgi, b ∉ fg) := fun b r1 r2 => (List.nodup_append.1 ndg0).2.2 b r2 b r1 rfl
  have hB6 : Below w.heap.size w w6 := hB5.trans (hb6.mono hB5.size)
  have s6 : w4.heap.size + 1 ≤ w6.heap.size := by have := hb6.size; simpa using this
  have hg6 : Hid (∀ b ∈ fg, b < w6.heap.size ∧ w4.heap.size + 1 ≤ b) := fun b q => ⟨HeapOwn_lt _ _ _ _ owng b q, by have := logg b (List.mem_append_left _ q); simpa using this⟩
  have hg6i : Hid (∀ b ∈ fgi, b < w6.heap.size ∧ w4.heap.size + 1 ≤ b) := fun b q => ⟨SeqOwn.lt intOwn_lt owngi b q, by have := logg b (List.mem_append_right _ q); simpa using this⟩
  have bA_7 : Hid (Box w6 w.heap.size [.int .i64 h.vNext, .int .i64 h.vDoc, .slice a2 h.vNodes.length cap2, .slice a3 h.vObjs.length cap3, .slice a4 h.vGlobals.length cap4] 26) := bA_6.out.below hb6 bA_6.out.lt
  have v0_7 : Hid (HeapOwn w6 [.int .i64 ys.vNext, .int .i64 ys.vDoc, .slice aw2 ys.vNodes.length cw2, .slice aw3 ys.vObjs.length cw3, .slice aw4 ys.vGlobals.length cw4] ys fw) := HeapOwn_stays _ _ _ _ _ (fun x hx => (hb6).block x (HeapOwn_lt _ _ _ _ v0_6.out x hx)) v0_6.out
  have vi_7 : Hid (SeqOwn 1 IntOwn w6 (.slice avi zs.length cvi) zs fwi) := SeqOwn.below intOwn_stays intOwn_lt vi_6.out (hb6)
  have bW_7 : Hid (Box w6 w3.heap.size [.int .i64 ys.vNext, .int .i64 ys.vDoc, .slice aw2 ys.vNodes.length cw2, .slice aw3 ys.vObjs.length cw3, .slice aw4 ys.vGlobals.length cw4] 32) := bW_6.out.below hb6 bW_6.out.lt
  have x0_7 : Hid (HeapOwn w6 [.int .i64 h.vNext, .int .i64 h.vDoc, .slice e2 h.vNodes.length dap2, .slice e3 h.vObjs.length dap3, .slice e4 h.vGlobals.length dap4] h fx) := HeapOwn_stays _ _ _ _ _ (fun x hx => (hb6).block x (HeapOwn_lt _ _ _ _ x0_6.out x hx)) x0_6.out
  have bX_7 : Hid (Box w6 w4.heap.size [.int .i64 h.vNext, .int .i64 h.vDoc, .slice e2 h.vNodes.length dap2, .slice e3 h.vObjs.length dap3, .slice e4 h.vGlobals.length dap4] 32) := bX_6.out.below hb6 bX_6.out.lt
  clear bA_6 v0_6 vi_6 bW_6 x0_6 bX_6
  clear z6_bA_0 z6_bA_1 z6_bA_2 z6_bA_3 z6_bA_4 z6_bW_0 z6_bW_1 z6_bW_2 z6_bW_3 z6_bW_4
  have z7_bA_0 := bA_7.out.cell 0 rfl
  have z7_bA_1 := bA_7.out.cell 1 rfl
  have z7_bA_2 := bA_7.out.cell 2 rfl
  have z7_bA_3 := bA_7.out.cell 3 rfl
  have z7_bA_4 := bA_7.out.cell 4 rfl
  have z7_bW_0 := bW_7.out.cell 0 rfl
  have z7_bW_1 := bW_7.out.cell 1 rfl
  have z7_bW_2 := bW_7.out.cell 2 rfl
  have z7_bW_3 := bW_7.out.cell 3 rfl
  have z7_bW_4 := bW_7.out.cell 4 rfl
  have z7_bX_0 := bX_7.out.cell 0 rfl
  have z7_bX_1 := bX_7.out.cell 1 rfl
  have z7_bX_2 := bX_7.out.cell 2 rfl
  have z7_bX_3 := bX_7.out.cell 3 rfl
  have z7_bX_4 := bX_7.out.cell 4 rfl
  have g0_7 : Hid (HeapOwn w6 csg ys fg) := owng
  have gi_7 : Hid (SeqOwn 1 IntOwn w6 vg1 zs fgi) := owngi
  obtain ⟨agi, cgi, rfl⟩ := owngi.form
  obtain ⟨q2_, q3_, q4_, _, _, _, rfl, r2_, r3_, r4_, _⟩ := owng
  obtain ⟨ag2, cg2, rfl⟩ := r2_.form
  obtain ⟨ag3, cg3, rfl⟩ := r3_.form
  obtain ⟨ag4, cg4, rfl⟩ := r4_.form
  clear r2_ r3_ r4_
  have hbG : Below w6.heap.size w6 (w6.alloc (.cells #[.int .i64 ys.vNext, .int .i64 ys.vDoc, .slice ag2 ys.vNodes.length cg2, .slice ag3 ys.vObjs.length cg3, .slice ag4 ys.vGlobals.length cg4] 32)) := (Below.refl _ _).alloc (Nat.le_refl _) _
  have hBG : Below w.heap.size w (w6.alloc (.cells #[.int .i64 ys.vNext, .int .i64 ys.vDoc, .slice ag2 ys.vNodes.length cg2, .slice ag3 ys.vObjs.length cg3, .slice ag4 ys.vGlobals.length cg4] 32)) := hB6.trans (hbG.mono hB6.size)
  clear owngi logg hb6 ndg0
  have bA_8 : Hid (Box (w6.alloc (.cells #[.int .i64 ys.vNext, .int .i64 ys.vDoc, .slice ag2 ys.vNodes.length cg2, .slice ag3 ys.vObjs.length cg3, .slice ag4 ys.vGlobals.length cg4] 32)) w.heap.size [.int .i64 h.vNext, .int .i64 h.vDoc, .slice a2 h.vNodes.length cap2, .slice a3 h.vObjs.length cap3, .slice a4 h.vGlobals.length cap4] 26) := bA_7.out.below hbG bA_7.out.lt
  have v0_8 : Hid (HeapOwn (w6.alloc (.cells #[.int .i64 ys.vNext, .int .i64 ys.vDoc, .slice ag2 ys.vNodes.length cg2, .slice ag3 ys.vObjs.length cg3, .slice ag4 ys.vGlobals.length cg4] 32)) [.int .i64 ys.vNext, .int .i64 ys.vDoc, .slice aw2 ys.vNodes.length cw2, .slice aw3 ys.vObjs.length cw3, .slice aw4 ys.vGlobals.length cw4] ys fw) := HeapOwn_stays _ _ _ _ _ (fun x hx => (hbG).block x (HeapOwn_lt _ _ _ _ v0_7.out x hx)) v0_7.out
  have vi_8 : Hid (SeqOwn 1 IntOwn (w6.alloc (.cells #[.int .i64 ys.vNext, .int .i64 ys.vDoc, .slice ag2 ys.vNodes.length cg2, .slice ag3 ys.vObjs.length cg3, .slice ag4 ys.vGlobals.length cg4] 32)) (.slice avi zs.length cvi) zs fwi) := SeqOwn.below intOwn_stays intOwn_lt vi_7.out (hbG)
  have bW_8 : Hid (Box (w6.alloc (.cells #[.int .i64 ys.vNext, .int .i64 ys.vDoc, .slice ag2 ys.vNodes.length cg2, .slice ag3 ys.vObjs.length cg3, .slice ag4 ys.vGlobals.length cg4] 32)) w3.heap.size [.int .i64 ys.vNext, .int .i64 ys.vDoc, .slice aw2 ys.vNodes.length cw2, .slice aw3 ys.vObjs.length cw3, .slice aw4 ys.vGlobals.length cw4] 32) := bW_7.out.below hbG bW_7.out.lt
  have x0_8 : Hid (HeapOwn (w6.alloc (.cells #[.int .i64 ys.vNext, .int .i64 ys.vDoc, .slice ag2 ys.vNodes.length cg2, .slice ag3 ys.vObjs.length cg3, .slice ag4 ys.vGlobals.length cg4] 32)) [.int .i64 h.vNext, .int .i64 h.vDoc, .slice e2 h.vNodes.length dap2, .slice e3 h.vObjs.length dap3, .slice e4 h.vGlobals.length dap4] h fx) := HeapOwn_stays _ _ _ _ _ (fun x hx => (hbG).block x (HeapOwn_lt _ _ _ _ x0_7.out x hx)) x0_7.out
  have bX_8 : Hid (Box (w6.alloc (.cells #[.int .i64 ys.vNext, .int .i64 ys.vDoc, .slice ag2 ys.vNodes.length cg2, .slice ag3 ys.vObjs.length cg3, .slice ag4 ys.vGlobals.length cg4] 32)) w4.heap.size [.int .i64 h.vNext, .int .i64 h.vDoc, .slice e2 h.vNodes.length dap2, .slice e3 h.vObjs.length dap3, .slice e4 h.vGlobals.length dap4] 32) := bX_7.out.below hbG bX_7.out.lt
  have g0_8 : Hid (HeapOwn (w6.alloc (.cells #[.int .i64 ys.vNext, .int .i64 ys.vDoc, .slice ag2 ys.vNodes.length cg2, .slice ag3 ys.vObjs.length cg3, .slice ag4 ys.vGlobals.length cg4] 32)) [.int .i64 ys.vNext, .int .i64 ys.vDoc, .slice ag2 ys.vNodes.length cg2, .slice ag3 ys.vObjs.length cg3, .slice ag4 ys.vGlobals.length cg4] ys fg) := HeapOwn_stays _ _ _ _ _ (fun x hx => (hbG).block x (HeapOwn_lt _ _ _ _ g0_7.out x hx)) g0_7.out
  have gi_8 : Hid (SeqOwn 1 IntOwn (w6.alloc (.cells #[.int .i64 ys.vNext, .int .i64 ys.vDoc, .slice ag2 ys.vNodes.length cg2, .slice ag3 ys.vObjs.length cg3, .slice ag4 ys.vGlobals.length cg4] 32)) (.slice agi zs.length cgi) zs fgi) := SeqOwn.below intOwn_stays intOwn_lt gi_7.out (hbG)
  clear bA_7 v0_7 vi_7 bW_7 x0_7 bX_7 g0_7 gi_7
  clear z7_bA_0 z7_bA_1 z7_bA_2 z7_bA_3 z7_bA_4 z7_bW_0 z7_bW_1 z7_bW_2 z7_bW_3 z7_bW_4 z7_bX_0 z7_bX_1 z7_bX_2 z7_bX_3 z7_bX_4
  have z8_bA_0 := bA_8.out.cell 0 rfl
  have z8_bA_1 := bA_8.out.cell 1 rfl
  have z8_bA_2 := bA_8.out.cell 2 rfl
  have z8_bA_3 := bA_8.out.cell 3 rfl
  have z8_bA_4 := bA_8.out.cell 4 rfl
  have z8_bW_0 := bW_8.out.cell 0 rfl
  have z8_bW_1 := bW_8.out.cell 1 rfl
  have z8_bW_2 := bW_8.out.cell 2 rfl
  have z8_bW_3 := bW_8.out.cell 3 rfl
  have z8_bW_4 := bW_8.out.cell 4 rfl
  have z8_bX_0 := bX_8.out.cell 0 rfl
  have z8_bX_1 := bX_8.out.cell 1 rfl
  have z8_bX_2 := bX_8.out.cell 2 rfl
  have z8_bX_3 := bX_8.out.cell 3 rfl
  have z8_bX_4 := bX_8.out.cell 4 rfl
  have bG_8 : Hid (Box (w6.alloc (.cells #[.int .i64 ys.vNext, .int .i64 ys.vDoc, .slice ag2 ys.vNodes.length cg2, .slice ag3 ys.vObjs.length cg3, .slice ag4 ys.vGlobals.length cg4] 32)) w6.heap.size [.int .i64 ys.vNext, .int .i64 ys.vDoc, .slice ag2 ys.vNodes.length cg2, .slice ag3 ys.vObjs.length cg3, .slice ag4 ys.vGlobals.length cg4] 32) := Box.new w6 _ _
  go_wp2_with fail
  refine (eqHeap_any (lo := 0) (lo2 := 0) (by exact HeapOwn_at (lo := 0) _ _ _ _ g0_8.out (fun _ _ => Nat.zero_le _)) (by exact HeapOwn_at (lo := 0) _ _ _ _ v0_8.out (fun _ _ => Nat.zero_le _))).mono ?_
  rintro e w7 ⟨rfl, hb7⟩
  have hB7 : Below w.heap.size w w7 := hBG.trans (hb7.mono hBG.size)
  have s7 : w6.heap.size + 1 ≤ w7.heap.size := by have := hb7.size; simpa using this
  have bA_9 : Hid (Box w7 w.heap.size [.int .i64 h.vNext, .int .i64 h.vDoc, .slice a2 h.vNodes.length cap2, .slice a3 h.vObjs.length cap3, .slice a4 h.vGlobals.length cap4] 26) := bA_8.out.below hb7 bA_8.out.lt
  have v0_9 : Hid (HeapOwn w7 [.int .i64 ys.vNext, .int .i64 ys.vDoc, .slice aw2 ys.vNodes.length cw2, .slice aw3 ys.vObjs.length cw3, .slice aw4 ys.vGlobals.length cw4] ys fw) := HeapOwn_stays _ _ _ _ _ (fun x hx => (hb7).block x (HeapOwn_lt _ _ _ _ v0_8.out x hx)) v0_8.out
  have vi_9 : Hid (SeqOwn 1 IntOwn w7 (.slice avi zs.length cvi) zs fwi) := SeqOwn.below intOwn_stays intOwn_lt vi_8.out (hb7)
  have bW_9 : Hid (Box w7 w3.heap.size [.int .i64 ys.vNext, .int .i64 ys.vDoc, .slice aw2 ys.vNodes.length cw2, .slice aw3 ys.vObjs.length cw3, .slice aw4 ys.vGlobals.length cw4] 32) := bW_8.out.below hb7 bW_8.out.lt
  have x0_9 : Hid (HeapOwn w7 [.int .i64 h.vNext, .int .i64 h.vDoc, .slice e2 h.vNodes.length dap2, .slice e3 h.vObjs.length dap3, .slice e4 h.vGlobals.length dap4] h fx) := HeapOwn_stays _ _ _ _ _ (fun x hx => (hb7).block x (HeapOwn_lt _ _ _ _ x0_8.out x hx)) x0_8.out
  have bX_9 : Hid (Box w7 w4.heap.size [.int .i64 h.vNext, .int .i64 h.vDoc, .slice e2 h.vNodes.length dap2, .slice e3 h.vObjs.length dap3, .slice e4 h.vGlobals.length dap4] 32) := bX_8.out.below hb7 bX_8.out.lt
  have g0_9 : Hid (HeapOwn w7 [.int .i64 ys.vNext, .int .i64 ys.vDoc, .slice ag2 ys.vNodes.length cg2, .slice ag3 ys.vObjs.length cg3, .slice ag4 ys.vGlobals.length cg4] ys fg) := HeapOwn_stays _ _ _ _ _ (fun x hx => (hb7).block x (HeapOwn_lt _ _ _ _ g0_8.out x hx)) g0_8.out
  have gi_9 : Hid (SeqOwn 1 IntOwn w7 (.slice agi zs.length cgi) zs fgi) := SeqOwn.below intOwn_stays intOwn_lt gi_8.out (hb7)
  have bG_9 : Hid (Box w7 w6.heap.size [.int .i64 ys.vNext, .int .i64 ys.vDoc, .slice ag2 ys.vNodes.length cg2, .slice ag3 ys.vObjs.length cg3, .slice ag4 ys.vGlobals.length cg4] 32) := bG_8.out.below hb7 bG_8.out.lt
  clear bA_8 v0_8 vi_8 bW_8 x0_8 bX_8 g0_8 gi_8 bG_8
  clear z8_bA_0 z8_bA_1 z8_bA_2 z8_bA_3 z8_bA_4 z8_bW_0 z8_bW_1 z8_bW_2 z8_bW_3 z8_bW_4 z8_bX_0 z8_bX_1 z8_bX_2 z8_bX_3 z8_bX_4
  have z9_bA_0 := bA_9.out.cell 0 rfl
  have z9_bA_1 := bA_9.out.cell 1 rfl
  have z9_bA_2 := bA_9.out.cell 2 rfl
  have z9_bA_3 := bA_9.out.cell 3 rfl
  have z9_bA_4 := bA_9.out.cell 4 rfl
  have z9_bW_0 := bW_9.out.cell 0 rfl
  have z9_bW_1 := bW_9.out.cell 1 rfl
  have z9_bW_2 := bW_9.out.cell 2 rfl
  have z9_bW_3 := bW_9.out.cell 3 rfl
  have z9_bW_4 := bW_9.out.cell 4 rfl
  have z9_bX_0 := bX_9.out.cell 0 rfl
  have z9_bX_1 := bX_9.out.cell 1 rfl
  have z9_bX_2 := bX_9.out.cell 2 rfl
  have z9_bX_3 := bX_9.out.cell 3 rfl
  have z9_bX_4 := bX_9.out.cell 4 rfl
  have z9_bG_0 := bG_9.out.cell 0 rfl
  have z9_bG_1 := bG_9.out.cell 1 rfl
  have z9_bG_2 := bG_9.out.cell 2 rfl
  have z9_bG_3 := bG_9.out.cell 3 rfl
  have z9_bG_4 := bG_9.out.cell 4 rfl
  go_wp2_with fail
  refine (eqInt64S_any (lo := 0) (lo2 := 0) (by exact SeqOwn.at (intOwn_at (lo := 0)) gi_9.out (fun _ _ => Nat.zero_le _)) (by exact SeqOwn.at (intOwn_at (lo := 0)) vi_9.out (fun _ _ => Nat.zero_le _))).mono ?_
  rintro e w7i ⟨rfl, hbw7i⟩
  have hBw7i : Below w.heap.size w w7i := hB7.trans (hbw7i.mono hB7.size)
  have sw7i := hbw7i.size
  have bA_10 : Hid (Box w7i w.heap.size [.int .i64 h.vNext, .int .i64 h.vDoc, .slice a2 h.vNodes.length cap2, .slice a3 h.vObjs.length cap3, .slice a4 h.vGlobals.length cap4] 26) := bA_9.out.below hbw7i bA_9.out.lt
  have v0_10 : Hid (HeapOwn w7i [.int .i64 ys.vNext, .int .i64 ys.vDoc, .slice aw2 ys.vNodes.length cw2, .slice aw3 ys.vObjs.length cw3, .slice aw4 ys.vGlobals.length cw4] ys fw) := HeapOwn_stays _ _ _ _ _ (fun x hx => (hbw7i).block x (HeapOwn_lt _ _ _ _ v0_9.out x hx)) v0_9.out
  have vi_10 : Hid (SeqOwn 1 IntOwn w7i (.slice avi zs.length cvi) zs fwi) := SeqOwn.below intOwn_stays intOwn_lt vi_9.out (hbw7i)
  have bW_10 : Hid (Box w7i w3.heap.size [.int .i64 ys.vNext, .int .i64 ys.vDoc, .slice aw2 ys.vNodes.length cw2, .slice aw3 ys.vObjs.length cw3, .slice aw4 ys.vGlobals.length cw4] 32) := bW_9.out.below hbw7i bW_9.out.lt
  have x0_10 : Hid (HeapOwn w7i [.int .i64 h.vNext, .int .i64 h.vDoc, .slice e2 h.vNodes.length dap2, .slice e3 h.vObjs.length dap3, .slice e4 h.vGlobals.length dap4] h fx) := HeapOwn_stays _ _ _ _ _ (fun x hx => (hbw7i).block x (HeapOwn_lt _ _ _ _ x0_9.out x hx)) x0_9.out
  have bX_10 : Hid (Box w7i w4.heap.size [.int .i64 h.vNext, .int .i64 h.vDoc, .slice e2 h.vNodes.length dap2, .slice e3 h.vObjs.length dap3, .slice e4 h.vGlobals.length dap4] 32) := bX_9.out.below hbw7i bX_9.out.lt
  have g0_10 : Hid (HeapOwn w7i [.int .i64 ys.vNext, .int .i64 ys.vDoc, .slice ag2 ys.vNodes.length cg2, .slice ag3 ys.vObjs.length cg3, .slice ag4 ys.vGlobals.length cg4] ys fg) := HeapOwn_stays _ _ _ _ _ (fun x hx => (hbw7i).block x (HeapOwn_lt _ _ _ _ g0_9.out x hx)) g0_9.out
  have gi_10 : Hid (SeqOwn 1 IntOwn w7i (.slice agi zs.length cgi) zs fgi) := SeqOwn.below intOwn_stays intOwn_lt gi_9.out (hbw7i)
  have bG_10 : Hid (Box w7i w6.heap.size [.int .i64 ys.vNext, .int .i64 ys.vDoc, .slice ag2 ys.vNodes.length cg2, .slice ag3 ys.vObjs.length cg3, .slice ag4 ys.vGlobals.length cg4] 32) := bG_9.out.below hbw7i bG_9.out.lt
  clear bA_9 v0_9 vi_9 bW_9 x0_9 bX_9 g0_9 gi_9 bG_9
  clear z9_bA_0 z9_bA_1 z9_bA_2 z9_bA_3 z9_bA_4 z9_bW_0 z9_bW_1 z9_bW_2 z9_bW_3 z9_bW_4 z9_bX_0 z9_bX_1 z9_bX_2 z9_bX_3 z9_bX_4 z9_bG_0 z9_bG_1 z9_bG_2 z9_bG_3 z9_bG_4
  have z10_bA_0 := bA_10.out.cell 0 rfl
  have z10_bA_1 := bA_10.out.cell 1 rfl
  have z10_bA_2 := bA_10.out.cell 2 rfl
  have z10_bA_3 := bA_10.out.cell 3 rfl
  have z10_bA_4 := bA_10.out.cell 4 rfl
  have z10_bW_0 := bW_10.out.cell 0 rfl
  have z10_bW_1 := bW_10.out.cell 1 rfl
  have z10_bW_2 := bW_10.out.cell 2 rfl
  have z10_bW_3 := bW_10.out.cell 3 rfl
  have z10_bW_4 := bW_10.out.cell 4 rfl
  have z10_bX_0 := bX_10.out.cell 0 rfl
  have z10_bX_1 := bX_10.out.cell 1 rfl
  have z10_bX_2 := bX_10.out.cell 2 rfl
  have z10_bX_3 := bX_10.out.cell 3 rfl
  have z10_bX_4 := bX_10.out.cell 4 rfl
  have z10_bG_0 := bG_10.out.cell 0 rfl
  have z10_bG_1 := bG_10.out.cell 1 rfl
  have z10_bG_2 := bG_10.out.cell 2 rfl
  have z10_bG_3 := bG_10.out.cell 3 rfl
  have z10_bG_4 := bG_10.out.cell 4 rfl
  have PK : Hid (Box w7i w4.heap.size [.int .i64 h.vNext, .int .i64 h.vDoc, .slice e2 h.vNodes.length dap2, .slice e3 h.vObjs.length dap3, .slice e4 h.vGlobals.length dap4] 32 ∧ Box w7i w.heap.size [.int .i64 h.vNext, .int .i64 h.vDoc, .slice a2 h.vNodes.length cap2, .slice a3 h.vObjs.length cap3, .slice a4 h.vGlobals.length cap4] 26) := ⟨bX_10.out, bA_10.out⟩
  have hX7 : Hid (HeapAt w7i 0 [.int .i64 h.vNext, .int .i64 h.vDoc, .slice e2 h.vNodes.length dap2, .slice e3 h.vObjs.length dap3, .slice e4 h.vGlobals.length dap4] h) := HeapOwn_at (lo := 0) _ _ _ _ x0_10.out (fun _ _ => Nat.zero_le _)
  go_wp2_with fail
  go_region_held3 (fun w' => w'.cell? ⟨w4.heap.size, 0, none⟩ = some (.int .i64 h.vNext) ∧ w'.cell? ⟨w4.heap.size, 1, none⟩ = some (.int .i64 h.vDoc) ∧ w'.cell? ⟨w4.heap.size, 2, none⟩ = some (.slice e2 h.vNodes.length dap2) ∧ w'.cell? ⟨w4.heap.size, 3, none⟩ = some (.slice e3 h.vObjs.length dap3) ∧ w'.cell? ⟨w4.heap.size, 4, none⟩ = some (.slice e4 h.vGlobals.length dap4) ∧ w'.cell? ⟨w.heap.size, 0, none⟩ = some (.int .i64 h.vNext) ∧ w'.cell? ⟨w.heap.size, 1, none⟩ = some (.int .i64 h.vDoc) ∧ w'.cell? ⟨w.heap.size, 2, none⟩ = some (.slice a2 h.vNodes.length cap2) ∧ w'.cell? ⟨w.heap.size, 3, none⟩ = some (.slice a3 h.vObjs.length cap3) ∧ w'.cell? ⟨w.heap.size, 4, none⟩ = some (.slice a4 h.vGlobals.length cap4)) (go_keep)
    (first | (go_at_call 7; refine (toHeap_at (by exact HeapAt_stays _ _ _ 0 _ _ (.of_below hBw7i.drew) ht0.out) hsm.out).mono ?_; rintro e w8 ⟨⟨cs8, rfl, ht8⟩, hb8⟩; obtain ⟨y0, y1, y2, y3, y4, y5, y6, y7, y8, y9, hB8⟩ := keepH hBw7i (undrew hb8) PK.out.1 PK.out.2; have ht8a : Hid (HeapAt w8 0 [.int .i64 h.vNext, .int .i64 h.vDoc, .slice e2 h.vNodes.length dap2, .slice e3 h.vObjs.length dap3, .slice e4 h.vGlobals.length dap4] h) := HeapAt_stays _ _ _ _ _ _ (.of_below (undrew hb8)) hX7.out; have ht8b : Hid _ := ht8; have hb8' : Hid (Below w7i.heap.size w7i w8) := undrew hb8; clear ht8 hb8) | (go_at_call 9; refine (eqHeap_any (by exact ht8a.out) (by exact ht8b.out)).mono ?_; rintro e w9 ⟨rfl, hb9⟩; obtain ⟨y0, y1, y2, y3, y4, y5, y6, y7, y8, y9, hB9⟩ := keepH hB8.out.1 hb9 hB8.out.2.1 hB8.out.2.2; have hb9' : Hid (Below w8.heap.size w8 w9) := hb9; clear hb9))
  have hb79 : Below w7i.heap.size w7i w9 := hb8'.out.trans (hb9'.out.mono hb8'.out.size)
  have hBw9 : Below w.heap.size w w9 := hB9.out.1
  have s9 := hb79.size
  clear PK hX7 ht8a ht8b hB8 hB9 hb8' hb9'
  have bA_11 : Hid (Box w9 w.heap.size [.int .i64 h.vNext, .int .i64 h.vDoc, .slice a2 h.vNodes.length cap2, .slice a3 h.vObjs.length cap3, .slice a4 h.vGlobals.length cap4] 26) := bA_10.out.below hb79 bA_10.out.lt
  have v0_11 : Hid (HeapOwn w9 [.int .i64 ys.vNext, .int .i64 ys.vDoc, .slice aw2 ys.vNodes.length cw2, .slice aw3 ys.vObjs.length cw3, .slice aw4 ys.vGlobals.length cw4] ys fw) := HeapOwn_stays _ _ _ _ _ (fun x hx => (hb79).block x (HeapOwn_lt _ _ _ _ v0_10.out x hx)) v0_10.out
  have vi_11 : Hid (SeqOwn 1 IntOwn w9 (.slice avi zs.length cvi) zs fwi) := SeqOwn.below intOwn_stays intOwn_lt vi_10.out (hb79)
  have bW_11 : Hid (Box w9 w3.heap.size [.int .i64 ys.vNext, .int .i64 ys.vDoc, .slice aw2 ys.vNodes.length cw2, .slice aw3 ys.vObjs.length cw3, .slice aw4 ys.vGlobals.length cw4] 32) := bW_10.out.below hb79 bW_10.out.lt
  have x0_11 : Hid (HeapOwn w9 [.int .i64 h.vNext, .int .i64 h.vDoc, .slice e2 h.vNodes.length dap2, .slice e3 h.vObjs.length dap3, .slice e4 h.vGlobals.length dap4] h fx) := HeapOwn_stays _ _ _ _ _ (fun x hx => (hb79).block x (HeapOwn_lt _ _ _ _ x0_10.out x hx)) x0_10.out
  have bX_11 : Hid (Box w9 w4.heap.size [.int .i64 h.vNext, .int .i64 h.vDoc, .slice e2 h.vNodes.length dap2, .slice e3 h.vObjs.length dap3, .slice e4 h.vGlobals.length dap4] 32) := bX_10.out.below hb79 bX_10.out.lt
  have g0_11 : Hid (HeapOwn w9 [.int .i64 ys.vNext, .int .i64 ys.vDoc, .slice ag2 ys.vNodes.length cg2, .slice ag3 ys.vObjs.length cg3, .slice ag4 ys.vGlobals.length cg4] ys fg) := HeapOwn_stays _ _ _ _ _ (fun x hx => (hb79).block x (HeapOwn_lt _ _ _ _ g0_10.out x hx)) g0_10.out
  have gi_11 : Hid (SeqOwn 1 IntOwn w9 (.slice agi zs.length cgi) zs fgi) := SeqOwn.below intOwn_stays intOwn_lt gi_10.out (hb79)
  have bG_11 : Hid (Box w9 w6.heap.size [.int .i64 ys.vNext, .int .i64 ys.vDoc, .slice ag2 ys.vNodes.length cg2, .slice ag3 ys.vObjs.length cg3, .slice ag4 ys.vGlobals.length cg4] 32) := bG_10.out.below hb79 bG_10.out.lt
  clear bA_10 v0_10 vi_10 bW_10 x0_10 bX_10 g0_10 gi_10 bG_10
  clear z10_bA_0 z10_bA_1 z10_bA_2 z10_bA_3 z10_bA_4 z10_bW_0 z10_bW_1 z10_bW_2 z10_bW_3 z10_bW_4 z10_bX_0 z10_bX_1 z10_bX_2 z10_bX_3 z10_bX_4 z10_bG_0 z10_bG_1 z10_bG_2 z10_bG_3 z10_bG_4
  have z11_bA_0 := bA_11.out.cell 0 rfl
  have z11_bA_1 := bA_11.out.cell 1 rfl
  have z11_bA_2 := bA_11.out.cell 2 rfl
  have z11_bA_3 := bA_11.out.cell 3 rfl
  have z11_bA_4 := bA_11.out.cell 4 rfl
  have z11_bW_0 := bW_11.out.cell 0 rfl
  have z11_bW_1 := bW_11.out.cell 1 rfl
  have z11_bW_2 := bW_11.out.cell 2 rfl
  have z11_bW_3 := bW_11.out.cell 3 rfl
  have z11_bW_4 := bW_11.out.cell 4 rfl
  have z11_bX_0 := bX_11.out.cell 0 rfl
  have z11_bX_1 := bX_11.out.cell 1 rfl
  have z11_bX_2 := bX_11.out.cell 2 rfl
  have z11_bX_3 := bX_11.out.cell 3 rfl
  have z11_bX_4 := bX_11.out.cell 4 rfl
  have z11_bG_0 := bG_11.out.cell 0 rfl
  have z11_bG_1 := bG_11.out.cell 1 rfl
  have z11_bG_2 := bG_11.out.cell 2 rfl
  have z11_bG_3 := bG_11.out.cell 3 rfl
  have z11_bG_4 := bG_11.out.cell 4 rfl
  go_wp2_with fail
  refine (markHeap_any x0_11.out ndx (by omega) hcnt.out).mono ?_
  rintro e w10 ⟨rfl, own10, ho10⟩
  have s10 := ho10.2.2.2.1
  have hB10 : Below w.heap.size w w10 := hBw9.trans (ho10.below hBw9.size (fun x hx => by have := hx4.out x hx; omega))
  have bA_12 : Hid (Box w10 w.heap.size [.int .i64 h.vNext, .int .i64 h.vDoc, .slice a2 h.vNodes.length cap2, .slice a3 h.vObjs.length cap3, .slice a4 h.vGlobals.length cap4] 26) := ((ho10).keep bA_11.out.lt (fun q => by have := hx4.out _ q; omega)).trans bA_11.out
  have v0_12 : Hid (HeapOwn w10 [.int .i64 ys.vNext, .int .i64 ys.vDoc, .slice aw2 ys.vNodes.length cw2, .slice aw3 ys.vObjs.length cw3, .slice aw4 ys.vGlobals.length cw4] ys fw) := HeapOwn_stays _ _ _ _ _ (fun x hx => (ho10).keep (HeapOwn_lt _ _ _ _ v0_11.out x hx) (fun q => by have := hx4.out _ q; have := hw3.out _ hx; omega)) v0_11.out
  have vi_12 : Hid (SeqOwn 1 IntOwn w10 (.slice avi zs.length cvi) zs fwi) := SeqOwn.stays intOwn_stays vi_11.out (fun x hx => (ho10).keep (SeqOwn.lt intOwn_lt vi_11.out x hx) (fun q => by have := hx4.out _ q; have := hw3i.out _ hx; omega))
  have bW_12 : Hid (Box w10 w3.heap.size [.int .i64 ys.vNext, .int .i64 ys.vDoc, .slice aw2 ys.vNodes.length cw2, .slice aw3 ys.vObjs.length cw3, .slice aw4 ys.vGlobals.length cw4] 32) := ((ho10).keep bW_11.out.lt (fun q => by have := hx4.out _ q; omega)).trans bW_11.out
  have bX_12 : Hid (Box w10 w4.heap.size [.int .i64 h.vNext, .int .i64 h.vDoc, .slice e2 h.vNodes.length dap2, .slice e3 h.vObjs.length dap3, .slice e4 h.vGlobals.length dap4] 32) := ((ho10).keep bX_11.out.lt (fun q => by have := hx4.out _ q; omega)).trans bX_11.out
  have g0_12 : Hid (HeapOwn w10 [.int .i64 ys.vNext, .int .i64 ys.vDoc, .slice ag2 ys.vNodes.length cg2, .slice ag3 ys.vObjs.length cg3, .slice ag4 ys.vGlobals.length cg4] ys fg) := HeapOwn_stays _ _ _ _ _ (fun x hx => (ho10).keep (HeapOwn_lt _ _ _ _ g0_11.out x hx) (fun q => by have := hx4.out _ q; have := hg6.out _ hx; omega)) g0_11.out
  have gi_12 : Hid (SeqOwn 1 IntOwn w10 (.slice agi zs.length cgi) zs fgi) := SeqOwn.stays intOwn_stays gi_11.out (fun x hx => (ho10).keep (SeqOwn.lt intOwn_lt gi_11.out x hx) (fun q => by have := hx4.out _ q; have := hg6i.out _ hx; omega))
  have bG_12 : Hid (Box w10 w6.heap.size [.int .i64 ys.vNext, .int .i64 ys.vDoc, .slice ag2 ys.vNodes.length cg2, .slice ag3 ys.vObjs.length cg3, .slice ag4 ys.vGlobals.length cg4] 32) := ((ho10).keep bG_11.out.lt (fun q => by have := hx4.out _ q; omega)).trans bG_11.out
  clear bA_11 v0_11 vi_11 bW_11 x0_11 bX_11 g0_11 gi_11 bG_11
  clear z11_bA_0 z11_bA_1 z11_bA_2 z11_bA_3 z11_bA_4 z11_bW_0 z11_bW_1 z11_bW_2 z11_bW_3 z11_bW_4 z11_bX_0 z11_bX_1 z11_bX_2 z11_bX_3 z11_bX_4 z11_bG_0 z11_bG_1 z11_bG_2 z11_bG_3 z11_bG_4
  have z12_bA_0 := bA_12.out.cell 0 rfl
  have z12_bA_1 := bA_12.out.cell 1 rfl
  have z12_bA_2 := bA_12.out.cell 2 rfl
  have z12_bA_3 := bA_12.out.cell 3 rfl
  have z12_bA_4 := bA_12.out.cell 4 rfl
  have z12_bW_0 := bW_12.out.cell 0 rfl
  have z12_bW_1 := bW_12.out.cell 1 rfl
  have z12_bW_2 := bW_12.out.cell 2 rfl
  have z12_bW_3 := bW_12.out.cell 3 rfl
  have z12_bW_4 := bW_12.out.cell 4 rfl
  have z12_bX_0 := bX_12.out.cell 0 rfl
  have z12_bX_1 := bX_12.out.cell 1 rfl
  have z12_bX_2 := bX_12.out.cell 2 rfl
  have z12_bX_3 := bX_12.out.cell 3 rfl
  have z12_bX_4 := bX_12.out.cell 4 rfl
  have z12_bG_0 := bG_12.out.cell 0 rfl
  have z12_bG_1 := bG_12.out.cell 1 rfl
  have z12_bG_2 := bG_12.out.cell 2 rfl
  have z12_bG_3 := bG_12.out.cell 3 rfl
  have z12_bG_4 := bG_12.out.cell 4 rfl
  have hk0 : (0 : Int) ≤ (1 : Int) + (cntL cntNode h.vNodes : Nat) + (cntL cntObj h.vObjs : Nat) + (cntL cntField h.vGlobals : Nat) := by omega
  generalize hSUM : (1 : Int) + (cntL cntNode h.vNodes : Nat) + (cntL cntObj h.vObjs : Nat) + (cntL cntField h.vGlobals : Nat) = K0 at *
  clear hSUM own10
  have hk1 : decide (K0 < 0) = false := by simp; omega
  go_wp2_with fail
  refine (eqHeap_any (lo := 0) (lo2 := 0) (by exact HeapOwn_at (lo := 0) _ _ _ _ g0_12.out (fun _ _ => Nat.zero_le _)) (by exact HeapOwn_at (lo := 0) _ _ _ _ v0_12.out (fun _ _ => Nat.zero_le _))).mono ?_
  rintro e w11 ⟨rfl, hb11⟩
  have hB11 : Below w.heap.size w w11 := hB10.trans (hb11.mono hB10.size)
  have s11 := hb11.size
  have bA_13 : Hid (Box w11 w.heap.size [.int .i64 h.vNext, .int .i64 h.vDoc, .slice a2 h.vNodes.length cap2, .slice a3 h.vObjs.length cap3, .slice a4 h.vGlobals.length cap4] 26) := bA_12.out.below hb11 bA_12.out.lt
  have v0_13 : Hid (HeapOwn w11 [.int .i64 ys.vNext, .int .i64 ys.vDoc, .slice aw2 ys.vNodes.length cw2, .slice aw3 ys.vObjs.length cw3, .slice aw4 ys.vGlobals.length cw4] ys fw) := HeapOwn_stays _ _ _ _ _ (fun x hx => (hb11).block x (HeapOwn_lt _ _ _ _ v0_12.out x hx)) v0_12.out
  have vi_13 : Hid (SeqOwn 1 IntOwn w11 (.slice avi zs.length cvi) zs fwi) := SeqOwn.below intOwn_stays intOwn_lt vi_12.out (hb11)
  have bW_13 : Hid (Box w11 w3.heap.size [.int .i64 ys.vNext, .int .i64 ys.vDoc, .slice aw2 ys.vNodes.length cw2, .slice aw3 ys.vObjs.length cw3, .slice aw4 ys.vGlobals.length cw4] 32) := bW_12.out.below hb11 bW_12.out.lt
  have bX_13 : Hid (Box w11 w4.heap.size [.int .i64 h.vNext, .int .i64 h.vDoc, .slice e2 h.vNodes.length dap2, .slice e3 h.vObjs.length dap3, .slice e4 h.vGlobals.length dap4] 32) := bX_12.out.below hb11 bX_12.out.lt
  have g0_13 : Hid (HeapOwn w11 [.int .i64 ys.vNext, .int .i64 ys.vDoc, .slice ag2 ys.vNodes.length cg2, .slice ag3 ys.vObjs.length cg3, .slice ag4 ys.vGlobals.length cg4] ys fg) := HeapOwn_stays _ _ _ _ _ (fun x hx => (hb11).block x (HeapOwn_lt _ _ _ _ g0_12.out x hx)) g0_12.out
  have gi_13 : Hid (SeqOwn 1 IntOwn w11 (.slice agi zs.length cgi) zs fgi) := SeqOwn.below intOwn_stays intOwn_lt gi_12.out (hb11)
  have bG_13 : Hid (Box w11 w6.heap.size [.int .i64 ys.vNext, .int .i64 ys.vDoc, .slice ag2 ys.vNodes.length cg2, .slice ag3 ys.vObjs.length cg3, .slice ag4 ys.vGlobals.length cg4] 32) := bG_12.out.below hb11 bG_12.out.lt
  clear bA_12 v0_12 vi_12 bW_12 bX_12 g0_12 gi_12 bG_12
  clear z12_bA_0 z12_bA_1 z12_bA_2 z12_bA_3 z12_bA_4 z12_bW_0 z12_bW_1 z12_bW_2 z12_bW_3 z12_bW_4 z12_bX_0 z12_bX_1 z12_bX_2 z12_bX_3 z12_bX_4 z12_bG_0 z12_bG_1 z12_bG_2 z12_bG_3 z12_bG_4
  have z13_bA_0 := bA_13.out.cell 0 rfl
  have z13_bA_1 := bA_13.out.cell 1 rfl
  have z13_bA_2 := bA_13.out.cell 2 rfl
  have z13_bA_3 := bA_13.out.cell 3 rfl
  have z13_bA_4 := bA_13.out.cell 4 rfl
  have z13_bW_0 := bW_13.out.cell 0 rfl
  have z13_bW_1 := bW_13.out.cell 1 rfl
  have z13_bW_2 := bW_13.out.cell 2 rfl
  have z13_bW_3 := bW_13.out.cell 3 rfl
  have z13_bW_4 := bW_13.out.cell 4 rfl
  have z13_bX_0 := bX_13.out.cell 0 rfl
  have z13_bX_1 := bX_13.out.cell 1 rfl
  have z13_bX_2 := bX_13.out.cell 2 rfl
  have z13_bX_3 := bX_13.out.cell 3 rfl
  have z13_bX_4 := bX_13.out.cell 4 rfl
  have z13_bG_0 := bG_13.out.cell 0 rfl
  have z13_bG_1 := bG_13.out.cell 1 rfl
  have z13_bG_2 := bG_13.out.cell 2 rfl
  have z13_bG_3 := bG_13.out.cell 3 rfl
  have z13_bG_4 := bG_13.out.cell 4 rfl
  go_wp2_with fail
  refine (eqInt64S_any (lo := 0) (lo2 := 0) (by exact SeqOwn.at (intOwn_at (lo := 0)) gi_13.out (fun _ _ => Nat.zero_le _)) (by exact SeqOwn.at (intOwn_at (lo := 0)) vi_13.out (fun _ _ => Nat.zero_le _))).mono ?_
  rintro e w11i ⟨rfl, hbw11i⟩
  have hBw11i : Below w.heap.size w w11i := hB11.trans (hbw11i.mono hB11.size)
  have sw11i := hbw11i.size
  have bA_14 : Hid (Box w11i w.heap.size [.int .i64 h.vNext, .int .i64 h.vDoc, .slice a2 h.vNodes.length cap2, .slice a3 h.vObjs.length cap3, .slice a4 h.vGlobals.length cap4] 26) := bA_13.out.below hbw11i bA_13.out.lt
  have v0_14 : Hid (HeapOwn w11i [.int .i64 ys.vNext, .int .i64 ys.vDoc, .slice aw2 ys.vNodes.length cw2, .slice aw3 ys.vObjs.length cw3, .slice aw4 ys.vGlobals.length cw4] ys fw) := HeapOwn_stays _ _ _ _ _ (fun x hx => (hbw11i).block x (HeapOwn_lt _ _ _ _ v0_13.out x hx)) v0_13.out
  have vi_14 : Hid (SeqOwn 1 IntOwn w11i (.slice avi zs.length cvi) zs fwi) := SeqOwn.below intOwn_stays intOwn_lt vi_13.out (hbw11i)
  have bW_14 : Hid (Box w11i w3.heap.size [.int .i64 ys.vNext, .int .i64 ys.vDoc, .slice aw2 ys.vNodes.length cw2, .slice aw3 ys.vObjs.length cw3, .slice aw4 ys.vGlobals.length cw4] 32) := bW_13.out.below hbw11i bW_13.out.lt
  have bX_14 : Hid (Box w11i w4.heap.size [.int .i64 h.vNext, .int .i64 h.vDoc, .slice e2 h.vNodes.length dap2, .slice e3 h.vObjs.length dap3, .slice e4 h.vGlobals.length dap4] 32) := bX_13.out.below hbw11i bX_13.out.lt
  have g0_14 : Hid (HeapOwn w11i [.int .i64 ys.vNext, .int .i64 ys.vDoc, .slice ag2 ys.vNodes.length cg2, .slice ag3 ys.vObjs.length cg3, .slice ag4 ys.vGlobals.length cg4] ys fg) := HeapOwn_stays _ _ _ _ _ (fun x hx => (hbw11i).block x (HeapOwn_lt _ _ _ _ g0_13.out x hx)) g0_13.out
  have gi_14 : Hid (SeqOwn 1 IntOwn w11i (.slice agi zs.length cgi) zs fgi) := SeqOwn.below intOwn_stays intOwn_lt gi_13.out (hbw11i)
  have bG_14 : Hid (Box w11i w6.heap.size [.int .i64 ys.vNext, .int .i64 ys.vDoc, .slice ag2 ys.vNodes.length cg2, .slice ag3 ys.vObjs.length cg3, .slice ag4 ys.vGlobals.length cg4] 32) := bG_13.out.below hbw11i bG_13.out.lt
  clear bA_13 v0_13 vi_13 bW_13 bX_13 g0_13 gi_13 bG_13
  clear z13_bA_0 z13_bA_1 z13_bA_2 z13_bA_3 z13_bA_4 z13_bW_0 z13_bW_1 z13_bW_2 z13_bW_3 z13_bW_4 z13_bX_0 z13_bX_1 z13_bX_2 z13_bX_3 z13_bX_4 z13_bG_0 z13_bG_1 z13_bG_2 z13_bG_3 z13_bG_4
  have z14_bA_0 := bA_14.out.cell 0 rfl
  have z14_bA_1 := bA_14.out.cell 1 rfl
  have z14_bA_2 := bA_14.out.cell 2 rfl
  have z14_bA_3 := bA_14.out.cell 3 rfl
  have z14_bA_4 := bA_14.out.cell 4 rfl
  have z14_bW_0 := bW_14.out.cell 0 rfl
  have z14_bW_1 := bW_14.out.cell 1 rfl
  have z14_bW_2 := bW_14.out.cell 2 rfl
  have z14_bW_3 := bW_14.out.cell 3 rfl
  have z14_bW_4 := bW_14.out.cell 4 rfl
  have z14_bX_0 := bX_14.out.cell 0 rfl
  have z14_bX_1 := bX_14.out.cell 1 rfl
  have z14_bX_2 := bX_14.out.cell 2 rfl
  have z14_bX_3 := bX_14.out.cell 3 rfl
  have z14_bX_4 := bX_14.out.cell 4 rfl
  have z14_bG_0 := bG_14.out.cell 0 rfl
  have z14_bG_1 := bG_14.out.cell 1 rfl
  have z14_bG_2 := bG_14.out.cell 2 rfl
  have z14_bG_3 := bG_14.out.cell 3 rfl
  have z14_bG_4 := bG_14.out.cell 4 rfl
  go_wp2_with fail
  refine (markHeap_any g0_14.out ndg.out (by omega) (by have := hYL.out; omega)).mono ?_
  rintro e w12 ⟨rfl, own12, ho12⟩
  have s12 := ho12.2.2.2.1
  have hB12 : Below w.heap.size w w12 := hBw11i.trans (ho12.below hBw11i.size (fun x hx => by have := hg6.out x hx; omega))
  have bA_15 : Hid (Box w12 w.heap.size [.int .i64 h.vNext, .int .i64 h.vDoc, .slice a2 h.vNodes.length cap2, .slice a3 h.vObjs.length cap3, .slice a4 h.vGlobals.length cap4] 26) := ((ho12).keep bA_14.out.lt (fun q => by have := hg6.out _ q; omega)).trans bA_14.out
  have v0_15 : Hid (HeapOwn w12 [.int .i64 ys.vNext, .int .i64 ys.vDoc, .slice aw2 ys.vNodes.length cw2, .slice aw3 ys.vObjs.length cw3, .slice aw4 ys.vGlobals.length cw4] ys fw) := HeapOwn_stays _ _ _ _ _ (fun x hx => (ho12).keep (HeapOwn_lt _ _ _ _ v0_14.out x hx) (fun q => by have := hg6.out _ q; have := hw3.out _ hx; omega)) v0_14.out
  have vi_15 : Hid (SeqOwn 1 IntOwn w12 (.slice avi zs.length cvi) zs fwi) := SeqOwn.stays intOwn_stays vi_14.out (fun x hx => (ho12).keep (SeqOwn.lt intOwn_lt vi_14.out x hx) (fun q => by have := hg6.out _ q; have := hw3i.out _ hx; omega))
  have bW_15 : Hid (Box w12 w3.heap.size [.int .i64 ys.vNext, .int .i64 ys.vDoc, .slice aw2 ys.vNodes.length cw2, .slice aw3 ys.vObjs.length cw3, .slice aw4 ys.vGlobals.length cw4] 32) := ((ho12).keep bW_14.out.lt (fun q => by have := hg6.out _ q; omega)).trans bW_14.out
  have bX_15 : Hid (Box w12 w4.heap.size [.int .i64 h.vNext, .int .i64 h.vDoc, .slice e2 h.vNodes.length dap2, .slice e3 h.vObjs.length dap3, .slice e4 h.vGlobals.length dap4] 32) := ((ho12).keep bX_14.out.lt (fun q => by have := hg6.out _ q; omega)).trans bX_14.out
  have gi_15 : Hid (SeqOwn 1 IntOwn w12 (.slice agi zs.length cgi) zs fgi) := SeqOwn.stays intOwn_stays gi_14.out (fun x hx => (ho12).keep (SeqOwn.lt intOwn_lt gi_14.out x hx) (fun q => by exact dgi.out _ hx q))
  have bG_15 : Hid (Box w12 w6.heap.size [.int .i64 ys.vNext, .int .i64 ys.vDoc, .slice ag2 ys.vNodes.length cg2, .slice ag3 ys.vObjs.length cg3, .slice ag4 ys.vGlobals.length cg4] 32) := ((ho12).keep bG_14.out.lt (fun q => by have := hg6.out _ q; omega)).trans bG_14.out
  clear bA_14 v0_14 vi_14 bW_14 bX_14 g0_14 gi_14 bG_14
  clear z14_bA_0 z14_bA_1 z14_bA_2 z14_bA_3 z14_bA_4 z14_bW_0 z14_bW_1 z14_bW_2 z14_bW_3 z14_bW_4 z14_bX_0 z14_bX_1 z14_bX_2 z14_bX_3 z14_bX_4 z14_bG_0 z14_bG_1 z14_bG_2 z14_bG_3 z14_bG_4
  have z15_bA_0 := bA_15.out.cell 0 rfl
  have z15_bA_1 := bA_15.out.cell 1 rfl
  have z15_bA_2 := bA_15.out.cell 2 rfl
  have z15_bA_3 := bA_15.out.cell 3 rfl
  have z15_bA_4 := bA_15.out.cell 4 rfl
  have z15_bW_0 := bW_15.out.cell 0 rfl
  have z15_bW_1 := bW_15.out.cell 1 rfl
  have z15_bW_2 := bW_15.out.cell 2 rfl
  have z15_bW_3 := bW_15.out.cell 3 rfl
  have z15_bW_4 := bW_15.out.cell 4 rfl
  have z15_bX_0 := bX_15.out.cell 0 rfl
  have z15_bX_1 := bX_15.out.cell 1 rfl
  have z15_bX_2 := bX_15.out.cell 2 rfl
  have z15_bX_3 := bX_15.out.cell 3 rfl
  have z15_bX_4 := bX_15.out.cell 4 rfl
  have z15_bG_0 := bG_15.out.cell 0 rfl
  have z15_bG_1 := bG_15.out.cell 1 rfl
  have z15_bG_2 := bG_15.out.cell 2 rfl
  have z15_bG_3 := bG_15.out.cell 3 rfl
  have z15_bG_4 := bG_15.out.cell 4 rfl
  have g0_15 : Hid (HeapOwn w12 [.int .i64 ys.vNext, .int .i64 ys.vDoc, .slice ag2 ys.vNodes.length cg2, .slice ag3 ys.vObjs.length cg3, .slice ag4 ys.vGlobals.length cg4] (mkTHeap ys 1) fg) := own12
  clear own12
  have hM0 : (0 : Int) ≤ (1 : Int) + (cntL cntNode ys.vNodes : Nat) + (cntL cntObj ys.vObjs : Nat) + (cntL cntField ys.vGlobals : Nat) := by omega
  generalize hCI : (1 : Int) + (cntL cntNode ys.vNodes : Nat) + (cntL cntObj ys.vObjs : Nat) + (cntL cntField ys.vGlobals : Nat) = M0 at *
  have hCI' : Hid _ := hCI
  clear hCI
  have hMb : Hid ((M0 : Int) + (cntL cntI zs : Nat) ≤ 4611686018427387904) := by show _ ≤ _; rw [cntL_int]; have := hYL.out; have := hZL.out; omega
  go_wp2_with fail
  refine (markInt64S_any gi_15.out (by omega) hMb.out).mono ?_
  rintro e w12i ⟨rfl, own12i, ho12i⟩
  have s12i := ho12i.2.2.2.1
  have hBw12i : Below w.heap.size w w12i := hB12.trans (ho12i.below hB12.size (fun x hx => by have := hg6i.out x hx; omega))
  have bA_16 : Hid (Box w12i w.heap.size [.int .i64 h.vNext, .int .i64 h.vDoc, .slice a2 h.vNodes.length cap2, .slice a3 h.vObjs.length cap3, .slice a4 h.vGlobals.length cap4] 26) := ((ho12i).keep bA_15.out.lt (fun q => by have := hg6i.out _ q; omega)).trans bA_15.out
  have v0_16 : Hid (HeapOwn w12i [.int .i64 ys.vNext, .int .i64 ys.vDoc, .slice aw2 ys.vNodes.length cw2, .slice aw3 ys.vObjs.length cw3, .slice aw4 ys.vGlobals.length cw4] ys fw) := HeapOwn_stays _ _ _ _ _ (fun x hx => (ho12i).keep (HeapOwn_lt _ _ _ _ v0_15.out x hx) (fun q => by have := hg6i.out _ q; have := hw3.out _ hx; omega)) v0_15.out
  have vi_16 : Hid (SeqOwn 1 IntOwn w12i (.slice avi zs.length cvi) zs fwi) := SeqOwn.stays intOwn_stays vi_15.out (fun x hx => (ho12i).keep (SeqOwn.lt intOwn_lt vi_15.out x hx) (fun q => by have := hg6i.out _ q; have := hw3i.out _ hx; omega))
  have bW_16 : Hid (Box w12i w3.heap.size [.int .i64 ys.vNext, .int .i64 ys.vDoc, .slice aw2 ys.vNodes.length cw2, .slice aw3 ys.vObjs.length cw3, .slice aw4 ys.vGlobals.length cw4] 32) := ((ho12i).keep bW_15.out.lt (fun q => by have := hg6i.out _ q; omega)).trans bW_15.out
  have bX_16 : Hid (Box w12i w4.heap.size [.int .i64 h.vNext, .int .i64 h.vDoc, .slice e2 h.vNodes.length dap2, .slice e3 h.vObjs.length dap3, .slice e4 h.vGlobals.length dap4] 32) := ((ho12i).keep bX_15.out.lt (fun q => by have := hg6i.out _ q; omega)).trans bX_15.out
  have g0_16 : Hid (HeapOwn w12i [.int .i64 ys.vNext, .int .i64 ys.vDoc, .slice ag2 ys.vNodes.length cg2, .slice ag3 ys.vObjs.length cg3, .slice ag4 ys.vGlobals.length cg4] (mkTHeap ys 1) fg) := HeapOwn_stays _ _ _ _ _ (fun x hx => (ho12i).keep (HeapOwn_lt _ _ _ _ g0_15.out x hx) (fun q => dgi.out _ q hx)) g0_15.out
  have bG_16 : Hid (Box w12i w6.heap.size [.int .i64 ys.vNext, .int .i64 ys.vDoc, .slice ag2 ys.vNodes.length cg2, .slice ag3 ys.vObjs.length cg3, .slice ag4 ys.vGlobals.length cg4] 32) := ((ho12i).keep bG_15.out.lt (fun q => by have := hg6i.out _ q; omega)).trans bG_15.out
  clear bA_15 v0_15 vi_15 bW_15 bX_15 g0_15 gi_15 bG_15
  clear z15_bA_0 z15_bA_1 z15_bA_2 z15_bA_3 z15_bA_4 z15_bW_0 z15_bW_1 z15_bW_2 z15_bW_3 z15_bW_4 z15_bX_0 z15_bX_1 z15_bX_2 z15_bX_3 z15_bX_4 z15_bG_0 z15_bG_1 z15_bG_2 z15_bG_3 z15_bG_4
  have z16_bA_0 := bA_16.out.cell 0 rfl
  have z16_bA_1 := bA_16.out.cell 1 rfl
  have z16_bA_2 := bA_16.out.cell 2 rfl
  have z16_bA_3 := bA_16.out.cell 3 rfl
  have z16_bA_4 := bA_16.out.cell 4 rfl
  have z16_bW_0 := bW_16.out.cell 0 rfl
  have z16_bW_1 := bW_16.out.cell 1 rfl
  have z16_bW_2 := bW_16.out.cell 2 rfl
  have z16_bW_3 := bW_16.out.cell 3 rfl
  have z16_bW_4 := bW_16.out.cell 4 rfl
  have z16_bX_0 := bX_16.out.cell 0 rfl
  have z16_bX_1 := bX_16.out.cell 1 rfl
  have z16_bX_2 := bX_16.out.cell 2 rfl
  have z16_bX_3 := bX_16.out.cell 3 rfl
  have z16_bX_4 := bX_16.out.cell 4 rfl
  have z16_bG_0 := bG_16.out.cell 0 rfl
  have z16_bG_1 := bG_16.out.cell 1 rfl
  have z16_bG_2 := bG_16.out.cell 2 rfl
  have z16_bG_3 := bG_16.out.cell 3 rfl
  have z16_bG_4 := bG_16.out.cell 4 rfl
  have gi_16 : Hid (SeqOwn 1 IntOwn w12i (.slice agi zs.length cgi) (mkL cntI mkI zs (M0 : Int)) fgi) := own12i
  clear own12i
  generalize hCJ : (M0 : Int) + (cntL cntI zs : Nat) = M at *
  have hCJ' : Hid _ := hCJ
  clear hCJ
  have hM1 : decide (M0 < 0) = false := by simp; omega
  have hM2 : decide (M < 0) = false := by simp; have := hCJ'.out; omega
  go_wp2_with fail
  refine (heldHeap_any (lo := 0) (m := 1) (x := ys) (by exact HeapOwn_at (lo := 0) _ _ _ _ g0_16.out (fun _ _ => Nat.zero_le _)) (by omega) (by rw [hCI'.out]; have := hYL.out; omega)).mono ?_
  rintro e w12j ⟨rfl, hb12j⟩
  rw [hCI'.out]
  have hBw12j : Below w.heap.size w w12j := hBw12i.trans (hb12j.mono hBw12i.size)
  have s12j := hb12j.size
  have bA_17 : Hid (Box w12j w.heap.size [.int .i64 h.vNext, .int .i64 h.vDoc, .slice a2 h.vNodes.length cap2, .slice a3 h.vObjs.length cap3, .slice a4 h.vGlobals.length cap4] 26) := bA_16.out.below hb12j bA_16.out.lt
  have v0_17 : Hid (HeapOwn w12j [.int .i64 ys.vNext, .int .i64 ys.vDoc, .slice aw2 ys.vNodes.length cw2, .slice aw3 ys.vObjs.length cw3, .slice aw4 ys.vGlobals.length cw4] ys fw) := HeapOwn_stays _ _ _ _ _ (fun x hx => (hb12j).block x (HeapOwn_lt _ _ _ _ v0_16.out x hx)) v0_16.out
  have vi_17 : Hid (SeqOwn 1 IntOwn w12j (.slice avi zs.length cvi) zs fwi) := SeqOwn.below intOwn_stays intOwn_lt vi_16.out (hb12j)
  have bW_17 : Hid (Box w12j w3.heap.size [.int .i64 ys.vNext, .int .i64 ys.vDoc, .slice aw2 ys.vNodes.length cw2, .slice aw3 ys.vObjs.length cw3, .slice aw4 ys.vGlobals.length cw4] 32) := bW_16.out.below hb12j bW_16.out.lt
  have bX_17 : Hid (Box w12j w4.heap.size [.int .i64 h.vNext, .int .i64 h.vDoc, .slice e2 h.vNodes.length dap2, .slice e3 h.vObjs.length dap3, .slice e4 h.vGlobals.length dap4] 32) := bX_16.out.below hb12j bX_16.out.lt
  have g0_17 : Hid (HeapOwn w12j [.int .i64 ys.vNext, .int .i64 ys.vDoc, .slice ag2 ys.vNodes.length cg2, .slice ag3 ys.vObjs.length cg3, .slice ag4 ys.vGlobals.length cg4] (mkTHeap ys 1) fg) := HeapOwn_stays _ _ _ _ _ (fun x hx => (hb12j).block x (HeapOwn_lt _ _ _ _ g0_16.out x hx)) g0_16.out
  have gi_17 : Hid (SeqOwn 1 IntOwn w12j (.slice agi zs.length cgi) (mkL cntI mkI zs (M0 : Int)) fgi) := SeqOwn.below intOwn_stays intOwn_lt gi_16.out (hb12j)
  have bG_17 : Hid (Box w12j w6.heap.size [.int .i64 ys.vNext, .int .i64 ys.vDoc, .slice ag2 ys.vNodes.length cg2, .slice ag3 ys.vObjs.length cg3, .slice ag4 ys.vGlobals.length cg4] 32) := bG_16.out.below hb12j bG_16.out.lt
  clear bA_16 v0_16 vi_16 bW_16 bX_16 g0_16 gi_16 bG_16
  clear z16_bA_0 z16_bA_1 z16_bA_2 z16_bA_3 z16_bA_4 z16_bW_0 z16_bW_1 z16_bW_2 z16_bW_3 z16_bW_4 z16_bX_0 z16_bX_1 z16_bX_2 z16_bX_3 z16_bX_4 z16_bG_0 z16_bG_1 z16_bG_2 z16_bG_3 z16_bG_4
  have z17_bA_0 := bA_17.out.cell 0 rfl
  have z17_bA_1 := bA_17.out.cell 1 rfl
  have z17_bA_2 := bA_17.out.cell 2 rfl
  have z17_bA_3 := bA_17.out.cell 3 rfl
  have z17_bA_4 := bA_17.out.cell 4 rfl
  have z17_bW_0 := bW_17.out.cell 0 rfl
  have z17_bW_1 := bW_17.out.cell 1 rfl
  have z17_bW_2 := bW_17.out.cell 2 rfl
  have z17_bW_3 := bW_17.out.cell 3 rfl
  have z17_bW_4 := bW_17.out.cell 4 rfl
  have z17_bX_0 := bX_17.out.cell 0 rfl
  have z17_bX_1 := bX_17.out.cell 1 rfl
  have z17_bX_2 := bX_17.out.cell 2 rfl
  have z17_bX_3 := bX_17.out.cell 3 rfl
  have z17_bX_4 := bX_17.out.cell 4 rfl
  have z17_bG_0 := bG_17.out.cell 0 rfl
  have z17_bG_1 := bG_17.out.cell 1 rfl
  have z17_bG_2 := bG_17.out.cell 2 rfl
  have z17_bG_3 := bG_17.out.cell 3 rfl
  have z17_bG_4 := bG_17.out.cell 4 rfl
  go_wp2_with fail
  refine (heldInt64S_any (lo := 0) (m := M0) (xs := zs) (by exact SeqOwn.at (intOwn_at (lo := 0)) gi_17.out (fun _ _ => Nat.zero_le _)) (by omega) (by rw [hCJ'.out]; exact hMb.out)).mono ?_
  rintro e w13 ⟨rfl, hb13⟩
  rw [hCJ'.out]
  have hB13 : Below w.heap.size w w13 := hBw12j.trans (hb13.mono hBw12j.size)
  have s13 := hb13.size
  have bA_18 : Hid (Box w13 w.heap.size [.int .i64 h.vNext, .int .i64 h.vDoc, .slice a2 h.vNodes.length cap2, .slice a3 h.vObjs.length cap3, .slice a4 h.vGlobals.length cap4] 26) := bA_17.out.below hb13 bA_17.out.lt
  have v0_18 : Hid (HeapOwn w13 [.int .i64 ys.vNext, .int .i64 ys.vDoc, .slice aw2 ys.vNodes.length cw2, .slice aw3 ys.vObjs.length cw3, .slice aw4 ys.vGlobals.length cw4] ys fw) := HeapOwn_stays _ _ _ _ _ (fun x hx => (hb13).block x (HeapOwn_lt _ _ _ _ v0_17.out x hx)) v0_17.out
  have vi_18 : Hid (SeqOwn 1 IntOwn w13 (.slice avi zs.length cvi) zs fwi) := SeqOwn.below intOwn_stays intOwn_lt vi_17.out (hb13)
  have bW_18 : Hid (Box w13 w3.heap.size [.int .i64 ys.vNext, .int .i64 ys.vDoc, .slice aw2 ys.vNodes.length cw2, .slice aw3 ys.vObjs.length cw3, .slice aw4 ys.vGlobals.length cw4] 32) := bW_17.out.below hb13 bW_17.out.lt
  have bX_18 : Hid (Box w13 w4.heap.size [.int .i64 h.vNext, .int .i64 h.vDoc, .slice e2 h.vNodes.length dap2, .slice e3 h.vObjs.length dap3, .slice e4 h.vGlobals.length dap4] 32) := bX_17.out.below hb13 bX_17.out.lt
  have g0_18 : Hid (HeapOwn w13 [.int .i64 ys.vNext, .int .i64 ys.vDoc, .slice ag2 ys.vNodes.length cg2, .slice ag3 ys.vObjs.length cg3, .slice ag4 ys.vGlobals.length cg4] (mkTHeap ys 1) fg) := HeapOwn_stays _ _ _ _ _ (fun x hx => (hb13).block x (HeapOwn_lt _ _ _ _ g0_17.out x hx)) g0_17.out
  have gi_18 : Hid (SeqOwn 1 IntOwn w13 (.slice agi zs.length cgi) (mkL cntI mkI zs (M0 : Int)) fgi) := SeqOwn.below intOwn_stays intOwn_lt gi_17.out (hb13)
  have bG_18 : Hid (Box w13 w6.heap.size [.int .i64 ys.vNext, .int .i64 ys.vDoc, .slice ag2 ys.vNodes.length cg2, .slice ag3 ys.vObjs.length cg3, .slice ag4 ys.vGlobals.length cg4] 32) := bG_17.out.below hb13 bG_17.out.lt
  clear bA_17 v0_17 vi_17 bW_17 bX_17 g0_17 gi_17 bG_17
  clear z17_bA_0 z17_bA_1 z17_bA_2 z17_bA_3 z17_bA_4 z17_bW_0 z17_bW_1 z17_bW_2 z17_bW_3 z17_bW_4 z17_bX_0 z17_bX_1 z17_bX_2 z17_bX_3 z17_bX_4 z17_bG_0 z17_bG_1 z17_bG_2 z17_bG_3 z17_bG_4
  have z18_bA_0 := bA_18.out.cell 0 rfl
  have z18_bA_1 := bA_18.out.cell 1 rfl
  have z18_bA_2 := bA_18.out.cell 2 rfl
  have z18_bA_3 := bA_18.out.cell 3 rfl
  have z18_bA_4 := bA_18.out.cell 4 rfl
  have z18_bW_0 := bW_18.out.cell 0 rfl
  have z18_bW_1 := bW_18.out.cell 1 rfl
  have z18_bW_2 := bW_18.out.cell 2 rfl
  have z18_bW_3 := bW_18.out.cell 3 rfl
  have z18_bW_4 := bW_18.out.cell 4 rfl
  have z18_bX_0 := bX_18.out.cell 0 rfl
  have z18_bX_1 := bX_18.out.cell 1 rfl
  have z18_bX_2 := bX_18.out.cell 2 rfl
  have z18_bX_3 := bX_18.out.cell 3 rfl
  have z18_bX_4 := bX_18.out.cell 4 rfl
  have z18_bG_0 := bG_18.out.cell 0 rfl
  have z18_bG_1 := bG_18.out.cell 1 rfl
  have z18_bG_2 := bG_18.out.cell 2 rfl
  have z18_bG_3 := bG_18.out.cell 3 rfl
  have z18_bG_4 := bG_18.out.cell 4 rfl
  go_wp2_with fail
  refine (toHeap_at (HeapAt_stays _ _ _ 0 _ _ (.of_below hB13) ht0.out) hsm.out).mono ?_
  rintro e w14 ⟨⟨cs14, rfl, ht14⟩, hb14⟩
  have hB14 : Below w.heap.size w w14 := hB13.trans (hb14.mono hB13.size)
  have s14 := hb14.size
  have ht14' : Hid (HeapAt w14 w13.heap.size cs14 h) := ht14
  have bA_19 : Hid (Box w14 w.heap.size [.int .i64 h.vNext, .int .i64 h.vDoc, .slice a2 h.vNodes.length cap2, .slice a3 h.vObjs.length cap3, .slice a4 h.vGlobals.length cap4] 26) := bA_18.out.below hb14 bA_18.out.lt
  have v0_19 : Hid (HeapOwn w14 [.int .i64 ys.vNext, .int .i64 ys.vDoc, .slice aw2 ys.vNodes.length cw2, .slice aw3 ys.vObjs.length cw3, .slice aw4 ys.vGlobals.length cw4] ys fw) := HeapOwn_stays _ _ _ _ _ (fun x hx => (hb14).block x (HeapOwn_lt _ _ _ _ v0_18.out x hx)) v0_18.out
  have vi_19 : Hid (SeqOwn 1 IntOwn w14 (.slice avi zs.length cvi) zs fwi) := SeqOwn.below intOwn_stays intOwn_lt vi_18.out (hb14)
  have bW_19 : Hid (Box w14 w3.heap.size [.int .i64 ys.vNext, .int .i64 ys.vDoc, .slice aw2 ys.vNodes.length cw2, .slice aw3 ys.vObjs.length cw3, .slice aw4 ys.vGlobals.length cw4] 32) := bW_18.out.below hb14 bW_18.out.lt
  have bX_19 : Hid (Box w14 w4.heap.size [.int .i64 h.vNext, .int .i64 h.vDoc, .slice e2 h.vNodes.length dap2, .slice e3 h.vObjs.length dap3, .slice e4 h.vGlobals.length dap4] 32) := bX_18.out.below hb14 bX_18.out.lt
  have g0_19 : Hid (HeapOwn w14 [.int .i64 ys.vNext, .int .i64 ys.vDoc, .slice ag2 ys.vNodes.length cg2, .slice ag3 ys.vObjs.length cg3, .slice ag4 ys.vGlobals.length cg4] (mkTHeap ys 1) fg) := HeapOwn_stays _ _ _ _ _ (fun x hx => (hb14).block x (HeapOwn_lt _ _ _ _ g0_18.out x hx)) g0_18.out
  have gi_19 : Hid (SeqOwn 1 IntOwn w14 (.slice agi zs.length cgi) (mkL cntI mkI zs (M0 : Int)) fgi) := SeqOwn.below intOwn_stays intOwn_lt gi_18.out (hb14)
  have bG_19 : Hid (Box w14 w6.heap.size [.int .i64 ys.vNext, .int .i64 ys.vDoc, .slice ag2 ys.vNodes.length cg2, .slice ag3 ys.vObjs.length cg3, .slice ag4 ys.vGlobals.length cg4] 32) := bG_18.out.below hb14 bG_18.out.lt
  clear bA_18 v0_18 vi_18 bW_18 bX_18 g0_18 gi_18 bG_18
  clear z18_bA_0 z18_bA_1 z18_bA_2 z18_bA_3 z18_bA_4 z18_bW_0 z18_bW_1 z18_bW_2 z18_bW_3 z18_bW_4 z18_bX_0 z18_bX_1 z18_bX_2 z18_bX_3 z18_bX_4 z18_bG_0 z18_bG_1 z18_bG_2 z18_bG_3 z18_bG_4
  have z19_bA_0 := bA_19.out.cell 0 rfl
  have z19_bA_1 := bA_19.out.cell 1 rfl
  have z19_bA_2 := bA_19.out.cell 2 rfl
  have z19_bA_3 := bA_19.out.cell 3 rfl
  have z19_bA_4 := bA_19.out.cell 4 rfl
  have z19_bW_0 := bW_19.out.cell 0 rfl
  have z19_bW_1 := bW_19.out.cell 1 rfl
  have z19_bW_2 := bW_19.out.cell 2 rfl
  have z19_bW_3 := bW_19.out.cell 3 rfl
  have z19_bW_4 := bW_19.out.cell 4 rfl
  have z19_bX_0 := bX_19.out.cell 0 rfl
  have z19_bX_1 := bX_19.out.cell 1 rfl
  have z19_bX_2 := bX_19.out.cell 2 rfl
  have z19_bX_3 := bX_19.out.cell 3 rfl
  have z19_bX_4 := bX_19.out.cell 4 rfl
  have z19_bG_0 := bG_19.out.cell 0 rfl
  have z19_bG_1 := bG_19.out.cell 1 rfl
  have z19_bG_2 := bG_19.out.cell 2 rfl
  have z19_bG_3 := bG_19.out.cell 3 rfl
  have z19_bG_4 := bG_19.out.cell 4 rfl
  clear ht14 hb14
  go_wp2_with fail
  refine (implCollected_any ht14'.out hsm.out hbb'.out).mono ?_
  rintro e w15 ⟨⟨csh, vh1, fh, fhi, rfl, ownh, ownhi, _⟩, hb15⟩
  rw [hYS'.out] at ownh ownhi
  dsimp only at ownh ownhi
  have hB15 : Below w.heap.size w w15 := hB14.trans (hb15.mono hB14.size)
  have s15 := hb15.size
  have bA_20 : Hid (Box w15 w.heap.size [.int .i64 h.vNext, .int .i64 h.vDoc, .slice a2 h.vNodes.length cap2, .slice a3 h.vObjs.length cap3, .slice a4 h.vGlobals.length cap4] 26) := bA_19.out.below hb15 bA_19.out.lt
  have v0_20 : Hid (HeapOwn w15 [.int .i64 ys.vNext, .int .i64 ys.vDoc, .slice aw2 ys.vNodes.length cw2, .slice aw3 ys.vObjs.length cw3, .slice aw4 ys.vGlobals.length cw4] ys fw) := HeapOwn_stays _ _ _ _ _ (fun x hx => (hb15).block x (HeapOwn_lt _ _ _ _ v0_19.out x hx)) v0_19.out
  have vi_20 : Hid (SeqOwn 1 IntOwn w15 (.slice avi zs.length cvi) zs fwi) := SeqOwn.below intOwn_stays intOwn_lt vi_19.out (hb15)
  have bW_20 : Hid (Box w15 w3.heap.size [.int .i64 ys.vNext, .int .i64 ys.vDoc, .slice aw2 ys.vNodes.length cw2, .slice aw3 ys.vObjs.length cw3, .slice aw4 ys.vGlobals.length cw4] 32) := bW_19.out.below hb15 bW_19.out.lt
  have bX_20 : Hid (Box w15 w4.heap.size [.int .i64 h.vNext, .int .i64 h.vDoc, .slice e2 h.vNodes.length dap2, .slice e3 h.vObjs.length dap3, .slice e4 h.vGlobals.length dap4] 32) := bX_19.out.below hb15 bX_19.out.lt
  have g0_20 : Hid (HeapOwn w15 [.int .i64 ys.vNext, .int .i64 ys.vDoc, .slice ag2 ys.vNodes.length cg2, .slice ag3 ys.vObjs.length cg3, .slice ag4 ys.vGlobals.length cg4] (mkTHeap ys 1) fg) := HeapOwn_stays _ _ _ _ _ (fun x hx => (hb15).block x (HeapOwn_lt _ _ _ _ g0_19.out x hx)) g0_19.out
  have gi_20 : Hid (SeqOwn 1 IntOwn w15 (.slice agi zs.length cgi) (mkL cntI mkI zs (M0 : Int)) fgi) := SeqOwn.below intOwn_stays intOwn_lt gi_19.out (hb15)
  have bG_20 : Hid (Box w15 w6.heap.size [.int .i64 ys.vNext, .int .i64 ys.vDoc, .slice ag2 ys.vNodes.length cg2, .slice ag3 ys.vObjs.length cg3, .slice ag4 ys.vGlobals.length cg4] 32) := bG_19.out.below hb15 bG_19.out.lt
  clear bA_19 v0_19 vi_19 bW_19 bX_19 g0_19 gi_19 bG_19
  clear z19_bA_0 z19_bA_1 z19_bA_2 z19_bA_3 z19_bA_4 z19_bW_0 z19_bW_1 z19_bW_2 z19_bW_3 z19_bW_4 z19_bX_0 z19_bX_1 z19_bX_2 z19_bX_3 z19_bX_4 z19_bG_0 z19_bG_1 z19_bG_2 z19_bG_3 z19_bG_4
  have z20_bA_0 := bA_20.out.cell 0 rfl
  have z20_bA_1 := bA_20.out.cell 1 rfl
  have z20_bA_2 := bA_20.out.cell 2 rfl
  have z20_bA_3 := bA_20.out.cell 3 rfl
  have z20_bA_4 := bA_20.out.cell 4 rfl
  have z20_bW_0 := bW_20.out.cell 0 rfl
  have z20_bW_1 := bW_20.out.cell 1 rfl
  have z20_bW_2 := bW_20.out.cell 2 rfl
  have z20_bW_3 := bW_20.out.cell 3 rfl
  have z20_bW_4 := bW_20.out.cell 4 rfl
  have z20_bX_0 := bX_20.out.cell 0 rfl
  have z20_bX_1 := bX_20.out.cell 1 rfl
  have z20_bX_2 := bX_20.out.cell 2 rfl
  have z20_bX_3 := bX_20.out.cell 3 rfl
  have z20_bX_4 := bX_20.out.cell 4 rfl
  have z20_bG_0 := bG_20.out.cell 0 rfl
  have z20_bG_1 := bG_20.out.cell 1 rfl
  have z20_bG_2 := bG_20.out.cell 2 rfl
  have z20_bG_3 := bG_20.out.cell 3 rfl
  have z20_bG_4 := bG_20.out.cell 4 rfl
  have h0_20 : Hid (HeapOwn w15 csh ys fh) := ownh
  have hi_20 : Hid (SeqOwn 1 IntOwn w15 vh1 zs fhi) := ownhi
  obtain ⟨ahi, chi, rfl⟩ := ownhi.form
  obtain ⟨q2_, q3_, q4_, _, _, _, rfl, r2_, r3_, r4_, _⟩ := ownh
  obtain ⟨ah2, ch2, rfl⟩ := r2_.form
  obtain ⟨ah3, ch3, rfl⟩ := r3_.form
  obtain ⟨ah4, ch4, rfl⟩ := r4_.form
  clear r2_ r3_ r4_
  have hbH : Below w15.heap.size w15 (w15.alloc (.cells #[.int .i64 ys.vNext, .int .i64 ys.vDoc, .slice ah2 ys.vNodes.length ch2, .slice ah3 ys.vObjs.length ch3, .slice ah4 ys.vGlobals.length ch4] 32)) := (Below.refl _ _).alloc (Nat.le_refl _) _
  have hBH : Below w.heap.size w (w15.alloc (.cells #[.int .i64 ys.vNext, .int .i64 ys.vDoc, .slice ah2 ys.vNodes.length ch2, .slice ah3 ys.vObjs.length ch3, .slice ah4 ys.vGlobals.length ch4] 32)) := hB15.trans (hbH.mono hB15.size)
  clear ownhi hb15
  have bA_21 : Hid (Box (w15.alloc (.cells #[.int .i64 ys.vNext, .int .i64 ys.vDoc, .slice ah2 ys.vNodes.length ch2, .slice ah3 ys.vObjs.length ch3, .slice ah4 ys.vGlobals.length ch4] 32)) w.heap.size [.int .i64 h.vNext, .int .i64 h.vDoc, .slice a2 h.vNodes.length cap2, .slice a3 h.vObjs.length cap3, .slice a4 h.vGlobals.length cap4] 26) := bA_20.out.below hbH bA_20.out.lt
  have v0_21 : Hid (HeapOwn (w15.alloc (.cells #[.int .i64 ys.vNext, .int .i64 ys.vDoc, .slice ah2 ys.vNodes.length ch2, .slice ah3 ys.vObjs.length ch3, .slice ah4 ys.vGlobals.length ch4] 32)) [.int .i64 ys.vNext, .int .i64 ys.vDoc, .slice aw2 ys.vNodes.length cw2, .slice aw3 ys.vObjs.length cw3, .slice aw4 ys.vGlobals.length cw4] ys fw) := HeapOwn_stays _ _ _ _ _ (fun x hx => (hbH).block x (HeapOwn_lt _ _ _ _ v0_20.out x hx)) v0_20.out
  have vi_21 : Hid (SeqOwn 1 IntOwn (w15.alloc (.cells #[.int .i64 ys.vNext, .int .i64 ys.vDoc, .slice ah2 ys.vNodes.length ch2, .slice ah3 ys.vObjs.length ch3, .slice ah4 ys.vGlobals.length ch4] 32)) (.slice avi zs.length cvi) zs fwi) := SeqOwn.below intOwn_stays intOwn_lt vi_20.out (hbH)
  have bW_21 : Hid (Box (w15.alloc (.cells #[.int .i64 ys.vNext, .int .i64 ys.vDoc, .slice ah2 ys.vNodes.length ch2, .slice ah3 ys.vObjs.length ch3, .slice ah4 ys.vGlobals.length ch4] 32)) w3.heap.size [.int .i64 ys.vNext, .int .i64 ys.vDoc, .slice aw2 ys.vNodes.length cw2, .slice aw3 ys.vObjs.length cw3, .slice aw4 ys.vGlobals.length cw4] 32) := bW_20.out.below hbH bW_20.out.lt
  have bX_21 : Hid (Box (w15.alloc (.cells #[.int .i64 ys.vNext, .int .i64 ys.vDoc, .slice ah2 ys.vNodes.length ch2, .slice ah3 ys.vObjs.length ch3, .slice ah4 ys.vGlobals.length ch4] 32)) w4.heap.size [.int .i64 h.vNext, .int .i64 h.vDoc, .slice e2 h.vNodes.length dap2, .slice e3 h.vObjs.length dap3, .slice e4 h.vGlobals.length dap4] 32) := bX_20.out.below hbH bX_20.out.lt
  have g0_21 : Hid (HeapOwn (w15.alloc (.cells #[.int .i64 ys.vNext, .int .i64 ys.vDoc, .slice ah2 ys.vNodes.length ch2, .slice ah3 ys.vObjs.length ch3, .slice ah4 ys.vGlobals.length ch4] 32)) [.int .i64 ys.vNext, .int .i64 ys.vDoc, .slice ag2 ys.vNodes.length cg2, .slice ag3 ys.vObjs.length cg3, .slice ag4 ys.vGlobals.length cg4] (mkTHeap ys 1) fg) := HeapOwn_stays _ _ _ _ _ (fun x hx => (hbH).block x (HeapOwn_lt _ _ _ _ g0_20.out x hx)) g0_20.out
  have gi_21 : Hid (SeqOwn 1 IntOwn (w15.alloc (.cells #[.int .i64 ys.vNext, .int .i64 ys.vDoc, .slice ah2 ys.vNodes.length ch2, .slice ah3 ys.vObjs.length ch3, .slice ah4 ys.vGlobals.length ch4] 32)) (.slice agi zs.length cgi) (mkL cntI mkI zs (M0 : Int)) fgi) := SeqOwn.below intOwn_stays intOwn_lt gi_20.out (hbH)
  have bG_21 : Hid (Box (w15.alloc (.cells #[.int .i64 ys.vNext, .int .i64 ys.vDoc, .slice ah2 ys.vNodes.length ch2, .slice ah3 ys.vObjs.length ch3, .slice ah4 ys.vGlobals.length ch4] 32)) w6.heap.size [.int .i64 ys.vNext, .int .i64 ys.vDoc, .slice ag2 ys.vNodes.length cg2, .slice ag3 ys.vObjs.length cg3, .slice ag4 ys.vGlobals.length cg4] 32) := bG_20.out.below hbH bG_20.out.lt
  have h0_21 : Hid (HeapOwn (w15.alloc (.cells #[.int .i64 ys.vNext, .int .i64 ys.vDoc, .slice ah2 ys.vNodes.length ch2, .slice ah3 ys.vObjs.length ch3, .slice ah4 ys.vGlobals.length ch4] 32)) [.int .i64 ys.vNext, .int .i64 ys.vDoc, .slice ah2 ys.vNodes.length ch2, .slice ah3 ys.vObjs.length ch3, .slice ah4 ys.vGlobals.length ch4] ys fh) := HeapOwn_stays _ _ _ _ _ (fun x hx => (hbH).block x (HeapOwn_lt _ _ _ _ h0_20.out x hx)) h0_20.out
  have hi_21 : Hid (SeqOwn 1 IntOwn (w15.alloc (.cells #[.int .i64 ys.vNext, .int .i64 ys.vDoc, .slice ah2 ys.vNodes.length ch2, .slice ah3 ys.vObjs.length ch3, .slice ah4 ys.vGlobals.length ch4] 32)) (.slice ahi zs.length chi) zs fhi) := SeqOwn.below intOwn_stays intOwn_lt hi_20.out (hbH)
  clear bA_20 v0_20 vi_20 bW_20 bX_20 g0_20 gi_20 bG_20 h0_20 hi_20
  clear z20_bA_0 z20_bA_1 z20_bA_2 z20_bA_3 z20_bA_4 z20_bW_0 z20_bW_1 z20_bW_2 z20_bW_3 z20_bW_4 z20_bX_0 z20_bX_1 z20_bX_2 z20_bX_3 z20_bX_4 z20_bG_0 z20_bG_1 z20_bG_2 z20_bG_3 z20_bG_4
  have z21_bA_0 := bA_21.out.cell 0 rfl
  have z21_bA_1 := bA_21.out.cell 1 rfl
  have z21_bA_2 := bA_21.out.cell 2 rfl
  have z21_bA_3 := bA_21.out.cell 3 rfl
  have z21_bA_4 := bA_21.out.cell 4 rfl
  have z21_bW_0 := bW_21.out.cell 0 rfl
  have z21_bW_1 := bW_21.out.cell 1 rfl
  have z21_bW_2 := bW_21.out.cell 2 rfl
  have z21_bW_3 := bW_21.out.cell 3 rfl
  have z21_bW_4 := bW_21.out.cell 4 rfl
  have z21_bX_0 := bX_21.out.cell 0 rfl
  have z21_bX_1 := bX_21.out.cell 1 rfl
  have z21_bX_2 := bX_21.out.cell 2 rfl
  have z21_bX_3 := bX_21.out.cell 3 rfl
  have z21_bX_4 := bX_21.out.cell 4 rfl
  have z21_bG_0 := bG_21.out.cell 0 rfl
  have z21_bG_1 := bG_21.out.cell 1 rfl
  have z21_bG_2 := bG_21.out.cell 2 rfl
  have z21_bG_3 := bG_21.out.cell 3 rfl
  have z21_bG_4 := bG_21.out.cell 4 rfl
  go_wp2_with fail
  refine (eqHeap_any (lo := 0) (lo2 := 0) (by exact HeapOwn_at (lo := 0) _ _ _ _ h0_21.out (fun _ _ => Nat.zero_le _)) (by exact HeapOwn_at (lo := 0) _ _ _ _ v0_21.out (fun _ _ => Nat.zero_le _))).mono ?_
  rintro e w16 ⟨rfl, hb16⟩
  have hB16 : Below w.heap.size w w16 := hBH.trans (hb16.mono hBH.size)
  have bA_22 : Hid (Box w16 w.heap.size [.int .i64 h.vNext, .int .i64 h.vDoc, .slice a2 h.vNodes.length cap2, .slice a3 h.vObjs.length cap3, .slice a4 h.vGlobals.length cap4] 26) := bA_21.out.below hb16 bA_21.out.lt
  have v0_22 : Hid (HeapOwn w16 [.int .i64 ys.vNext, .int .i64 ys.vDoc, .slice aw2 ys.vNodes.length cw2, .slice aw3 ys.vObjs.length cw3, .slice aw4 ys.vGlobals.length cw4] ys fw) := HeapOwn_stays _ _ _ _ _ (fun x hx => (hb16).block x (HeapOwn_lt _ _ _ _ v0_21.out x hx)) v0_21.out
  have vi_22 : Hid (SeqOwn 1 IntOwn w16 (.slice avi zs.length cvi) zs fwi) := SeqOwn.below intOwn_stays intOwn_lt vi_21.out (hb16)
  have bW_22 : Hid (Box w16 w3.heap.size [.int .i64 ys.vNext, .int .i64 ys.vDoc, .slice aw2 ys.vNodes.length cw2, .slice aw3 ys.vObjs.length cw3, .slice aw4 ys.vGlobals.length cw4] 32) := bW_21.out.below hb16 bW_21.out.lt
  have bX_22 : Hid (Box w16 w4.heap.size [.int .i64 h.vNext, .int .i64 h.vDoc, .slice e2 h.vNodes.length dap2, .slice e3 h.vObjs.length dap3, .slice e4 h.vGlobals.length dap4] 32) := bX_21.out.below hb16 bX_21.out.lt
  have g0_22 : Hid (HeapOwn w16 [.int .i64 ys.vNext, .int .i64 ys.vDoc, .slice ag2 ys.vNodes.length cg2, .slice ag3 ys.vObjs.length cg3, .slice ag4 ys.vGlobals.length cg4] (mkTHeap ys 1) fg) := HeapOwn_stays _ _ _ _ _ (fun x hx => (hb16).block x (HeapOwn_lt _ _ _ _ g0_21.out x hx)) g0_21.out
  have gi_22 : Hid (SeqOwn 1 IntOwn w16 (.slice agi zs.length cgi) (mkL cntI mkI zs (M0 : Int)) fgi) := SeqOwn.below intOwn_stays intOwn_lt gi_21.out (hb16)
  have bG_22 : Hid (Box w16 w6.heap.size [.int .i64 ys.vNext, .int .i64 ys.vDoc, .slice ag2 ys.vNodes.length cg2, .slice ag3 ys.vObjs.length cg3, .slice ag4 ys.vGlobals.length cg4] 32) := bG_21.out.below hb16 bG_21.out.lt
  have h0_22 : Hid (HeapOwn w16 [.int .i64 ys.vNext, .int .i64 ys.vDoc, .slice ah2 ys.vNodes.length ch2, .slice ah3 ys.vObjs.length ch3, .slice ah4 ys.vGlobals.length ch4] ys fh) := HeapOwn_stays _ _ _ _ _ (fun x hx => (hb16).block x (HeapOwn_lt _ _ _ _ h0_21.out x hx)) h0_21.out
  have hi_22 : Hid (SeqOwn 1 IntOwn w16 (.slice ahi zs.length chi) zs fhi) := SeqOwn.below intOwn_stays intOwn_lt hi_21.out (hb16)
  clear bA_21 v0_21 vi_21 bW_21 bX_21 g0_21 gi_21 bG_21 h0_21 hi_21
  clear z21_bA_0 z21_bA_1 z21_bA_2 z21_bA_3 z21_bA_4 z21_bW_0 z21_bW_1 z21_bW_2 z21_bW_3 z21_bW_4 z21_bX_0 z21_bX_1 z21_bX_2 z21_bX_3 z21_bX_4 z21_bG_0 z21_bG_1 z21_bG_2 z21_bG_3 z21_bG_4
  have z22_bA_0 := bA_22.out.cell 0 rfl
  have z22_bA_1 := bA_22.out.cell 1 rfl
  have z22_bA_2 := bA_22.out.cell 2 rfl
  have z22_bA_3 := bA_22.out.cell 3 rfl
  have z22_bA_4 := bA_22.out.cell 4 rfl
  have z22_bW_0 := bW_22.out.cell 0 rfl
  have z22_bW_1 := bW_22.out.cell 1 rfl
  have z22_bW_2 := bW_22.out.cell 2 rfl
  have z22_bW_3 := bW_22.out.cell 3 rfl
  have z22_bW_4 := bW_22.out.cell 4 rfl
  have z22_bX_0 := bX_22.out.cell 0 rfl
  have z22_bX_1 := bX_22.out.cell 1 rfl
  have z22_bX_2 := bX_22.out.cell 2 rfl
  have z22_bX_3 := bX_22.out.cell 3 rfl
  have z22_bX_4 := bX_22.out.cell 4 rfl
  have z22_bG_0 := bG_22.out.cell 0 rfl
  have z22_bG_1 := bG_22.out.cell 1 rfl
  have z22_bG_2 := bG_22.out.cell 2 rfl
  have z22_bG_3 := bG_22.out.cell 3 rfl
  have z22_bG_4 := bG_22.out.cell 4 rfl
  go_wp2_with fail
  refine (eqInt64S_any (lo := 0) (lo2 := 0) (by exact SeqOwn.at (intOwn_at (lo := 0)) hi_22.out (fun _ _ => Nat.zero_le _)) (by exact SeqOwn.at (intOwn_at (lo := 0)) vi_22.out (fun _ _ => Nat.zero_le _))).mono ?_
  rintro e w16i ⟨rfl, hbw16i⟩
  have hBw16i : Below w.heap.size w w16i := hB16.trans (hbw16i.mono hB16.size)
  have sw16i := hbw16i.size
  have bA_23 : Hid (Box w16i w.heap.size [.int .i64 h.vNext, .int .i64 h.vDoc, .slice a2 h.vNodes.length cap2, .slice a3 h.vObjs.length cap3, .slice a4 h.vGlobals.length cap4] 26) := bA_22.out.below hbw16i bA_22.out.lt
  have v0_23 : Hid (HeapOwn w16i [.int .i64 ys.vNext, .int .i64 ys.vDoc, .slice aw2 ys.vNodes.length cw2, .slice aw3 ys.vObjs.length cw3, .slice aw4 ys.vGlobals.length cw4] ys fw) := HeapOwn_stays _ _ _ _ _ (fun x hx => (hbw16i).block x (HeapOwn_lt _ _ _ _ v0_22.out x hx)) v0_22.out
  have vi_23 : Hid (SeqOwn 1 IntOwn w16i (.slice avi zs.length cvi) zs fwi) := SeqOwn.below intOwn_stays intOwn_lt vi_22.out (hbw16i)
  have bW_23 : Hid (Box w16i w3.heap.size [.int .i64 ys.vNext, .int .i64 ys.vDoc, .slice aw2 ys.vNodes.length cw2, .slice aw3 ys.vObjs.length cw3, .slice aw4 ys.vGlobals.length cw4] 32) := bW_22.out.below hbw16i bW_22.out.lt
  have bX_23 : Hid (Box w16i w4.heap.size [.int .i64 h.vNext, .int .i64 h.vDoc, .slice e2 h.vNodes.length dap2, .slice e3 h.vObjs.length dap3, .slice e4 h.vGlobals.length dap4] 32) := bX_22.out.below hbw16i bX_22.out.lt
  have g0_23 : Hid (HeapOwn w16i [.int .i64 ys.vNext, .int .i64 ys.vDoc, .slice ag2 ys.vNodes.length cg2, .slice ag3 ys.vObjs.length cg3, .slice ag4 ys.vGlobals.length cg4] (mkTHeap ys 1) fg) := HeapOwn_stays _ _ _ _ _ (fun x hx => (hbw16i).block x (HeapOwn_lt _ _ _ _ g0_22.out x hx)) g0_22.out
  have gi_23 : Hid (SeqOwn 1 IntOwn w16i (.slice agi zs.length cgi) (mkL cntI mkI zs (M0 : Int)) fgi) := SeqOwn.below intOwn_stays intOwn_lt gi_22.out (hbw16i)
  have bG_23 : Hid (Box w16i w6.heap.size [.int .i64 ys.vNext, .int .i64 ys.vDoc, .slice ag2 ys.vNodes.length cg2, .slice ag3 ys.vObjs.length cg3, .slice ag4 ys.vGlobals.length cg4] 32) := bG_22.out.below hbw16i bG_22.out.lt
  have h0_23 : Hid (HeapOwn w16i [.int .i64 ys.vNext, .int .i64 ys.vDoc, .slice ah2 ys.vNodes.length ch2, .slice ah3 ys.vObjs.length ch3, .slice ah4 ys.vGlobals.length ch4] ys fh) := HeapOwn_stays _ _ _ _ _ (fun x hx => (hbw16i).block x (HeapOwn_lt _ _ _ _ h0_22.out x hx)) h0_22.out
  have hi_23 : Hid (SeqOwn 1 IntOwn w16i (.slice ahi zs.length chi) zs fhi) := SeqOwn.below intOwn_stays intOwn_lt hi_22.out (hbw16i)
  clear bA_22 v0_22 vi_22 bW_22 bX_22 g0_22 gi_22 bG_22 h0_22 hi_22
  clear z22_bA_0 z22_bA_1 z22_bA_2 z22_bA_3 z22_bA_4 z22_bW_0 z22_bW_1 z22_bW_2 z22_bW_3 z22_bW_4 z22_bX_0 z22_bX_1 z22_bX_2 z22_bX_3 z22_bX_4 z22_bG_0 z22_bG_1 z22_bG_2 z22_bG_3 z22_bG_4
  have z23_bA_0 := bA_23.out.cell 0 rfl
  have z23_bA_1 := bA_23.out.cell 1 rfl
  have z23_bA_2 := bA_23.out.cell 2 rfl
  have z23_bA_3 := bA_23.out.cell 3 rfl
  have z23_bA_4 := bA_23.out.cell 4 rfl
  have z23_bW_0 := bW_23.out.cell 0 rfl
  have z23_bW_1 := bW_23.out.cell 1 rfl
  have z23_bW_2 := bW_23.out.cell 2 rfl
  have z23_bW_3 := bW_23.out.cell 3 rfl
  have z23_bW_4 := bW_23.out.cell 4 rfl
  have z23_bX_0 := bX_23.out.cell 0 rfl
  have z23_bX_1 := bX_23.out.cell 1 rfl
  have z23_bX_2 := bX_23.out.cell 2 rfl
  have z23_bX_3 := bX_23.out.cell 3 rfl
  have z23_bX_4 := bX_23.out.cell 4 rfl
  have z23_bG_0 := bG_23.out.cell 0 rfl
  have z23_bG_1 := bG_23.out.cell 1 rfl
  have z23_bG_2 := bG_23.out.cell 2 rfl
  have z23_bG_3 := bG_23.out.cell 3 rfl
  have z23_bG_4 := bG_23.out.cell 4 rfl
  go_wp2_with fail
  refine (heldHeap_any (lo := 0) (m := 1) (x := ys) (by exact HeapOwn_at (lo := 0) _ _ _ _ g0_23.out (fun _ _ => Nat.zero_le _)) (by omega) (by rw [hCI'.out]; have := hYL.out; omega)).mono ?_
  rintro e w17 ⟨rfl, hb17⟩
  rw [hCI'.out]
  have hB17 : Below w.heap.size w w17 := hBw16i.trans (hb17.mono hBw16i.size)
  have bA_24 : Hid (Box w17 w.heap.size [.int .i64 h.vNext, .int .i64 h.vDoc, .slice a2 h.vNodes.length cap2, .slice a3 h.vObjs.length cap3, .slice a4 h.vGlobals.length cap4] 26) := bA_23.out.below hb17 bA_23.out.lt
  have v0_24 : Hid (HeapOwn w17 [.int .i64 ys.vNext, .int .i64 ys.vDoc, .slice aw2 ys.vNodes.length cw2, .slice aw3 ys.vObjs.length cw3, .slice aw4 ys.vGlobals.length cw4] ys fw) := HeapOwn_stays _ _ _ _ _ (fun x hx => (hb17).block x (HeapOwn_lt _ _ _ _ v0_23.out x hx)) v0_23.out
  have vi_24 : Hid (SeqOwn 1 IntOwn w17 (.slice avi zs.length cvi) zs fwi) := SeqOwn.below intOwn_stays intOwn_lt vi_23.out (hb17)
  have bW_24 : Hid (Box w17 w3.heap.size [.int .i64 ys.vNext, .int .i64 ys.vDoc, .slice aw2 ys.vNodes.length cw2, .slice aw3 ys.vObjs.length cw3, .slice aw4 ys.vGlobals.length cw4] 32) := bW_23.out.below hb17 bW_23.out.lt
  have bX_24 : Hid (Box w17 w4.heap.size [.int .i64 h.vNext, .int .i64 h.vDoc, .slice e2 h.vNodes.length dap2, .slice e3 h.vObjs.length dap3, .slice e4 h.vGlobals.length dap4] 32) := bX_23.out.below hb17 bX_23.out.lt
  have g0_24 : Hid (HeapOwn w17 [.int .i64 ys.vNext, .int .i64 ys.vDoc, .slice ag2 ys.vNodes.length cg2, .slice ag3 ys.vObjs.length cg3, .slice ag4 ys.vGlobals.length cg4] (mkTHeap ys 1) fg) := HeapOwn_stays _ _ _ _ _ (fun x hx => (hb17).block x (HeapOwn_lt _ _ _ _ g0_23.out x hx)) g0_23.out
  have gi_24 : Hid (SeqOwn 1 IntOwn w17 (.slice agi zs.length cgi) (mkL cntI mkI zs (M0 : Int)) fgi) := SeqOwn.below intOwn_stays intOwn_lt gi_23.out (hb17)
  have bG_24 : Hid (Box w17 w6.heap.size [.int .i64 ys.vNext, .int .i64 ys.vDoc, .slice ag2 ys.vNodes.length cg2, .slice ag3 ys.vObjs.length cg3, .slice ag4 ys.vGlobals.length cg4] 32) := bG_23.out.below hb17 bG_23.out.lt
  have h0_24 : Hid (HeapOwn w17 [.int .i64 ys.vNext, .int .i64 ys.vDoc, .slice ah2 ys.vNodes.length ch2, .slice ah3 ys.vObjs.length ch3, .slice ah4 ys.vGlobals.length ch4] ys fh) := HeapOwn_stays _ _ _ _ _ (fun x hx => (hb17).block x (HeapOwn_lt _ _ _ _ h0_23.out x hx)) h0_23.out
  have hi_24 : Hid (SeqOwn 1 IntOwn w17 (.slice ahi zs.length chi) zs fhi) := SeqOwn.below intOwn_stays intOwn_lt hi_23.out (hb17)
  clear bA_23 v0_23 vi_23 bW_23 bX_23 g0_23 gi_23 bG_23 h0_23 hi_23
  clear z23_bA_0 z23_bA_1 z23_bA_2 z23_bA_3 z23_bA_4 z23_bW_0 z23_bW_1 z23_bW_2 z23_bW_3 z23_bW_4 z23_bX_0 z23_bX_1 z23_bX_2 z23_bX_3 z23_bX_4 z23_bG_0 z23_bG_1 z23_bG_2 z23_bG_3 z23_bG_4
  have z24_bA_0 := bA_24.out.cell 0 rfl
  have z24_bA_1 := bA_24.out.cell 1 rfl
  have z24_bA_2 := bA_24.out.cell 2 rfl
  have z24_bA_3 := bA_24.out.cell 3 rfl
  have z24_bA_4 := bA_24.out.cell 4 rfl
  have z24_bW_0 := bW_24.out.cell 0 rfl
  have z24_bW_1 := bW_24.out.cell 1 rfl
  have z24_bW_2 := bW_24.out.cell 2 rfl
  have z24_bW_3 := bW_24.out.cell 3 rfl
  have z24_bW_4 := bW_24.out.cell 4 rfl
  have z24_bX_0 := bX_24.out.cell 0 rfl
  have z24_bX_1 := bX_24.out.cell 1 rfl
  have z24_bX_2 := bX_24.out.cell 2 rfl
  have z24_bX_3 := bX_24.out.cell 3 rfl
  have z24_bX_4 := bX_24.out.cell 4 rfl
  have z24_bG_0 := bG_24.out.cell 0 rfl
  have z24_bG_1 := bG_24.out.cell 1 rfl
  have z24_bG_2 := bG_24.out.cell 2 rfl
  have z24_bG_3 := bG_24.out.cell 3 rfl
  have z24_bG_4 := bG_24.out.cell 4 rfl
  go_wp2_with fail
  refine (heldInt64S_any (lo := 0) (m := M0) (xs := zs) (by exact SeqOwn.at (intOwn_at (lo := 0)) gi_24.out (fun _ _ => Nat.zero_le _)) (by omega) (by rw [hCJ'.out]; exact hMb.out)).mono ?_
  rintro e w18 ⟨rfl, hb18⟩
  rw [hCJ'.out]
  have hB18 : Below w.heap.size w w18 := hB17.trans (hb18.mono hB17.size)
  go_wp2_with fail
  go_ret
  exact ⟨rfl, hB18⟩
/-! The row -/
set_option maxRecDepth 100000 in
theorem lifted (os : Os) (started : os.Started) (H : Type) (enc : TypeId × Value → H) :
    ReturnsInHanded {} Tryz.checked os 3 .any (Rows.fnExactCollectedSpec.pre6 enc Tryz.prog Tryz.f3 Rows.fnExactCollectedRow.domain false) (Rows.fnExactCollectedSpec.post enc Tryz.prog Tryz.f3 false true false false) := by
  refine returnsInHanded_of_change (C := Tryz.checked) own started (by kernel_rfl) Tryz.func3
    (ChangeSpec.witness6 (enc := enc) (C := Tryz.checked) false ⟨#[], #[.agg #[.int .i64 0, .int .i64 0, .slice none 0 0, .slice none 0 0, .slice none 0 0]], []⟩ 8 (by kernel_rfl) (by kernel_rfl) (by kernel_rfl) (by kernel_rfl)) ?_
  intro W base args ds gs before hval0 hW hcnd _
  have hval : ∀ (j : Nat) t v, Tryz.f3.params[j]? = some t → args[j]? = some v → Value.okWide Tryz.prog W .any base t v := hval0
  have hW' := hW
  obtain ⟨p, q, hA0, hV, rfl, hfz, hnd⟩ := hW
  have hA : DataW.TrodAll enc Tryz.prog W 0 (fun _ => true) true Tryz.f3.params.toList args.toList ds p := hA0
  rw [Tryz.params3] at hA hval
  obtain ⟨v0, vs0, d0, ds0, p0, q0, hargs, rfl, rfl, h0, r0⟩ := trodAll_cons hA
  obtain ⟨rfl, rfl, rfl⟩ := trodAll_nil r0
  obtain rfl : args = #[v0] := by cases args; simp_all
  obtain ⟨rfl, rfl⟩ := trodVars_none hV
  have k0 := h0
  have lt0 : ∀ x ∈ p0, x.block < W.heap.size := by obtain ⟨m, hm⟩ := k0; exact DataW.trod_lt m _ _ _ hm
  obtain ⟨cs, rfl, _⟩ := okWide_struct Tryz.underlying26 (hval 0 26 v0 rfl rfl)
  obtain ⟨fuel, hf⟩ := h0
  obtain ⟨h, ht⟩ := HeapAt_of_trod fuel _ _ hf
  have hcs : (Value.agg cs).cells = cs := rfl
  rw [hcs] at ht
  clear hA0 hval0
  have hwk := walk ht
  rw [Array.toArray_toList] at hwk
  refine hwk.mono fun e W' ⟨he, bel⟩ => ?_
  subst he
  exact ⟨_, rfl, _, _, _, [], _, [], hW', trodAll_mk1 (shut_bool Tryz.underlying4 _), (trodAll_cons_mk (Below.trod laidOut (by kernel_rfl) (of_decide_eq_true (by kernel_rfl)) k0 bel lt0) trodAll_mk0), rfl, bel.frame _, fun h => by cases h⟩
theorem over : Rows.fnExactCollectedRow.holds Tryz.pinned (OpenSpec.ofChange Rows.fnExactCollectedSpec) :=
  OpenClaim.holds_of_wide 3 Tryz.f3 rfl rfl rfl rfl rfl rfl rfl ⟨rfl, rfl, rfl, rfl, rfl⟩ rfl rfl rfl rfl rfl (by kernel_rfl) Tryz.func3 (by kernel_rfl)
    (of_decide_eq_true (by kernel_rfl)) (by unfold Func.isWrapper; first | (rw [if_pos (by decide +kernel)]; kernel_rfl) | (rw [if_neg (by decide +kernel)]; exact ⟨rfl, rfl⟩))
    (fun os started H enc _ => lifted os started H enc)
end Go.Proofs.YtnonfehmbabfhaaGreat.fnExactCollected
namespace Go.Proofs.YtnonfehmbabfhaaGreat
theorem fnExactCollected_holds : Rows.FnExactCollectedSaid := fnExactCollected.over
end Go.Proofs.YtnonfehmbabfhaaGreat
