/- At every heap and list Freed answers as its specification, writes into no argument, and its answer owns its memory, behind another call too. No condition. -/
import Derived.Test.YtnonfehmbabfhaaGreatSzRecs
import Derived.Test.YtnonfehmbabfhaaGreatToOwn
import Derived.Test.YtnonfehmbabfhaaGreatEqRecs
import Derived.Test.YtnonfehmbabfhaaGreatMarkTops
import Derived.Test.YtnonfehmbabfhaaGreatCntPlain
import Derived.Test.YtnonfehmbabfhaaGreatFreedTop
import Derived.ProofKit
import Derived.OpenShut
import Derived.ShutString
import Derived.ChangeOld
import Derived.Below
import Derived.ChangeMaps5
namespace Go.Proofs.YtnonfehmbabfhaaGreat.fnExactFreed
open Go.ChangeShapes Go.WideShapes Go.ChangeAt Go.RowKit
theorem own : ownKnob Tryz.prog.godebug = none := by kernel_rfl
theorem laidOut : laidOutB Tryz.prog = true := by kernel_rfl
theorem toHeap_at {w : World} {lo : Nat} {cs : List Value} {x : HeapD} (hx : HeapAt w lo cs x) (hs : x.small) :
    Calls Tryz.prog 7 #[.agg cs.toArray] w fun e w' => (∃ cs', e = .returned (.agg cs'.toArray) ∧ HeapAt w' w.heap.size cs' x) ∧ Below w.heap.size w w' :=
  (toHeap_own hx hs).mono fun _ _ ⟨⟨cs', _, he, ho, _, hl⟩, hb⟩ => ⟨⟨cs', he, HeapOwn_at _ _ _ _ ho hl⟩, hb⟩
theorem toInt64S_at {w : World} {lo : Nat} {k : Value} {xs : List Int} (hk : SeqAt 1 IntAt w lo k xs) (hl : xs.length ≤ 1048576) :
    Calls Tryz.prog 16 #[k] w fun e w' => (∃ k', e = .returned k' ∧ SeqAt 1 IntAt w' w.heap.size k' xs) ∧ Below w.heap.size w w' :=
  (toInt64S_own hk hl).mono fun _ _ ⟨⟨k', _, he, ho, _, hlo⟩, hb⟩ => ⟨⟨k', he, ho.at (intOwn_at (lo := _)) hlo⟩, hb⟩
theorem cntHeap_small {h : HeapD} (hs : h.small) : (1 : Int) + (cntL cntNode h.vNodes : Nat) + (cntL cntObj h.vObjs : Nat) + (cntL cntField h.vGlobals : Nat) ≤ 20000000000000 := by
  obtain ⟨hn, ho, hg, _⟩ := hs
  have h1 : cntL cntNode h.vNodes ≤ 1048576 * (1048576 * 8) := cntL_most hn.1 fun i hi => by
    obtain ⟨_, hk, hl, _⟩ := hn.2 i hi
    have k1 : cntL cntI h.vNodes[i].vKids ≤ 1048576 := by rw [cntL_int]; exact hk
    have k2 : cntL cntListener h.vNodes[i].vListeners ≤ 1048576 * 5 := cntL_most hl.1 fun j hj => Nat.le_refl _
    unfold cntNode
    omega
  have h2 : cntL cntObj h.vObjs ≤ 1048576 * (1048576 * 8) := cntL_most ho.1 fun i hi => by
    obtain ⟨hf, _⟩ := ho.2 i hi
    have k2 : cntL cntField h.vObjs[i].vFields ≤ 1048576 * 2 := cntL_most hf.1 fun j hj => Nat.le_refl _
    unfold cntObj
    omega
  have h3 : cntL cntField h.vGlobals ≤ 1048576 * 2 := cntL_most hg.1 fun j hj => Nat.le_refl _
  omega
theorem keepH {w wr w1 : World} {g1 g2 T1 T2 : Nat} {v0 v1 v2 v3 v4 u0 u1 u2 u3 u4 : Value} (hb : Below w.heap.size w wr) (hb1 : Below wr.heap.size wr w1) (b1 : Box wr g1 [v0, v1, v2, v3, v4] T1) (b2 : Box wr g2 [u0, u1, u2, u3, u4] T2) :
    w1.cell? ⟨g1, 0, none⟩ = some v0 ∧ w1.cell? ⟨g1, 1, none⟩ = some v1 ∧ w1.cell? ⟨g1, 2, none⟩ = some v2 ∧ w1.cell? ⟨g1, 3, none⟩ = some v3 ∧ w1.cell? ⟨g1, 4, none⟩ = some v4 ∧ w1.cell? ⟨g2, 0, none⟩ = some u0 ∧ w1.cell? ⟨g2, 1, none⟩ = some u1 ∧ w1.cell? ⟨g2, 2, none⟩ = some u2 ∧ w1.cell? ⟨g2, 3, none⟩ = some u3 ∧ w1.cell? ⟨g2, 4, none⟩ = some u4 ∧ Hid (Below w.heap.size w w1 ∧ Box w1 g1 [v0, v1, v2, v3, v4] T1 ∧ Box w1 g2 [u0, u1, u2, u3, u4] T2) := by
  have k1 := b1.below hb1 b1.lt
  have k2 := b2.below hb1 b2.lt
  exact ⟨k1.cell 0 rfl, k1.cell 1 rfl, k1.cell 2 rfl, k1.cell 3 rfl, k1.cell 4 rfl, k2.cell 0 rfl, k2.cell 1 rfl, k2.cell 2 rfl, k2.cell 3 rfl, k2.cell 4 rfl, hb.trans (hb1.mono hb.size), k1, k2⟩
set_option maxRecDepth 100000 in
set_option maxHeartbeats 6400000 in
theorem walk {w : World} {cs : List Value} {h : HeapD} {kI : Value} {ids : List Int} (ht : HeapAt w 0 cs h) (hti : SeqAt 1 IntAt w 0 kI ids) :
    Calls Tryz.prog 4 #[.agg cs.toArray, kI] w fun e w' => e = .returned (.bool true) ∧ Below w.heap.size w w' := by
  have ht0 : Hid (HeapAt w 0 cs h) := ht
  have hti0 : Hid (SeqAt 1 IntAt w 0 kI ids) := hti
  obtain ⟨ai, capi, rfl⟩ := hti.form
  obtain ⟨k2, k3, k4, rfl, s2, s3, s4, _⟩ := ht
  obtain ⟨a2, cap2, rfl⟩ := s2.form
  obtain ⟨a3, cap3, rfl⟩ := s3.form
  obtain ⟨a4, cap4, rfl⟩ := s4.form
  clear s2 s3 s4 hti
  have hb0 : Below w.heap.size w (w.alloc (.cells #[.int .i64 h.vNext, .int .i64 h.vDoc, .slice a2 h.vNodes.length cap2, .slice a3 h.vObjs.length cap3, .slice a4 h.vGlobals.length cap4] 26)) := (Below.refl _ _).alloc (Nat.le_refl _) _
  have bA_0 : Hid (Box (w.alloc (.cells #[.int .i64 h.vNext, .int .i64 h.vDoc, .slice a2 h.vNodes.length cap2, .slice a3 h.vObjs.length cap3, .slice a4 h.vGlobals.length cap4] 26)) w.heap.size [.int .i64 h.vNext, .int .i64 h.vDoc, .slice a2 h.vNodes.length cap2, .slice a3 h.vObjs.length cap3, .slice a4 h.vGlobals.length cap4] 26) := Box.new w _ _
  by_cases hbig : 1048576 < ids.length
  · have hbig' : (1048576 : Int) < (ids.length : Int) := by omega
    clear hbig
    go_enter Tryz.func4, Tryz.ntmps4
    go_wp2_with fail
    go_ret
    exact ⟨rfl, hb0⟩
  have hil : Hid (ids.length ≤ 1048576) := by show _ ≤ _; omega
  have hbig' : decide ((1048576 : Int) < (ids.length : Int)) = false := by simp; omega
  clear hbig
  obtain ⟨bb, hbb⟩ : ∃ bb, (specB h && thereB h ids) = bb := ⟨_, rfl⟩
  have hbb' : Hid ((specB h && thereB h ids) = bb) := hbb
  clear hbb
  go_enter Tryz.func4, Tryz.ntmps4
  go_wp2_with fail
  refine (szHeap_any (HeapAt_stays _ _ _ 0 _ _ (.of_below hb0) ht0.out) (by omega) (by omega)).mono ?_
  rintro e w1 ⟨⟨r, rfl, hr1, hr2, hsm⟩, hb1⟩
  have hsm' : Hid _ := hsm
  clear hsm
  have hB1 : Below w.heap.size w w1 := hb0.trans (hb1.mono hb0.size)
  have s1 : w.heap.size + 1 ≤ w1.heap.size := by have := hb1.size; simpa using this
  have bA_1 : Hid (Box w1 w.heap.size [.int .i64 h.vNext, .int .i64 h.vDoc, .slice a2 h.vNodes.length cap2, .slice a3 h.vObjs.length cap3, .slice a4 h.vGlobals.length cap4] 26) := bA_0.out.below hb1 bA_0.out.lt
  clear bA_0
  have z1_bA_0 := bA_1.out.cell 0 rfl
  have z1_bA_1 := bA_1.out.cell 1 rfl
  have z1_bA_2 := bA_1.out.cell 2 rfl
  have z1_bA_3 := bA_1.out.cell 3 rfl
  have z1_bA_4 := bA_1.out.cell 4 rfl
  by_cases hneg : r < 0
  · go_wp2_with fail
    go_ret
    exact ⟨rfl, hB1⟩
  have hsm : Hid h.small := hsm'.out.resolve_left hneg
  have hcnt0 : Hid ((1 : Int) + (cntL cntNode h.vNodes : Nat) + (cntL cntObj h.vObjs : Nat) + (cntL cntField h.vGlobals : Nat) ≤ 20000000000000) := cntHeap_small hsm.out
  have hcnt : Hid ((1 : Int) + (cntL cntNode h.vNodes : Nat) + (cntL cntObj h.vObjs : Nat) + (cntL cntField h.vGlobals : Nat) ≤ 4611686018427387904) := by show _ ≤ _; have := hcnt0.out; omega
  have hneg' : decide (r < 0) = false := by simpa using hneg
  clear hsm' hneg
  go_wp2_with fail
  refine (toHeap_at (HeapAt_stays _ _ _ 0 _ _ (.of_below hB1) ht0.out) hsm.out).mono ?_
  rintro e w2 ⟨⟨cs2, rfl, ht2⟩, hb2⟩
  have hB2 : Below w.heap.size w w2 := hB1.trans (hb2.mono hB1.size)
  have s2 := hb2.size
  have ht2' : Hid (HeapAt w2 w1.heap.size cs2 h) := ht2
  have bA_2 : Hid (Box w2 w.heap.size [.int .i64 h.vNext, .int .i64 h.vDoc, .slice a2 h.vNodes.length cap2, .slice a3 h.vObjs.length cap3, .slice a4 h.vGlobals.length cap4] 26) := bA_1.out.below hb2 bA_1.out.lt
  clear bA_1
  clear z1_bA_0 z1_bA_1 z1_bA_2 z1_bA_3 z1_bA_4
  have z2_bA_0 := bA_2.out.cell 0 rfl
  have z2_bA_1 := bA_2.out.cell 1 rfl
  have z2_bA_2 := bA_2.out.cell 2 rfl
  have z2_bA_3 := bA_2.out.cell 3 rfl
  have z2_bA_4 := bA_2.out.cell 4 rfl
  obtain ⟨j2, j3, j4, rfl, u2, u3, u4, _⟩ := ht2
  obtain ⟨e2, dap2, rfl⟩ := u2.form
  obtain ⟨e3, dap3, rfl⟩ := u3.form
  obtain ⟨e4, dap4, rfl⟩ := u4.form
  clear hb2 u2 u3 u4
  go_wp2_with fail
  refine (toInt64S_at (SeqAt.keep intAt_stays hti0.out (.of_below hB2)) hil.out).mono ?_
  rintro e w2b ⟨⟨kb, rfl, hkb⟩, hb2b⟩
  have hB2b : Below w.heap.size w w2b := hB2.trans (hb2b.mono hB2.size)
  have s2b := hb2b.size
  have hkb' : Hid (SeqAt 1 IntAt w2b 0 kb ids) := SeqAt.keep intAt_stays hkb (Kept.lower (Nat.zero_le _))
  have ht2b : Hid (HeapAt w2b 0 _ h) := HeapAt_stays _ _ _ _ _ _ (Kept.lower (Nat.zero_le _)) (HeapAt_stays _ _ _ _ _ _ (.of_below hb2b) ht2'.out)
  obtain ⟨akb, ckb, rfl⟩ := hkb.form
  have bA_3 : Hid (Box w2b w.heap.size [.int .i64 h.vNext, .int .i64 h.vDoc, .slice a2 h.vNodes.length cap2, .slice a3 h.vObjs.length cap3, .slice a4 h.vGlobals.length cap4] 26) := bA_2.out.below hb2b bA_2.out.lt
  clear bA_2
  clear z2_bA_0 z2_bA_1 z2_bA_2 z2_bA_3 z2_bA_4
  have z3_bA_0 := bA_3.out.cell 0 rfl
  have z3_bA_1 := bA_3.out.cell 1 rfl
  have z3_bA_2 := bA_3.out.cell 2 rfl
  have z3_bA_3 := bA_3.out.cell 3 rfl
  have z3_bA_4 := bA_3.out.cell 4 rfl
  clear hkb hb2b
  go_wp2_with fail
  refine (specFreed_any ht2b.out hsm.out hkb'.out hil.out hbb'.out).mono ?_
  rintro e w3 ⟨⟨csw, fw, rfl, own0, _, low0⟩, hb3⟩
  have hB3 : Below w.heap.size w w3 := hB2b.trans (hb3.mono hB2b.size)
  have s3 := hb3.size
  have hw3 : Hid (∀ b ∈ fw, b < w3.heap.size ∧ w2.heap.size ≤ b) := fun b q => ⟨HeapOwn_lt _ _ _ _ own0 b q, by have := low0 b q; omega⟩
  have bA_4 : Hid (Box w3 w.heap.size [.int .i64 h.vNext, .int .i64 h.vDoc, .slice a2 h.vNodes.length cap2, .slice a3 h.vObjs.length cap3, .slice a4 h.vGlobals.length cap4] 26) := bA_3.out.below hb3 bA_3.out.lt
  clear bA_3
  clear z3_bA_0 z3_bA_1 z3_bA_2 z3_bA_3 z3_bA_4
  have z4_bA_0 := bA_4.out.cell 0 rfl
  have z4_bA_1 := bA_4.out.cell 1 rfl
  have z4_bA_2 := bA_4.out.cell 2 rfl
  have z4_bA_3 := bA_4.out.cell 3 rfl
  have z4_bA_4 := bA_4.out.cell 4 rfl
  have hYL : Hid ((1 : Int) + (cntL cntNode (freedD h ids).vNodes : Nat) + (cntL cntObj (freedD h ids).vObjs : Nat) + (cntL cntField (freedD h ids).vGlobals : Nat) ≤ 4611686018427387904) := cntHeap_le (freed_small hsm.out ids)
  generalize hYS : freedD h ids = ys at *
  have hYS' : Hid (freedD h ids = ys) := hYS
  clear hYS
  have v0_4 : Hid (HeapOwn w3 csw ys fw) := own0
  obtain ⟨q2_, q3_, q4_, _, _, _, rfl, r2_, r3_, r4_, _⟩ := own0
  obtain ⟨aw2, cw2, rfl⟩ := r2_.form
  obtain ⟨aw3, cw3, rfl⟩ := r3_.form
  obtain ⟨aw4, cw4, rfl⟩ := r4_.form
  clear r2_ r3_ r4_
  have hbV : Below w3.heap.size w3 (w3.alloc (.cells #[.int .i64 ys.vNext, .int .i64 ys.vDoc, .slice aw2 ys.vNodes.length cw2, .slice aw3 ys.vObjs.length cw3, .slice aw4 ys.vGlobals.length cw4] 32)) := (Below.refl _ _).alloc (Nat.le_refl _) _
  have hBV : Below w.heap.size w (w3.alloc (.cells #[.int .i64 ys.vNext, .int .i64 ys.vDoc, .slice aw2 ys.vNodes.length cw2, .slice aw3 ys.vObjs.length cw3, .slice aw4 ys.vGlobals.length cw4] 32)) := hB3.trans (hbV.mono hB3.size)
  clear low0 hb3
  have bA_5 : Hid (Box (w3.alloc (.cells #[.int .i64 ys.vNext, .int .i64 ys.vDoc, .slice aw2 ys.vNodes.length cw2, .slice aw3 ys.vObjs.length cw3, .slice aw4 ys.vGlobals.length cw4] 32)) w.heap.size [.int .i64 h.vNext, .int .i64 h.vDoc, .slice a2 h.vNodes.length cap2, .slice a3 h.vObjs.length cap3, .slice a4 h.vGlobals.length cap4] 26) := bA_4.out.below hbV bA_4.out.lt
  have v0_5 : Hid (HeapOwn (w3.alloc (.cells #[.int .i64 ys.vNext, .int .i64 ys.vDoc, .slice aw2 ys.vNodes.length cw2, .slice aw3 ys.vObjs.length cw3, .slice aw4 ys.vGlobals.length cw4] 32)) [.int .i64 ys.vNext, .int .i64 ys.vDoc, .slice aw2 ys.vNodes.length cw2, .slice aw3 ys.vObjs.length cw3, .slice aw4 ys.vGlobals.length cw4] ys fw) := HeapOwn_stays _ _ _ _ _ (fun x hx => (hbV).block x (HeapOwn_lt _ _ _ _ v0_4.out x hx)) v0_4.out
  clear bA_4 v0_4
  clear z4_bA_0 z4_bA_1 z4_bA_2 z4_bA_3 z4_bA_4
  have z5_bA_0 := bA_5.out.cell 0 rfl
  have z5_bA_1 := bA_5.out.cell 1 rfl
  have z5_bA_2 := bA_5.out.cell 2 rfl
  have z5_bA_3 := bA_5.out.cell 3 rfl
  have z5_bA_4 := bA_5.out.cell 4 rfl
  have bW_5 : Hid (Box (w3.alloc (.cells #[.int .i64 ys.vNext, .int .i64 ys.vDoc, .slice aw2 ys.vNodes.length cw2, .slice aw3 ys.vObjs.length cw3, .slice aw4 ys.vGlobals.length cw4] 32)) w3.heap.size [.int .i64 ys.vNext, .int .i64 ys.vDoc, .slice aw2 ys.vNodes.length cw2, .slice aw3 ys.vObjs.length cw3, .slice aw4 ys.vGlobals.length cw4] 32) := Box.new w3 _ _
  go_wp2_with fail
  refine (toHeap_own (HeapAt_stays _ _ _ 0 _ _ (.of_below hBV) ht0.out) hsm.out).mono ?_
  rintro e w4 ⟨⟨cs4, fx, rfl, ownx, ndx, lox⟩, hb4⟩
  have hB4 : Below w.heap.size w w4 := hBV.trans (hb4.mono hBV.size)
  have s4 : w3.heap.size + 1 ≤ w4.heap.size := by have := hb4.size; simpa using this
  have hx4 : Hid (∀ b ∈ fx, b < w4.heap.size ∧ w3.heap.size + 1 ≤ b) := fun b q => ⟨HeapOwn_lt _ _ _ _ ownx b q, by have := lox b q; simpa using this⟩
  have bA_6 : Hid (Box w4 w.heap.size [.int .i64 h.vNext, .int .i64 h.vDoc, .slice a2 h.vNodes.length cap2, .slice a3 h.vObjs.length cap3, .slice a4 h.vGlobals.length cap4] 26) := bA_5.out.below hb4 bA_5.out.lt
  have v0_6 : Hid (HeapOwn w4 [.int .i64 ys.vNext, .int .i64 ys.vDoc, .slice aw2 ys.vNodes.length cw2, .slice aw3 ys.vObjs.length cw3, .slice aw4 ys.vGlobals.length cw4] ys fw) := HeapOwn_stays _ _ _ _ _ (fun x hx => (hb4).block x (HeapOwn_lt _ _ _ _ v0_5.out x hx)) v0_5.out
  have bW_6 : Hid (Box w4 w3.heap.size [.int .i64 ys.vNext, .int .i64 ys.vDoc, .slice aw2 ys.vNodes.length cw2, .slice aw3 ys.vObjs.length cw3, .slice aw4 ys.vGlobals.length cw4] 32) := bW_5.out.below hb4 bW_5.out.lt
  clear bA_5 v0_5 bW_5
  clear z5_bA_0 z5_bA_1 z5_bA_2 z5_bA_3 z5_bA_4
  have z6_bA_0 := bA_6.out.cell 0 rfl
  have z6_bA_1 := bA_6.out.cell 1 rfl
  have z6_bA_2 := bA_6.out.cell 2 rfl
  have z6_bA_3 := bA_6.out.cell 3 rfl
  have z6_bA_4 := bA_6.out.cell 4 rfl
  have z6_bW_0 := bW_6.out.cell 0 rfl
  have z6_bW_1 := bW_6.out.cell 1 rfl
  have z6_bW_2 := bW_6.out.cell 2 rfl
  have z6_bW_3 := bW_6.out.cell 3 rfl
  have z6_bW_4 := bW_6.out.cell 4 rfl
  have x0_6 : Hid (HeapOwn w4 cs4 h fx) := ownx
  obtain ⟨j2, j3, j4, g2, g3, g4, rfl, t2, t3, t4, _⟩ := ownx
  obtain ⟨e2, dap2, rfl⟩ := t2.form
  obtain ⟨e3, dap3, rfl⟩ := t3.form
  obtain ⟨e4, dap4, rfl⟩ := t4.form
  clear t2 t3 t4 hb4 lox
  have hb5 : Below w4.heap.size w4 (w4.alloc (.cells #[.int .i64 h.vNext, .int .i64 h.vDoc, .slice e2 h.vNodes.length dap2, .slice e3 h.vObjs.length dap3, .slice e4 h.vGlobals.length dap4] 32)) := (Below.refl _ _).alloc (Nat.le_refl _) _
  have hB5 : Below w.heap.size w (w4.alloc (.cells #[.int .i64 h.vNext, .int .i64 h.vDoc, .slice e2 h.vNodes.length dap2, .slice e3 h.vObjs.length dap3, .slice e4 h.vGlobals.length dap4] 32)) := hB4.trans (hb5.mono hB4.size)
  go_wp2_with fail
  have bA_7 : Hid (Box (w4.alloc (.cells #[.int .i64 h.vNext, .int .i64 h.vDoc, .slice e2 h.vNodes.length dap2, .slice e3 h.vObjs.length dap3, .slice e4 h.vGlobals.length dap4] 32)) w.heap.size [.int .i64 h.vNext, .int .i64 h.vDoc, .slice a2 h.vNodes.length cap2, .slice a3 h.vObjs.length cap3, .slice a4 h.vGlobals.length cap4] 26) := bA_6.out.below hb5 bA_6.out.lt
  have v0_7 : Hid (HeapOwn (w4.alloc (.cells #[.int .i64 h.vNext, .int .i64 h.vDoc, .slice e2 h.vNodes.length dap2, .slice e3 h.vObjs.length dap3, .slice e4 h.vGlobals.length dap4] 32)) [.int .i64 ys.vNext, .int .i64 ys.vDoc, .slice aw2 ys.vNodes.length cw2, .slice aw3 ys.vObjs.length cw3, .slice aw4 ys.vGlobals.length cw4] ys fw) := HeapOwn_stays _ _ _ _ _ (fun x hx => (hb5).block x (HeapOwn_lt _ _ _ _ v0_6.out x hx)) v0_6.out
  have bW_7 : Hid (Box (w4.alloc (.cells #[.int .i64 h.vNext, .int .i64 h.vDoc, .slice e2 h.vNodes.length dap2, .slice e3 h.vObjs.length dap3, .slice e4 h.vGlobals.length dap4] 32)) w3.heap.size [.int .i64 ys.vNext, .int .i64 ys.vDoc, .slice aw2 ys.vNodes.length cw2, .slice aw3 ys.vObjs.length cw3, .slice aw4 ys.vGlobals.length cw4] 32) := bW_6.out.below hb5 bW_6.out.lt
  have x0_7 : Hid (HeapOwn (w4.alloc (.cells #[.int .i64 h.vNext, .int .i64 h.vDoc, .slice e2 h.vNodes.length dap2, .slice e3 h.vObjs.length dap3, .slice e4 h.vGlobals.length dap4] 32)) [.int .i64 h.vNext, .int .i64 h.vDoc, .slice e2 h.vNodes.length dap2, .slice e3 h.vObjs.length dap3, .slice e4 h.vGlobals.length dap4] h fx) := HeapOwn_stays _ _ _ _ _ (fun x hx => (hb5).block x (HeapOwn_lt _ _ _ _ x0_6.out x hx)) x0_6.out
  clear bA_6 v0_6 bW_6 x0_6
  clear z6_bA_0 z6_bA_1 z6_bA_2 z6_bA_3 z6_bA_4 z6_bW_0 z6_bW_1 z6_bW_2 z6_bW_3 z6_bW_4
  have z7_bA_0 := bA_7.out.cell 0 rfl
  have z7_bA_1 := bA_7.out.cell 1 rfl
  have z7_bA_2 := bA_7.out.cell 2 rfl
  have z7_bA_3 := bA_7.out.cell 3 rfl
  have z7_bA_4 := bA_7.out.cell 4 rfl
  have z7_bW_0 := bW_7.out.cell 0 rfl
  have z7_bW_1 := bW_7.out.cell 1 rfl
  have z7_bW_2 := bW_7.out.cell 2 rfl
  have z7_bW_3 := bW_7.out.cell 3 rfl
  have z7_bW_4 := bW_7.out.cell 4 rfl
  have bX_7 : Hid (Box (w4.alloc (.cells #[.int .i64 h.vNext, .int .i64 h.vDoc, .slice e2 h.vNodes.length dap2, .slice e3 h.vObjs.length dap3, .slice e4 h.vGlobals.length dap4] 32)) w4.heap.size [.int .i64 h.vNext, .int .i64 h.vDoc, .slice e2 h.vNodes.length dap2, .slice e3 h.vObjs.length dap3, .slice e4 h.vGlobals.length dap4] 32) := Box.new w4 _ _
  refine (toInt64S_own (SeqAt.keep intAt_stays hti0.out (.of_below hB5)) hil.out).mono ?_
  rintro e w5 ⟨⟨x1, fx1, rfl, ownx1, ndx1, lox1⟩, hb5b⟩
  have hB5b : Below w.heap.size w w5 := hB5.trans (hb5b.mono hB5.size)
  have s5 : w4.heap.size + 1 ≤ w5.heap.size := by have := hb5b.size; simpa using this
  have hx5 : Hid (∀ b ∈ fx1, b < w5.heap.size ∧ w4.heap.size + 1 ≤ b) := fun b q => ⟨SeqOwn.lt intOwn_lt ownx1 b q, by have := lox1 b q; simpa using this⟩
  have bA_8 : Hid (Box w5 w.heap.size [.int .i64 h.vNext, .int .i64 h.vDoc, .slice a2 h.vNodes.length cap2, .slice a3 h.vObjs.length cap3, .slice a4 h.vGlobals.length cap4] 26) := bA_7.out.below hb5b bA_7.out.lt
  have v0_8 : Hid (HeapOwn w5 [.int .i64 ys.vNext, .int .i64 ys.vDoc, .slice aw2 ys.vNodes.length cw2, .slice aw3 ys.vObjs.length cw3, .slice aw4 ys.vGlobals.length cw4] ys fw) := HeapOwn_stays _ _ _ _ _ (fun x hx => (hb5b).block x (HeapOwn_lt _ _ _ _ v0_7.out x hx)) v0_7.out
  have bW_8 : Hid (Box w5 w3.heap.size [.int .i64 ys.vNext, .int .i64 ys.vDoc, .slice aw2 ys.vNodes.length cw2, .slice aw3 ys.vObjs.length cw3, .slice aw4 ys.vGlobals.length cw4] 32) := bW_7.out.below hb5b bW_7.out.lt
  have x0_8 : Hid (HeapOwn w5 [.int .i64 h.vNext, .int .i64 h.vDoc, .slice e2 h.vNodes.length dap2, .slice e3 h.vObjs.length dap3, .slice e4 h.vGlobals.length dap4] h fx) := HeapOwn_stays _ _ _ _ _ (fun x hx => (hb5b).block x (HeapOwn_lt _ _ _ _ x0_7.out x hx)) x0_7.out
  have bX_8 : Hid (Box w5 w4.heap.size [.int .i64 h.vNext, .int .i64 h.vDoc, .slice e2 h.vNodes.length dap2, .slice e3 h.vObjs.length dap3, .slice e4 h.vGlobals.length dap4] 32) := bX_7.out.below hb5b bX_7.out.lt
  clear bA_7 v0_7 bW_7 x0_7 bX_7
  clear z7_bA_0 z7_bA_1 z7_bA_2 z7_bA_3 z7_bA_4 z7_bW_0 z7_bW_1 z7_bW_2 z7_bW_3 z7_bW_4
  have z8_bA_0 := bA_8.out.cell 0 rfl
  have z8_bA_1 := bA_8.out.cell 1 rfl
  have z8_bA_2 := bA_8.out.cell 2 rfl
  have z8_bA_3 := bA_8.out.cell 3 rfl
  have z8_bA_4 := bA_8.out.cell 4 rfl
  have z8_bW_0 := bW_8.out.cell 0 rfl
  have z8_bW_1 := bW_8.out.cell 1 rfl
  have z8_bW_2 := bW_8.out.cell 2 rfl
  have z8_bW_3 := bW_8.out.cell 3 rfl
  have z8_bW_4 := bW_8.out.cell 4 rfl
  have z8_bX_0 := bX_8.out.cell 0 rfl
  have z8_bX_1 := bX_8.out.cell 1 rfl
  have z8_bX_2 := bX_8.out.cell 2 rfl
  have z8_bX_3 := bX_8.out.cell 3 rfl
  have z8_bX_4 := bX_8.out.cell 4 rfl
  have x1_8 : Hid (SeqOwn 1 IntOwn w5 x1 ids fx1) := ownx1
  obtain ⟨axx, cxx, rfl⟩ := ownx1.form
  clear ownx1 lox1 hb5b
  go_wp2_with fail
  refine (implFreed_any (HeapOwn_at (lo := 0) _ _ _ _ x0_8.out (fun _ _ => Nat.zero_le _)) hsm.out (SeqOwn.at (intOwn_at (lo := 0)) x1_8.out (fun _ _ => Nat.zero_le _)) hil.out hbb'.out).mono ?_
  rintro e w6 ⟨⟨csg, fg, rfl, owng, ndg0, logg⟩, hb6⟩
  have ndg : Hid fg.Nodup := ndg0
  have hB6 : Below w.heap.size w w6 := hB5b.trans (hb6.mono hB5b.size)
  have s6 : w5.heap.size ≤ w6.heap.size := hb6.size
  have hg6 : Hid (∀ b ∈ fg, b < w6.heap.size ∧ w5.heap.size ≤ b) := fun b q => ⟨HeapOwn_lt _ _ _ _ owng b q, logg b q⟩
  have bA_9 : Hid (Box w6 w.heap.size [.int .i64 h.vNext, .int .i64 h.vDoc, .slice a2 h.vNodes.length cap2, .slice a3 h.vObjs.length cap3, .slice a4 h.vGlobals.length cap4] 26) := bA_8.out.below hb6 bA_8.out.lt
  have v0_9 : Hid (HeapOwn w6 [.int .i64 ys.vNext, .int .i64 ys.vDoc, .slice aw2 ys.vNodes.length cw2, .slice aw3 ys.vObjs.length cw3, .slice aw4 ys.vGlobals.length cw4] ys fw) := HeapOwn_stays _ _ _ _ _ (fun x hx => (hb6).block x (HeapOwn_lt _ _ _ _ v0_8.out x hx)) v0_8.out
  have bW_9 : Hid (Box w6 w3.heap.size [.int .i64 ys.vNext, .int .i64 ys.vDoc, .slice aw2 ys.vNodes.length cw2, .slice aw3 ys.vObjs.length cw3, .slice aw4 ys.vGlobals.length cw4] 32) := bW_8.out.below hb6 bW_8.out.lt
  have x0_9 : Hid (HeapOwn w6 [.int .i64 h.vNext, .int .i64 h.vDoc, .slice e2 h.vNodes.length dap2, .slice e3 h.vObjs.length dap3, .slice e4 h.vGlobals.length dap4] h fx) := HeapOwn_stays _ _ _ _ _ (fun x hx => (hb6).block x (HeapOwn_lt _ _ _ _ x0_8.out x hx)) x0_8.out
  have bX_9 : Hid (Box w6 w4.heap.size [.int .i64 h.vNext, .int .i64 h.vDoc, .slice e2 h.vNodes.length dap2, .slice e3 h.vObjs.length dap3, .slice e4 h.vGlobals.length dap4] 32) := bX_8.out.below hb6 bX_8.out.lt
  have x1_9 : Hid (SeqOwn 1 IntOwn w6 (.slice axx ids.length cxx) ids fx1) := SeqOwn.below intOwn_stays intOwn_lt x1_8.out (hb6)
  clear bA_8 v0_8 bW_8 x0_8 bX_8 x1_8
  clear z8_bA_0 z8_bA_1 z8_bA_2 z8_bA_3 z8_bA_4 z8_bW_0 z8_bW_1 z8_bW_2 z8_bW_3 z8_bW_4 z8_bX_0 z8_bX_1 z8_bX_2 z8_bX_3 z8_bX_4
  have z9_bA_0 := bA_9.out.cell 0 rfl
  have z9_bA_1 := bA_9.out.cell 1 rfl
  have z9_bA_2 := bA_9.out.cell 2 rfl
  have z9_bA_3 := bA_9.out.cell 3 rfl
  have z9_bA_4 := bA_9.out.cell 4 rfl
  have z9_bW_0 := bW_9.out.cell 0 rfl
  have z9_bW_1 := bW_9.out.cell 1 rfl
  have z9_bW_2 := bW_9.out.cell 2 rfl
  have z9_bW_3 := bW_9.out.cell 3 rfl
  have z9_bW_4 := bW_9.out.cell 4 rfl
  have z9_bX_0 := bX_9.out.cell 0 rfl
  have z9_bX_1 := bX_9.out.cell 1 rfl
  have z9_bX_2 := bX_9.out.cell 2 rfl
  have z9_bX_3 := bX_9.out.cell 3 rfl
  have z9_bX_4 := bX_9.out.cell 4 rfl
  have owng' : HeapOwn w6 csg ys fg := by rw [← hYS'.out]; exact owng
  have g0_9 : Hid (HeapOwn w6 csg ys fg) := owng'
  obtain ⟨q2_, q3_, q4_, _, _, _, rfl, r2_, r3_, r4_, _⟩ := owng'
  obtain ⟨ag2, cg2, rfl⟩ := r2_.form
  obtain ⟨ag3, cg3, rfl⟩ := r3_.form
  obtain ⟨ag4, cg4, rfl⟩ := r4_.form
  clear r2_ r3_ r4_
  have hbG : Below w6.heap.size w6 (w6.alloc (.cells #[.int .i64 ys.vNext, .int .i64 ys.vDoc, .slice ag2 ys.vNodes.length cg2, .slice ag3 ys.vObjs.length cg3, .slice ag4 ys.vGlobals.length cg4] 32)) := (Below.refl _ _).alloc (Nat.le_refl _) _
  have hBG : Below w.heap.size w (w6.alloc (.cells #[.int .i64 ys.vNext, .int .i64 ys.vDoc, .slice ag2 ys.vNodes.length cg2, .slice ag3 ys.vObjs.length cg3, .slice ag4 ys.vGlobals.length cg4] 32)) := hB6.trans (hbG.mono hB6.size)
  clear owng logg hb6 ndg0
  have bA_10 : Hid (Box (w6.alloc (.cells #[.int .i64 ys.vNext, .int .i64 ys.vDoc, .slice ag2 ys.vNodes.length cg2, .slice ag3 ys.vObjs.length cg3, .slice ag4 ys.vGlobals.length cg4] 32)) w.heap.size [.int .i64 h.vNext, .int .i64 h.vDoc, .slice a2 h.vNodes.length cap2, .slice a3 h.vObjs.length cap3, .slice a4 h.vGlobals.length cap4] 26) := bA_9.out.below hbG bA_9.out.lt
  have v0_10 : Hid (HeapOwn (w6.alloc (.cells #[.int .i64 ys.vNext, .int .i64 ys.vDoc, .slice ag2 ys.vNodes.length cg2, .slice ag3 ys.vObjs.length cg3, .slice ag4 ys.vGlobals.length cg4] 32)) [.int .i64 ys.vNext, .int .i64 ys.vDoc, .slice aw2 ys.vNodes.length cw2, .slice aw3 ys.vObjs.length cw3, .slice aw4 ys.vGlobals.length cw4] ys fw) := HeapOwn_stays _ _ _ _ _ (fun x hx => (hbG).block x (HeapOwn_lt _ _ _ _ v0_9.out x hx)) v0_9.out
  have bW_10 : Hid (Box (w6.alloc (.cells #[.int .i64 ys.vNext, .int .i64 ys.vDoc, .slice ag2 ys.vNodes.length cg2, .slice ag3 ys.vObjs.length cg3, .slice ag4 ys.vGlobals.length cg4] 32)) w3.heap.size [.int .i64 ys.vNext, .int .i64 ys.vDoc, .slice aw2 ys.vNodes.length cw2, .slice aw3 ys.vObjs.length cw3, .slice aw4 ys.vGlobals.length cw4] 32) := bW_9.out.below hbG bW_9.out.lt
  have x0_10 : Hid (HeapOwn (w6.alloc (.cells #[.int .i64 ys.vNext, .int .i64 ys.vDoc, .slice ag2 ys.vNodes.length cg2, .slice ag3 ys.vObjs.length cg3, .slice ag4 ys.vGlobals.length cg4] 32)) [.int .i64 h.vNext, .int .i64 h.vDoc, .slice e2 h.vNodes.length dap2, .slice e3 h.vObjs.length dap3, .slice e4 h.vGlobals.length dap4] h fx) := HeapOwn_stays _ _ _ _ _ (fun x hx => (hbG).block x (HeapOwn_lt _ _ _ _ x0_9.out x hx)) x0_9.out
  have bX_10 : Hid (Box (w6.alloc (.cells #[.int .i64 ys.vNext, .int .i64 ys.vDoc, .slice ag2 ys.vNodes.length cg2, .slice ag3 ys.vObjs.length cg3, .slice ag4 ys.vGlobals.length cg4] 32)) w4.heap.size [.int .i64 h.vNext, .int .i64 h.vDoc, .slice e2 h.vNodes.length dap2, .slice e3 h.vObjs.length dap3, .slice e4 h.vGlobals.length dap4] 32) := bX_9.out.below hbG bX_9.out.lt
  have x1_10 : Hid (SeqOwn 1 IntOwn (w6.alloc (.cells #[.int .i64 ys.vNext, .int .i64 ys.vDoc, .slice ag2 ys.vNodes.length cg2, .slice ag3 ys.vObjs.length cg3, .slice ag4 ys.vGlobals.length cg4] 32)) (.slice axx ids.length cxx) ids fx1) := SeqOwn.below intOwn_stays intOwn_lt x1_9.out (hbG)
  have g0_10 : Hid (HeapOwn (w6.alloc (.cells #[.int .i64 ys.vNext, .int .i64 ys.vDoc, .slice ag2 ys.vNodes.length cg2, .slice ag3 ys.vObjs.length cg3, .slice ag4 ys.vGlobals.length cg4] 32)) [.int .i64 ys.vNext, .int .i64 ys.vDoc, .slice ag2 ys.vNodes.length cg2, .slice ag3 ys.vObjs.length cg3, .slice ag4 ys.vGlobals.length cg4] ys fg) := HeapOwn_stays _ _ _ _ _ (fun x hx => (hbG).block x (HeapOwn_lt _ _ _ _ g0_9.out x hx)) g0_9.out
  clear bA_9 v0_9 bW_9 x0_9 bX_9 x1_9 g0_9
  clear z9_bA_0 z9_bA_1 z9_bA_2 z9_bA_3 z9_bA_4 z9_bW_0 z9_bW_1 z9_bW_2 z9_bW_3 z9_bW_4 z9_bX_0 z9_bX_1 z9_bX_2 z9_bX_3 z9_bX_4
  have z10_bA_0 := bA_10.out.cell 0 rfl
  have z10_bA_1 := bA_10.out.cell 1 rfl
  have z10_bA_2 := bA_10.out.cell 2 rfl
  have z10_bA_3 := bA_10.out.cell 3 rfl
  have z10_bA_4 := bA_10.out.cell 4 rfl
  have z10_bW_0 := bW_10.out.cell 0 rfl
  have z10_bW_1 := bW_10.out.cell 1 rfl
  have z10_bW_2 := bW_10.out.cell 2 rfl
  have z10_bW_3 := bW_10.out.cell 3 rfl
  have z10_bW_4 := bW_10.out.cell 4 rfl
  have z10_bX_0 := bX_10.out.cell 0 rfl
  have z10_bX_1 := bX_10.out.cell 1 rfl
  have z10_bX_2 := bX_10.out.cell 2 rfl
  have z10_bX_3 := bX_10.out.cell 3 rfl
  have z10_bX_4 := bX_10.out.cell 4 rfl
  have bG_10 : Hid (Box (w6.alloc (.cells #[.int .i64 ys.vNext, .int .i64 ys.vDoc, .slice ag2 ys.vNodes.length cg2, .slice ag3 ys.vObjs.length cg3, .slice ag4 ys.vGlobals.length cg4] 32)) w6.heap.size [.int .i64 ys.vNext, .int .i64 ys.vDoc, .slice ag2 ys.vNodes.length cg2, .slice ag3 ys.vObjs.length cg3, .slice ag4 ys.vGlobals.length cg4] 32) := Box.new w6 _ _
  go_wp2_with fail
  refine (eqHeap_any (lo := 0) (lo2 := 0) (by exact HeapOwn_at (lo := 0) _ _ _ _ g0_10.out (fun _ _ => Nat.zero_le _)) (by exact HeapOwn_at (lo := 0) _ _ _ _ v0_10.out (fun _ _ => Nat.zero_le _))).mono ?_
  rintro e w7 ⟨rfl, hb7⟩
  have hB7 : Below w.heap.size w w7 := hBG.trans (hb7.mono hBG.size)
  have s7 : w6.heap.size + 1 ≤ w7.heap.size := by have := hb7.size; simpa using this
  have bA_11 : Hid (Box w7 w.heap.size [.int .i64 h.vNext, .int .i64 h.vDoc, .slice a2 h.vNodes.length cap2, .slice a3 h.vObjs.length cap3, .slice a4 h.vGlobals.length cap4] 26) := bA_10.out.below hb7 bA_10.out.lt
  have v0_11 : Hid (HeapOwn w7 [.int .i64 ys.vNext, .int .i64 ys.vDoc, .slice aw2 ys.vNodes.length cw2, .slice aw3 ys.vObjs.length cw3, .slice aw4 ys.vGlobals.length cw4] ys fw) := HeapOwn_stays _ _ _ _ _ (fun x hx => (hb7).block x (HeapOwn_lt _ _ _ _ v0_10.out x hx)) v0_10.out
  have bW_11 : Hid (Box w7 w3.heap.size [.int .i64 ys.vNext, .int .i64 ys.vDoc, .slice aw2 ys.vNodes.length cw2, .slice aw3 ys.vObjs.length cw3, .slice aw4 ys.vGlobals.length cw4] 32) := bW_10.out.below hb7 bW_10.out.lt
  have x0_11 : Hid (HeapOwn w7 [.int .i64 h.vNext, .int .i64 h.vDoc, .slice e2 h.vNodes.length dap2, .slice e3 h.vObjs.length dap3, .slice e4 h.vGlobals.length dap4] h fx) := HeapOwn_stays _ _ _ _ _ (fun x hx => (hb7).block x (HeapOwn_lt _ _ _ _ x0_10.out x hx)) x0_10.out
  have bX_11 : Hid (Box w7 w4.heap.size [.int .i64 h.vNext, .int .i64 h.vDoc, .slice e2 h.vNodes.length dap2, .slice e3 h.vObjs.length dap3, .slice e4 h.vGlobals.length dap4] 32) := bX_10.out.below hb7 bX_10.out.lt
  have x1_11 : Hid (SeqOwn 1 IntOwn w7 (.slice axx ids.length cxx) ids fx1) := SeqOwn.below intOwn_stays intOwn_lt x1_10.out (hb7)
  have g0_11 : Hid (HeapOwn w7 [.int .i64 ys.vNext, .int .i64 ys.vDoc, .slice ag2 ys.vNodes.length cg2, .slice ag3 ys.vObjs.length cg3, .slice ag4 ys.vGlobals.length cg4] ys fg) := HeapOwn_stays _ _ _ _ _ (fun x hx => (hb7).block x (HeapOwn_lt _ _ _ _ g0_10.out x hx)) g0_10.out
  have bG_11 : Hid (Box w7 w6.heap.size [.int .i64 ys.vNext, .int .i64 ys.vDoc, .slice ag2 ys.vNodes.length cg2, .slice ag3 ys.vObjs.length cg3, .slice ag4 ys.vGlobals.length cg4] 32) := bG_10.out.below hb7 bG_10.out.lt
  clear bA_10 v0_10 bW_10 x0_10 bX_10 x1_10 g0_10 bG_10
  clear z10_bA_0 z10_bA_1 z10_bA_2 z10_bA_3 z10_bA_4 z10_bW_0 z10_bW_1 z10_bW_2 z10_bW_3 z10_bW_4 z10_bX_0 z10_bX_1 z10_bX_2 z10_bX_3 z10_bX_4
  have z11_bA_0 := bA_11.out.cell 0 rfl
  have z11_bA_1 := bA_11.out.cell 1 rfl
  have z11_bA_2 := bA_11.out.cell 2 rfl
  have z11_bA_3 := bA_11.out.cell 3 rfl
  have z11_bA_4 := bA_11.out.cell 4 rfl
  have z11_bW_0 := bW_11.out.cell 0 rfl
  have z11_bW_1 := bW_11.out.cell 1 rfl
  have z11_bW_2 := bW_11.out.cell 2 rfl
  have z11_bW_3 := bW_11.out.cell 3 rfl
  have z11_bW_4 := bW_11.out.cell 4 rfl
  have z11_bX_0 := bX_11.out.cell 0 rfl
  have z11_bX_1 := bX_11.out.cell 1 rfl
  have z11_bX_2 := bX_11.out.cell 2 rfl
  have z11_bX_3 := bX_11.out.cell 3 rfl
  have z11_bX_4 := bX_11.out.cell 4 rfl
  have z11_bG_0 := bG_11.out.cell 0 rfl
  have z11_bG_1 := bG_11.out.cell 1 rfl
  have z11_bG_2 := bG_11.out.cell 2 rfl
  have z11_bG_3 := bG_11.out.cell 3 rfl
  have z11_bG_4 := bG_11.out.cell 4 rfl
  have PK : Hid (Box w7 w4.heap.size [.int .i64 h.vNext, .int .i64 h.vDoc, .slice e2 h.vNodes.length dap2, .slice e3 h.vObjs.length dap3, .slice e4 h.vGlobals.length dap4] 32 ∧ Box w7 w.heap.size [.int .i64 h.vNext, .int .i64 h.vDoc, .slice a2 h.vNodes.length cap2, .slice a3 h.vObjs.length cap3, .slice a4 h.vGlobals.length cap4] 26) := ⟨bX_11.out, bA_11.out⟩
  have hX7 : Hid (HeapAt w7 0 [.int .i64 h.vNext, .int .i64 h.vDoc, .slice e2 h.vNodes.length dap2, .slice e3 h.vObjs.length dap3, .slice e4 h.vGlobals.length dap4] h) := HeapOwn_at (lo := 0) _ _ _ _ x0_11.out (fun _ _ => Nat.zero_le _)
  go_wp2_with fail
  go_region_held3 (fun w' => w'.cell? ⟨w4.heap.size, 0, none⟩ = some (.int .i64 h.vNext) ∧ w'.cell? ⟨w4.heap.size, 1, none⟩ = some (.int .i64 h.vDoc) ∧ w'.cell? ⟨w4.heap.size, 2, none⟩ = some (.slice e2 h.vNodes.length dap2) ∧ w'.cell? ⟨w4.heap.size, 3, none⟩ = some (.slice e3 h.vObjs.length dap3) ∧ w'.cell? ⟨w4.heap.size, 4, none⟩ = some (.slice e4 h.vGlobals.length dap4) ∧ w'.cell? ⟨w.heap.size, 0, none⟩ = some (.int .i64 h.vNext) ∧ w'.cell? ⟨w.heap.size, 1, none⟩ = some (.int .i64 h.vDoc) ∧ w'.cell? ⟨w.heap.size, 2, none⟩ = some (.slice a2 h.vNodes.length cap2) ∧ w'.cell? ⟨w.heap.size, 3, none⟩ = some (.slice a3 h.vObjs.length cap3) ∧ w'.cell? ⟨w.heap.size, 4, none⟩ = some (.slice a4 h.vGlobals.length cap4)) (go_keep)
    (first | (go_at_call 7; refine (toHeap_at (by exact HeapAt_stays _ _ _ 0 _ _ (.of_below hB7.drew) ht0.out) hsm.out).mono ?_; rintro e w8 ⟨⟨cs8, rfl, ht8⟩, hb8⟩; obtain ⟨y0, y1, y2, y3, y4, y5, y6, y7, y8, y9, hB8⟩ := keepH hB7 (undrew hb8) PK.out.1 PK.out.2; have ht8a : Hid (HeapAt w8 0 [.int .i64 h.vNext, .int .i64 h.vDoc, .slice e2 h.vNodes.length dap2, .slice e3 h.vObjs.length dap3, .slice e4 h.vGlobals.length dap4] h) := HeapAt_stays _ _ _ _ _ _ (.of_below (undrew hb8)) hX7.out; have ht8b : Hid _ := ht8; have hb8' : Hid (Below w7.heap.size w7 w8) := undrew hb8; clear ht8 hb8) | (go_at_call 9; refine (eqHeap_any (by exact ht8a.out) (by exact ht8b.out)).mono ?_; rintro e w9 ⟨rfl, hb9⟩; obtain ⟨y0, y1, y2, y3, y4, y5, y6, y7, y8, y9, hB9⟩ := keepH hB8.out.1 hb9 hB8.out.2.1 hB8.out.2.2; have hb9' : Hid (Below w8.heap.size w8 w9) := hb9; clear hb9))
  have hb79 : Below w7.heap.size w7 w9 := hb8'.out.trans (hb9'.out.mono hb8'.out.size)
  have hBw9 : Below w.heap.size w w9 := hB9.out.1
  have s9 := hb79.size
  clear PK hX7 ht8a ht8b hB8 hB9 hb8' hb9'
  have bA_12 : Hid (Box w9 w.heap.size [.int .i64 h.vNext, .int .i64 h.vDoc, .slice a2 h.vNodes.length cap2, .slice a3 h.vObjs.length cap3, .slice a4 h.vGlobals.length cap4] 26) := bA_11.out.below hb79 bA_11.out.lt
  have v0_12 : Hid (HeapOwn w9 [.int .i64 ys.vNext, .int .i64 ys.vDoc, .slice aw2 ys.vNodes.length cw2, .slice aw3 ys.vObjs.length cw3, .slice aw4 ys.vGlobals.length cw4] ys fw) := HeapOwn_stays _ _ _ _ _ (fun x hx => (hb79).block x (HeapOwn_lt _ _ _ _ v0_11.out x hx)) v0_11.out
  have bW_12 : Hid (Box w9 w3.heap.size [.int .i64 ys.vNext, .int .i64 ys.vDoc, .slice aw2 ys.vNodes.length cw2, .slice aw3 ys.vObjs.length cw3, .slice aw4 ys.vGlobals.length cw4] 32) := bW_11.out.below hb79 bW_11.out.lt
  have x0_12 : Hid (HeapOwn w9 [.int .i64 h.vNext, .int .i64 h.vDoc, .slice e2 h.vNodes.length dap2, .slice e3 h.vObjs.length dap3, .slice e4 h.vGlobals.length dap4] h fx) := HeapOwn_stays _ _ _ _ _ (fun x hx => (hb79).block x (HeapOwn_lt _ _ _ _ x0_11.out x hx)) x0_11.out
  have bX_12 : Hid (Box w9 w4.heap.size [.int .i64 h.vNext, .int .i64 h.vDoc, .slice e2 h.vNodes.length dap2, .slice e3 h.vObjs.length dap3, .slice e4 h.vGlobals.length dap4] 32) := bX_11.out.below hb79 bX_11.out.lt
  have x1_12 : Hid (SeqOwn 1 IntOwn w9 (.slice axx ids.length cxx) ids fx1) := SeqOwn.below intOwn_stays intOwn_lt x1_11.out (hb79)
  have g0_12 : Hid (HeapOwn w9 [.int .i64 ys.vNext, .int .i64 ys.vDoc, .slice ag2 ys.vNodes.length cg2, .slice ag3 ys.vObjs.length cg3, .slice ag4 ys.vGlobals.length cg4] ys fg) := HeapOwn_stays _ _ _ _ _ (fun x hx => (hb79).block x (HeapOwn_lt _ _ _ _ g0_11.out x hx)) g0_11.out
  have bG_12 : Hid (Box w9 w6.heap.size [.int .i64 ys.vNext, .int .i64 ys.vDoc, .slice ag2 ys.vNodes.length cg2, .slice ag3 ys.vObjs.length cg3, .slice ag4 ys.vGlobals.length cg4] 32) := bG_11.out.below hb79 bG_11.out.lt
  clear bA_11 v0_11 bW_11 x0_11 bX_11 x1_11 g0_11 bG_11
  clear z11_bA_0 z11_bA_1 z11_bA_2 z11_bA_3 z11_bA_4 z11_bW_0 z11_bW_1 z11_bW_2 z11_bW_3 z11_bW_4 z11_bX_0 z11_bX_1 z11_bX_2 z11_bX_3 z11_bX_4 z11_bG_0 z11_bG_1 z11_bG_2 z11_bG_3 z11_bG_4
  have z12_bA_0 := bA_12.out.cell 0 rfl
  have z12_bA_1 := bA_12.out.cell 1 rfl
  have z12_bA_2 := bA_12.out.cell 2 rfl
  have z12_bA_3 := bA_12.out.cell 3 rfl
  have z12_bA_4 := bA_12.out.cell 4 rfl
  have z12_bW_0 := bW_12.out.cell 0 rfl
  have z12_bW_1 := bW_12.out.cell 1 rfl
  have z12_bW_2 := bW_12.out.cell 2 rfl
  have z12_bW_3 := bW_12.out.cell 3 rfl
  have z12_bW_4 := bW_12.out.cell 4 rfl
  have z12_bX_0 := bX_12.out.cell 0 rfl
  have z12_bX_1 := bX_12.out.cell 1 rfl
  have z12_bX_2 := bX_12.out.cell 2 rfl
  have z12_bX_3 := bX_12.out.cell 3 rfl
  have z12_bX_4 := bX_12.out.cell 4 rfl
  have z12_bG_0 := bG_12.out.cell 0 rfl
  have z12_bG_1 := bG_12.out.cell 1 rfl
  have z12_bG_2 := bG_12.out.cell 2 rfl
  have z12_bG_3 := bG_12.out.cell 3 rfl
  have z12_bG_4 := bG_12.out.cell 4 rfl
  go_wp2_with fail
  refine (toInt64S_at (SeqAt.keep intAt_stays hti0.out (.of_below hBw9)) hil.out).mono ?_
  rintro e w9b ⟨⟨k9, rfl, hk9⟩, hb9b⟩
  have hBw9b : Below w.heap.size w w9b := hBw9.trans (hb9b.mono hBw9.size)
  have s9b := hb9b.size
  have hk9' : Hid (SeqAt 1 IntAt w9b 0 k9 ids) := SeqAt.keep intAt_stays hk9 (Kept.lower (Nat.zero_le _))
  obtain ⟨a9, c9, rfl⟩ := hk9.form
  have bA_13 : Hid (Box w9b w.heap.size [.int .i64 h.vNext, .int .i64 h.vDoc, .slice a2 h.vNodes.length cap2, .slice a3 h.vObjs.length cap3, .slice a4 h.vGlobals.length cap4] 26) := bA_12.out.below hb9b bA_12.out.lt
  have v0_13 : Hid (HeapOwn w9b [.int .i64 ys.vNext, .int .i64 ys.vDoc, .slice aw2 ys.vNodes.length cw2, .slice aw3 ys.vObjs.length cw3, .slice aw4 ys.vGlobals.length cw4] ys fw) := HeapOwn_stays _ _ _ _ _ (fun x hx => (hb9b).block x (HeapOwn_lt _ _ _ _ v0_12.out x hx)) v0_12.out
  have bW_13 : Hid (Box w9b w3.heap.size [.int .i64 ys.vNext, .int .i64 ys.vDoc, .slice aw2 ys.vNodes.length cw2, .slice aw3 ys.vObjs.length cw3, .slice aw4 ys.vGlobals.length cw4] 32) := bW_12.out.below hb9b bW_12.out.lt
  have x0_13 : Hid (HeapOwn w9b [.int .i64 h.vNext, .int .i64 h.vDoc, .slice e2 h.vNodes.length dap2, .slice e3 h.vObjs.length dap3, .slice e4 h.vGlobals.length dap4] h fx) := HeapOwn_stays _ _ _ _ _ (fun x hx => (hb9b).block x (HeapOwn_lt _ _ _ _ x0_12.out x hx)) x0_12.out
  have bX_13 : Hid (Box w9b w4.heap.size [.int .i64 h.vNext, .int .i64 h.vDoc, .slice e2 h.vNodes.length dap2, .slice e3 h.vObjs.length dap3, .slice e4 h.vGlobals.length dap4] 32) := bX_12.out.below hb9b bX_12.out.lt
  have x1_13 : Hid (SeqOwn 1 IntOwn w9b (.slice axx ids.length cxx) ids fx1) := SeqOwn.below intOwn_stays intOwn_lt x1_12.out (hb9b)
  have g0_13 : Hid (HeapOwn w9b [.int .i64 ys.vNext, .int .i64 ys.vDoc, .slice ag2 ys.vNodes.length cg2, .slice ag3 ys.vObjs.length cg3, .slice ag4 ys.vGlobals.length cg4] ys fg) := HeapOwn_stays _ _ _ _ _ (fun x hx => (hb9b).block x (HeapOwn_lt _ _ _ _ g0_12.out x hx)) g0_12.out
  have bG_13 : Hid (Box w9b w6.heap.size [.int .i64 ys.vNext, .int .i64 ys.vDoc, .slice ag2 ys.vNodes.length cg2, .slice ag3 ys.vObjs.length cg3, .slice ag4 ys.vGlobals.length cg4] 32) := bG_12.out.below hb9b bG_12.out.lt
  clear bA_12 v0_12 bW_12 x0_12 bX_12 x1_12 g0_12 bG_12
  clear z12_bA_0 z12_bA_1 z12_bA_2 z12_bA_3 z12_bA_4 z12_bW_0 z12_bW_1 z12_bW_2 z12_bW_3 z12_bW_4 z12_bX_0 z12_bX_1 z12_bX_2 z12_bX_3 z12_bX_4 z12_bG_0 z12_bG_1 z12_bG_2 z12_bG_3 z12_bG_4
  have z13_bA_0 := bA_13.out.cell 0 rfl
  have z13_bA_1 := bA_13.out.cell 1 rfl
  have z13_bA_2 := bA_13.out.cell 2 rfl
  have z13_bA_3 := bA_13.out.cell 3 rfl
  have z13_bA_4 := bA_13.out.cell 4 rfl
  have z13_bW_0 := bW_13.out.cell 0 rfl
  have z13_bW_1 := bW_13.out.cell 1 rfl
  have z13_bW_2 := bW_13.out.cell 2 rfl
  have z13_bW_3 := bW_13.out.cell 3 rfl
  have z13_bW_4 := bW_13.out.cell 4 rfl
  have z13_bX_0 := bX_13.out.cell 0 rfl
  have z13_bX_1 := bX_13.out.cell 1 rfl
  have z13_bX_2 := bX_13.out.cell 2 rfl
  have z13_bX_3 := bX_13.out.cell 3 rfl
  have z13_bX_4 := bX_13.out.cell 4 rfl
  have z13_bG_0 := bG_13.out.cell 0 rfl
  have z13_bG_1 := bG_13.out.cell 1 rfl
  have z13_bG_2 := bG_13.out.cell 2 rfl
  have z13_bG_3 := bG_13.out.cell 3 rfl
  have z13_bG_4 := bG_13.out.cell 4 rfl
  clear hk9 hb9b
  go_wp2_with fail
  refine (eqInt64S_any (lo := 0) (lo2 := 0) (by exact SeqOwn.at (intOwn_at (lo := 0)) x1_13.out (fun _ _ => Nat.zero_le _)) hk9'.out).mono ?_
  rintro e w9c ⟨rfl, hb9c⟩
  have hBw9c : Below w.heap.size w w9c := hBw9b.trans (hb9c.mono hBw9b.size)
  have s9c := hb9c.size
  have bA_14 : Hid (Box w9c w.heap.size [.int .i64 h.vNext, .int .i64 h.vDoc, .slice a2 h.vNodes.length cap2, .slice a3 h.vObjs.length cap3, .slice a4 h.vGlobals.length cap4] 26) := bA_13.out.below hb9c bA_13.out.lt
  have v0_14 : Hid (HeapOwn w9c [.int .i64 ys.vNext, .int .i64 ys.vDoc, .slice aw2 ys.vNodes.length cw2, .slice aw3 ys.vObjs.length cw3, .slice aw4 ys.vGlobals.length cw4] ys fw) := HeapOwn_stays _ _ _ _ _ (fun x hx => (hb9c).block x (HeapOwn_lt _ _ _ _ v0_13.out x hx)) v0_13.out
  have bW_14 : Hid (Box w9c w3.heap.size [.int .i64 ys.vNext, .int .i64 ys.vDoc, .slice aw2 ys.vNodes.length cw2, .slice aw3 ys.vObjs.length cw3, .slice aw4 ys.vGlobals.length cw4] 32) := bW_13.out.below hb9c bW_13.out.lt
  have x0_14 : Hid (HeapOwn w9c [.int .i64 h.vNext, .int .i64 h.vDoc, .slice e2 h.vNodes.length dap2, .slice e3 h.vObjs.length dap3, .slice e4 h.vGlobals.length dap4] h fx) := HeapOwn_stays _ _ _ _ _ (fun x hx => (hb9c).block x (HeapOwn_lt _ _ _ _ x0_13.out x hx)) x0_13.out
  have bX_14 : Hid (Box w9c w4.heap.size [.int .i64 h.vNext, .int .i64 h.vDoc, .slice e2 h.vNodes.length dap2, .slice e3 h.vObjs.length dap3, .slice e4 h.vGlobals.length dap4] 32) := bX_13.out.below hb9c bX_13.out.lt
  have x1_14 : Hid (SeqOwn 1 IntOwn w9c (.slice axx ids.length cxx) ids fx1) := SeqOwn.below intOwn_stays intOwn_lt x1_13.out (hb9c)
  have g0_14 : Hid (HeapOwn w9c [.int .i64 ys.vNext, .int .i64 ys.vDoc, .slice ag2 ys.vNodes.length cg2, .slice ag3 ys.vObjs.length cg3, .slice ag4 ys.vGlobals.length cg4] ys fg) := HeapOwn_stays _ _ _ _ _ (fun x hx => (hb9c).block x (HeapOwn_lt _ _ _ _ g0_13.out x hx)) g0_13.out
  have bG_14 : Hid (Box w9c w6.heap.size [.int .i64 ys.vNext, .int .i64 ys.vDoc, .slice ag2 ys.vNodes.length cg2, .slice ag3 ys.vObjs.length cg3, .slice ag4 ys.vGlobals.length cg4] 32) := bG_13.out.below hb9c bG_13.out.lt
  clear bA_13 v0_13 bW_13 x0_13 bX_13 x1_13 g0_13 bG_13
  clear z13_bA_0 z13_bA_1 z13_bA_2 z13_bA_3 z13_bA_4 z13_bW_0 z13_bW_1 z13_bW_2 z13_bW_3 z13_bW_4 z13_bX_0 z13_bX_1 z13_bX_2 z13_bX_3 z13_bX_4 z13_bG_0 z13_bG_1 z13_bG_2 z13_bG_3 z13_bG_4
  have z14_bA_0 := bA_14.out.cell 0 rfl
  have z14_bA_1 := bA_14.out.cell 1 rfl
  have z14_bA_2 := bA_14.out.cell 2 rfl
  have z14_bA_3 := bA_14.out.cell 3 rfl
  have z14_bA_4 := bA_14.out.cell 4 rfl
  have z14_bW_0 := bW_14.out.cell 0 rfl
  have z14_bW_1 := bW_14.out.cell 1 rfl
  have z14_bW_2 := bW_14.out.cell 2 rfl
  have z14_bW_3 := bW_14.out.cell 3 rfl
  have z14_bW_4 := bW_14.out.cell 4 rfl
  have z14_bX_0 := bX_14.out.cell 0 rfl
  have z14_bX_1 := bX_14.out.cell 1 rfl
  have z14_bX_2 := bX_14.out.cell 2 rfl
  have z14_bX_3 := bX_14.out.cell 3 rfl
  have z14_bX_4 := bX_14.out.cell 4 rfl
  have z14_bG_0 := bG_14.out.cell 0 rfl
  have z14_bG_1 := bG_14.out.cell 1 rfl
  have z14_bG_2 := bG_14.out.cell 2 rfl
  have z14_bG_3 := bG_14.out.cell 3 rfl
  have z14_bG_4 := bG_14.out.cell 4 rfl
  clear hb9c hk9'
  go_wp2_with fail
  refine (markHeap_any x0_14.out ndx (by omega) hcnt.out).mono ?_
  rintro e w10 ⟨rfl, own10, ho10⟩
  have s10 := ho10.2.2.2.1
  have hB10 : Below w.heap.size w w10 := hBw9c.trans (ho10.below hBw9c.size (fun x hx => by have := hx4.out x hx; omega))
  have bA_15 : Hid (Box w10 w.heap.size [.int .i64 h.vNext, .int .i64 h.vDoc, .slice a2 h.vNodes.length cap2, .slice a3 h.vObjs.length cap3, .slice a4 h.vGlobals.length cap4] 26) := ((ho10).keep bA_14.out.lt (fun q => by have := hx4.out _ q; omega)).trans bA_14.out
  have v0_15 : Hid (HeapOwn w10 [.int .i64 ys.vNext, .int .i64 ys.vDoc, .slice aw2 ys.vNodes.length cw2, .slice aw3 ys.vObjs.length cw3, .slice aw4 ys.vGlobals.length cw4] ys fw) := HeapOwn_stays _ _ _ _ _ (fun x hx => (ho10).keep (HeapOwn_lt _ _ _ _ v0_14.out x hx) (fun q => by have := hx4.out _ q; have := hw3.out _ hx; omega)) v0_14.out
  have bW_15 : Hid (Box w10 w3.heap.size [.int .i64 ys.vNext, .int .i64 ys.vDoc, .slice aw2 ys.vNodes.length cw2, .slice aw3 ys.vObjs.length cw3, .slice aw4 ys.vGlobals.length cw4] 32) := ((ho10).keep bW_14.out.lt (fun q => by have := hx4.out _ q; omega)).trans bW_14.out
  have bX_15 : Hid (Box w10 w4.heap.size [.int .i64 h.vNext, .int .i64 h.vDoc, .slice e2 h.vNodes.length dap2, .slice e3 h.vObjs.length dap3, .slice e4 h.vGlobals.length dap4] 32) := ((ho10).keep bX_14.out.lt (fun q => by have := hx4.out _ q; omega)).trans bX_14.out
  have x1_15 : Hid (SeqOwn 1 IntOwn w10 (.slice axx ids.length cxx) ids fx1) := SeqOwn.stays intOwn_stays x1_14.out (fun x hx => (ho10).keep (SeqOwn.lt intOwn_lt x1_14.out x hx) (fun q => by have := hx4.out _ q; have := hx5.out _ hx; omega))
  have g0_15 : Hid (HeapOwn w10 [.int .i64 ys.vNext, .int .i64 ys.vDoc, .slice ag2 ys.vNodes.length cg2, .slice ag3 ys.vObjs.length cg3, .slice ag4 ys.vGlobals.length cg4] ys fg) := HeapOwn_stays _ _ _ _ _ (fun x hx => (ho10).keep (HeapOwn_lt _ _ _ _ g0_14.out x hx) (fun q => by have := hx4.out _ q; have := hg6.out _ hx; omega)) g0_14.out
  have bG_15 : Hid (Box w10 w6.heap.size [.int .i64 ys.vNext, .int .i64 ys.vDoc, .slice ag2 ys.vNodes.length cg2, .slice ag3 ys.vObjs.length cg3, .slice ag4 ys.vGlobals.length cg4] 32) := ((ho10).keep bG_14.out.lt (fun q => by have := hx4.out _ q; omega)).trans bG_14.out
  clear bA_14 v0_14 bW_14 x0_14 bX_14 x1_14 g0_14 bG_14
  clear z14_bA_0 z14_bA_1 z14_bA_2 z14_bA_3 z14_bA_4 z14_bW_0 z14_bW_1 z14_bW_2 z14_bW_3 z14_bW_4 z14_bX_0 z14_bX_1 z14_bX_2 z14_bX_3 z14_bX_4 z14_bG_0 z14_bG_1 z14_bG_2 z14_bG_3 z14_bG_4
  have z15_bA_0 := bA_15.out.cell 0 rfl
  have z15_bA_1 := bA_15.out.cell 1 rfl
  have z15_bA_2 := bA_15.out.cell 2 rfl
  have z15_bA_3 := bA_15.out.cell 3 rfl
  have z15_bA_4 := bA_15.out.cell 4 rfl
  have z15_bW_0 := bW_15.out.cell 0 rfl
  have z15_bW_1 := bW_15.out.cell 1 rfl
  have z15_bW_2 := bW_15.out.cell 2 rfl
  have z15_bW_3 := bW_15.out.cell 3 rfl
  have z15_bW_4 := bW_15.out.cell 4 rfl
  have z15_bX_0 := bX_15.out.cell 0 rfl
  have z15_bX_1 := bX_15.out.cell 1 rfl
  have z15_bX_2 := bX_15.out.cell 2 rfl
  have z15_bX_3 := bX_15.out.cell 3 rfl
  have z15_bX_4 := bX_15.out.cell 4 rfl
  have z15_bG_0 := bG_15.out.cell 0 rfl
  have z15_bG_1 := bG_15.out.cell 1 rfl
  have z15_bG_2 := bG_15.out.cell 2 rfl
  have z15_bG_3 := bG_15.out.cell 3 rfl
  have z15_bG_4 := bG_15.out.cell 4 rfl
  have hk0 : (0 : Int) ≤ (1 : Int) + (cntL cntNode h.vNodes : Nat) + (cntL cntObj h.vObjs : Nat) + (cntL cntField h.vGlobals : Nat) := by omega
  generalize hSUM : (1 : Int) + (cntL cntNode h.vNodes : Nat) + (cntL cntObj h.vObjs : Nat) + (cntL cntField h.vGlobals : Nat) = K0 at *
  clear hSUM own10
  have hKx : Hid ((K0 : Int) + (cntL cntI ids : Nat) ≤ 4611686018427387904) := by show _ ≤ _; rw [cntL_int]; have := hil.out; have := hcnt0.out; omega
  go_wp2_with fail
  refine (markInt64S_any x1_15.out (by omega) hKx.out).mono ?_
  rintro e w10b ⟨rfl, own10b, ho10b⟩
  have s10b := ho10b.2.2.2.1
  have hB10b : Below w.heap.size w w10b := hB10.trans (ho10b.below hB10.size (fun x hx => by have := hx5.out x hx; omega))
  have bA_16 : Hid (Box w10b w.heap.size [.int .i64 h.vNext, .int .i64 h.vDoc, .slice a2 h.vNodes.length cap2, .slice a3 h.vObjs.length cap3, .slice a4 h.vGlobals.length cap4] 26) := ((ho10b).keep bA_15.out.lt (fun q => by have := hx5.out _ q; omega)).trans bA_15.out
  have v0_16 : Hid (HeapOwn w10b [.int .i64 ys.vNext, .int .i64 ys.vDoc, .slice aw2 ys.vNodes.length cw2, .slice aw3 ys.vObjs.length cw3, .slice aw4 ys.vGlobals.length cw4] ys fw) := HeapOwn_stays _ _ _ _ _ (fun x hx => (ho10b).keep (HeapOwn_lt _ _ _ _ v0_15.out x hx) (fun q => by have := hx5.out _ q; have := hw3.out _ hx; omega)) v0_15.out
  have bW_16 : Hid (Box w10b w3.heap.size [.int .i64 ys.vNext, .int .i64 ys.vDoc, .slice aw2 ys.vNodes.length cw2, .slice aw3 ys.vObjs.length cw3, .slice aw4 ys.vGlobals.length cw4] 32) := ((ho10b).keep bW_15.out.lt (fun q => by have := hx5.out _ q; omega)).trans bW_15.out
  have bX_16 : Hid (Box w10b w4.heap.size [.int .i64 h.vNext, .int .i64 h.vDoc, .slice e2 h.vNodes.length dap2, .slice e3 h.vObjs.length dap3, .slice e4 h.vGlobals.length dap4] 32) := ((ho10b).keep bX_15.out.lt (fun q => by have := hx5.out _ q; omega)).trans bX_15.out
  have g0_16 : Hid (HeapOwn w10b [.int .i64 ys.vNext, .int .i64 ys.vDoc, .slice ag2 ys.vNodes.length cg2, .slice ag3 ys.vObjs.length cg3, .slice ag4 ys.vGlobals.length cg4] ys fg) := HeapOwn_stays _ _ _ _ _ (fun x hx => (ho10b).keep (HeapOwn_lt _ _ _ _ g0_15.out x hx) (fun q => by have := hx5.out _ q; have := hg6.out _ hx; omega)) g0_15.out
  have bG_16 : Hid (Box w10b w6.heap.size [.int .i64 ys.vNext, .int .i64 ys.vDoc, .slice ag2 ys.vNodes.length cg2, .slice ag3 ys.vObjs.length cg3, .slice ag4 ys.vGlobals.length cg4] 32) := ((ho10b).keep bG_15.out.lt (fun q => by have := hx5.out _ q; omega)).trans bG_15.out
  clear bA_15 v0_15 bW_15 bX_15 x1_15 g0_15 bG_15
  clear z15_bA_0 z15_bA_1 z15_bA_2 z15_bA_3 z15_bA_4 z15_bW_0 z15_bW_1 z15_bW_2 z15_bW_3 z15_bW_4 z15_bX_0 z15_bX_1 z15_bX_2 z15_bX_3 z15_bX_4 z15_bG_0 z15_bG_1 z15_bG_2 z15_bG_3 z15_bG_4
  have z16_bA_0 := bA_16.out.cell 0 rfl
  have z16_bA_1 := bA_16.out.cell 1 rfl
  have z16_bA_2 := bA_16.out.cell 2 rfl
  have z16_bA_3 := bA_16.out.cell 3 rfl
  have z16_bA_4 := bA_16.out.cell 4 rfl
  have z16_bW_0 := bW_16.out.cell 0 rfl
  have z16_bW_1 := bW_16.out.cell 1 rfl
  have z16_bW_2 := bW_16.out.cell 2 rfl
  have z16_bW_3 := bW_16.out.cell 3 rfl
  have z16_bW_4 := bW_16.out.cell 4 rfl
  have z16_bX_0 := bX_16.out.cell 0 rfl
  have z16_bX_1 := bX_16.out.cell 1 rfl
  have z16_bX_2 := bX_16.out.cell 2 rfl
  have z16_bX_3 := bX_16.out.cell 3 rfl
  have z16_bX_4 := bX_16.out.cell 4 rfl
  have z16_bG_0 := bG_16.out.cell 0 rfl
  have z16_bG_1 := bG_16.out.cell 1 rfl
  have z16_bG_2 := bG_16.out.cell 2 rfl
  have z16_bG_3 := bG_16.out.cell 3 rfl
  have z16_bG_4 := bG_16.out.cell 4 rfl
  generalize hKK : (K0 : Int) + (cntL cntI ids : Nat) = K at *
  have hKK' : Hid _ := hKK
  have hk1 : decide (K < 0) = false := by simp; have := hKK'.out; omega
  clear own10b hKK
  go_wp2_with fail
  refine (eqHeap_any (lo := 0) (lo2 := 0) (by exact HeapOwn_at (lo := 0) _ _ _ _ g0_16.out (fun _ _ => Nat.zero_le _)) (by exact HeapOwn_at (lo := 0) _ _ _ _ v0_16.out (fun _ _ => Nat.zero_le _))).mono ?_
  rintro e w11 ⟨rfl, hb11⟩
  have hB11 : Below w.heap.size w w11 := hB10b.trans (hb11.mono hB10b.size)
  have s11 := hb11.size
  have bA_17 : Hid (Box w11 w.heap.size [.int .i64 h.vNext, .int .i64 h.vDoc, .slice a2 h.vNodes.length cap2, .slice a3 h.vObjs.length cap3, .slice a4 h.vGlobals.length cap4] 26) := bA_16.out.below hb11 bA_16.out.lt
  have v0_17 : Hid (HeapOwn w11 [.int .i64 ys.vNext, .int .i64 ys.vDoc, .slice aw2 ys.vNodes.length cw2, .slice aw3 ys.vObjs.length cw3, .slice aw4 ys.vGlobals.length cw4] ys fw) := HeapOwn_stays _ _ _ _ _ (fun x hx => (hb11).block x (HeapOwn_lt _ _ _ _ v0_16.out x hx)) v0_16.out
  have bW_17 : Hid (Box w11 w3.heap.size [.int .i64 ys.vNext, .int .i64 ys.vDoc, .slice aw2 ys.vNodes.length cw2, .slice aw3 ys.vObjs.length cw3, .slice aw4 ys.vGlobals.length cw4] 32) := bW_16.out.below hb11 bW_16.out.lt
  have bX_17 : Hid (Box w11 w4.heap.size [.int .i64 h.vNext, .int .i64 h.vDoc, .slice e2 h.vNodes.length dap2, .slice e3 h.vObjs.length dap3, .slice e4 h.vGlobals.length dap4] 32) := bX_16.out.below hb11 bX_16.out.lt
  have g0_17 : Hid (HeapOwn w11 [.int .i64 ys.vNext, .int .i64 ys.vDoc, .slice ag2 ys.vNodes.length cg2, .slice ag3 ys.vObjs.length cg3, .slice ag4 ys.vGlobals.length cg4] ys fg) := HeapOwn_stays _ _ _ _ _ (fun x hx => (hb11).block x (HeapOwn_lt _ _ _ _ g0_16.out x hx)) g0_16.out
  have bG_17 : Hid (Box w11 w6.heap.size [.int .i64 ys.vNext, .int .i64 ys.vDoc, .slice ag2 ys.vNodes.length cg2, .slice ag3 ys.vObjs.length cg3, .slice ag4 ys.vGlobals.length cg4] 32) := bG_16.out.below hb11 bG_16.out.lt
  clear bA_16 v0_16 bW_16 bX_16 g0_16 bG_16
  clear z16_bA_0 z16_bA_1 z16_bA_2 z16_bA_3 z16_bA_4 z16_bW_0 z16_bW_1 z16_bW_2 z16_bW_3 z16_bW_4 z16_bX_0 z16_bX_1 z16_bX_2 z16_bX_3 z16_bX_4 z16_bG_0 z16_bG_1 z16_bG_2 z16_bG_3 z16_bG_4
  have z17_bA_0 := bA_17.out.cell 0 rfl
  have z17_bA_1 := bA_17.out.cell 1 rfl
  have z17_bA_2 := bA_17.out.cell 2 rfl
  have z17_bA_3 := bA_17.out.cell 3 rfl
  have z17_bA_4 := bA_17.out.cell 4 rfl
  have z17_bW_0 := bW_17.out.cell 0 rfl
  have z17_bW_1 := bW_17.out.cell 1 rfl
  have z17_bW_2 := bW_17.out.cell 2 rfl
  have z17_bW_3 := bW_17.out.cell 3 rfl
  have z17_bW_4 := bW_17.out.cell 4 rfl
  have z17_bX_0 := bX_17.out.cell 0 rfl
  have z17_bX_1 := bX_17.out.cell 1 rfl
  have z17_bX_2 := bX_17.out.cell 2 rfl
  have z17_bX_3 := bX_17.out.cell 3 rfl
  have z17_bX_4 := bX_17.out.cell 4 rfl
  have z17_bG_0 := bG_17.out.cell 0 rfl
  have z17_bG_1 := bG_17.out.cell 1 rfl
  have z17_bG_2 := bG_17.out.cell 2 rfl
  have z17_bG_3 := bG_17.out.cell 3 rfl
  have z17_bG_4 := bG_17.out.cell 4 rfl
  go_wp2_with fail
  refine (markHeap_any g0_17.out ndg.out (by omega) hYL.out).mono ?_
  rintro e w12 ⟨rfl, own12, ho12⟩
  have s12 := ho12.2.2.2.1
  have hB12 : Below w.heap.size w w12 := hB11.trans (ho12.below hB11.size (fun x hx => by have := hg6.out x hx; omega))
  have bA_18 : Hid (Box w12 w.heap.size [.int .i64 h.vNext, .int .i64 h.vDoc, .slice a2 h.vNodes.length cap2, .slice a3 h.vObjs.length cap3, .slice a4 h.vGlobals.length cap4] 26) := ((ho12).keep bA_17.out.lt (fun q => by have := hg6.out _ q; omega)).trans bA_17.out
  have v0_18 : Hid (HeapOwn w12 [.int .i64 ys.vNext, .int .i64 ys.vDoc, .slice aw2 ys.vNodes.length cw2, .slice aw3 ys.vObjs.length cw3, .slice aw4 ys.vGlobals.length cw4] ys fw) := HeapOwn_stays _ _ _ _ _ (fun x hx => (ho12).keep (HeapOwn_lt _ _ _ _ v0_17.out x hx) (fun q => by have := hg6.out _ q; have := hw3.out _ hx; omega)) v0_17.out
  have bW_18 : Hid (Box w12 w3.heap.size [.int .i64 ys.vNext, .int .i64 ys.vDoc, .slice aw2 ys.vNodes.length cw2, .slice aw3 ys.vObjs.length cw3, .slice aw4 ys.vGlobals.length cw4] 32) := ((ho12).keep bW_17.out.lt (fun q => by have := hg6.out _ q; omega)).trans bW_17.out
  have bX_18 : Hid (Box w12 w4.heap.size [.int .i64 h.vNext, .int .i64 h.vDoc, .slice e2 h.vNodes.length dap2, .slice e3 h.vObjs.length dap3, .slice e4 h.vGlobals.length dap4] 32) := ((ho12).keep bX_17.out.lt (fun q => by have := hg6.out _ q; omega)).trans bX_17.out
  have bG_18 : Hid (Box w12 w6.heap.size [.int .i64 ys.vNext, .int .i64 ys.vDoc, .slice ag2 ys.vNodes.length cg2, .slice ag3 ys.vObjs.length cg3, .slice ag4 ys.vGlobals.length cg4] 32) := ((ho12).keep bG_17.out.lt (fun q => by have := hg6.out _ q; omega)).trans bG_17.out
  clear bA_17 v0_17 bW_17 bX_17 g0_17 bG_17
  clear z17_bA_0 z17_bA_1 z17_bA_2 z17_bA_3 z17_bA_4 z17_bW_0 z17_bW_1 z17_bW_2 z17_bW_3 z17_bW_4 z17_bX_0 z17_bX_1 z17_bX_2 z17_bX_3 z17_bX_4 z17_bG_0 z17_bG_1 z17_bG_2 z17_bG_3 z17_bG_4
  have z18_bA_0 := bA_18.out.cell 0 rfl
  have z18_bA_1 := bA_18.out.cell 1 rfl
  have z18_bA_2 := bA_18.out.cell 2 rfl
  have z18_bA_3 := bA_18.out.cell 3 rfl
  have z18_bA_4 := bA_18.out.cell 4 rfl
  have z18_bW_0 := bW_18.out.cell 0 rfl
  have z18_bW_1 := bW_18.out.cell 1 rfl
  have z18_bW_2 := bW_18.out.cell 2 rfl
  have z18_bW_3 := bW_18.out.cell 3 rfl
  have z18_bW_4 := bW_18.out.cell 4 rfl
  have z18_bX_0 := bX_18.out.cell 0 rfl
  have z18_bX_1 := bX_18.out.cell 1 rfl
  have z18_bX_2 := bX_18.out.cell 2 rfl
  have z18_bX_3 := bX_18.out.cell 3 rfl
  have z18_bX_4 := bX_18.out.cell 4 rfl
  have z18_bG_0 := bG_18.out.cell 0 rfl
  have z18_bG_1 := bG_18.out.cell 1 rfl
  have z18_bG_2 := bG_18.out.cell 2 rfl
  have z18_bG_3 := bG_18.out.cell 3 rfl
  have z18_bG_4 := bG_18.out.cell 4 rfl
  have g0_18 : Hid (HeapOwn w12 [.int .i64 ys.vNext, .int .i64 ys.vDoc, .slice ag2 ys.vNodes.length cg2, .slice ag3 ys.vObjs.length cg3, .slice ag4 ys.vGlobals.length cg4] (mkTHeap ys 1) fg) := own12
  clear own12
  generalize hCI : (1 : Int) + (cntL cntNode ys.vNodes : Nat) + (cntL cntObj ys.vObjs : Nat) + (cntL cntField ys.vGlobals : Nat) = M at *
  have hCI' : Hid _ := hCI
  clear hCI
  have hM0 : 0 ≤ M := by have := hCI'.out; omega
  have hM1 : decide (M < 0) = false := by simp; omega
  go_wp2_with fail
  refine (heldHeap_any (lo := 0) (m := 1) (x := ys) (by exact HeapOwn_at (lo := 0) _ _ _ _ g0_18.out (fun _ _ => Nat.zero_le _)) (by omega) (by rw [hCI'.out]; exact hYL.out)).mono ?_
  rintro e w13 ⟨rfl, hb13⟩
  rw [hCI'.out]
  have hB13 : Below w.heap.size w w13 := hB12.trans (hb13.mono hB12.size)
  have s13 := hb13.size
  have bA_19 : Hid (Box w13 w.heap.size [.int .i64 h.vNext, .int .i64 h.vDoc, .slice a2 h.vNodes.length cap2, .slice a3 h.vObjs.length cap3, .slice a4 h.vGlobals.length cap4] 26) := bA_18.out.below hb13 bA_18.out.lt
  have v0_19 : Hid (HeapOwn w13 [.int .i64 ys.vNext, .int .i64 ys.vDoc, .slice aw2 ys.vNodes.length cw2, .slice aw3 ys.vObjs.length cw3, .slice aw4 ys.vGlobals.length cw4] ys fw) := HeapOwn_stays _ _ _ _ _ (fun x hx => (hb13).block x (HeapOwn_lt _ _ _ _ v0_18.out x hx)) v0_18.out
  have bW_19 : Hid (Box w13 w3.heap.size [.int .i64 ys.vNext, .int .i64 ys.vDoc, .slice aw2 ys.vNodes.length cw2, .slice aw3 ys.vObjs.length cw3, .slice aw4 ys.vGlobals.length cw4] 32) := bW_18.out.below hb13 bW_18.out.lt
  have bX_19 : Hid (Box w13 w4.heap.size [.int .i64 h.vNext, .int .i64 h.vDoc, .slice e2 h.vNodes.length dap2, .slice e3 h.vObjs.length dap3, .slice e4 h.vGlobals.length dap4] 32) := bX_18.out.below hb13 bX_18.out.lt
  have g0_19 : Hid (HeapOwn w13 [.int .i64 ys.vNext, .int .i64 ys.vDoc, .slice ag2 ys.vNodes.length cg2, .slice ag3 ys.vObjs.length cg3, .slice ag4 ys.vGlobals.length cg4] (mkTHeap ys 1) fg) := HeapOwn_stays _ _ _ _ _ (fun x hx => (hb13).block x (HeapOwn_lt _ _ _ _ g0_18.out x hx)) g0_18.out
  have bG_19 : Hid (Box w13 w6.heap.size [.int .i64 ys.vNext, .int .i64 ys.vDoc, .slice ag2 ys.vNodes.length cg2, .slice ag3 ys.vObjs.length cg3, .slice ag4 ys.vGlobals.length cg4] 32) := bG_18.out.below hb13 bG_18.out.lt
  clear bA_18 v0_18 bW_18 bX_18 g0_18 bG_18
  clear z18_bA_0 z18_bA_1 z18_bA_2 z18_bA_3 z18_bA_4 z18_bW_0 z18_bW_1 z18_bW_2 z18_bW_3 z18_bW_4 z18_bX_0 z18_bX_1 z18_bX_2 z18_bX_3 z18_bX_4 z18_bG_0 z18_bG_1 z18_bG_2 z18_bG_3 z18_bG_4
  have z19_bA_0 := bA_19.out.cell 0 rfl
  have z19_bA_1 := bA_19.out.cell 1 rfl
  have z19_bA_2 := bA_19.out.cell 2 rfl
  have z19_bA_3 := bA_19.out.cell 3 rfl
  have z19_bA_4 := bA_19.out.cell 4 rfl
  have z19_bW_0 := bW_19.out.cell 0 rfl
  have z19_bW_1 := bW_19.out.cell 1 rfl
  have z19_bW_2 := bW_19.out.cell 2 rfl
  have z19_bW_3 := bW_19.out.cell 3 rfl
  have z19_bW_4 := bW_19.out.cell 4 rfl
  have z19_bX_0 := bX_19.out.cell 0 rfl
  have z19_bX_1 := bX_19.out.cell 1 rfl
  have z19_bX_2 := bX_19.out.cell 2 rfl
  have z19_bX_3 := bX_19.out.cell 3 rfl
  have z19_bX_4 := bX_19.out.cell 4 rfl
  have z19_bG_0 := bG_19.out.cell 0 rfl
  have z19_bG_1 := bG_19.out.cell 1 rfl
  have z19_bG_2 := bG_19.out.cell 2 rfl
  have z19_bG_3 := bG_19.out.cell 3 rfl
  have z19_bG_4 := bG_19.out.cell 4 rfl
  go_wp2_with fail
  refine (toHeap_at (HeapAt_stays _ _ _ 0 _ _ (.of_below hB13) ht0.out) hsm.out).mono ?_
  rintro e w14 ⟨⟨cs14, rfl, ht14⟩, hb14⟩
  have hB14 : Below w.heap.size w w14 := hB13.trans (hb14.mono hB13.size)
  have s14 := hb14.size
  have ht14' : Hid (HeapAt w14 w13.heap.size cs14 h) := ht14
  have bA_20 : Hid (Box w14 w.heap.size [.int .i64 h.vNext, .int .i64 h.vDoc, .slice a2 h.vNodes.length cap2, .slice a3 h.vObjs.length cap3, .slice a4 h.vGlobals.length cap4] 26) := bA_19.out.below hb14 bA_19.out.lt
  have v0_20 : Hid (HeapOwn w14 [.int .i64 ys.vNext, .int .i64 ys.vDoc, .slice aw2 ys.vNodes.length cw2, .slice aw3 ys.vObjs.length cw3, .slice aw4 ys.vGlobals.length cw4] ys fw) := HeapOwn_stays _ _ _ _ _ (fun x hx => (hb14).block x (HeapOwn_lt _ _ _ _ v0_19.out x hx)) v0_19.out
  have bW_20 : Hid (Box w14 w3.heap.size [.int .i64 ys.vNext, .int .i64 ys.vDoc, .slice aw2 ys.vNodes.length cw2, .slice aw3 ys.vObjs.length cw3, .slice aw4 ys.vGlobals.length cw4] 32) := bW_19.out.below hb14 bW_19.out.lt
  have bX_20 : Hid (Box w14 w4.heap.size [.int .i64 h.vNext, .int .i64 h.vDoc, .slice e2 h.vNodes.length dap2, .slice e3 h.vObjs.length dap3, .slice e4 h.vGlobals.length dap4] 32) := bX_19.out.below hb14 bX_19.out.lt
  have g0_20 : Hid (HeapOwn w14 [.int .i64 ys.vNext, .int .i64 ys.vDoc, .slice ag2 ys.vNodes.length cg2, .slice ag3 ys.vObjs.length cg3, .slice ag4 ys.vGlobals.length cg4] (mkTHeap ys 1) fg) := HeapOwn_stays _ _ _ _ _ (fun x hx => (hb14).block x (HeapOwn_lt _ _ _ _ g0_19.out x hx)) g0_19.out
  have bG_20 : Hid (Box w14 w6.heap.size [.int .i64 ys.vNext, .int .i64 ys.vDoc, .slice ag2 ys.vNodes.length cg2, .slice ag3 ys.vObjs.length cg3, .slice ag4 ys.vGlobals.length cg4] 32) := bG_19.out.below hb14 bG_19.out.lt
  clear bA_19 v0_19 bW_19 bX_19 g0_19 bG_19
  clear z19_bA_0 z19_bA_1 z19_bA_2 z19_bA_3 z19_bA_4 z19_bW_0 z19_bW_1 z19_bW_2 z19_bW_3 z19_bW_4 z19_bX_0 z19_bX_1 z19_bX_2 z19_bX_3 z19_bX_4 z19_bG_0 z19_bG_1 z19_bG_2 z19_bG_3 z19_bG_4
  have z20_bA_0 := bA_20.out.cell 0 rfl
  have z20_bA_1 := bA_20.out.cell 1 rfl
  have z20_bA_2 := bA_20.out.cell 2 rfl
  have z20_bA_3 := bA_20.out.cell 3 rfl
  have z20_bA_4 := bA_20.out.cell 4 rfl
  have z20_bW_0 := bW_20.out.cell 0 rfl
  have z20_bW_1 := bW_20.out.cell 1 rfl
  have z20_bW_2 := bW_20.out.cell 2 rfl
  have z20_bW_3 := bW_20.out.cell 3 rfl
  have z20_bW_4 := bW_20.out.cell 4 rfl
  have z20_bX_0 := bX_20.out.cell 0 rfl
  have z20_bX_1 := bX_20.out.cell 1 rfl
  have z20_bX_2 := bX_20.out.cell 2 rfl
  have z20_bX_3 := bX_20.out.cell 3 rfl
  have z20_bX_4 := bX_20.out.cell 4 rfl
  have z20_bG_0 := bG_20.out.cell 0 rfl
  have z20_bG_1 := bG_20.out.cell 1 rfl
  have z20_bG_2 := bG_20.out.cell 2 rfl
  have z20_bG_3 := bG_20.out.cell 3 rfl
  have z20_bG_4 := bG_20.out.cell 4 rfl
  obtain ⟨l2, l3, l4, rfl, t2, t3, t4, _⟩ := ht14
  obtain ⟨b2, fap2, rfl⟩ := t2.form
  obtain ⟨b3, fap3, rfl⟩ := t3.form
  obtain ⟨b4, fap4, rfl⟩ := t4.form
  clear t2 t3 t4 hb14
  go_wp2_with fail
  refine (toInt64S_at (SeqAt.keep intAt_stays hti0.out (.of_below hB14)) hil.out).mono ?_
  rintro e w14b ⟨⟨kc, rfl, hkc⟩, hb14b⟩
  have hB14b : Below w.heap.size w w14b := hB14.trans (hb14b.mono hB14.size)
  have s14b := hb14b.size
  have hkc' : Hid (SeqAt 1 IntAt w14b 0 kc ids) := SeqAt.keep intAt_stays hkc (Kept.lower (Nat.zero_le _))
  have ht14b : Hid (HeapAt w14b 0 _ h) := HeapAt_stays _ _ _ _ _ _ (Kept.lower (Nat.zero_le _)) (HeapAt_stays _ _ _ _ _ _ (.of_below hb14b) ht14'.out)
  obtain ⟨akc, ckc, rfl⟩ := hkc.form
  have bA_21 : Hid (Box w14b w.heap.size [.int .i64 h.vNext, .int .i64 h.vDoc, .slice a2 h.vNodes.length cap2, .slice a3 h.vObjs.length cap3, .slice a4 h.vGlobals.length cap4] 26) := bA_20.out.below hb14b bA_20.out.lt
  have v0_21 : Hid (HeapOwn w14b [.int .i64 ys.vNext, .int .i64 ys.vDoc, .slice aw2 ys.vNodes.length cw2, .slice aw3 ys.vObjs.length cw3, .slice aw4 ys.vGlobals.length cw4] ys fw) := HeapOwn_stays _ _ _ _ _ (fun x hx => (hb14b).block x (HeapOwn_lt _ _ _ _ v0_20.out x hx)) v0_20.out
  have bW_21 : Hid (Box w14b w3.heap.size [.int .i64 ys.vNext, .int .i64 ys.vDoc, .slice aw2 ys.vNodes.length cw2, .slice aw3 ys.vObjs.length cw3, .slice aw4 ys.vGlobals.length cw4] 32) := bW_20.out.below hb14b bW_20.out.lt
  have bX_21 : Hid (Box w14b w4.heap.size [.int .i64 h.vNext, .int .i64 h.vDoc, .slice e2 h.vNodes.length dap2, .slice e3 h.vObjs.length dap3, .slice e4 h.vGlobals.length dap4] 32) := bX_20.out.below hb14b bX_20.out.lt
  have g0_21 : Hid (HeapOwn w14b [.int .i64 ys.vNext, .int .i64 ys.vDoc, .slice ag2 ys.vNodes.length cg2, .slice ag3 ys.vObjs.length cg3, .slice ag4 ys.vGlobals.length cg4] (mkTHeap ys 1) fg) := HeapOwn_stays _ _ _ _ _ (fun x hx => (hb14b).block x (HeapOwn_lt _ _ _ _ g0_20.out x hx)) g0_20.out
  have bG_21 : Hid (Box w14b w6.heap.size [.int .i64 ys.vNext, .int .i64 ys.vDoc, .slice ag2 ys.vNodes.length cg2, .slice ag3 ys.vObjs.length cg3, .slice ag4 ys.vGlobals.length cg4] 32) := bG_20.out.below hb14b bG_20.out.lt
  clear bA_20 v0_20 bW_20 bX_20 g0_20 bG_20
  clear z20_bA_0 z20_bA_1 z20_bA_2 z20_bA_3 z20_bA_4 z20_bW_0 z20_bW_1 z20_bW_2 z20_bW_3 z20_bW_4 z20_bX_0 z20_bX_1 z20_bX_2 z20_bX_3 z20_bX_4 z20_bG_0 z20_bG_1 z20_bG_2 z20_bG_3 z20_bG_4
  have z21_bA_0 := bA_21.out.cell 0 rfl
  have z21_bA_1 := bA_21.out.cell 1 rfl
  have z21_bA_2 := bA_21.out.cell 2 rfl
  have z21_bA_3 := bA_21.out.cell 3 rfl
  have z21_bA_4 := bA_21.out.cell 4 rfl
  have z21_bW_0 := bW_21.out.cell 0 rfl
  have z21_bW_1 := bW_21.out.cell 1 rfl
  have z21_bW_2 := bW_21.out.cell 2 rfl
  have z21_bW_3 := bW_21.out.cell 3 rfl
  have z21_bW_4 := bW_21.out.cell 4 rfl
  have z21_bX_0 := bX_21.out.cell 0 rfl
  have z21_bX_1 := bX_21.out.cell 1 rfl
  have z21_bX_2 := bX_21.out.cell 2 rfl
  have z21_bX_3 := bX_21.out.cell 3 rfl
  have z21_bX_4 := bX_21.out.cell 4 rfl
  have z21_bG_0 := bG_21.out.cell 0 rfl
  have z21_bG_1 := bG_21.out.cell 1 rfl
  have z21_bG_2 := bG_21.out.cell 2 rfl
  have z21_bG_3 := bG_21.out.cell 3 rfl
  have z21_bG_4 := bG_21.out.cell 4 rfl
  clear hkc hb14b
  go_wp2_with fail
  refine (implFreed_any ht14b.out hsm.out hkc'.out hil.out hbb'.out).mono ?_
  rintro e w15 ⟨⟨csh, fh, rfl, ownh, _⟩, hb15⟩
  have hB15 : Below w.heap.size w w15 := hB14b.trans (hb15.mono hB14b.size)
  have s15 := hb15.size
  have bA_22 : Hid (Box w15 w.heap.size [.int .i64 h.vNext, .int .i64 h.vDoc, .slice a2 h.vNodes.length cap2, .slice a3 h.vObjs.length cap3, .slice a4 h.vGlobals.length cap4] 26) := bA_21.out.below hb15 bA_21.out.lt
  have v0_22 : Hid (HeapOwn w15 [.int .i64 ys.vNext, .int .i64 ys.vDoc, .slice aw2 ys.vNodes.length cw2, .slice aw3 ys.vObjs.length cw3, .slice aw4 ys.vGlobals.length cw4] ys fw) := HeapOwn_stays _ _ _ _ _ (fun x hx => (hb15).block x (HeapOwn_lt _ _ _ _ v0_21.out x hx)) v0_21.out
  have bW_22 : Hid (Box w15 w3.heap.size [.int .i64 ys.vNext, .int .i64 ys.vDoc, .slice aw2 ys.vNodes.length cw2, .slice aw3 ys.vObjs.length cw3, .slice aw4 ys.vGlobals.length cw4] 32) := bW_21.out.below hb15 bW_21.out.lt
  have bX_22 : Hid (Box w15 w4.heap.size [.int .i64 h.vNext, .int .i64 h.vDoc, .slice e2 h.vNodes.length dap2, .slice e3 h.vObjs.length dap3, .slice e4 h.vGlobals.length dap4] 32) := bX_21.out.below hb15 bX_21.out.lt
  have g0_22 : Hid (HeapOwn w15 [.int .i64 ys.vNext, .int .i64 ys.vDoc, .slice ag2 ys.vNodes.length cg2, .slice ag3 ys.vObjs.length cg3, .slice ag4 ys.vGlobals.length cg4] (mkTHeap ys 1) fg) := HeapOwn_stays _ _ _ _ _ (fun x hx => (hb15).block x (HeapOwn_lt _ _ _ _ g0_21.out x hx)) g0_21.out
  have bG_22 : Hid (Box w15 w6.heap.size [.int .i64 ys.vNext, .int .i64 ys.vDoc, .slice ag2 ys.vNodes.length cg2, .slice ag3 ys.vObjs.length cg3, .slice ag4 ys.vGlobals.length cg4] 32) := bG_21.out.below hb15 bG_21.out.lt
  clear bA_21 v0_21 bW_21 bX_21 g0_21 bG_21
  clear z21_bA_0 z21_bA_1 z21_bA_2 z21_bA_3 z21_bA_4 z21_bW_0 z21_bW_1 z21_bW_2 z21_bW_3 z21_bW_4 z21_bX_0 z21_bX_1 z21_bX_2 z21_bX_3 z21_bX_4 z21_bG_0 z21_bG_1 z21_bG_2 z21_bG_3 z21_bG_4
  have z22_bA_0 := bA_22.out.cell 0 rfl
  have z22_bA_1 := bA_22.out.cell 1 rfl
  have z22_bA_2 := bA_22.out.cell 2 rfl
  have z22_bA_3 := bA_22.out.cell 3 rfl
  have z22_bA_4 := bA_22.out.cell 4 rfl
  have z22_bW_0 := bW_22.out.cell 0 rfl
  have z22_bW_1 := bW_22.out.cell 1 rfl
  have z22_bW_2 := bW_22.out.cell 2 rfl
  have z22_bW_3 := bW_22.out.cell 3 rfl
  have z22_bW_4 := bW_22.out.cell 4 rfl
  have z22_bX_0 := bX_22.out.cell 0 rfl
  have z22_bX_1 := bX_22.out.cell 1 rfl
  have z22_bX_2 := bX_22.out.cell 2 rfl
  have z22_bX_3 := bX_22.out.cell 3 rfl
  have z22_bX_4 := bX_22.out.cell 4 rfl
  have z22_bG_0 := bG_22.out.cell 0 rfl
  have z22_bG_1 := bG_22.out.cell 1 rfl
  have z22_bG_2 := bG_22.out.cell 2 rfl
  have z22_bG_3 := bG_22.out.cell 3 rfl
  have z22_bG_4 := bG_22.out.cell 4 rfl
  have ownh' : HeapOwn w15 csh ys fh := by rw [← hYS'.out]; exact ownh
  have h0_22 : Hid (HeapOwn w15 csh ys fh) := ownh'
  obtain ⟨q2_, q3_, q4_, _, _, _, rfl, r2_, r3_, r4_, _⟩ := ownh'
  obtain ⟨ah2, ch2, rfl⟩ := r2_.form
  obtain ⟨ah3, ch3, rfl⟩ := r3_.form
  obtain ⟨ah4, ch4, rfl⟩ := r4_.form
  clear r2_ r3_ r4_
  have hbH : Below w15.heap.size w15 (w15.alloc (.cells #[.int .i64 ys.vNext, .int .i64 ys.vDoc, .slice ah2 ys.vNodes.length ch2, .slice ah3 ys.vObjs.length ch3, .slice ah4 ys.vGlobals.length ch4] 32)) := (Below.refl _ _).alloc (Nat.le_refl _) _
  have hBH : Below w.heap.size w (w15.alloc (.cells #[.int .i64 ys.vNext, .int .i64 ys.vDoc, .slice ah2 ys.vNodes.length ch2, .slice ah3 ys.vObjs.length ch3, .slice ah4 ys.vGlobals.length ch4] 32)) := hB15.trans (hbH.mono hB15.size)
  clear ownh hb15
  have bA_23 : Hid (Box (w15.alloc (.cells #[.int .i64 ys.vNext, .int .i64 ys.vDoc, .slice ah2 ys.vNodes.length ch2, .slice ah3 ys.vObjs.length ch3, .slice ah4 ys.vGlobals.length ch4] 32)) w.heap.size [.int .i64 h.vNext, .int .i64 h.vDoc, .slice a2 h.vNodes.length cap2, .slice a3 h.vObjs.length cap3, .slice a4 h.vGlobals.length cap4] 26) := bA_22.out.below hbH bA_22.out.lt
  have v0_23 : Hid (HeapOwn (w15.alloc (.cells #[.int .i64 ys.vNext, .int .i64 ys.vDoc, .slice ah2 ys.vNodes.length ch2, .slice ah3 ys.vObjs.length ch3, .slice ah4 ys.vGlobals.length ch4] 32)) [.int .i64 ys.vNext, .int .i64 ys.vDoc, .slice aw2 ys.vNodes.length cw2, .slice aw3 ys.vObjs.length cw3, .slice aw4 ys.vGlobals.length cw4] ys fw) := HeapOwn_stays _ _ _ _ _ (fun x hx => (hbH).block x (HeapOwn_lt _ _ _ _ v0_22.out x hx)) v0_22.out
  have bW_23 : Hid (Box (w15.alloc (.cells #[.int .i64 ys.vNext, .int .i64 ys.vDoc, .slice ah2 ys.vNodes.length ch2, .slice ah3 ys.vObjs.length ch3, .slice ah4 ys.vGlobals.length ch4] 32)) w3.heap.size [.int .i64 ys.vNext, .int .i64 ys.vDoc, .slice aw2 ys.vNodes.length cw2, .slice aw3 ys.vObjs.length cw3, .slice aw4 ys.vGlobals.length cw4] 32) := bW_22.out.below hbH bW_22.out.lt
  have bX_23 : Hid (Box (w15.alloc (.cells #[.int .i64 ys.vNext, .int .i64 ys.vDoc, .slice ah2 ys.vNodes.length ch2, .slice ah3 ys.vObjs.length ch3, .slice ah4 ys.vGlobals.length ch4] 32)) w4.heap.size [.int .i64 h.vNext, .int .i64 h.vDoc, .slice e2 h.vNodes.length dap2, .slice e3 h.vObjs.length dap3, .slice e4 h.vGlobals.length dap4] 32) := bX_22.out.below hbH bX_22.out.lt
  have g0_23 : Hid (HeapOwn (w15.alloc (.cells #[.int .i64 ys.vNext, .int .i64 ys.vDoc, .slice ah2 ys.vNodes.length ch2, .slice ah3 ys.vObjs.length ch3, .slice ah4 ys.vGlobals.length ch4] 32)) [.int .i64 ys.vNext, .int .i64 ys.vDoc, .slice ag2 ys.vNodes.length cg2, .slice ag3 ys.vObjs.length cg3, .slice ag4 ys.vGlobals.length cg4] (mkTHeap ys 1) fg) := HeapOwn_stays _ _ _ _ _ (fun x hx => (hbH).block x (HeapOwn_lt _ _ _ _ g0_22.out x hx)) g0_22.out
  have bG_23 : Hid (Box (w15.alloc (.cells #[.int .i64 ys.vNext, .int .i64 ys.vDoc, .slice ah2 ys.vNodes.length ch2, .slice ah3 ys.vObjs.length ch3, .slice ah4 ys.vGlobals.length ch4] 32)) w6.heap.size [.int .i64 ys.vNext, .int .i64 ys.vDoc, .slice ag2 ys.vNodes.length cg2, .slice ag3 ys.vObjs.length cg3, .slice ag4 ys.vGlobals.length cg4] 32) := bG_22.out.below hbH bG_22.out.lt
  have h0_23 : Hid (HeapOwn (w15.alloc (.cells #[.int .i64 ys.vNext, .int .i64 ys.vDoc, .slice ah2 ys.vNodes.length ch2, .slice ah3 ys.vObjs.length ch3, .slice ah4 ys.vGlobals.length ch4] 32)) [.int .i64 ys.vNext, .int .i64 ys.vDoc, .slice ah2 ys.vNodes.length ch2, .slice ah3 ys.vObjs.length ch3, .slice ah4 ys.vGlobals.length ch4] ys fh) := HeapOwn_stays _ _ _ _ _ (fun x hx => (hbH).block x (HeapOwn_lt _ _ _ _ h0_22.out x hx)) h0_22.out
  clear bA_22 v0_22 bW_22 bX_22 g0_22 bG_22 h0_22
  clear z22_bA_0 z22_bA_1 z22_bA_2 z22_bA_3 z22_bA_4 z22_bW_0 z22_bW_1 z22_bW_2 z22_bW_3 z22_bW_4 z22_bX_0 z22_bX_1 z22_bX_2 z22_bX_3 z22_bX_4 z22_bG_0 z22_bG_1 z22_bG_2 z22_bG_3 z22_bG_4
  have z23_bA_0 := bA_23.out.cell 0 rfl
  have z23_bA_1 := bA_23.out.cell 1 rfl
  have z23_bA_2 := bA_23.out.cell 2 rfl
  have z23_bA_3 := bA_23.out.cell 3 rfl
  have z23_bA_4 := bA_23.out.cell 4 rfl
  have z23_bW_0 := bW_23.out.cell 0 rfl
  have z23_bW_1 := bW_23.out.cell 1 rfl
  have z23_bW_2 := bW_23.out.cell 2 rfl
  have z23_bW_3 := bW_23.out.cell 3 rfl
  have z23_bW_4 := bW_23.out.cell 4 rfl
  have z23_bX_0 := bX_23.out.cell 0 rfl
  have z23_bX_1 := bX_23.out.cell 1 rfl
  have z23_bX_2 := bX_23.out.cell 2 rfl
  have z23_bX_3 := bX_23.out.cell 3 rfl
  have z23_bX_4 := bX_23.out.cell 4 rfl
  have z23_bG_0 := bG_23.out.cell 0 rfl
  have z23_bG_1 := bG_23.out.cell 1 rfl
  have z23_bG_2 := bG_23.out.cell 2 rfl
  have z23_bG_3 := bG_23.out.cell 3 rfl
  have z23_bG_4 := bG_23.out.cell 4 rfl
  go_wp2_with fail
  refine (eqHeap_any (lo := 0) (lo2 := 0) (by exact HeapOwn_at (lo := 0) _ _ _ _ h0_23.out (fun _ _ => Nat.zero_le _)) (by exact HeapOwn_at (lo := 0) _ _ _ _ v0_23.out (fun _ _ => Nat.zero_le _))).mono ?_
  rintro e w16 ⟨rfl, hb16⟩
  have hB16 : Below w.heap.size w w16 := hBH.trans (hb16.mono hBH.size)
  have bA_24 : Hid (Box w16 w.heap.size [.int .i64 h.vNext, .int .i64 h.vDoc, .slice a2 h.vNodes.length cap2, .slice a3 h.vObjs.length cap3, .slice a4 h.vGlobals.length cap4] 26) := bA_23.out.below hb16 bA_23.out.lt
  have v0_24 : Hid (HeapOwn w16 [.int .i64 ys.vNext, .int .i64 ys.vDoc, .slice aw2 ys.vNodes.length cw2, .slice aw3 ys.vObjs.length cw3, .slice aw4 ys.vGlobals.length cw4] ys fw) := HeapOwn_stays _ _ _ _ _ (fun x hx => (hb16).block x (HeapOwn_lt _ _ _ _ v0_23.out x hx)) v0_23.out
  have bW_24 : Hid (Box w16 w3.heap.size [.int .i64 ys.vNext, .int .i64 ys.vDoc, .slice aw2 ys.vNodes.length cw2, .slice aw3 ys.vObjs.length cw3, .slice aw4 ys.vGlobals.length cw4] 32) := bW_23.out.below hb16 bW_23.out.lt
  have bX_24 : Hid (Box w16 w4.heap.size [.int .i64 h.vNext, .int .i64 h.vDoc, .slice e2 h.vNodes.length dap2, .slice e3 h.vObjs.length dap3, .slice e4 h.vGlobals.length dap4] 32) := bX_23.out.below hb16 bX_23.out.lt
  have g0_24 : Hid (HeapOwn w16 [.int .i64 ys.vNext, .int .i64 ys.vDoc, .slice ag2 ys.vNodes.length cg2, .slice ag3 ys.vObjs.length cg3, .slice ag4 ys.vGlobals.length cg4] (mkTHeap ys 1) fg) := HeapOwn_stays _ _ _ _ _ (fun x hx => (hb16).block x (HeapOwn_lt _ _ _ _ g0_23.out x hx)) g0_23.out
  have bG_24 : Hid (Box w16 w6.heap.size [.int .i64 ys.vNext, .int .i64 ys.vDoc, .slice ag2 ys.vNodes.length cg2, .slice ag3 ys.vObjs.length cg3, .slice ag4 ys.vGlobals.length cg4] 32) := bG_23.out.below hb16 bG_23.out.lt
  have h0_24 : Hid (HeapOwn w16 [.int .i64 ys.vNext, .int .i64 ys.vDoc, .slice ah2 ys.vNodes.length ch2, .slice ah3 ys.vObjs.length ch3, .slice ah4 ys.vGlobals.length ch4] ys fh) := HeapOwn_stays _ _ _ _ _ (fun x hx => (hb16).block x (HeapOwn_lt _ _ _ _ h0_23.out x hx)) h0_23.out
  clear bA_23 v0_23 bW_23 bX_23 g0_23 bG_23 h0_23
  clear z23_bA_0 z23_bA_1 z23_bA_2 z23_bA_3 z23_bA_4 z23_bW_0 z23_bW_1 z23_bW_2 z23_bW_3 z23_bW_4 z23_bX_0 z23_bX_1 z23_bX_2 z23_bX_3 z23_bX_4 z23_bG_0 z23_bG_1 z23_bG_2 z23_bG_3 z23_bG_4
  have z24_bA_0 := bA_24.out.cell 0 rfl
  have z24_bA_1 := bA_24.out.cell 1 rfl
  have z24_bA_2 := bA_24.out.cell 2 rfl
  have z24_bA_3 := bA_24.out.cell 3 rfl
  have z24_bA_4 := bA_24.out.cell 4 rfl
  have z24_bW_0 := bW_24.out.cell 0 rfl
  have z24_bW_1 := bW_24.out.cell 1 rfl
  have z24_bW_2 := bW_24.out.cell 2 rfl
  have z24_bW_3 := bW_24.out.cell 3 rfl
  have z24_bW_4 := bW_24.out.cell 4 rfl
  have z24_bX_0 := bX_24.out.cell 0 rfl
  have z24_bX_1 := bX_24.out.cell 1 rfl
  have z24_bX_2 := bX_24.out.cell 2 rfl
  have z24_bX_3 := bX_24.out.cell 3 rfl
  have z24_bX_4 := bX_24.out.cell 4 rfl
  have z24_bG_0 := bG_24.out.cell 0 rfl
  have z24_bG_1 := bG_24.out.cell 1 rfl
  have z24_bG_2 := bG_24.out.cell 2 rfl
  have z24_bG_3 := bG_24.out.cell 3 rfl
  have z24_bG_4 := bG_24.out.cell 4 rfl
  go_wp2_with fail
  refine (heldHeap_any (lo := 0) (m := 1) (x := ys) (by exact HeapOwn_at (lo := 0) _ _ _ _ g0_24.out (fun _ _ => Nat.zero_le _)) (by omega) (by rw [hCI'.out]; exact hYL.out)).mono ?_
  rintro e w17 ⟨rfl, hb17⟩
  rw [hCI'.out]
  have hB17 : Below w.heap.size w w17 := hB16.trans (hb17.mono hB16.size)
  go_wp2_with fail
  go_ret
  exact ⟨rfl, hB17⟩
/-! The row -/
set_option maxRecDepth 100000 in
theorem lifted (os : Os) (started : os.Started) (H : Type) (enc : TypeId × Value → H) :
    ReturnsInHanded {} Tryz.checked os 4 .any (Rows.fnExactFreedSpec.pre6 enc Tryz.prog Tryz.f4 Rows.fnExactFreedRow.domain false) (Rows.fnExactFreedSpec.post enc Tryz.prog Tryz.f4 false true false false) := by
  refine returnsInHanded_of_change (C := Tryz.checked) own started (by kernel_rfl) Tryz.func4
    (ChangeSpec.witness6 (enc := enc) (C := Tryz.checked) false ⟨#[], #[.agg #[.int .i64 0, .int .i64 0, .slice none 0 0, .slice none 0 0, .slice none 0 0], .slice none 0 0], []⟩ 8 (by kernel_rfl) (by kernel_rfl) (by kernel_rfl) (by kernel_rfl)) ?_
  intro W base args ds gs before hval0 hW hcnd _
  have hval : ∀ (j : Nat) t v, Tryz.f4.params[j]? = some t → args[j]? = some v → Value.okWide Tryz.prog W .any base t v := hval0
  have hW' := hW
  obtain ⟨p, q, hA0, hV, rfl, hfz, hnd⟩ := hW
  have hA : DataW.TrodAll enc Tryz.prog W 0 (fun _ => true) true Tryz.f4.params.toList args.toList ds p := hA0
  rw [Tryz.params4] at hA hval
  obtain ⟨v0, vs0, d0, ds0, p0, q0, hargs, rfl, rfl, h0, r0⟩ := trodAll_cons hA
  obtain ⟨v1, vs1, d1, ds1, p1, q1, rfl, rfl, rfl, h1, r1⟩ := trodAll_cons r0
  obtain ⟨rfl, rfl, rfl⟩ := trodAll_nil r1
  obtain rfl : args = #[v0, v1] := by cases args; simp_all
  obtain ⟨rfl, rfl⟩ := trodVars_none hV
  have k0 := h0
  have lt0 : ∀ x ∈ p0, x.block < W.heap.size := by obtain ⟨m, hm⟩ := k0; exact DataW.trod_lt m _ _ _ hm
  have k1 := h1
  have lt1 : ∀ x ∈ p1, x.block < W.heap.size := by obtain ⟨m, hm⟩ := k1; exact DataW.trod_lt m _ _ _ hm
  obtain ⟨cs, rfl, _⟩ := okWide_struct Tryz.underlying26 (hval 0 26 v0 rfl rfl)
  obtain ⟨fuel, hf⟩ := h0
  obtain ⟨h, ht⟩ := HeapAt_of_trod fuel _ _ hf
  have hcs : (Value.agg cs).cells = cs := rfl
  rw [hcs] at ht
  clear hA0 hval0
  obtain ⟨fuel1, hf1⟩ := h1
  obtain ⟨l1, n1, q1', rfl⟩ := okWide_slice Tryz.underlying33 (hval 1 33 v1 rfl rfl)
  obtain ⟨kI, ids, ecs, hti⟩ := seqAt_of_trod (R := IntAt) Tryz.underlying33 (show Tryz.prog.cellsOf 2 = 1 from by kernel_rfl) (by decide) intAt_of_trod hf1
  obtain rfl : Value.slice l1 n1 q1' = kI := by simpa [Value.cells] using ecs
  have hwk := walk ht hti
  rw [Array.toArray_toList] at hwk
  refine hwk.mono fun e W' ⟨he, bel⟩ => ?_
  subst he
  exact ⟨_, rfl, _, _, _, [], _, [], hW', trodAll_mk1 (shut_bool Tryz.underlying4 _), (trodAll_cons_mk (Below.trod laidOut (by kernel_rfl) (of_decide_eq_true (by kernel_rfl)) k0 bel lt0) (trodAll_cons_mk (Below.trod laidOut (by kernel_rfl) (of_decide_eq_true (by kernel_rfl)) k1 bel lt1) trodAll_mk0)), rfl, bel.frame _, fun h => by cases h⟩
theorem over : Rows.fnExactFreedRow.holds Tryz.pinned (OpenSpec.ofChange Rows.fnExactFreedSpec) :=
  OpenClaim.holds_of_wide 4 Tryz.f4 rfl rfl rfl rfl rfl rfl rfl ⟨rfl, rfl, rfl, rfl, rfl⟩ rfl rfl rfl rfl rfl (by kernel_rfl) Tryz.func4 (by kernel_rfl)
    (of_decide_eq_true (by kernel_rfl)) (by unfold Func.isWrapper; first | (rw [if_pos (by decide +kernel)]; kernel_rfl) | (rw [if_neg (by decide +kernel)]; exact ⟨rfl, rfl⟩))
    (fun os started H enc _ => lifted os started H enc)
end Go.Proofs.YtnonfehmbabfhaaGreat.fnExactFreed
namespace Go.Proofs.YtnonfehmbabfhaaGreat
theorem fnExactFreed_holds : Rows.FnExactFreedSaid := fnExactFreed.over
end Go.Proofs.YtnonfehmbabfhaaGreat
