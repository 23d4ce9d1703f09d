/- HeapNew answers as its specification, and its answer owns its memory, behind another call too. No condition: it has no argument. -/
import Derived.Test.YtkhhipckipfebaaHeapNew
import Derived.Test.YtkhhipckipfebaaEqRecs
import Derived.ProofKit
import Derived.OpenShut
import Derived.ShutString
import Derived.ChangeOld
import Derived.Below
namespace Go.Proofs.Ytkhhipckipfebaa.fnExactHeapNew
open Go.ChangeShapes Go.WideShapes Go.ChangeAt Go.RowKit
theorem own : ownKnob Try.prog.godebug = none := by kernel_rfl
theorem laidOut : laidOutB Try.prog = true := by kernel_rfl
theorem many : (1 : Int) + (cntL cntNode newH.vNodes : Nat) + (cntL cntObj newH.vObjs : Nat) + (cntL cntField newH.vGlobals : Nat) = 5 := by decide
set_option maxRecDepth 100000 in
set_option maxHeartbeats 3200000 in
theorem walk {w : World} : Calls Try.prog 4 #[] w fun e w' => e = .returned (.bool true) ∧ Below w.heap.size w w' := by
  go_enter Try.func4, Try.ntmps4
  go_wp2_with fail
  refine specNew_any.mono ?_
  rintro e w1 ⟨⟨b1, rfl, own1, hlo1⟩, hb1⟩
  have l1 : b1 < w1.heap.size := HeapOwn_lt _ _ _ _ own1 b1 (by simp)
  have hbA : Below w1.heap.size w1 (w1.alloc (.cells (List.toArray [.int .i64 2, .int .i64 1, .slice (some ⟨b1, 0, none⟩) 1 1, .slice none 0 0, .slice none 0 0]) 33)) := (Below.refl _ _).alloc (Nat.le_refl _) _
  have hBA : Below w.heap.size w (w1.alloc (.cells (List.toArray [.int .i64 2, .int .i64 1, .slice (some ⟨b1, 0, none⟩) 1 1, .slice none 0 0, .slice none 0 0]) 33)) := hb1.trans (hbA.mono hb1.size)
  have ownA : Hid (HeapOwn (w1.alloc (.cells (List.toArray [.int .i64 2, .int .i64 1, .slice (some ⟨b1, 0, none⟩) 1 1, .slice none 0 0, .slice none 0 0]) 33)) [.int .i64 2, .int .i64 1, .slice (some ⟨b1, 0, none⟩) 1 1, .slice none 0 0, .slice none 0 0] newH [b1]) := HeapOwn_stays _ _ _ _ _ (fun x hx => hbA.block x (by simp at hx; omega)) own1
  have bxA : Hid (Box (w1.alloc (.cells (List.toArray [.int .i64 2, .int .i64 1, .slice (some ⟨b1, 0, none⟩) 1 1, .slice none 0 0, .slice none 0 0]) 33)) w1.heap.size [.int .i64 2, .int .i64 1, .slice (some ⟨b1, 0, none⟩) 1 1, .slice none 0 0, .slice none 0 0] 33) := Box.new w1 _ _
  clear own1
  go_wp2_with fail
  refine implNew_any.mono ?_
  rintro e w2 ⟨⟨b2, rfl, own2, hlo2⟩, hb2⟩
  have l2 : b2 < w2.heap.size := HeapOwn_lt _ _ _ _ own2 b2 (by simp)
  have hlo2' : w1.heap.size + 1 ≤ b2 := by simpa using hlo2
  have s2 : w1.heap.size + 1 ≤ w2.heap.size := by have := hb2.size; simpa using this
  have hbB : Below w2.heap.size w2 (w2.alloc (.cells (List.toArray [.int .i64 2, .int .i64 1, .slice (some ⟨b2, 0, none⟩) 1 1, .slice none 0 0, .slice none 0 0]) 33)) := (Below.refl _ _).alloc (Nat.le_refl _) _
  have hBB : Below w.heap.size w (w2.alloc (.cells (List.toArray [.int .i64 2, .int .i64 1, .slice (some ⟨b2, 0, none⟩) 1 1, .slice none 0 0, .slice none 0 0]) 33)) := (hBA.trans (hb2.mono hBA.size)).trans (hbB.mono (hBA.trans (hb2.mono hBA.size)).size)
  have own1B : Hid (HeapOwn (w2.alloc (.cells (List.toArray [.int .i64 2, .int .i64 1, .slice (some ⟨b2, 0, none⟩) 1 1, .slice none 0 0, .slice none 0 0]) 33)) [.int .i64 2, .int .i64 1, .slice (some ⟨b1, 0, none⟩) 1 1, .slice none 0 0, .slice none 0 0] newH [b1]) := HeapOwn_stays _ _ _ _ _ (fun x hx => (hbB.block x (by simp at hx; omega)).trans (hb2.block x (by simp at hx ⊢; omega))) ownA.out
  have own2B : Hid (HeapOwn (w2.alloc (.cells (List.toArray [.int .i64 2, .int .i64 1, .slice (some ⟨b2, 0, none⟩) 1 1, .slice none 0 0, .slice none 0 0]) 33)) [.int .i64 2, .int .i64 1, .slice (some ⟨b2, 0, none⟩) 1 1, .slice none 0 0, .slice none 0 0] newH [b2]) := HeapOwn_stays _ _ _ _ _ (fun x hx => hbB.block x (by simp at hx; omega)) own2
  have bx1B : Hid (Box (w2.alloc (.cells (List.toArray [.int .i64 2, .int .i64 1, .slice (some ⟨b2, 0, none⟩) 1 1, .slice none 0 0, .slice none 0 0]) 33)) w1.heap.size [.int .i64 2, .int .i64 1, .slice (some ⟨b1, 0, none⟩) 1 1, .slice none 0 0, .slice none 0 0] 33) := (bxA.out.below hb2 (by simp)).alloc _
  have bx2B : Hid (Box (w2.alloc (.cells (List.toArray [.int .i64 2, .int .i64 1, .slice (some ⟨b2, 0, none⟩) 1 1, .slice none 0 0, .slice none 0 0]) 33)) w2.heap.size [.int .i64 2, .int .i64 1, .slice (some ⟨b2, 0, none⟩) 1 1, .slice none 0 0, .slice none 0 0] 33) := Box.new w2 _ _
  have zB_0_0 := bx1B.out.cell 0 rfl
  have zB_0_1 := bx1B.out.cell 1 rfl
  have zB_0_2 := bx1B.out.cell 2 rfl
  have zB_0_3 := bx1B.out.cell 3 rfl
  have zB_0_4 := bx1B.out.cell 4 rfl
  have zB_1_0 := bx2B.out.cell 0 rfl
  have zB_1_1 := bx2B.out.cell 1 rfl
  have zB_1_2 := bx2B.out.cell 2 rfl
  have zB_1_3 := bx2B.out.cell 3 rfl
  have zB_1_4 := bx2B.out.cell 4 rfl
  clear own2 ownA bxA
  go_wp2_with fail
  refine (eqHeap_any (lo := 0) (lo2 := 0) (by exact HeapOwn_at _ _ _ _ own2B.out (fun _ _ => Nat.zero_le _)) (by exact HeapOwn_at _ _ _ _ own1B.out (fun _ _ => Nat.zero_le _))).mono ?_
  rintro e w3 ⟨rfl, hb3⟩
  have hB3 : Below w.heap.size w w3 := hBB.trans (hb3.mono hBB.size)
  have s3 : w2.heap.size + 1 ≤ w3.heap.size := by have := hb3.size; simpa using this
  have own1C : Hid (HeapOwn w3 [.int .i64 2, .int .i64 1, .slice (some ⟨b1, 0, none⟩) 1 1, .slice none 0 0, .slice none 0 0] newH [b1]) := HeapOwn_stays _ _ _ _ _ (fun x hx => hb3.block x (by simp at hx ⊢; omega)) own1B.out
  have own2C : Hid (HeapOwn w3 [.int .i64 2, .int .i64 1, .slice (some ⟨b2, 0, none⟩) 1 1, .slice none 0 0, .slice none 0 0] newH [b2]) := HeapOwn_stays _ _ _ _ _ (fun x hx => hb3.block x (by simp at hx ⊢; omega)) own2B.out
  have bx1C : Hid (Box w3 w1.heap.size [.int .i64 2, .int .i64 1, .slice (some ⟨b1, 0, none⟩) 1 1, .slice none 0 0, .slice none 0 0] 33) := bx1B.out.below hb3 bx1B.out.lt
  have bx2C : Hid (Box w3 w2.heap.size [.int .i64 2, .int .i64 1, .slice (some ⟨b2, 0, none⟩) 1 1, .slice none 0 0, .slice none 0 0] 33) := bx2B.out.below hb3 bx2B.out.lt
  clear zB_0_0 zB_0_1 zB_0_2 zB_0_3 zB_0_4 zB_1_0 zB_1_1 zB_1_2 zB_1_3 zB_1_4
  have zC_0_0 := bx1C.out.cell 0 rfl
  have zC_0_1 := bx1C.out.cell 1 rfl
  have zC_0_2 := bx1C.out.cell 2 rfl
  have zC_0_3 := bx1C.out.cell 3 rfl
  have zC_0_4 := bx1C.out.cell 4 rfl
  have zC_1_0 := bx2C.out.cell 0 rfl
  have zC_1_1 := bx2C.out.cell 1 rfl
  have zC_1_2 := bx2C.out.cell 2 rfl
  have zC_1_3 := bx2C.out.cell 3 rfl
  have zC_1_4 := bx2C.out.cell 4 rfl
  clear own1B own2B bx1B bx2B
  go_wp2_with fail
  refine (markHeap_any own2C.out (by simp) (by omega) (by rw [many]; decide)).mono ?_
  rintro e w4 ⟨rfl, own2m, ho4⟩
  rw [many]
  have s4 := ho4.2.2.2.1
  have hB4 : Below w.heap.size w w4 := hB3.trans (ho4.below hB3.size (fun x hx => by simp at hx; have := hb1.size; omega))
  have own1D : Hid (HeapOwn w4 [.int .i64 2, .int .i64 1, .slice (some ⟨b1, 0, none⟩) 1 1, .slice none 0 0, .slice none 0 0] newH [b1]) := HeapOwn_stays _ _ _ _ _ (fun x hx => ho4.keep (by simp at hx; omega) (by simp at hx ⊢; omega)) own1C.out
  have own2D : Hid (HeapOwn w4 [.int .i64 2, .int .i64 1, .slice (some ⟨b2, 0, none⟩) 1 1, .slice none 0 0, .slice none 0 0] (mkTHeap newH 1) [b2]) := own2m
  have bx1D : Hid (Box w4 w1.heap.size [.int .i64 2, .int .i64 1, .slice (some ⟨b1, 0, none⟩) 1 1, .slice none 0 0, .slice none 0 0] 33) := (ho4.keep bx1C.out.lt (by simp; omega)).trans bx1C.out
  have bx2D : Hid (Box w4 w2.heap.size [.int .i64 2, .int .i64 1, .slice (some ⟨b2, 0, none⟩) 1 1, .slice none 0 0, .slice none 0 0] 33) := (ho4.keep bx2C.out.lt (by simp; omega)).trans bx2C.out
  clear zC_0_0 zC_0_1 zC_0_2 zC_0_3 zC_0_4 zC_1_0 zC_1_1 zC_1_2 zC_1_3 zC_1_4
  have zD_0_0 := bx1D.out.cell 0 rfl
  have zD_0_1 := bx1D.out.cell 1 rfl
  have zD_0_2 := bx1D.out.cell 2 rfl
  have zD_0_3 := bx1D.out.cell 3 rfl
  have zD_0_4 := bx1D.out.cell 4 rfl
  have zD_1_0 := bx2D.out.cell 0 rfl
  have zD_1_1 := bx2D.out.cell 1 rfl
  have zD_1_2 := bx2D.out.cell 2 rfl
  have zD_1_3 := bx2D.out.cell 3 rfl
  have zD_1_4 := bx2D.out.cell 4 rfl
  clear own1C own2C bx1C bx2C own2m
  go_wp2_with fail
  refine (heldHeap_any (lo := 0) (by exact HeapOwn_at _ _ _ _ own2D.out (fun _ _ => Nat.zero_le _)) (by omega) (by rw [many]; decide)).mono ?_
  rintro e w5 ⟨rfl, hb5⟩
  rw [many]
  have hB5 : Below w.heap.size w w5 := hB4.trans (hb5.mono hB4.size)
  have s5 := hb5.size
  have own1E : Hid (HeapOwn w5 [.int .i64 2, .int .i64 1, .slice (some ⟨b1, 0, none⟩) 1 1, .slice none 0 0, .slice none 0 0] newH [b1]) := HeapOwn_stays _ _ _ _ _ (fun x hx => hb5.block x (by simp at hx; omega)) own1D.out
  have own2E : Hid (HeapOwn w5 [.int .i64 2, .int .i64 1, .slice (some ⟨b2, 0, none⟩) 1 1, .slice none 0 0, .slice none 0 0] (mkTHeap newH 1) [b2]) := HeapOwn_stays _ _ _ _ _ (fun x hx => hb5.block x (by simp at hx; omega)) own2D.out
  have bx1E : Hid (Box w5 w1.heap.size [.int .i64 2, .int .i64 1, .slice (some ⟨b1, 0, none⟩) 1 1, .slice none 0 0, .slice none 0 0] 33) := bx1D.out.below hb5 bx1D.out.lt
  have bx2E : Hid (Box w5 w2.heap.size [.int .i64 2, .int .i64 1, .slice (some ⟨b2, 0, none⟩) 1 1, .slice none 0 0, .slice none 0 0] 33) := bx2D.out.below hb5 bx2D.out.lt
  clear zD_0_0 zD_0_1 zD_0_2 zD_0_3 zD_0_4 zD_1_0 zD_1_1 zD_1_2 zD_1_3 zD_1_4
  have zE_0_0 := bx1E.out.cell 0 rfl
  have zE_0_1 := bx1E.out.cell 1 rfl
  have zE_0_2 := bx1E.out.cell 2 rfl
  have zE_0_3 := bx1E.out.cell 3 rfl
  have zE_0_4 := bx1E.out.cell 4 rfl
  have zE_1_0 := bx2E.out.cell 0 rfl
  have zE_1_1 := bx2E.out.cell 1 rfl
  have zE_1_2 := bx2E.out.cell 2 rfl
  have zE_1_3 := bx2E.out.cell 3 rfl
  have zE_1_4 := bx2E.out.cell 4 rfl
  clear own1D own2D bx1D bx2D
  go_wp2_with fail
  refine implNew_any.mono ?_
  rintro e w6 ⟨⟨b3, rfl, own3, hlo3⟩, hb6⟩
  have l3 : b3 < w6.heap.size := HeapOwn_lt _ _ _ _ own3 b3 (by simp)
  have hB6 : Below w.heap.size w w6 := hB5.trans (hb6.mono hB5.size)
  have s6 := hb6.size
  have hbF : Below w6.heap.size w6 (w6.alloc (.cells (List.toArray [.int .i64 2, .int .i64 1, .slice (some ⟨b3, 0, none⟩) 1 1, .slice none 0 0, .slice none 0 0]) 33)) := (Below.refl _ _).alloc (Nat.le_refl _) _
  have hBF : Below w.heap.size w (w6.alloc (.cells (List.toArray [.int .i64 2, .int .i64 1, .slice (some ⟨b3, 0, none⟩) 1 1, .slice none 0 0, .slice none 0 0]) 33)) := hB6.trans (hbF.mono hB6.size)
  have own1F : Hid (HeapOwn (w6.alloc (.cells (List.toArray [.int .i64 2, .int .i64 1, .slice (some ⟨b3, 0, none⟩) 1 1, .slice none 0 0, .slice none 0 0]) 33)) [.int .i64 2, .int .i64 1, .slice (some ⟨b1, 0, none⟩) 1 1, .slice none 0 0, .slice none 0 0] newH [b1]) := HeapOwn_stays _ _ _ _ _ (fun x hx => (hbF.block x (by simp at hx; omega)).trans (hb6.block x (by simp at hx; omega))) own1E.out
  have own2F : Hid (HeapOwn (w6.alloc (.cells (List.toArray [.int .i64 2, .int .i64 1, .slice (some ⟨b3, 0, none⟩) 1 1, .slice none 0 0, .slice none 0 0]) 33)) [.int .i64 2, .int .i64 1, .slice (some ⟨b2, 0, none⟩) 1 1, .slice none 0 0, .slice none 0 0] (mkTHeap newH 1) [b2]) := HeapOwn_stays _ _ _ _ _ (fun x hx => (hbF.block x (by simp at hx; omega)).trans (hb6.block x (by simp at hx; omega))) own2E.out
  have own3F : Hid (HeapOwn (w6.alloc (.cells (List.toArray [.int .i64 2, .int .i64 1, .slice (some ⟨b3, 0, none⟩) 1 1, .slice none 0 0, .slice none 0 0]) 33)) [.int .i64 2, .int .i64 1, .slice (some ⟨b3, 0, none⟩) 1 1, .slice none 0 0, .slice none 0 0] newH [b3]) := HeapOwn_stays _ _ _ _ _ (fun x hx => hbF.block x (by simp at hx; omega)) own3
  have bx1F : Hid (Box (w6.alloc (.cells (List.toArray [.int .i64 2, .int .i64 1, .slice (some ⟨b3, 0, none⟩) 1 1, .slice none 0 0, .slice none 0 0]) 33)) w1.heap.size [.int .i64 2, .int .i64 1, .slice (some ⟨b1, 0, none⟩) 1 1, .slice none 0 0, .slice none 0 0] 33) := (bx1E.out.below hb6 bx1E.out.lt).alloc _
  have bx2F : Hid (Box (w6.alloc (.cells (List.toArray [.int .i64 2, .int .i64 1, .slice (some ⟨b3, 0, none⟩) 1 1, .slice none 0 0, .slice none 0 0]) 33)) w2.heap.size [.int .i64 2, .int .i64 1, .slice (some ⟨b2, 0, none⟩) 1 1, .slice none 0 0, .slice none 0 0] 33) := (bx2E.out.below hb6 bx2E.out.lt).alloc _
  have bx3F : Hid (Box (w6.alloc (.cells (List.toArray [.int .i64 2, .int .i64 1, .slice (some ⟨b3, 0, none⟩) 1 1, .slice none 0 0, .slice none 0 0]) 33)) w6.heap.size [.int .i64 2, .int .i64 1, .slice (some ⟨b3, 0, none⟩) 1 1, .slice none 0 0, .slice none 0 0] 33) := Box.new w6 _ _
  clear zE_0_0 zE_0_1 zE_0_2 zE_0_3 zE_0_4 zE_1_0 zE_1_1 zE_1_2 zE_1_3 zE_1_4
  have zF_0_0 := bx1F.out.cell 0 rfl
  have zF_0_1 := bx1F.out.cell 1 rfl
  have zF_0_2 := bx1F.out.cell 2 rfl
  have zF_0_3 := bx1F.out.cell 3 rfl
  have zF_0_4 := bx1F.out.cell 4 rfl
  have zF_1_0 := bx2F.out.cell 0 rfl
  have zF_1_1 := bx2F.out.cell 1 rfl
  have zF_1_2 := bx2F.out.cell 2 rfl
  have zF_1_3 := bx2F.out.cell 3 rfl
  have zF_1_4 := bx2F.out.cell 4 rfl
  have zF_2_0 := bx3F.out.cell 0 rfl
  have zF_2_1 := bx3F.out.cell 1 rfl
  have zF_2_2 := bx3F.out.cell 2 rfl
  have zF_2_3 := bx3F.out.cell 3 rfl
  have zF_2_4 := bx3F.out.cell 4 rfl
  clear own1E own2E own3 bx1E bx2E
  go_wp2_with fail
  refine (eqHeap_any (lo := 0) (lo2 := 0) (by exact HeapOwn_at _ _ _ _ own3F.out (fun _ _ => Nat.zero_le _)) (by exact HeapOwn_at _ _ _ _ own1F.out (fun _ _ => Nat.zero_le _))).mono ?_
  rintro e w7 ⟨rfl, hb7⟩
  have hB7 : Below w.heap.size w w7 := hBF.trans (hb7.mono hBF.size)
  have s7 : w6.heap.size + 1 ≤ w7.heap.size := by have := hb7.size; simpa using this
  have own2G : Hid (HeapOwn w7 [.int .i64 2, .int .i64 1, .slice (some ⟨b2, 0, none⟩) 1 1, .slice none 0 0, .slice none 0 0] (mkTHeap newH 1) [b2]) := HeapOwn_stays _ _ _ _ _ (fun x hx => hb7.block x (by simp at hx ⊢; omega)) own2F.out
  have bx2G : Hid (Box w7 w2.heap.size [.int .i64 2, .int .i64 1, .slice (some ⟨b2, 0, none⟩) 1 1, .slice none 0 0, .slice none 0 0] 33) := bx2F.out.below hb7 bx2F.out.lt
  clear zF_0_0 zF_0_1 zF_0_2 zF_0_3 zF_0_4 zF_1_0 zF_1_1 zF_1_2 zF_1_3 zF_1_4 zF_2_0 zF_2_1 zF_2_2 zF_2_3 zF_2_4
  have zG_0_0 := bx2G.out.cell 0 rfl
  have zG_0_1 := bx2G.out.cell 1 rfl
  have zG_0_2 := bx2G.out.cell 2 rfl
  have zG_0_3 := bx2G.out.cell 3 rfl
  have zG_0_4 := bx2G.out.cell 4 rfl
  clear own1F own2F own3F bx1F bx2F bx3F
  go_wp2_with fail
  refine (heldHeap_any (lo := 0) (by exact HeapOwn_at _ _ _ _ own2G.out (fun _ _ => Nat.zero_le _)) (by omega) (by rw [many]; decide)).mono ?_
  rintro e w8 ⟨rfl, hb8⟩
  rw [many]
  have hB8 : Below w.heap.size w w8 := hB7.trans (hb8.mono hB7.size)
  clear zG_0_0 zG_0_1 zG_0_2 zG_0_3 zG_0_4
  go_wp2_with fail
  go_ret
  exact ⟨rfl, hB8⟩
/-! The row -/
set_option maxRecDepth 100000 in
theorem lifted (os : Os) (started : os.Started) (H : Type) (enc : TypeId × Value → H) :
    ReturnsInHanded {} Try.checked os 4 .any (Rows.fnExactHeapNewSpec.pre6 enc Try.prog Try.f4 Rows.fnExactHeapNewRow.domain false) (Rows.fnExactHeapNewSpec.post enc Try.prog Try.f4 false true false false) := by
  refine returnsInHanded_of_change (C := Try.checked) own started (by kernel_rfl) Try.func4
    (ChangeSpec.witness6 (enc := enc) (C := Try.checked) false ⟨#[], #[], []⟩ 8 (by kernel_rfl) (by kernel_rfl) (by kernel_rfl) (by kernel_rfl)) ?_
  intro W base args ds gs before hval0 hW hcnd _
  have hW' := hW
  obtain ⟨p, q, hA0, hV, rfl, hfz, hnd⟩ := hW
  have hA : DataW.TrodAll enc Try.prog W 0 (fun _ => true) true Try.f4.params.toList args.toList ds p := hA0
  rw [Try.params4] at hA
  obtain ⟨hargs, rfl, rfl⟩ := trodAll_nil hA
  obtain rfl : args = #[] := by cases args; simp_all
  obtain ⟨rfl, rfl⟩ := trodVars_none hV
  clear hA0 hval0
  refine walk.mono fun e W' ⟨he, bel⟩ => ?_
  subst he
  exact ⟨_, rfl, _, _, _, [], _, [], hW', trodAll_mk1 (shut_bool Try.underlying4 _), trodAll_mk0, rfl, bel.frame _, fun h => by cases h⟩
theorem over : Rows.fnExactHeapNewRow.holds Try.pinned (OpenSpec.ofChange Rows.fnExactHeapNewSpec) :=
  OpenClaim.holds_of_wide 4 Try.f4 rfl rfl rfl rfl rfl rfl rfl ⟨rfl, rfl, rfl, rfl, rfl⟩ rfl rfl rfl rfl rfl (by kernel_rfl) Try.func4 (by kernel_rfl)
    (of_decide_eq_true (by kernel_rfl)) (by unfold Func.isWrapper; first | (rw [if_pos (by decide +kernel)]; kernel_rfl) | (rw [if_neg (by decide +kernel)]; exact ⟨rfl, rfl⟩))
    (fun os started H enc _ => lifted os started H enc)
end Go.Proofs.Ytkhhipckipfebaa.fnExactHeapNew
namespace Go.Proofs.Ytkhhipckipfebaa
theorem fnExactHeapNew_holds : Rows.FnExactHeapNewSaid := fnExactHeapNew.over
end Go.Proofs.Ytkhhipckipfebaa
