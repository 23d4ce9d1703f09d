/- The walks of mark.. and held.. of a record that is handed over. -/
import Derived.Test.YtdhjaokanllcgaaMarkRecs
import Derived.Test.YtdhjaokanllcgaaHeldRecs
import Derived.WalkKit
namespace Go.Proofs.Ytdhjaokanllcgaa
open Go.RowKit
def mkTHeap (x : HeapD) (m : Int) : HeapD := { x with vNodes := mkL cntNode mkNode x.vNodes (m), vObjs := mkL cntObj mkObj x.vObjs (m + (cntL cntNode x.vNodes : Nat)), vGlobals := mkL cntField mkField x.vGlobals (m + (cntL cntNode x.vNodes : Nat) + (cntL cntObj x.vObjs : Nat)) }
set_option maxRecDepth 100000 in
set_option maxHeartbeats 1600000 in
theorem markHeap_any {w : World} {cs : List Value} {x : HeapD} {fs : List Nat} {m : Int} (hk : HeapOwn w cs x fs) (hnd : fs.Nodup) (h0 : 0 ≤ m) (h1 : m + (cntL cntNode x.vNodes : Nat) + (cntL cntObj x.vObjs : Nat) + (cntL cntField x.vGlobals : Nat) ≤ 4611686018427387904) :
    Calls Try.prog 16 #[.agg cs.toArray, .int .i64 m] w fun e w' => e = .returned (.int .i64 (m + (cntL cntNode x.vNodes : Nat) + (cntL cntObj x.vObjs : Nat) + (cntL cntField x.vGlobals : Nat))) ∧ HeapOwn w' cs (mkTHeap x m) fs ∧ Out fs w w' := by
  have hlt := HeapOwn_lt _ _ _ _ hk
  obtain ⟨k2, k3, k4, f2, f3, f4, rfl, o2, o3, o4, rg0, rg1, hfs⟩ := hk
  obtain ⟨a2, cap2, rfl⟩ := o2.form
  obtain ⟨a3, cap3, rfl⟩ := o3.form
  obtain ⟨a4, cap4, rfl⟩ := o4.form
  subst hfs
  have ap0_1 : ∀ y ∈ f2, y ∉ f3 := fun y q1 q2 => (List.nodup_append.1 (List.nodup_append.1 hnd).1).2.2 y q1 y q2 rfl
  have ap0_2 : ∀ y ∈ f2, y ∉ f4 := fun y q1 q2 => (List.nodup_append.1 hnd).2.2 y (List.mem_append_left _ q1) y q2 rfl
  have ap1_2 : ∀ y ∈ f3, y ∉ f4 := fun y q1 q2 => (List.nodup_append.1 hnd).2.2 y (List.mem_append_right _ q1) y q2 rfl
  have hb0 : Below w.heap.size w (w.alloc (.cells (List.toArray [.int .i64 x.vNext, .int .i64 x.vDoc, .slice a2 x.vNodes.length cap2, .slice a3 x.vObjs.length cap3, .slice a4 x.vGlobals.length cap4]) 41)) := (Below.refl _ _).alloc (Nat.le_refl _) _
  have bx0 : Hid (Box (w.alloc (.cells (List.toArray [.int .i64 x.vNext, .int .i64 x.vDoc, .slice a2 x.vNodes.length cap2, .slice a3 x.vObjs.length cap3, .slice a4 x.vGlobals.length cap4]) 41)) w.heap.size [.int .i64 x.vNext, .int .i64 x.vDoc, .slice a2 x.vNodes.length cap2, .slice a3 x.vObjs.length cap3, .slice a4 x.vGlobals.length cap4] 41) := Box.new w _ _
  have n2 : w.heap.size ∉ f2 := fun q => by have := hlt _ (List.mem_append_left _ (List.mem_append_left _ q)); omega
  have q2_0 : Hid (SeqOwn 6 NodeOwn (w.alloc (.cells (List.toArray [.int .i64 x.vNext, .int .i64 x.vDoc, .slice a2 x.vNodes.length cap2, .slice a3 x.vObjs.length cap3, .slice a4 x.vGlobals.length cap4]) 41)) (.slice a2 x.vNodes.length cap2) x.vNodes f2) := o2.stays NodeOwn_stays (fun y hy => hb0.block y (hlt y (List.mem_append_left _ (List.mem_append_left _ hy))))
  have n3 : w.heap.size ∉ f3 := fun q => by have := hlt _ (List.mem_append_left _ (List.mem_append_right _ q)); omega
  have q3_0 : Hid (SeqOwn 3 ObjOwn (w.alloc (.cells (List.toArray [.int .i64 x.vNext, .int .i64 x.vDoc, .slice a2 x.vNodes.length cap2, .slice a3 x.vObjs.length cap3, .slice a4 x.vGlobals.length cap4]) 41)) (.slice a3 x.vObjs.length cap3) x.vObjs f3) := o3.stays ObjOwn_stays (fun y hy => hb0.block y (hlt y (List.mem_append_left _ (List.mem_append_right _ hy))))
  have n4 : w.heap.size ∉ f4 := fun q => by have := hlt _ (List.mem_append_right _ q); omega
  have q4_0 : Hid (SeqOwn 2 FieldOwn (w.alloc (.cells (List.toArray [.int .i64 x.vNext, .int .i64 x.vDoc, .slice a2 x.vNodes.length cap2, .slice a3 x.vObjs.length cap3, .slice a4 x.vGlobals.length cap4]) 41)) (.slice a4 x.vGlobals.length cap4) x.vGlobals f4) := o4.stays FieldOwn_stays (fun y hy => hb0.block y (hlt y (List.mem_append_right _ hy)))
  have ou0 : Hid (Out (f2 ++ f3 ++ f4) w (w.alloc (.cells (List.toArray [.int .i64 x.vNext, .int .i64 x.vDoc, .slice a2 x.vNodes.length cap2, .slice a3 x.vObjs.length cap3, .slice a4 x.vGlobals.length cap4]) 41))) := Out.of_below hb0
  clear o2 o3 o4
  generalize hN2 : cntL cntNode x.vNodes = N2 at *
  generalize hN3 : cntL cntObj x.vObjs = N3 at *
  generalize hN4 : cntL cntField x.vGlobals = N4 at *
  go_enter Try.func16, Try.ntmps16
  go_wp2_with fail
  refine (markNodeS_any q2_0.out (by omega) (by omega)).mono ?_
  rintro e v0 ⟨rfl, ho2, hc0⟩
  rw [hN2]
  have bx1 : Hid (Box v0 w.heap.size [.int .i64 x.vNext, .int .i64 x.vDoc, .slice a2 x.vNodes.length cap2, .slice a3 x.vObjs.length cap3, .slice a4 x.vGlobals.length cap4] 41) := (Out.keep hc0 bx0.out.lt n2).trans bx0.out
  have q2_1 : Hid (SeqOwn 6 NodeOwn v0 (.slice a2 x.vNodes.length cap2) (mkL cntNode mkNode x.vNodes (m)) f2) := ho2
  have q3_1 : Hid (SeqOwn 3 ObjOwn v0 (.slice a3 x.vObjs.length cap3) (x.vObjs) f3) := SeqOwn.stays ObjOwn_stays q3_0.out (fun y hy => Out.keep hc0 (SeqOwn.lt ObjOwn_lt q3_0.out y hy) (fun q => ap0_1 y q hy))
  have q4_1 : Hid (SeqOwn 2 FieldOwn v0 (.slice a4 x.vGlobals.length cap4) (x.vGlobals) f4) := SeqOwn.stays FieldOwn_stays q4_0.out (fun y hy => Out.keep hc0 (SeqOwn.lt FieldOwn_lt q4_0.out y hy) (fun q => ap0_2 y q hy))
  have ou1 : Hid (Out (f2 ++ f3 ++ f4) w v0) := Out.trans ou0.out (Out.mono hc0 (fun y hy => (List.mem_append_left _ (List.mem_append_left _ hy))))
  clear ho2 hc0
  have t0_0 := bx1.out.cell 0 rfl
  have t0_1 := bx1.out.cell 1 rfl
  have t0_2 := bx1.out.cell 2 rfl
  have t0_3 := bx1.out.cell 3 rfl
  have t0_4 := bx1.out.cell 4 rfl
  go_wp2_with fail
  refine (markObjS_any q3_1.out (by omega) (by omega)).mono ?_
  rintro e v1 ⟨rfl, ho3, hc1⟩
  rw [hN3]
  have bx2 : Hid (Box v1 w.heap.size [.int .i64 x.vNext, .int .i64 x.vDoc, .slice a2 x.vNodes.length cap2, .slice a3 x.vObjs.length cap3, .slice a4 x.vGlobals.length cap4] 41) := (Out.keep hc1 bx1.out.lt n3).trans bx1.out
  have q2_2 : Hid (SeqOwn 6 NodeOwn v1 (.slice a2 x.vNodes.length cap2) (mkL cntNode mkNode x.vNodes (m)) f2) := SeqOwn.stays NodeOwn_stays q2_1.out (fun y hy => Out.keep hc1 (SeqOwn.lt NodeOwn_lt q2_1.out y hy) (ap0_1 y hy))
  have q3_2 : Hid (SeqOwn 3 ObjOwn v1 (.slice a3 x.vObjs.length cap3) (mkL cntObj mkObj x.vObjs (m + (N2 : Int))) f3) := ho3
  have q4_2 : Hid (SeqOwn 2 FieldOwn v1 (.slice a4 x.vGlobals.length cap4) (x.vGlobals) f4) := SeqOwn.stays FieldOwn_stays q4_1.out (fun y hy => Out.keep hc1 (SeqOwn.lt FieldOwn_lt q4_1.out y hy) (fun q => ap1_2 y q hy))
  have ou2 : Hid (Out (f2 ++ f3 ++ f4) w v1) := Out.trans ou1.out (Out.mono hc1 (fun y hy => (List.mem_append_left _ (List.mem_append_right _ hy))))
  clear ho3 hc1 t0_0 t0_1 t0_2 t0_3 t0_4
  have t1_0 := bx2.out.cell 0 rfl
  have t1_1 := bx2.out.cell 1 rfl
  have t1_2 := bx2.out.cell 2 rfl
  have t1_3 := bx2.out.cell 3 rfl
  have t1_4 := bx2.out.cell 4 rfl
  go_wp2_with fail
  refine (markFieldS_any q4_2.out (by omega) (by omega)).mono ?_
  rintro e v2 ⟨rfl, ho4, hc2⟩
  rw [hN4]
  have bx3 : Hid (Box v2 w.heap.size [.int .i64 x.vNext, .int .i64 x.vDoc, .slice a2 x.vNodes.length cap2, .slice a3 x.vObjs.length cap3, .slice a4 x.vGlobals.length cap4] 41) := (Out.keep hc2 bx2.out.lt n4).trans bx2.out
  have q2_3 : Hid (SeqOwn 6 NodeOwn v2 (.slice a2 x.vNodes.length cap2) (mkL cntNode mkNode x.vNodes (m)) f2) := SeqOwn.stays NodeOwn_stays q2_2.out (fun y hy => Out.keep hc2 (SeqOwn.lt NodeOwn_lt q2_2.out y hy) (ap0_2 y hy))
  have q3_3 : Hid (SeqOwn 3 ObjOwn v2 (.slice a3 x.vObjs.length cap3) (mkL cntObj mkObj x.vObjs (m + (N2 : Int))) f3) := SeqOwn.stays ObjOwn_stays q3_2.out (fun y hy => Out.keep hc2 (SeqOwn.lt ObjOwn_lt q3_2.out y hy) (ap1_2 y hy))
  have q4_3 : Hid (SeqOwn 2 FieldOwn v2 (.slice a4 x.vGlobals.length cap4) (mkL cntField mkField x.vGlobals (m + (N2 : Int) + (N3 : Int))) f4) := ho4
  have ou3 : Hid (Out (f2 ++ f3 ++ f4) w v2) := Out.trans ou2.out (Out.mono hc2 (fun y hy => (List.mem_append_right _ hy)))
  clear ho4 hc2 t1_0 t1_1 t1_2 t1_3 t1_4
  have t2_0 := bx3.out.cell 0 rfl
  have t2_1 := bx3.out.cell 1 rfl
  have t2_2 := bx3.out.cell 2 rfl
  have t2_3 := bx3.out.cell 3 rfl
  have t2_4 := bx3.out.cell 4 rfl
  go_wp2_with fail
  go_ret
  subst hN2
  subst hN3
  subst hN4
  exact ⟨rfl, ⟨_, _, _, f2, f3, f4, rfl, q2_3.out, q3_3.out, q4_3.out, rg0, rg1, rfl⟩, ou3.out⟩
set_option maxRecDepth 100000 in
set_option maxHeartbeats 1600000 in
theorem heldHeap_any {w : World} {lo : Nat} {cs : List Value} {x : HeapD} {m : Int} (hk : HeapAt w lo cs (mkTHeap x m)) (h0 : 0 ≤ m) (h1 : m + (cntL cntNode x.vNodes : Nat) + (cntL cntObj x.vObjs : Nat) + (cntL cntField x.vGlobals : Nat) ≤ 4611686018427387904) :
    Calls Try.prog 49 #[.agg cs.toArray, .int .i64 m] w fun e w' => e = .returned (.int .i64 (m + (cntL cntNode x.vNodes : Nat) + (cntL cntObj x.vObjs : Nat) + (cntL cntField x.vGlobals : Nat))) ∧ Below w.heap.size w w' := by
  obtain ⟨k2, k3, k4, rfl, o2, o3, o4, _⟩ := hk
  have s2' : Hid (SeqAt 6 NodeAt w lo k2 (mkL cntNode mkNode x.vNodes (m))) := o2
  obtain ⟨a2, cap2, rfl⟩ := s2'.out.form
  have s3' : Hid (SeqAt 3 ObjAt w lo k3 (mkL cntObj mkObj x.vObjs (m + (cntL cntNode x.vNodes : Nat)))) := o3
  obtain ⟨a3, cap3, rfl⟩ := s3'.out.form
  have s4' : Hid (SeqAt 2 FieldAt w lo k4 (mkL cntField mkField x.vGlobals (m + (cntL cntNode x.vNodes : Nat) + (cntL cntObj x.vObjs : Nat)))) := o4
  obtain ⟨a4, cap4, rfl⟩ := s4'.out.form
  clear o2 o3 o4
  generalize hN2 : cntL cntNode x.vNodes = N2 at *
  generalize hN3 : cntL cntObj x.vObjs = N3 at *
  generalize hN4 : cntL cntField x.vGlobals = N4 at *
  have hb0 : Below w.heap.size w (w.alloc (.cells (List.toArray [.int .i64 x.vNext, .int .i64 x.vDoc, .slice a2 (mkL cntNode mkNode x.vNodes (m)).length cap2, .slice a3 (mkL cntObj mkObj x.vObjs (m + (N2 : Int))).length cap3, .slice a4 (mkL cntField mkField x.vGlobals (m + (N2 : Int) + (N3 : Int))).length cap4]) 41)) := (Below.refl _ _).alloc (Nat.le_refl _) _
  have bx0 : Hid (Box (w.alloc (.cells (List.toArray [.int .i64 x.vNext, .int .i64 x.vDoc, .slice a2 (mkL cntNode mkNode x.vNodes (m)).length cap2, .slice a3 (mkL cntObj mkObj x.vObjs (m + (N2 : Int))).length cap3, .slice a4 (mkL cntField mkField x.vGlobals (m + (N2 : Int) + (N3 : Int))).length cap4]) 41)) w.heap.size [.int .i64 x.vNext, .int .i64 x.vDoc, .slice a2 (mkL cntNode mkNode x.vNodes (m)).length cap2, .slice a3 (mkL cntObj mkObj x.vObjs (m + (N2 : Int))).length cap3, .slice a4 (mkL cntField mkField x.vGlobals (m + (N2 : Int) + (N3 : Int))).length cap4] 41) := Box.new w _ _
  go_enter Try.func49, Try.ntmps49
  go_wp2_with fail
  refine (heldNodeS_any (s2'.out.below NodeAt_stays hb0) (by omega) (by omega)).mono ?_
  rintro e v0 ⟨rfl, hc0⟩
  rw [hN2]
  have hb1 : Below w.heap.size w v0 := hb0.trans (hc0.mono hb0.size)
  have bx1 : Hid (Box v0 w.heap.size [.int .i64 x.vNext, .int .i64 x.vDoc, .slice a2 (mkL cntNode mkNode x.vNodes (m)).length cap2, .slice a3 (mkL cntObj mkObj x.vObjs (m + (N2 : Int))).length cap3, .slice a4 (mkL cntField mkField x.vGlobals (m + (N2 : Int) + (N3 : Int))).length cap4] 41) := Box.below bx0.out hc0 bx0.out.lt
  clear hc0
  have t0_0 := bx1.out.cell 0 rfl
  have t0_1 := bx1.out.cell 1 rfl
  have t0_2 := bx1.out.cell 2 rfl
  have t0_3 := bx1.out.cell 3 rfl
  have t0_4 := bx1.out.cell 4 rfl
  go_wp2_with fail
  refine (heldObjS_any (s3'.out.below ObjAt_stays hb1) (by omega) (by omega)).mono ?_
  rintro e v1 ⟨rfl, hc1⟩
  rw [hN3]
  have hb2 : Below w.heap.size w v1 := hb1.trans (hc1.mono hb1.size)
  have bx2 : Hid (Box v1 w.heap.size [.int .i64 x.vNext, .int .i64 x.vDoc, .slice a2 (mkL cntNode mkNode x.vNodes (m)).length cap2, .slice a3 (mkL cntObj mkObj x.vObjs (m + (N2 : Int))).length cap3, .slice a4 (mkL cntField mkField x.vGlobals (m + (N2 : Int) + (N3 : Int))).length cap4] 41) := Box.below bx1.out hc1 bx1.out.lt
  clear hc1 t0_0 t0_1 t0_2 t0_3 t0_4
  have t1_0 := bx2.out.cell 0 rfl
  have t1_1 := bx2.out.cell 1 rfl
  have t1_2 := bx2.out.cell 2 rfl
  have t1_3 := bx2.out.cell 3 rfl
  have t1_4 := bx2.out.cell 4 rfl
  go_wp2_with fail
  refine (heldFieldS_any (s4'.out.below FieldAt_stays hb2) (by omega) (by omega)).mono ?_
  rintro e v2 ⟨rfl, hc2⟩
  rw [hN4]
  have hb3 : Below w.heap.size w v2 := hb2.trans (hc2.mono hb2.size)
  have bx3 : Hid (Box v2 w.heap.size [.int .i64 x.vNext, .int .i64 x.vDoc, .slice a2 (mkL cntNode mkNode x.vNodes (m)).length cap2, .slice a3 (mkL cntObj mkObj x.vObjs (m + (N2 : Int))).length cap3, .slice a4 (mkL cntField mkField x.vGlobals (m + (N2 : Int) + (N3 : Int))).length cap4] 41) := Box.below bx2.out hc2 bx2.out.lt
  clear hc2 t1_0 t1_1 t1_2 t1_3 t1_4
  have t2_0 := bx3.out.cell 0 rfl
  have t2_1 := bx3.out.cell 1 rfl
  have t2_2 := bx3.out.cell 2 rfl
  have t2_3 := bx3.out.cell 3 rfl
  have t2_4 := bx3.out.cell 4 rfl
  go_wp2_with fail
  go_ret
  subst hN2
  subst hN3
  subst hN4
  exact ⟨rfl, hb3⟩
end Go.Proofs.Ytdhjaokanllcgaa
