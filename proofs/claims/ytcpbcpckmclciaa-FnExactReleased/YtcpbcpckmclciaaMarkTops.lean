/- The walks of mark.. and held.. of a record that is handed over. -/
import Derived.Test.YtcpbcpckmclciaaMarkRecs
import Derived.Test.YtcpbcpckmclciaaHeldRecs
import Derived.WalkKit
namespace Go.Proofs.Ytcpbcpckmclciaa
open Go.RowKit
def mkTArena (x : ArenaD) (m : Int) : ArenaD := { x with vSlots := mkL cntSlot mkSlot x.vSlots (m), vFree := mkL cntI mkI x.vFree (m + (cntL cntSlot x.vSlots : Nat)) }
set_option maxRecDepth 100000 in
set_option maxHeartbeats 1600000 in
theorem markArena_any {w : World} {cs : List Value} {x : ArenaD} {fs : List Nat} {m : Int} (hk : ArenaOwn w cs x fs) (hnd : fs.Nodup) (h0 : 0 ≤ m) (h1 : m + (cntL cntSlot x.vSlots : Nat) + (cntL cntI x.vFree : Nat) ≤ 4611686018427387904) :
    Calls Try.prog 16 #[.agg cs.toArray, .int .i64 m] w fun e w' => e = .returned (.int .i64 (m + (cntL cntSlot x.vSlots : Nat) + (cntL cntI x.vFree : Nat))) ∧ ArenaOwn w' cs (mkTArena x m) fs ∧ Out fs w w' := by
  have hlt := ArenaOwn_lt _ _ _ _ hk
  obtain ⟨k0, k1, f0, f1, rfl, o0, o1, hfs⟩ := hk
  obtain ⟨a0, cap0, rfl⟩ := o0.form
  obtain ⟨a1, cap1, rfl⟩ := o1.form
  subst hfs
  have ap0_1 : ∀ y ∈ f0, y ∉ f1 := fun y q1 q2 => (List.nodup_append.1 hnd).2.2 y q1 y q2 rfl
  have hb0 : Below w.heap.size w (w.alloc (.cells (List.toArray [.slice a0 x.vSlots.length cap0, .slice a1 x.vFree.length cap1]) 30)) := (Below.refl _ _).alloc (Nat.le_refl _) _
  have bx0 : Hid (Box (w.alloc (.cells (List.toArray [.slice a0 x.vSlots.length cap0, .slice a1 x.vFree.length cap1]) 30)) w.heap.size [.slice a0 x.vSlots.length cap0, .slice a1 x.vFree.length cap1] 30) := Box.new w _ _
  have n0 : w.heap.size ∉ f0 := fun q => by have := hlt _ (List.mem_append_left _ q); omega
  have q0_0 : Hid (SeqOwn 3 SlotOwn (w.alloc (.cells (List.toArray [.slice a0 x.vSlots.length cap0, .slice a1 x.vFree.length cap1]) 30)) (.slice a0 x.vSlots.length cap0) x.vSlots f0) := o0.stays SlotOwn_stays (fun y hy => hb0.block y (hlt y (List.mem_append_left _ hy)))
  have n1 : w.heap.size ∉ f1 := fun q => by have := hlt _ (List.mem_append_right _ q); omega
  have q1_0 : Hid (SeqOwn 1 IntOwn (w.alloc (.cells (List.toArray [.slice a0 x.vSlots.length cap0, .slice a1 x.vFree.length cap1]) 30)) (.slice a1 x.vFree.length cap1) x.vFree f1) := o1.stays intOwn_stays (fun y hy => hb0.block y (hlt y (List.mem_append_right _ hy)))
  have ou0 : Hid (Out (f0 ++ f1) w (w.alloc (.cells (List.toArray [.slice a0 x.vSlots.length cap0, .slice a1 x.vFree.length cap1]) 30))) := Out.of_below hb0
  clear o0 o1
  generalize hN0 : cntL cntSlot x.vSlots = N0 at *
  generalize hN1 : cntL cntI x.vFree = N1 at *
  go_enter Try.func16, Try.ntmps16
  go_wp2_with fail
  refine (markSlotS_any q0_0.out (by omega) (by omega)).mono ?_
  rintro e v0 ⟨rfl, ho0, hc0⟩
  rw [hN0]
  have bx1 : Hid (Box v0 w.heap.size [.slice a0 x.vSlots.length cap0, .slice a1 x.vFree.length cap1] 30) := (Out.keep hc0 bx0.out.lt n0).trans bx0.out
  have q0_1 : Hid (SeqOwn 3 SlotOwn v0 (.slice a0 x.vSlots.length cap0) (mkL cntSlot mkSlot x.vSlots (m)) f0) := ho0
  have q1_1 : Hid (SeqOwn 1 IntOwn v0 (.slice a1 x.vFree.length cap1) (x.vFree) f1) := SeqOwn.stays intOwn_stays q1_0.out (fun y hy => Out.keep hc0 (SeqOwn.lt intOwn_lt q1_0.out y hy) (fun q => ap0_1 y q hy))
  have ou1 : Hid (Out (f0 ++ f1) w v0) := Out.trans ou0.out (Out.mono hc0 (fun y hy => (List.mem_append_left _ hy)))
  clear ho0 hc0
  have t0_0 := bx1.out.cell 0 rfl
  have t0_1 := bx1.out.cell 1 rfl
  go_wp2_with fail
  refine (markInt64S_any q1_1.out (by omega) (by omega)).mono ?_
  rintro e v1 ⟨rfl, ho1, hc1⟩
  rw [hN1]
  have bx2 : Hid (Box v1 w.heap.size [.slice a0 x.vSlots.length cap0, .slice a1 x.vFree.length cap1] 30) := (Out.keep hc1 bx1.out.lt n1).trans bx1.out
  have q0_2 : Hid (SeqOwn 3 SlotOwn v1 (.slice a0 x.vSlots.length cap0) (mkL cntSlot mkSlot x.vSlots (m)) f0) := SeqOwn.stays SlotOwn_stays q0_1.out (fun y hy => Out.keep hc1 (SeqOwn.lt SlotOwn_lt q0_1.out y hy) (ap0_1 y hy))
  have q1_2 : Hid (SeqOwn 1 IntOwn v1 (.slice a1 x.vFree.length cap1) (mkL cntI mkI x.vFree (m + (N0 : Int))) f1) := ho1
  have ou2 : Hid (Out (f0 ++ f1) w v1) := Out.trans ou1.out (Out.mono hc1 (fun y hy => (List.mem_append_right _ hy)))
  clear ho1 hc1 t0_0 t0_1
  have t1_0 := bx2.out.cell 0 rfl
  have t1_1 := bx2.out.cell 1 rfl
  go_wp2_with fail
  go_ret
  subst hN0
  subst hN1
  exact ⟨rfl, ⟨_, _, f0, f1, rfl, q0_2.out, q1_2.out, rfl⟩, ou2.out⟩
set_option maxRecDepth 100000 in
set_option maxHeartbeats 1600000 in
theorem heldArena_any {w : World} {lo : Nat} {cs : List Value} {x : ArenaD} {m : Int} (hk : ArenaAt w lo cs (mkTArena x m)) (h0 : 0 ≤ m) (h1 : m + (cntL cntSlot x.vSlots : Nat) + (cntL cntI x.vFree : Nat) ≤ 4611686018427387904) :
    Calls Try.prog 17 #[.agg cs.toArray, .int .i64 m] w fun e w' => e = .returned (.int .i64 (m + (cntL cntSlot x.vSlots : Nat) + (cntL cntI x.vFree : Nat))) ∧ Below w.heap.size w w' := by
  obtain ⟨k0, k1, rfl, o0, o1, _⟩ := hk
  have s0' : Hid (SeqAt 3 SlotAt w lo k0 (mkL cntSlot mkSlot x.vSlots (m))) := o0
  obtain ⟨a0, cap0, rfl⟩ := s0'.out.form
  have s1' : Hid (SeqAt 1 IntAt w lo k1 (mkL cntI mkI x.vFree (m + (cntL cntSlot x.vSlots : Nat)))) := o1
  obtain ⟨a1, cap1, rfl⟩ := s1'.out.form
  clear o0 o1
  generalize hN0 : cntL cntSlot x.vSlots = N0 at *
  generalize hN1 : cntL cntI x.vFree = N1 at *
  have hb0 : Below w.heap.size w (w.alloc (.cells (List.toArray [.slice a0 (mkL cntSlot mkSlot x.vSlots (m)).length cap0, .slice a1 (mkL cntI mkI x.vFree (m + (N0 : Int))).length cap1]) 30)) := (Below.refl _ _).alloc (Nat.le_refl _) _
  have bx0 : Hid (Box (w.alloc (.cells (List.toArray [.slice a0 (mkL cntSlot mkSlot x.vSlots (m)).length cap0, .slice a1 (mkL cntI mkI x.vFree (m + (N0 : Int))).length cap1]) 30)) w.heap.size [.slice a0 (mkL cntSlot mkSlot x.vSlots (m)).length cap0, .slice a1 (mkL cntI mkI x.vFree (m + (N0 : Int))).length cap1] 30) := Box.new w _ _
  go_enter Try.func17, Try.ntmps17
  go_wp2_with fail
  refine (heldSlotS_any (s0'.out.below SlotAt_stays hb0) (by omega) (by omega)).mono ?_
  rintro e v0 ⟨rfl, hc0⟩
  rw [hN0]
  have hb1 : Below w.heap.size w v0 := hb0.trans (hc0.mono hb0.size)
  have bx1 : Hid (Box v0 w.heap.size [.slice a0 (mkL cntSlot mkSlot x.vSlots (m)).length cap0, .slice a1 (mkL cntI mkI x.vFree (m + (N0 : Int))).length cap1] 30) := Box.below bx0.out hc0 bx0.out.lt
  clear hc0
  have t0_0 := bx1.out.cell 0 rfl
  have t0_1 := bx1.out.cell 1 rfl
  go_wp2_with fail
  refine (heldInt64S_any (s1'.out.below intAt_stays hb1) (by omega) (by omega)).mono ?_
  rintro e v1 ⟨rfl, hc1⟩
  rw [hN1]
  have hb2 : Below w.heap.size w v1 := hb1.trans (hc1.mono hb1.size)
  have bx2 : Hid (Box v1 w.heap.size [.slice a0 (mkL cntSlot mkSlot x.vSlots (m)).length cap0, .slice a1 (mkL cntI mkI x.vFree (m + (N0 : Int))).length cap1] 30) := Box.below bx1.out hc1 bx1.out.lt
  clear hc1 t0_0 t0_1
  have t1_0 := bx2.out.cell 0 rfl
  have t1_1 := bx2.out.cell 1 rfl
  go_wp2_with fail
  go_ret
  subst hN0
  subst hN1
  exact ⟨rfl, hb2⟩
end Go.Proofs.Ytcpbcpckmclciaa
