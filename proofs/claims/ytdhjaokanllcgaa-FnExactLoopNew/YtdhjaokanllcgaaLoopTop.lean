/- Loops without tasks, in memory; LoopNew of the specification and of the program, walked. -/
import Derived.Test.YtdhjaokanllcgaaHCopy
import Derived.Test.YtdhjaokanllcgaaMarkTops
import Derived.Test.YtdhjaokanllcgaaEqRecs
import Derived.Test.YtdhjaokanllcgaaHeapSpec
import Derived.Test.YtdhjaokanllcgaaImplRight
import Derived.Test.YtdhjaokanllcgaaHeapEq
namespace Go.Proofs.Ytdhjaokanllcgaa
open Go.RowKit
theorem eqTaskS_nil {w : World} : Calls Try.prog 39 #[.slice none 0 0, .slice none 0 0] w fun e w' => e = .returned (.bool true) ∧ Below w.heap.size w w' := by
  go_enter Try.func39, Try.ntmps39
  go_wp2_with fail
  go_loopw [5] (fun i wr => i = .int .i64 0 ∧ wr = w) (fun _ _ => 0)
  case atStart => exact ⟨rfl, rfl⟩
  case round =>
    obtain ⟨rfl, rfl⟩ := hrel
    go_wp2_with fail
    go_ret
    exact ⟨rfl, Below.refl _ _⟩
theorem markTaskS_nil {w : World} {m : Int} : Calls Try.prog 47 #[.slice none 0 0, .int .i64 m] w fun e w' => e = .returned (.int .i64 m) ∧ Below w.heap.size w w' := by
  go_enter Try.func47, Try.ntmps47
  go_wp2_with fail
  go_loopw [1, 5] (fun z i wr => z = .int .i64 m ∧ i = .int .i64 0 ∧ wr = w) (fun _ _ _ => 0)
  case atStart => exact ⟨rfl, rfl, rfl⟩
  case round =>
    obtain ⟨rfl, rfl, rfl⟩ := hrel
    go_wp2_with fail
    go_ret
    exact ⟨rfl, Below.refl _ _⟩
theorem heldTaskS_nil {w : World} {m : Int} : Calls Try.prog 50 #[.slice none 0 0, .int .i64 m] w fun e w' => e = .returned (.int .i64 m) ∧ Below w.heap.size w w' := by
  go_enter Try.func50, Try.ntmps50
  go_wp2_with fail
  go_loopw [1, 5] (fun z i wr => z = .int .i64 m ∧ i = .int .i64 0 ∧ wr = w) (fun _ _ _ => 0)
  case atStart => exact ⟨rfl, rfl, rfl⟩
  case round =>
    obtain ⟨rfl, rfl, rfl⟩ := hrel
    go_wp2_with fail
    go_ret
    exact ⟨rfl, Below.refl _ _⟩
theorem eqTimerS_nil {w : World} : Calls Try.prog 40 #[.slice none 0 0, .slice none 0 0] w fun e w' => e = .returned (.bool true) ∧ Below w.heap.size w w' := by
  go_enter Try.func40, Try.ntmps40
  go_wp2_with fail
  go_loopw [5] (fun i wr => i = .int .i64 0 ∧ wr = w) (fun _ _ => 0)
  case atStart => exact ⟨rfl, rfl⟩
  case round =>
    obtain ⟨rfl, rfl⟩ := hrel
    go_wp2_with fail
    go_ret
    exact ⟨rfl, Below.refl _ _⟩
theorem markTimerS_nil {w : World} {m : Int} : Calls Try.prog 48 #[.slice none 0 0, .int .i64 m] w fun e w' => e = .returned (.int .i64 m) ∧ Below w.heap.size w w' := by
  go_enter Try.func48, Try.ntmps48
  go_wp2_with fail
  go_loopw [1, 5] (fun z i wr => z = .int .i64 m ∧ i = .int .i64 0 ∧ wr = w) (fun _ _ _ => 0)
  case atStart => exact ⟨rfl, rfl, rfl⟩
  case round =>
    obtain ⟨rfl, rfl, rfl⟩ := hrel
    go_wp2_with fail
    go_ret
    exact ⟨rfl, Below.refl _ _⟩
theorem heldTimerS_nil {w : World} {m : Int} : Calls Try.prog 51 #[.slice none 0 0, .int .i64 m] w fun e w' => e = .returned (.int .i64 m) ∧ Below w.heap.size w w' := by
  go_enter Try.func51, Try.ntmps51
  go_wp2_with fail
  go_loopw [1, 5] (fun z i wr => z = .int .i64 m ∧ i = .int .i64 0 ∧ wr = w) (fun _ _ _ => 0)
  case atStart => exact ⟨rfl, rfl, rfl⟩
  case round =>
    obtain ⟨rfl, rfl, rfl⟩ := hrel
    go_wp2_with fail
    go_ret
    exact ⟨rfl, Below.refl _ _⟩
structure LoopE where
  nx : Int
  hp : HeapD
def LoopAt (w : World) (lo : Nat) (cs : List Value) (y : LoopE) : Prop := ∃ c0 c1 c2 c3 c4 : Value, cs = [.int .i64 0, .int .i64 y.nx, c0, c1, c2, c3, c4, .slice none 0 0, .slice none 0 0, .slice none 0 0] ∧ HeapAt w lo [c0, c1, c2, c3, c4] y.hp ∧ InI y.nx
def LoopOwn (w : World) (cs : List Value) (y : LoopE) (fs : List Nat) : Prop := ∃ c0 c1 c2 c3 c4 : Value, cs = [.int .i64 0, .int .i64 y.nx, c0, c1, c2, c3, c4, .slice none 0 0, .slice none 0 0, .slice none 0 0] ∧ HeapOwn w [c0, c1, c2, c3, c4] y.hp fs ∧ InI y.nx
theorem LoopOwn_stays : OwnStays LoopOwn := by
  intro w w' cs y fs h ⟨c0, c1, c2, c3, c4, e, hh, r⟩
  exact ⟨c0, c1, c2, c3, c4, e, HeapOwn_stays _ _ _ _ _ h hh, r⟩
theorem LoopOwn_lt : OwnLt LoopOwn := by
  intro w cs y fs ⟨c0, c1, c2, c3, c4, e, hh, r⟩
  exact HeapOwn_lt _ _ _ _ hh
theorem LoopOwn_at {lo : Nat} (w : World) (cs : List Value) (y : LoopE) (fs : List Nat) (h : LoopOwn w cs y fs) (hl : ∀ b ∈ fs, lo ≤ b) : LoopAt w lo cs y := by
  obtain ⟨c0, c1, c2, c3, c4, e, hh, r⟩ := h
  exact ⟨c0, c1, c2, c3, c4, e, HeapOwn_at _ _ _ _ hh hl, r⟩
theorem LoopAt_stays : Stays LoopAt := by
  intro w w' lo lo' cs y h ⟨c0, c1, c2, c3, c4, e, hh, r⟩
  exact ⟨c0, c1, c2, c3, c4, e, HeapAt_stays _ _ _ _ _ _ h hh, r⟩
theorem LoopAt.form {w : World} {lo : Nat} {cs : List Value} {y : LoopE} (h : LoopAt w lo cs y) : ∃ (a2 : Option Addr) (k2 : Nat) (a3 : Option Addr) (k3 : Nat) (a4 : Option Addr) (k4 : Nat), cs = [.int .i64 0, .int .i64 y.nx, .int .i64 y.hp.vNext, .int .i64 y.hp.vDoc, .slice a2 y.hp.vNodes.length k2, .slice a3 y.hp.vObjs.length k3, .slice a4 y.hp.vGlobals.length k4, .slice none 0 0, .slice none 0 0, .slice none 0 0] ∧ HeapAt w lo [.int .i64 y.hp.vNext, .int .i64 y.hp.vDoc, .slice a2 y.hp.vNodes.length k2, .slice a3 y.hp.vObjs.length k3, .slice a4 y.hp.vGlobals.length k4] y.hp ∧ InI y.nx := by
  obtain ⟨c0, c1, c2, c3, c4, rfl, hh, r⟩ := h
  have hh' := hh
  obtain ⟨k2, k3, k4, e, s2, s3, s4, _⟩ := hh
  simp only [List.cons.injEq, and_true] at e
  obtain ⟨rfl, rfl, rfl, rfl, rfl⟩ := e
  obtain ⟨a2, k2, rfl⟩ := s2.form
  obtain ⟨a3, k3, rfl⟩ := s3.form
  obtain ⟨a4, k4, rfl⟩ := s4.form
  exact ⟨a2, k2, a3, k3, a4, k4, rfl, hh', r⟩
theorem LoopOwn.form {w : World} {cs : List Value} {y : LoopE} {fs : List Nat} (h : LoopOwn w cs y fs) : ∃ (a2 : Option Addr) (k2 : Nat) (a3 : Option Addr) (k3 : Nat) (a4 : Option Addr) (k4 : Nat), cs = [.int .i64 0, .int .i64 y.nx, .int .i64 y.hp.vNext, .int .i64 y.hp.vDoc, .slice a2 y.hp.vNodes.length k2, .slice a3 y.hp.vObjs.length k3, .slice a4 y.hp.vGlobals.length k4, .slice none 0 0, .slice none 0 0, .slice none 0 0] ∧ HeapOwn w [.int .i64 y.hp.vNext, .int .i64 y.hp.vDoc, .slice a2 y.hp.vNodes.length k2, .slice a3 y.hp.vObjs.length k3, .slice a4 y.hp.vGlobals.length k4] y.hp fs ∧ InI y.nx := by
  obtain ⟨c0, c1, c2, c3, c4, rfl, hh, r⟩ := h
  have hh' := hh
  obtain ⟨k2, k3, k4, f2, f3, f4, e, s2, s3, s4, _⟩ := hh
  simp only [List.cons.injEq, and_true] at e
  obtain ⟨rfl, rfl, rfl, rfl, rfl⟩ := e
  obtain ⟨a2, k2, rfl⟩ := s2.form
  obtain ⟨a3, k3, rfl⟩ := s3.form
  obtain ⟨a4, k4, rfl⟩ := s4.form
  exact ⟨a2, k2, a3, k3, a4, k4, rfl, hh', r⟩
set_option maxRecDepth 100000 in
set_option maxHeartbeats 2000000 in
theorem eqLoop_any {w : World} {lo lo2 : Nat} {cs cs2 : List Value} {y : LoopE} (h : LoopAt w lo cs y) (h2 : LoopAt w lo2 cs2 y) :
    Calls Try.prog 14 #[.agg cs.toArray, .agg cs2.toArray] w fun e w' => e = .returned (.bool true) ∧ Below w.heap.size w w' := by
  obtain ⟨a2, k2, a3, k3, a4, k4, rfl, hh, _⟩ := h.form
  obtain ⟨b2, l2, b3, l3, b4, l4, rfl, hh2, _⟩ := h2.form
  have hb0 : Below w.heap.size w ((w.alloc (.cells (List.toArray [.int .i64 0, .int .i64 y.nx, .int .i64 y.hp.vNext, .int .i64 y.hp.vDoc, .slice a2 y.hp.vNodes.length k2, .slice a3 y.hp.vObjs.length k3, .slice a4 y.hp.vGlobals.length k4, .slice none 0 0, .slice none 0 0, .slice none 0 0]) 45)).alloc (.cells (List.toArray [.int .i64 0, .int .i64 y.nx, .int .i64 y.hp.vNext, .int .i64 y.hp.vDoc, .slice b2 y.hp.vNodes.length l2, .slice b3 y.hp.vObjs.length l3, .slice b4 y.hp.vGlobals.length l4, .slice none 0 0, .slice none 0 0, .slice none 0 0]) 45)) := ((Below.refl _ _).alloc (Nat.le_refl _) _).alloc (by simp) _
  have hH1 : Hid (HeapAt ((w.alloc (.cells (List.toArray [.int .i64 0, .int .i64 y.nx, .int .i64 y.hp.vNext, .int .i64 y.hp.vDoc, .slice a2 y.hp.vNodes.length k2, .slice a3 y.hp.vObjs.length k3, .slice a4 y.hp.vGlobals.length k4, .slice none 0 0, .slice none 0 0, .slice none 0 0]) 45)).alloc (.cells (List.toArray [.int .i64 0, .int .i64 y.nx, .int .i64 y.hp.vNext, .int .i64 y.hp.vDoc, .slice b2 y.hp.vNodes.length l2, .slice b3 y.hp.vObjs.length l3, .slice b4 y.hp.vGlobals.length l4, .slice none 0 0, .slice none 0 0, .slice none 0 0]) 45)) lo [.int .i64 y.hp.vNext, .int .i64 y.hp.vDoc, .slice a2 y.hp.vNodes.length k2, .slice a3 y.hp.vObjs.length k3, .slice a4 y.hp.vGlobals.length k4] y.hp) := HeapAt_stays _ _ _ _ _ _ (.of_below hb0) hh
  have hH2 : Hid (HeapAt ((w.alloc (.cells (List.toArray [.int .i64 0, .int .i64 y.nx, .int .i64 y.hp.vNext, .int .i64 y.hp.vDoc, .slice a2 y.hp.vNodes.length k2, .slice a3 y.hp.vObjs.length k3, .slice a4 y.hp.vGlobals.length k4, .slice none 0 0, .slice none 0 0, .slice none 0 0]) 45)).alloc (.cells (List.toArray [.int .i64 0, .int .i64 y.nx, .int .i64 y.hp.vNext, .int .i64 y.hp.vDoc, .slice b2 y.hp.vNodes.length l2, .slice b3 y.hp.vObjs.length l3, .slice b4 y.hp.vGlobals.length l4, .slice none 0 0, .slice none 0 0, .slice none 0 0]) 45)) lo2 [.int .i64 y.hp.vNext, .int .i64 y.hp.vDoc, .slice b2 y.hp.vNodes.length l2, .slice b3 y.hp.vObjs.length l3, .slice b4 y.hp.vGlobals.length l4] y.hp) := HeapAt_stays _ _ _ _ _ _ (.of_below hb0) hh2
  have bA : Hid (Box ((w.alloc (.cells (List.toArray [.int .i64 0, .int .i64 y.nx, .int .i64 y.hp.vNext, .int .i64 y.hp.vDoc, .slice a2 y.hp.vNodes.length k2, .slice a3 y.hp.vObjs.length k3, .slice a4 y.hp.vGlobals.length k4, .slice none 0 0, .slice none 0 0, .slice none 0 0]) 45)).alloc (.cells (List.toArray [.int .i64 0, .int .i64 y.nx, .int .i64 y.hp.vNext, .int .i64 y.hp.vDoc, .slice b2 y.hp.vNodes.length l2, .slice b3 y.hp.vObjs.length l3, .slice b4 y.hp.vGlobals.length l4, .slice none 0 0, .slice none 0 0, .slice none 0 0]) 45)) w.heap.size [.int .i64 0, .int .i64 y.nx, .int .i64 y.hp.vNext, .int .i64 y.hp.vDoc, .slice a2 y.hp.vNodes.length k2, .slice a3 y.hp.vObjs.length k3, .slice a4 y.hp.vGlobals.length k4, .slice none 0 0, .slice none 0 0, .slice none 0 0] 45) := (Box.new w _ _).alloc _
  have bB : Hid (Box ((w.alloc (.cells (List.toArray [.int .i64 0, .int .i64 y.nx, .int .i64 y.hp.vNext, .int .i64 y.hp.vDoc, .slice a2 y.hp.vNodes.length k2, .slice a3 y.hp.vObjs.length k3, .slice a4 y.hp.vGlobals.length k4, .slice none 0 0, .slice none 0 0, .slice none 0 0]) 45)).alloc (.cells (List.toArray [.int .i64 0, .int .i64 y.nx, .int .i64 y.hp.vNext, .int .i64 y.hp.vDoc, .slice b2 y.hp.vNodes.length l2, .slice b3 y.hp.vObjs.length l3, .slice b4 y.hp.vGlobals.length l4, .slice none 0 0, .slice none 0 0, .slice none 0 0]) 45)) (w.heap.size + 1) [.int .i64 0, .int .i64 y.nx, .int .i64 y.hp.vNext, .int .i64 y.hp.vDoc, .slice b2 y.hp.vNodes.length l2, .slice b3 y.hp.vObjs.length l3, .slice b4 y.hp.vGlobals.length l4, .slice none 0 0, .slice none 0 0, .slice none 0 0] 45) := by have h5 := Box.new (w.alloc (.cells (List.toArray [.int .i64 0, .int .i64 y.nx, .int .i64 y.hp.vNext, .int .i64 y.hp.vDoc, .slice a2 y.hp.vNodes.length k2, .slice a3 y.hp.vObjs.length k3, .slice a4 y.hp.vGlobals.length k4, .slice none 0 0, .slice none 0 0, .slice none 0 0]) 45)) [.int .i64 0, .int .i64 y.nx, .int .i64 y.hp.vNext, .int .i64 y.hp.vDoc, .slice b2 y.hp.vNodes.length l2, .slice b3 y.hp.vObjs.length l3, .slice b4 y.hp.vGlobals.length l4, .slice none 0 0, .slice none 0 0, .slice none 0 0] 45; simp only [World.size_alloc] at h5; exact h5
  clear hh hh2 h h2
  go_enter Try.func14, Try.ntmps14
  go_wp2_with fail
  refine (eqHeap_any hH1.out hH2.out).mono ?_
  rintro e w1 ⟨rfl, hb1⟩
  have bA1 : Hid (Box w1 w.heap.size [.int .i64 0, .int .i64 y.nx, .int .i64 y.hp.vNext, .int .i64 y.hp.vDoc, .slice a2 y.hp.vNodes.length k2, .slice a3 y.hp.vObjs.length k3, .slice a4 y.hp.vGlobals.length k4, .slice none 0 0, .slice none 0 0, .slice none 0 0] 45) := bA.out.below hb1 bA.out.lt
  have bB1 : Hid (Box w1 (w.heap.size + 1) [.int .i64 0, .int .i64 y.nx, .int .i64 y.hp.vNext, .int .i64 y.hp.vDoc, .slice b2 y.hp.vNodes.length l2, .slice b3 y.hp.vObjs.length l3, .slice b4 y.hp.vGlobals.length l4, .slice none 0 0, .slice none 0 0, .slice none 0 0] 45) := bB.out.below hb1 bB.out.lt
  have hB1 : Below w.heap.size w w1 := hb0.trans (hb1.mono hb0.size)
  clear bA bB hH1 hH2 hb0 hb1
  have x7 := bA1.out.cell 7 rfl
  have x8 := bA1.out.cell 8 rfl
  have x9 := bA1.out.cell 9 rfl
  have y7 := bB1.out.cell 7 rfl
  have y8 := bB1.out.cell 8 rfl
  have y9 := bB1.out.cell 9 rfl
  go_wp2_with fail
  refine eqTaskS_nil.mono ?_
  rintro e w2 ⟨rfl, hb2⟩
  have hB2 : Below w.heap.size w w2 := hB1.trans (hb2.mono hB1.size)
  have bA2 : Hid (Box w2 w.heap.size [.int .i64 0, .int .i64 y.nx, .int .i64 y.hp.vNext, .int .i64 y.hp.vDoc, .slice a2 y.hp.vNodes.length k2, .slice a3 y.hp.vObjs.length k3, .slice a4 y.hp.vGlobals.length k4, .slice none 0 0, .slice none 0 0, .slice none 0 0] 45) := bA1.out.below hb2 bA1.out.lt
  have bB2 : Hid (Box w2 (w.heap.size + 1) [.int .i64 0, .int .i64 y.nx, .int .i64 y.hp.vNext, .int .i64 y.hp.vDoc, .slice b2 y.hp.vNodes.length l2, .slice b3 y.hp.vObjs.length l3, .slice b4 y.hp.vGlobals.length l4, .slice none 0 0, .slice none 0 0, .slice none 0 0] 45) := bB1.out.below hb2 bB1.out.lt
  clear x7 y7 x8 y8 x9 y9 hb2 bA1 bB1
  have x8 := bA2.out.cell 8 rfl
  have x9 := bA2.out.cell 9 rfl
  have y8 := bB2.out.cell 8 rfl
  have y9 := bB2.out.cell 9 rfl
  go_wp2_with fail
  refine eqTaskS_nil.mono ?_
  rintro e w3 ⟨rfl, hb3⟩
  have hB3 : Below w.heap.size w w3 := hB2.trans (hb3.mono hB2.size)
  have bA3 : Hid (Box w3 w.heap.size [.int .i64 0, .int .i64 y.nx, .int .i64 y.hp.vNext, .int .i64 y.hp.vDoc, .slice a2 y.hp.vNodes.length k2, .slice a3 y.hp.vObjs.length k3, .slice a4 y.hp.vGlobals.length k4, .slice none 0 0, .slice none 0 0, .slice none 0 0] 45) := bA2.out.below hb3 bA2.out.lt
  have bB3 : Hid (Box w3 (w.heap.size + 1) [.int .i64 0, .int .i64 y.nx, .int .i64 y.hp.vNext, .int .i64 y.hp.vDoc, .slice b2 y.hp.vNodes.length l2, .slice b3 y.hp.vObjs.length l3, .slice b4 y.hp.vGlobals.length l4, .slice none 0 0, .slice none 0 0, .slice none 0 0] 45) := bB2.out.below hb3 bB2.out.lt
  clear x8 y8 x9 y9 hb3 bA2 bB2
  have x9 := bA3.out.cell 9 rfl
  have y9 := bB3.out.cell 9 rfl
  go_wp2_with fail
  refine eqTimerS_nil.mono ?_
  rintro e w4 ⟨rfl, hb4⟩
  have hB4 : Below w.heap.size w w4 := hB3.trans (hb4.mono hB3.size)
  have bA4 : Hid (Box w4 w.heap.size [.int .i64 0, .int .i64 y.nx, .int .i64 y.hp.vNext, .int .i64 y.hp.vDoc, .slice a2 y.hp.vNodes.length k2, .slice a3 y.hp.vObjs.length k3, .slice a4 y.hp.vGlobals.length k4, .slice none 0 0, .slice none 0 0, .slice none 0 0] 45) := bA3.out.below hb4 bA3.out.lt
  have bB4 : Hid (Box w4 (w.heap.size + 1) [.int .i64 0, .int .i64 y.nx, .int .i64 y.hp.vNext, .int .i64 y.hp.vDoc, .slice b2 y.hp.vNodes.length l2, .slice b3 y.hp.vObjs.length l3, .slice b4 y.hp.vGlobals.length l4, .slice none 0 0, .slice none 0 0, .slice none 0 0] 45) := bB3.out.below hb4 bB3.out.lt
  clear x9 y9 hb4 bA3 bB3
  go_wp2_with fail
  go_ret
  exact ⟨rfl, hB4⟩
def cntT (y : LoopE) : Nat := cntL cntNode y.hp.vNodes + cntL cntObj y.hp.vObjs + cntL cntField y.hp.vGlobals
def mkTLoop (y : LoopE) (m : Int) : LoopE := ⟨y.nx, mkTHeap y.hp m⟩
set_option maxRecDepth 100000 in
set_option maxHeartbeats 2000000 in
theorem markLoop_any {w : World} {cs : List Value} {y : LoopE} {fs : List Nat} {m : Int} (hk : LoopOwn w cs y fs) (hnd : fs.Nodup) (h0 : 0 ≤ m) (h1 : m + (cntL cntNode y.hp.vNodes : Nat) + (cntL cntObj y.hp.vObjs : Nat) + (cntL cntField y.hp.vGlobals : Nat) ≤ 4611686018427387904) :
    Calls Try.prog 17 #[.agg cs.toArray, .int .i64 m] w fun e w' => e = .returned (.int .i64 (m + (cntL cntNode y.hp.vNodes : Nat) + (cntL cntObj y.hp.vObjs : Nat) + (cntL cntField y.hp.vGlobals : Nat))) ∧ LoopOwn w' cs (mkTLoop y m) fs ∧ Out fs w w' := by
  obtain ⟨a2, k2, a3, k3, a4, k4, rfl, hh, hr⟩ := hk.form
  have hlt := HeapOwn_lt _ _ _ _ hh
  have hb0 : Below w.heap.size w (w.alloc (.cells (List.toArray [.int .i64 0, .int .i64 y.nx, .int .i64 y.hp.vNext, .int .i64 y.hp.vDoc, .slice a2 y.hp.vNodes.length k2, .slice a3 y.hp.vObjs.length k3, .slice a4 y.hp.vGlobals.length k4, .slice none 0 0, .slice none 0 0, .slice none 0 0]) 45)) := (Below.refl _ _).alloc (Nat.le_refl _) _
  have hH1 : Hid (HeapOwn (w.alloc (.cells (List.toArray [.int .i64 0, .int .i64 y.nx, .int .i64 y.hp.vNext, .int .i64 y.hp.vDoc, .slice a2 y.hp.vNodes.length k2, .slice a3 y.hp.vObjs.length k3, .slice a4 y.hp.vGlobals.length k4, .slice none 0 0, .slice none 0 0, .slice none 0 0]) 45)) [.int .i64 y.hp.vNext, .int .i64 y.hp.vDoc, .slice a2 y.hp.vNodes.length k2, .slice a3 y.hp.vObjs.length k3, .slice a4 y.hp.vGlobals.length k4] y.hp fs) := HeapOwn_stays _ _ _ _ _ (fun b qq => hb0.block b (hlt b qq)) hh
  have bA : Hid (Box (w.alloc (.cells (List.toArray [.int .i64 0, .int .i64 y.nx, .int .i64 y.hp.vNext, .int .i64 y.hp.vDoc, .slice a2 y.hp.vNodes.length k2, .slice a3 y.hp.vObjs.length k3, .slice a4 y.hp.vGlobals.length k4, .slice none 0 0, .slice none 0 0, .slice none 0 0]) 45)) w.heap.size [.int .i64 0, .int .i64 y.nx, .int .i64 y.hp.vNext, .int .i64 y.hp.vDoc, .slice a2 y.hp.vNodes.length k2, .slice a3 y.hp.vObjs.length k3, .slice a4 y.hp.vGlobals.length k4, .slice none 0 0, .slice none 0 0, .slice none 0 0] 45) := Box.new w _ _
  have hn : w.heap.size ∉ fs := fun qq => by have := hlt _ qq; omega
  have hrh : Hid (InI y.nx) := hr
  clear hk hh hr
  go_enter Try.func17, Try.ntmps17
  go_wp2_with fail
  refine (markHeap_any hH1.out hnd h0 h1).mono ?_
  rintro e w1 ⟨rfl, own1, ho1⟩
  have hO1 : Hid (Out fs w w1) := Out.trans (Out.of_below hb0) ho1
  have bA1 : Hid (Box w1 w.heap.size [.int .i64 0, .int .i64 y.nx, .int .i64 y.hp.vNext, .int .i64 y.hp.vDoc, .slice a2 y.hp.vNodes.length k2, .slice a3 y.hp.vObjs.length k3, .slice a4 y.hp.vGlobals.length k4, .slice none 0 0, .slice none 0 0, .slice none 0 0] 45) := (ho1.keep bA.out.lt hn).trans bA.out
  have own1' : Hid (HeapOwn w1 [.int .i64 y.hp.vNext, .int .i64 y.hp.vDoc, .slice a2 y.hp.vNodes.length k2, .slice a3 y.hp.vObjs.length k3, .slice a4 y.hp.vGlobals.length k4] (mkTHeap y.hp m) fs) := own1
  generalize hS : m + (cntL cntNode y.hp.vNodes : Nat) + (cntL cntObj y.hp.vObjs : Nat) + (cntL cntField y.hp.vGlobals : Nat) = K at *
  clear bA hH1 hb0 ho1 own1
  have x7 := bA1.out.cell 7 rfl
  have x8 := bA1.out.cell 8 rfl
  have x9 := bA1.out.cell 9 rfl
  go_wp2_with fail
  refine markTaskS_nil.mono ?_
  rintro e w2 ⟨rfl, hb2⟩
  have hO2 : Hid (Out fs w w2) := Out.trans hO1.out (Out.of_below hb2)
  have bA2 : Hid (Box w2 w.heap.size [.int .i64 0, .int .i64 y.nx, .int .i64 y.hp.vNext, .int .i64 y.hp.vDoc, .slice a2 y.hp.vNodes.length k2, .slice a3 y.hp.vObjs.length k3, .slice a4 y.hp.vGlobals.length k4, .slice none 0 0, .slice none 0 0, .slice none 0 0] 45) := bA1.out.below hb2 bA1.out.lt
  have own2' : Hid (HeapOwn w2 [.int .i64 y.hp.vNext, .int .i64 y.hp.vDoc, .slice a2 y.hp.vNodes.length k2, .slice a3 y.hp.vObjs.length k3, .slice a4 y.hp.vGlobals.length k4] (mkTHeap y.hp m) fs) := HeapOwn_stays _ _ _ _ _ (fun b qq => hb2.block b (HeapOwn_lt _ _ _ _ own1'.out b qq)) own1'.out
  clear x7 x8 x9 hb2 bA1 own1' hO1
  have x8 := bA2.out.cell 8 rfl
  have x9 := bA2.out.cell 9 rfl
  go_wp2_with fail
  refine markTaskS_nil.mono ?_
  rintro e w3 ⟨rfl, hb3⟩
  have hO3 : Hid (Out fs w w3) := Out.trans hO2.out (Out.of_below hb3)
  have bA3 : Hid (Box w3 w.heap.size [.int .i64 0, .int .i64 y.nx, .int .i64 y.hp.vNext, .int .i64 y.hp.vDoc, .slice a2 y.hp.vNodes.length k2, .slice a3 y.hp.vObjs.length k3, .slice a4 y.hp.vGlobals.length k4, .slice none 0 0, .slice none 0 0, .slice none 0 0] 45) := bA2.out.below hb3 bA2.out.lt
  have own3' : Hid (HeapOwn w3 [.int .i64 y.hp.vNext, .int .i64 y.hp.vDoc, .slice a2 y.hp.vNodes.length k2, .slice a3 y.hp.vObjs.length k3, .slice a4 y.hp.vGlobals.length k4] (mkTHeap y.hp m) fs) := HeapOwn_stays _ _ _ _ _ (fun b qq => hb3.block b (HeapOwn_lt _ _ _ _ own2'.out b qq)) own2'.out
  clear x8 x9 hb3 bA2 own2' hO2
  have x9 := bA3.out.cell 9 rfl
  go_wp2_with fail
  refine markTimerS_nil.mono ?_
  rintro e w4 ⟨rfl, hb4⟩
  have hO4 : Hid (Out fs w w4) := Out.trans hO3.out (Out.of_below hb4)
  have bA4 : Hid (Box w4 w.heap.size [.int .i64 0, .int .i64 y.nx, .int .i64 y.hp.vNext, .int .i64 y.hp.vDoc, .slice a2 y.hp.vNodes.length k2, .slice a3 y.hp.vObjs.length k3, .slice a4 y.hp.vGlobals.length k4, .slice none 0 0, .slice none 0 0, .slice none 0 0] 45) := bA3.out.below hb4 bA3.out.lt
  have own4' : Hid (HeapOwn w4 [.int .i64 y.hp.vNext, .int .i64 y.hp.vDoc, .slice a2 y.hp.vNodes.length k2, .slice a3 y.hp.vObjs.length k3, .slice a4 y.hp.vGlobals.length k4] (mkTHeap y.hp m) fs) := HeapOwn_stays _ _ _ _ _ (fun b qq => hb4.block b (HeapOwn_lt _ _ _ _ own3'.out b qq)) own3'.out
  clear x9 hb4 bA3 own3' hO3
  go_wp2_with fail
  go_ret
  subst hS
  exact ⟨rfl, ⟨_, _, _, _, _, rfl, own4'.out, hrh.out⟩, hO4.out⟩
set_option maxRecDepth 100000 in
set_option maxHeartbeats 2000000 in
theorem heldLoop_any {w : World} {lo : Nat} {cs : List Value} {y : LoopE} {m : Int} (hk : LoopAt w lo cs (mkTLoop y m)) (h0 : 0 ≤ m) (h1 : m + (cntL cntNode y.hp.vNodes : Nat) + (cntL cntObj y.hp.vObjs : Nat) + (cntL cntField y.hp.vGlobals : Nat) ≤ 4611686018427387904) :
    Calls Try.prog 18 #[.agg cs.toArray, .int .i64 m] w fun e w' => e = .returned (.int .i64 (m + (cntL cntNode y.hp.vNodes : Nat) + (cntL cntObj y.hp.vObjs : Nat) + (cntL cntField y.hp.vGlobals : Nat))) ∧ Below w.heap.size w w' := by
  obtain ⟨c0, c1, c2, c3, c4, rfl, hh, _⟩ := hk
  have hb0 : Below w.heap.size w (w.alloc (.cells (List.toArray [.int .i64 0, .int .i64 y.nx, c0, c1, c2, c3, c4, .slice none 0 0, .slice none 0 0, .slice none 0 0]) 45)) := (Below.refl _ _).alloc (Nat.le_refl _) _
  have hH1 : Hid (HeapAt (w.alloc (.cells (List.toArray [.int .i64 0, .int .i64 y.nx, c0, c1, c2, c3, c4, .slice none 0 0, .slice none 0 0, .slice none 0 0]) 45)) lo [c0, c1, c2, c3, c4] (mkTHeap y.hp m)) := HeapAt_stays _ _ _ _ _ _ (.of_below hb0) hh
  have bA : Hid (Box (w.alloc (.cells (List.toArray [.int .i64 0, .int .i64 y.nx, c0, c1, c2, c3, c4, .slice none 0 0, .slice none 0 0, .slice none 0 0]) 45)) w.heap.size [.int .i64 0, .int .i64 y.nx, c0, c1, c2, c3, c4, .slice none 0 0, .slice none 0 0, .slice none 0 0] 45) := Box.new w _ _
  obtain ⟨k2, k3, k4, e, s2, s3, s4, _⟩ := hh
  simp only [List.cons.injEq, and_true] at e
  obtain ⟨rfl, rfl, rfl, rfl, rfl⟩ := e
  obtain ⟨a2, k2, rfl⟩ := s2.form
  obtain ⟨a3, k3, rfl⟩ := s3.form
  obtain ⟨a4, k4, rfl⟩ := s4.form
  clear s2 s3 s4
  dsimp only [mkTLoop] at bA hH1 hb0 ⊢
  generalize (mkTHeap y.hp m).vNodes.length = L2 at *
  generalize (mkTHeap y.hp m).vObjs.length = L3 at *
  generalize (mkTHeap y.hp m).vGlobals.length = L4 at *
  generalize (mkTHeap y.hp m).vNext = L0 at *
  generalize (mkTHeap y.hp m).vDoc = L1 at *
  go_enter Try.func18, Try.ntmps18
  go_wp2_with fail
  refine (heldHeap_any hH1.out h0 h1).mono ?_
  rintro e w1 ⟨rfl, hb1⟩
  have hB1 : Below w.heap.size w w1 := hb0.trans (hb1.mono hb0.size)
  have bA1 := bA.out.below hb1 bA.out.lt
  have hS0 : 0 ≤ m + (cntL cntNode y.hp.vNodes : Nat) + (cntL cntObj y.hp.vObjs : Nat) + (cntL cntField y.hp.vGlobals : Nat) := by omega
  generalize hS : m + (cntL cntNode y.hp.vNodes : Nat) + (cntL cntObj y.hp.vObjs : Nat) + (cntL cntField y.hp.vGlobals : Nat) = K at *
  have hK0 : decide (K < 0) = false := by simp; omega
  have x7 := bA1.cell 7 rfl
  have x8 := bA1.cell 8 rfl
  have x9 := bA1.cell 9 rfl
  clear bA hb0
  go_wp2_with fail
  refine heldTaskS_nil.mono ?_
  rintro e w2 ⟨rfl, hb2⟩
  have hB2 : Below w.heap.size w w2 := hB1.trans (hb2.mono hB1.size)
  have bA2 := Box.below bA1 hb2 bA1.lt
  clear x7 x8 x9 hb2 bA1
  have x8 := bA2.cell 8 rfl
  have x9 := bA2.cell 9 rfl
  go_wp2_with fail
  refine heldTaskS_nil.mono ?_
  rintro e w3 ⟨rfl, hb3⟩
  have hB3 : Below w.heap.size w w3 := hB2.trans (hb3.mono hB2.size)
  have bA3 := Box.below bA2 hb3 bA2.lt
  clear x8 x9 hb3 bA2
  have x9 := bA3.cell 9 rfl
  go_wp2_with fail
  refine heldTimerS_nil.mono ?_
  rintro e w4 ⟨rfl, hb4⟩
  have hB4 : Below w.heap.size w w4 := hB3.trans (hb4.mono hB3.size)
  have bA4 := Box.below bA3 hb4 bA3.lt
  clear x9 hb4 bA3
  go_wp2_with fail
  go_ret
  subst hS
  exact ⟨rfl, hB4⟩
def zeroH : HeapD := ⟨0, 0, [], [], []⟩
def newLoop (h : HeapD) : LoopE × Bool := if implB h = true then (⟨1, h⟩, true) else (⟨0, zeroH⟩, false)
theorem zeroH_own (w : World) : HeapOwn w [.int .i64 0, .int .i64 0, .slice none 0 0, .slice none 0 0, .slice none 0 0] zeroH [] :=
  ⟨_, _, _, [], [], [], rfl, ⟨none, 0, rfl, by unfold maxLen; simp [zeroH], Or.inl ⟨rfl, rfl⟩⟩, ⟨none, 0, rfl, by unfold maxLen; simp [zeroH], Or.inl ⟨rfl, rfl⟩⟩, ⟨none, 0, rfl, by unfold maxLen; simp [zeroH], Or.inl ⟨rfl, rfl⟩⟩, by unfold InI zeroH; decide, by unfold InI zeroH; decide, rfl⟩
set_option maxRecDepth 100000 in
set_option maxHeartbeats 3000000 in
theorem specLoopNew_any {w : World} {lo : Nat} {cs : List Value} {h : HeapD} (hh : HeapAt w lo cs h) (hs : h.small) :
    Calls Try.prog 11 #[.agg cs.toArray] w fun e w' => (∃ cs' fs, e = .returned (.tuple #[.agg cs'.toArray, .bool (newLoop h).2]) ∧ LoopOwn w' cs' (newLoop h).1 fs ∧ fs.Nodup ∧ ∀ b ∈ fs, w.heap.size ≤ b) ∧ Below w.heap.size w w' := by
  have hh0 : Hid (HeapAt w lo cs h) := hh
  obtain ⟨i2, i3, i4, rfl, s2, s3, s4, _⟩ := hh
  obtain ⟨a2, k2, rfl⟩ := s2.form
  obtain ⟨a3, k3, rfl⟩ := s3.form
  obtain ⟨a4, k4, rfl⟩ := s4.form
  clear s2 s3 s4
  have hs' : Hid h.small := hs
  have hb0 : Below w.heap.size w ((w.alloc (.cells (List.toArray [.int .i64 h.vNext, .int .i64 h.vDoc, .slice a2 h.vNodes.length k2, .slice a3 h.vObjs.length k3, .slice a4 h.vGlobals.length k4]) 41)).alloc (.cells (List.toArray [.int .i64 0, .int .i64 0, .int .i64 0, .int .i64 0, .slice none 0 0, .slice none 0 0, .slice none 0 0, .slice none 0 0, .slice none 0 0, .slice none 0 0]) 45)) := ((Below.refl _ _).alloc (Nat.le_refl _) _).alloc (by simp) _
  have bx0 : Hid (Box ((w.alloc (.cells (List.toArray [.int .i64 h.vNext, .int .i64 h.vDoc, .slice a2 h.vNodes.length k2, .slice a3 h.vObjs.length k3, .slice a4 h.vGlobals.length k4]) 41)).alloc (.cells (List.toArray [.int .i64 0, .int .i64 0, .int .i64 0, .int .i64 0, .slice none 0 0, .slice none 0 0, .slice none 0 0, .slice none 0 0, .slice none 0 0, .slice none 0 0]) 45)) w.heap.size [.int .i64 h.vNext, .int .i64 h.vDoc, .slice a2 h.vNodes.length k2, .slice a3 h.vObjs.length k3, .slice a4 h.vGlobals.length k4] 41) := (Box.new w _ _).alloc _
  have bz0 : Hid (Box ((w.alloc (.cells (List.toArray [.int .i64 h.vNext, .int .i64 h.vDoc, .slice a2 h.vNodes.length k2, .slice a3 h.vObjs.length k3, .slice a4 h.vGlobals.length k4]) 41)).alloc (.cells (List.toArray [.int .i64 0, .int .i64 0, .int .i64 0, .int .i64 0, .slice none 0 0, .slice none 0 0, .slice none 0 0, .slice none 0 0, .slice none 0 0, .slice none 0 0]) 45)) (w.heap.size + 1) [.int .i64 0, .int .i64 0, .int .i64 0, .int .i64 0, .slice none 0 0, .slice none 0 0, .slice none 0 0, .slice none 0 0, .slice none 0 0, .slice none 0 0] 45) := by have h5 := Box.new (w.alloc (.cells (List.toArray [.int .i64 h.vNext, .int .i64 h.vDoc, .slice a2 h.vNodes.length k2, .slice a3 h.vObjs.length k3, .slice a4 h.vGlobals.length k4]) 41)) [.int .i64 0, .int .i64 0, .int .i64 0, .int .i64 0, .slice none 0 0, .slice none 0 0, .slice none 0 0, .slice none 0 0, .slice none 0 0, .slice none 0 0] 45; simp only [World.size_alloc] at h5; exact h5
  clear hs
  go_enter Try.func11, Try.ntmps11
  go_wp2_with fail
  refine (specHeapOk_any (HeapAt_stays _ _ _ _ _ _ (.of_below hb0) hh0.out)).mono ?_
  rintro e w1 ⟨rfl, hb1⟩
  have hB1 : Below w.heap.size w w1 := hb0.trans (hb1.mono hb0.size)
  have bx1 : Hid (Box w1 w.heap.size [.int .i64 h.vNext, .int .i64 h.vDoc, .slice a2 h.vNodes.length k2, .slice a3 h.vObjs.length k3, .slice a4 h.vGlobals.length k4] 41) := bx0.out.below hb1 bx0.out.lt
  have bz1 : Hid (Box w1 (w.heap.size + 1) [.int .i64 0, .int .i64 0, .int .i64 0, .int .i64 0, .slice none 0 0, .slice none 0 0, .slice none 0 0, .slice none 0 0, .slice none 0 0, .slice none 0 0] 45) := bz0.out.below hb1 bz0.out.lt
  have hS : specB h = implB h := spec_impl h
  rw [hS]
  clear bx0 bz0 hb0 hb1
  cases hv : implB h with
  | false =>
    have hans : Hid (newLoop h = (⟨0, zeroH⟩, false)) := by show newLoop h = _; unfold newLoop; rw [hv]; rfl
    have z0 := bz1.out.cell 0 rfl
    have z1 := bz1.out.cell 1 rfl
    have z2 := bz1.out.cell 2 rfl
    have z3 := bz1.out.cell 3 rfl
    have z4 := bz1.out.cell 4 rfl
    have z5 := bz1.out.cell 5 rfl
    have z6 := bz1.out.cell 6 rfl
    have z7 := bz1.out.cell 7 rfl
    have z8 := bz1.out.cell 8 rfl
    have z9 := bz1.out.cell 9 rfl
    have uz := bz1.out.unfrozen
    clear hS hv
    go_wp2_with fail
    have bF : Box ((((((((((w1.setCell ⟨w.heap.size + 1, 0, none⟩ (.int .i64 0)).setCell ⟨w.heap.size + 1, 1, none⟩ (.int .i64 0)).setCell ⟨w.heap.size + 1, 2, none⟩ (.int .i64 0)).setCell ⟨w.heap.size + 1, 3, none⟩ (.int .i64 0)).setCell ⟨w.heap.size + 1, 4, none⟩ (.slice none 0 0)).setCell ⟨w.heap.size + 1, 5, none⟩ (.slice none 0 0)).setCell ⟨w.heap.size + 1, 6, none⟩ (.slice none 0 0)).setCell ⟨w.heap.size + 1, 7, none⟩ (.slice none 0 0)).setCell ⟨w.heap.size + 1, 8, none⟩ (.slice none 0 0)).setCell ⟨w.heap.size + 1, 9, none⟩ (.slice none 0 0)) (w.heap.size + 1) [.int .i64 0, .int .i64 0, .int .i64 0, .int .i64 0, .slice none 0 0, .slice none 0 0, .slice none 0 0, .slice none 0 0, .slice none 0 0, .slice none 0 0] 45 := ((((((((((bz1.out.set (i := 0) _).set (i := 1) _).set (i := 2) _).set (i := 3) _).set (i := 4) _).set (i := 5) _).set (i := 6) _).set (i := 7) _).set (i := 8) _).set (i := 9) _)
    have r0 := bF.cell 0 rfl
    have r1 := bF.cell 1 rfl
    have r2 := bF.cell 2 rfl
    have r3 := bF.cell 3 rfl
    have r4 := bF.cell 4 rfl
    have r5 := bF.cell 5 rfl
    have r6 := bF.cell 6 rfl
    have r7 := bF.cell 7 rfl
    have r8 := bF.cell 8 rfl
    have r9 := bF.cell 9 rfl
    refine bodyPost_ret (v := .tuple #[.agg (List.toArray [.int .i64 0, .int .i64 0, .int .i64 0, .int .i64 0, .slice none 0 0, .slice none 0 0, .slice none 0 0, .slice none 0 0, .slice none 0 0, .slice none 0 0]), .bool false]) (by simp [results, Try.results11, go_sem, r0, r1, r2, r3, r4, r5, r6, r7, r8, r9]) rfl ?_
    rw [hans.out]
    exact ⟨⟨[.int .i64 0, .int .i64 0, .int .i64 0, .int .i64 0, .slice none 0 0, .slice none 0 0, .slice none 0 0, .slice none 0 0, .slice none 0 0, .slice none 0 0], [], rfl, ⟨_, _, _, _, _, rfl, zeroH_own _, by show InI 0; unfold InI; decide⟩, List.nodup_nil, by simp⟩, ((((((((((hB1.setCell (by simp) _).setCell (by simp) _).setCell (by simp) _).setCell (by simp) _).setCell (by simp) _).setCell (by simp) _).setCell (by simp) _).setCell (by simp) _).setCell (by simp) _).setCell (by simp) _)⟩
  | true =>
    have hans : Hid (newLoop h = (⟨1, h⟩, true)) := by show newLoop h = _; unfold newLoop; rw [hv]; rfl
    have x0 := bx1.out.cell 0 rfl
    have x1 := bx1.out.cell 1 rfl
    have x2 := bx1.out.cell 2 rfl
    have x3 := bx1.out.cell 3 rfl
    have x4 := bx1.out.cell 4 rfl
    clear hS hv
    go_wp2_with fail
    refine (l4Copy_any (HeapAt_stays _ _ _ _ _ _ (.of_below hB1) hh0.out) hs'.out).mono ?_
    rintro e w2 ⟨⟨cs', rfl, fs, hown, hnd, hlo⟩, hb2⟩
    have hown' : Hid (HeapOwn w2 cs' h fs) := hown
    obtain ⟨j2, j3, j4, g2, g3, g4, rfl, t2, t3, t4, _⟩ := hown
    obtain ⟨d2, m2, rfl⟩ := t2.form
    obtain ⟨d3, m3, rfl⟩ := t3.form
    obtain ⟨d4, m4, rfl⟩ := t4.form
    clear t2 t3 t4
    have hB2 : Below w.heap.size w w2 := hB1.trans (hb2.mono hB1.size)
    have hz2 : w.heap.size + 2 ≤ w1.heap.size := by have := bz1.out.lt; omega
    have bz2 : Hid (Box w2 (w.heap.size + 1) [.int .i64 0, .int .i64 0, .int .i64 0, .int .i64 0, .slice none 0 0, .slice none 0 0, .slice none 0 0, .slice none 0 0, .slice none 0 0, .slice none 0 0] 45) := bz1.out.below hb2 bz1.out.lt
    have hlt := HeapOwn_lt _ _ _ _ hown'.out
    have hlo' : Hid (∀ b ∈ fs, w1.heap.size ≤ b) := hlo
    have z0 := bz2.out.cell 0 rfl
    have z1 := bz2.out.cell 1 rfl
    have z2 := bz2.out.cell 2 rfl
    have z3 := bz2.out.cell 3 rfl
    have z4 := bz2.out.cell 4 rfl
    have z5 := bz2.out.cell 5 rfl
    have z6 := bz2.out.cell 6 rfl
    have z7 := bz2.out.cell 7 rfl
    have z8 := bz2.out.cell 8 rfl
    have z9 := bz2.out.cell 9 rfl
    have uz := bz2.out.unfrozen
    clear x0 x1 x2 x3 x4 bx1 bz1 hb2 hlo hlt
    go_wp2_with fail
    have bF : Box ((((((((((w2.setCell ⟨w.heap.size + 1, 0, none⟩ (.int .i64 0)).setCell ⟨w.heap.size + 1, 1, none⟩ (.int .i64 1)).setCell ⟨w.heap.size + 1, 2, none⟩ (.int .i64 h.vNext)).setCell ⟨w.heap.size + 1, 3, none⟩ (.int .i64 h.vDoc)).setCell ⟨w.heap.size + 1, 4, none⟩ (.slice d2 h.vNodes.length m2)).setCell ⟨w.heap.size + 1, 5, none⟩ (.slice d3 h.vObjs.length m3)).setCell ⟨w.heap.size + 1, 6, none⟩ (.slice d4 h.vGlobals.length m4)).setCell ⟨w.heap.size + 1, 7, none⟩ (.slice none 0 0)).setCell ⟨w.heap.size + 1, 8, none⟩ (.slice none 0 0)).setCell ⟨w.heap.size + 1, 9, none⟩ (.slice none 0 0)) (w.heap.size + 1) [.int .i64 0, .int .i64 1, .int .i64 h.vNext, .int .i64 h.vDoc, .slice d2 h.vNodes.length m2, .slice d3 h.vObjs.length m3, .slice d4 h.vGlobals.length m4, .slice none 0 0, .slice none 0 0, .slice none 0 0] 45 := ((((((((((bz2.out.set (i := 0) _).set (i := 1) _).set (i := 2) _).set (i := 3) _).set (i := 4) _).set (i := 5) _).set (i := 6) _).set (i := 7) _).set (i := 8) _).set (i := 9) _)
    have hKF : ∀ b, w.heap.size + 2 ≤ b → ((((((((((w2.setCell ⟨w.heap.size + 1, 0, none⟩ (.int .i64 0)).setCell ⟨w.heap.size + 1, 1, none⟩ (.int .i64 1)).setCell ⟨w.heap.size + 1, 2, none⟩ (.int .i64 h.vNext)).setCell ⟨w.heap.size + 1, 3, none⟩ (.int .i64 h.vDoc)).setCell ⟨w.heap.size + 1, 4, none⟩ (.slice d2 h.vNodes.length m2)).setCell ⟨w.heap.size + 1, 5, none⟩ (.slice d3 h.vObjs.length m3)).setCell ⟨w.heap.size + 1, 6, none⟩ (.slice d4 h.vGlobals.length m4)).setCell ⟨w.heap.size + 1, 7, none⟩ (.slice none 0 0)).setCell ⟨w.heap.size + 1, 8, none⟩ (.slice none 0 0)).setCell ⟨w.heap.size + 1, 9, none⟩ (.slice none 0 0)).heap[b]? = w2.heap[b]? := fun b qq => by
      rw [set_other (by omega), set_other (by omega), set_other (by omega), set_other (by omega), set_other (by omega), set_other (by omega), set_other (by omega), set_other (by omega), set_other (by omega), set_other (by omega)]
    have r0 := bF.cell 0 rfl
    have r1 := bF.cell 1 rfl
    have r2 := bF.cell 2 rfl
    have r3 := bF.cell 3 rfl
    have r4 := bF.cell 4 rfl
    have r5 := bF.cell 5 rfl
    have r6 := bF.cell 6 rfl
    have r7 := bF.cell 7 rfl
    have r8 := bF.cell 8 rfl
    have r9 := bF.cell 9 rfl
    refine bodyPost_ret (v := .tuple #[.agg (List.toArray [.int .i64 0, .int .i64 1, .int .i64 h.vNext, .int .i64 h.vDoc, .slice d2 h.vNodes.length m2, .slice d3 h.vObjs.length m3, .slice d4 h.vGlobals.length m4, .slice none 0 0, .slice none 0 0, .slice none 0 0]), .bool true]) (by simp [results, Try.results11, go_sem, r0, r1, r2, r3, r4, r5, r6, r7, r8, r9]) rfl ?_
    rw [hans.out]
    exact ⟨⟨[.int .i64 0, .int .i64 1, .int .i64 h.vNext, .int .i64 h.vDoc, .slice d2 h.vNodes.length m2, .slice d3 h.vObjs.length m3, .slice d4 h.vGlobals.length m4, .slice none 0 0, .slice none 0 0, .slice none 0 0], fs, rfl, ⟨_, _, _, _, _, rfl, HeapOwn_stays _ _ _ _ _ (fun b qq => hKF b (by have := hlo'.out b qq; omega)) hown'.out, by show InI 1; unfold InI; decide⟩, hnd, fun b qq => by have := hlo'.out b qq; omega⟩, ((((((((((hB2.setCell (by simp) _).setCell (by simp) _).setCell (by simp) _).setCell (by simp) _).setCell (by simp) _).setCell (by simp) _).setCell (by simp) _).setCell (by simp) _).setCell (by simp) _).setCell (by simp) _)⟩
set_option maxRecDepth 100000 in
set_option maxHeartbeats 3000000 in
theorem implLoopNew_any {w : World} {lo : Nat} {cs : List Value} {h : HeapD} (hh : HeapAt w lo cs h) (hs : h.small) :
    Calls Try.prog 13 #[.agg cs.toArray] w fun e w' => (∃ cs' fs, e = .returned (.tuple #[.agg cs'.toArray, .bool (newLoop h).2]) ∧ LoopOwn w' cs' (newLoop h).1 fs ∧ fs.Nodup ∧ ∀ b ∈ fs, w.heap.size ≤ b) ∧ Below w.heap.size w w' := by
  have hh0 : Hid (HeapAt w lo cs h) := hh
  obtain ⟨i2, i3, i4, rfl, s2, s3, s4, _⟩ := hh
  obtain ⟨a2, k2, rfl⟩ := s2.form
  obtain ⟨a3, k3, rfl⟩ := s3.form
  obtain ⟨a4, k4, rfl⟩ := s4.form
  clear s2 s3 s4
  have hs' : Hid h.small := hs
  have hb0 : Below w.heap.size w ((w.alloc (.cells (List.toArray [.int .i64 h.vNext, .int .i64 h.vDoc, .slice a2 h.vNodes.length k2, .slice a3 h.vObjs.length k3, .slice a4 h.vGlobals.length k4]) 41)).alloc (.cells (List.toArray [.int .i64 0, .int .i64 0, .int .i64 0, .int .i64 0, .slice none 0 0, .slice none 0 0, .slice none 0 0, .slice none 0 0, .slice none 0 0, .slice none 0 0]) 45)) := ((Below.refl _ _).alloc (Nat.le_refl _) _).alloc (by simp) _
  have bx0 : Hid (Box ((w.alloc (.cells (List.toArray [.int .i64 h.vNext, .int .i64 h.vDoc, .slice a2 h.vNodes.length k2, .slice a3 h.vObjs.length k3, .slice a4 h.vGlobals.length k4]) 41)).alloc (.cells (List.toArray [.int .i64 0, .int .i64 0, .int .i64 0, .int .i64 0, .slice none 0 0, .slice none 0 0, .slice none 0 0, .slice none 0 0, .slice none 0 0, .slice none 0 0]) 45)) w.heap.size [.int .i64 h.vNext, .int .i64 h.vDoc, .slice a2 h.vNodes.length k2, .slice a3 h.vObjs.length k3, .slice a4 h.vGlobals.length k4] 41) := (Box.new w _ _).alloc _
  have bz0 : Hid (Box ((w.alloc (.cells (List.toArray [.int .i64 h.vNext, .int .i64 h.vDoc, .slice a2 h.vNodes.length k2, .slice a3 h.vObjs.length k3, .slice a4 h.vGlobals.length k4]) 41)).alloc (.cells (List.toArray [.int .i64 0, .int .i64 0, .int .i64 0, .int .i64 0, .slice none 0 0, .slice none 0 0, .slice none 0 0, .slice none 0 0, .slice none 0 0, .slice none 0 0]) 45)) (w.heap.size + 1) [.int .i64 0, .int .i64 0, .int .i64 0, .int .i64 0, .slice none 0 0, .slice none 0 0, .slice none 0 0, .slice none 0 0, .slice none 0 0, .slice none 0 0] 45) := by have h5 := Box.new (w.alloc (.cells (List.toArray [.int .i64 h.vNext, .int .i64 h.vDoc, .slice a2 h.vNodes.length k2, .slice a3 h.vObjs.length k3, .slice a4 h.vGlobals.length k4]) 41)) [.int .i64 0, .int .i64 0, .int .i64 0, .int .i64 0, .slice none 0 0, .slice none 0 0, .slice none 0 0, .slice none 0 0, .slice none 0 0, .slice none 0 0] 45; simp only [World.size_alloc] at h5; exact h5
  clear hs
  go_enter Try.func13, Try.ntmps13
  go_wp2_with fail
  refine (implHeapOk_any (HeapAt_stays _ _ _ _ _ _ (.of_below hb0) hh0.out)).mono ?_
  rintro e w1 ⟨rfl, hb1⟩
  have hB1 : Below w.heap.size w w1 := hb0.trans (hb1.mono hb0.size)
  have bx1 : Hid (Box w1 w.heap.size [.int .i64 h.vNext, .int .i64 h.vDoc, .slice a2 h.vNodes.length k2, .slice a3 h.vObjs.length k3, .slice a4 h.vGlobals.length k4] 41) := bx0.out.below hb1 bx0.out.lt
  have bz1 : Hid (Box w1 (w.heap.size + 1) [.int .i64 0, .int .i64 0, .int .i64 0, .int .i64 0, .slice none 0 0, .slice none 0 0, .slice none 0 0, .slice none 0 0, .slice none 0 0, .slice none 0 0] 45) := bz0.out.below hb1 bz0.out.lt
  have hS : implB h = implB h := rfl
  rw [hS]
  clear bx0 bz0 hb0 hb1
  cases hv : implB h with
  | false =>
    have hans : Hid (newLoop h = (⟨0, zeroH⟩, false)) := by show newLoop h = _; unfold newLoop; rw [hv]; rfl
    have z0 := bz1.out.cell 0 rfl
    have z1 := bz1.out.cell 1 rfl
    have z2 := bz1.out.cell 2 rfl
    have z3 := bz1.out.cell 3 rfl
    have z4 := bz1.out.cell 4 rfl
    have z5 := bz1.out.cell 5 rfl
    have z6 := bz1.out.cell 6 rfl
    have z7 := bz1.out.cell 7 rfl
    have z8 := bz1.out.cell 8 rfl
    have z9 := bz1.out.cell 9 rfl
    have uz := bz1.out.unfrozen
    clear hS hv
    go_wp2_with fail
    have bF : Box ((((((((((w1.setCell ⟨w.heap.size + 1, 0, none⟩ (.int .i64 0)).setCell ⟨w.heap.size + 1, 1, none⟩ (.int .i64 0)).setCell ⟨w.heap.size + 1, 2, none⟩ (.int .i64 0)).setCell ⟨w.heap.size + 1, 3, none⟩ (.int .i64 0)).setCell ⟨w.heap.size + 1, 4, none⟩ (.slice none 0 0)).setCell ⟨w.heap.size + 1, 5, none⟩ (.slice none 0 0)).setCell ⟨w.heap.size + 1, 6, none⟩ (.slice none 0 0)).setCell ⟨w.heap.size + 1, 7, none⟩ (.slice none 0 0)).setCell ⟨w.heap.size + 1, 8, none⟩ (.slice none 0 0)).setCell ⟨w.heap.size + 1, 9, none⟩ (.slice none 0 0)) (w.heap.size + 1) [.int .i64 0, .int .i64 0, .int .i64 0, .int .i64 0, .slice none 0 0, .slice none 0 0, .slice none 0 0, .slice none 0 0, .slice none 0 0, .slice none 0 0] 45 := ((((((((((bz1.out.set (i := 0) _).set (i := 1) _).set (i := 2) _).set (i := 3) _).set (i := 4) _).set (i := 5) _).set (i := 6) _).set (i := 7) _).set (i := 8) _).set (i := 9) _)
    have r0 := bF.cell 0 rfl
    have r1 := bF.cell 1 rfl
    have r2 := bF.cell 2 rfl
    have r3 := bF.cell 3 rfl
    have r4 := bF.cell 4 rfl
    have r5 := bF.cell 5 rfl
    have r6 := bF.cell 6 rfl
    have r7 := bF.cell 7 rfl
    have r8 := bF.cell 8 rfl
    have r9 := bF.cell 9 rfl
    refine bodyPost_ret (v := .tuple #[.agg (List.toArray [.int .i64 0, .int .i64 0, .int .i64 0, .int .i64 0, .slice none 0 0, .slice none 0 0, .slice none 0 0, .slice none 0 0, .slice none 0 0, .slice none 0 0]), .bool false]) (by simp [results, Try.results13, go_sem, r0, r1, r2, r3, r4, r5, r6, r7, r8, r9]) rfl ?_
    rw [hans.out]
    exact ⟨⟨[.int .i64 0, .int .i64 0, .int .i64 0, .int .i64 0, .slice none 0 0, .slice none 0 0, .slice none 0 0, .slice none 0 0, .slice none 0 0, .slice none 0 0], [], rfl, ⟨_, _, _, _, _, rfl, zeroH_own _, by show InI 0; unfold InI; decide⟩, List.nodup_nil, by simp⟩, ((((((((((hB1.setCell (by simp) _).setCell (by simp) _).setCell (by simp) _).setCell (by simp) _).setCell (by simp) _).setCell (by simp) _).setCell (by simp) _).setCell (by simp) _).setCell (by simp) _).setCell (by simp) _)⟩
  | true =>
    have hans : Hid (newLoop h = (⟨1, h⟩, true)) := by show newLoop h = _; unfold newLoop; rw [hv]; rfl
    have x0 := bx1.out.cell 0 rfl
    have x1 := bx1.out.cell 1 rfl
    have x2 := bx1.out.cell 2 rfl
    have x3 := bx1.out.cell 3 rfl
    have x4 := bx1.out.cell 4 rfl
    clear hS hv
    go_wp2_with fail
    refine (copyOf_any (HeapAt_stays _ _ _ _ _ _ (.of_below hB1) hh0.out) hs'.out).mono ?_
    rintro e w2 ⟨⟨cs', rfl, fs, hown, hnd, hlo⟩, hb2⟩
    have hown' : Hid (HeapOwn w2 cs' h fs) := hown
    obtain ⟨j2, j3, j4, g2, g3, g4, rfl, t2, t3, t4, _⟩ := hown
    obtain ⟨d2, m2, rfl⟩ := t2.form
    obtain ⟨d3, m3, rfl⟩ := t3.form
    obtain ⟨d4, m4, rfl⟩ := t4.form
    clear t2 t3 t4
    have hB2 : Below w.heap.size w w2 := hB1.trans (hb2.mono hB1.size)
    have hz2 : w.heap.size + 2 ≤ w1.heap.size := by have := bz1.out.lt; omega
    have bz2 : Hid (Box w2 (w.heap.size + 1) [.int .i64 0, .int .i64 0, .int .i64 0, .int .i64 0, .slice none 0 0, .slice none 0 0, .slice none 0 0, .slice none 0 0, .slice none 0 0, .slice none 0 0] 45) := bz1.out.below hb2 bz1.out.lt
    have hlt := HeapOwn_lt _ _ _ _ hown'.out
    have hlo' : Hid (∀ b ∈ fs, w1.heap.size ≤ b) := hlo
    have z0 := bz2.out.cell 0 rfl
    have z1 := bz2.out.cell 1 rfl
    have z2 := bz2.out.cell 2 rfl
    have z3 := bz2.out.cell 3 rfl
    have z4 := bz2.out.cell 4 rfl
    have z5 := bz2.out.cell 5 rfl
    have z6 := bz2.out.cell 6 rfl
    have z7 := bz2.out.cell 7 rfl
    have z8 := bz2.out.cell 8 rfl
    have z9 := bz2.out.cell 9 rfl
    have uz := bz2.out.unfrozen
    clear x0 x1 x2 x3 x4 bx1 bz1 hb2 hlo hlt
    go_wp2_with fail
    have bF : Box ((((((((((w2.setCell ⟨w.heap.size + 1, 0, none⟩ (.int .i64 0)).setCell ⟨w.heap.size + 1, 1, none⟩ (.int .i64 1)).setCell ⟨w.heap.size + 1, 2, none⟩ (.int .i64 h.vNext)).setCell ⟨w.heap.size + 1, 3, none⟩ (.int .i64 h.vDoc)).setCell ⟨w.heap.size + 1, 4, none⟩ (.slice d2 h.vNodes.length m2)).setCell ⟨w.heap.size + 1, 5, none⟩ (.slice d3 h.vObjs.length m3)).setCell ⟨w.heap.size + 1, 6, none⟩ (.slice d4 h.vGlobals.length m4)).setCell ⟨w.heap.size + 1, 7, none⟩ (.slice none 0 0)).setCell ⟨w.heap.size + 1, 8, none⟩ (.slice none 0 0)).setCell ⟨w.heap.size + 1, 9, none⟩ (.slice none 0 0)) (w.heap.size + 1) [.int .i64 0, .int .i64 1, .int .i64 h.vNext, .int .i64 h.vDoc, .slice d2 h.vNodes.length m2, .slice d3 h.vObjs.length m3, .slice d4 h.vGlobals.length m4, .slice none 0 0, .slice none 0 0, .slice none 0 0] 45 := ((((((((((bz2.out.set (i := 0) _).set (i := 1) _).set (i := 2) _).set (i := 3) _).set (i := 4) _).set (i := 5) _).set (i := 6) _).set (i := 7) _).set (i := 8) _).set (i := 9) _)
    have hKF : ∀ b, w.heap.size + 2 ≤ b → ((((((((((w2.setCell ⟨w.heap.size + 1, 0, none⟩ (.int .i64 0)).setCell ⟨w.heap.size + 1, 1, none⟩ (.int .i64 1)).setCell ⟨w.heap.size + 1, 2, none⟩ (.int .i64 h.vNext)).setCell ⟨w.heap.size + 1, 3, none⟩ (.int .i64 h.vDoc)).setCell ⟨w.heap.size + 1, 4, none⟩ (.slice d2 h.vNodes.length m2)).setCell ⟨w.heap.size + 1, 5, none⟩ (.slice d3 h.vObjs.length m3)).setCell ⟨w.heap.size + 1, 6, none⟩ (.slice d4 h.vGlobals.length m4)).setCell ⟨w.heap.size + 1, 7, none⟩ (.slice none 0 0)).setCell ⟨w.heap.size + 1, 8, none⟩ (.slice none 0 0)).setCell ⟨w.heap.size + 1, 9, none⟩ (.slice none 0 0)).heap[b]? = w2.heap[b]? := fun b qq => by
      rw [set_other (by omega), set_other (by omega), set_other (by omega), set_other (by omega), set_other (by omega), set_other (by omega), set_other (by omega), set_other (by omega), set_other (by omega), set_other (by omega)]
    have r0 := bF.cell 0 rfl
    have r1 := bF.cell 1 rfl
    have r2 := bF.cell 2 rfl
    have r3 := bF.cell 3 rfl
    have r4 := bF.cell 4 rfl
    have r5 := bF.cell 5 rfl
    have r6 := bF.cell 6 rfl
    have r7 := bF.cell 7 rfl
    have r8 := bF.cell 8 rfl
    have r9 := bF.cell 9 rfl
    refine bodyPost_ret (v := .tuple #[.agg (List.toArray [.int .i64 0, .int .i64 1, .int .i64 h.vNext, .int .i64 h.vDoc, .slice d2 h.vNodes.length m2, .slice d3 h.vObjs.length m3, .slice d4 h.vGlobals.length m4, .slice none 0 0, .slice none 0 0, .slice none 0 0]), .bool true]) (by simp [results, Try.results13, go_sem, r0, r1, r2, r3, r4, r5, r6, r7, r8, r9]) rfl ?_
    rw [hans.out]
    exact ⟨⟨[.int .i64 0, .int .i64 1, .int .i64 h.vNext, .int .i64 h.vDoc, .slice d2 h.vNodes.length m2, .slice d3 h.vObjs.length m3, .slice d4 h.vGlobals.length m4, .slice none 0 0, .slice none 0 0, .slice none 0 0], fs, rfl, ⟨_, _, _, _, _, rfl, HeapOwn_stays _ _ _ _ _ (fun b qq => hKF b (by have := hlo'.out b qq; omega)) hown'.out, by show InI 1; unfold InI; decide⟩, hnd, fun b qq => by have := hlo'.out b qq; omega⟩, ((((((((((hB2.setCell (by simp) _).setCell (by simp) _).setCell (by simp) _).setCell (by simp) _).setCell (by simp) _).setCell (by simp) _).setCell (by simp) _).setCell (by simp) _).setCell (by simp) _).setCell (by simp) _)⟩
end Go.Proofs.Ytdhjaokanllcgaa
