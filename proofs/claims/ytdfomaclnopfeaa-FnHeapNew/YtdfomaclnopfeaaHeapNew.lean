/- The new heap: the specification and the program, walked. -/
import Derived.Test.YtdfomaclnopfeaaOwnRecs
import Derived.WalkKit
namespace Go.Proofs.Ytdfomaclnopfeaa
open Go.RowKit
def newN : NodeD := { vId := 1, vTag := ⟨#[100, 111, 99]⟩, vParent := 0, vKids := [], vWrapper := 0, vListeners := [] }
def newH : HeapD := { vNext := 2, vDoc := 1, vNodes := [newN], vObjs := [], vGlobals := [] }
theorem ownNil {α : Type} {c : Nat} {R : World → List Value → α → List Nat → Prop} {w : World} : SeqOwn c R w (.slice none 0 0) [] [] := ⟨none, 0, rfl, ⟨Nat.zero_le _, Nat.zero_le _⟩, Or.inl ⟨rfl, rfl⟩⟩
theorem newN_own {w : World} : NodeOwn w [.int .i64 1, .string ⟨#[100, 111, 99]⟩, .int .i64 0, .slice none 0 0, .int .i64 0, .slice none 0 0] newN [] := ⟨_, _, [], [], rfl, ownNil, ownNil, by unfold InI; decide, by decide, by unfold InI; decide, by unfold InI; decide, rfl⟩
theorem newH_own {w : World} {b : Nat} (h : Box w b [.int .i64 1, .string ⟨#[100, 111, 99]⟩, .int .i64 0, .slice none 0 0, .int .i64 0, .slice none 0 0] 42) : HeapOwn w [.int .i64 2, .int .i64 1, .slice (some ⟨b, 0, none⟩) 1 1, .slice none 0 0, .slice none 0 0] newH [b] := by
  refine ⟨_, _, _, [b], [], [], rfl, ⟨some ⟨b, 0, none⟩, 1, rfl, by decide, Or.inr ⟨b, 0, rfl, List.toArray [.int .i64 1, .string ⟨#[100, 111, 99]⟩, .int .i64 0, .slice none 0 0, .int .i64 0, .slice none 0 0], 42, [[]], h, by decide, rfl, rfl, by simp, fun i hi hi' => ?_⟩⟩, ownNil, ownNil, by unfold InI; decide, by unfold InI; decide, rfl⟩
  obtain rfl : i = 0 := by simp [newH] at hi; omega
  exact ⟨[.int .i64 1, .string ⟨#[100, 111, 99]⟩, .int .i64 0, .slice none 0 0, .int .i64 0, .slice none 0 0], rfl, fun m _ => by simp, newN_own⟩
set_option maxRecDepth 100000 in
set_option maxHeartbeats 800000 in
theorem specNew_any {w : World} : Calls Try.prog 7 #[] w fun e w' => (∃ b, e = .returned (.agg #[.int .i64 2, .int .i64 1, .slice (some ⟨b, 0, none⟩) 1 1, .slice none 0 0, .slice none 0 0]) ∧ HeapOwn w' [.int .i64 2, .int .i64 1, .slice (some ⟨b, 0, none⟩) 1 1, .slice none 0 0, .slice none 0 0] newH [b] ∧ w.heap.size ≤ b) ∧ Below w.heap.size w w' := by
  have hb0 : Below w.heap.size w ((w.alloc (.cells (List.toArray [.int .i64 2, .int .i64 1, .slice (some ⟨w.heap.size + 1, 0, none⟩) 1 1, .slice none 0 0, .slice none 0 0]) 27)).alloc (.cells (List.toArray [.int .i64 1, .string ⟨#[100, 111, 99]⟩, .int .i64 0, .slice none 0 0, .int .i64 0, .slice none 0 0]) 42)) := ((Below.refl _ _).alloc (Nat.le_refl _) _).alloc (by simp) _
  have bx : Hid (Box ((w.alloc (.cells (List.toArray [.int .i64 2, .int .i64 1, .slice (some ⟨w.heap.size + 1, 0, none⟩) 1 1, .slice none 0 0, .slice none 0 0]) 27)).alloc (.cells (List.toArray [.int .i64 1, .string ⟨#[100, 111, 99]⟩, .int .i64 0, .slice none 0 0, .int .i64 0, .slice none 0 0]) 42)) (w.heap.size + 1) [.int .i64 1, .string ⟨#[100, 111, 99]⟩, .int .i64 0, .slice none 0 0, .int .i64 0, .slice none 0 0] 42) := by have hb := Box.new (w.alloc (.cells (List.toArray [.int .i64 2, .int .i64 1, .slice (some ⟨w.heap.size + 1, 0, none⟩) 1 1, .slice none 0 0, .slice none 0 0]) 27)) [.int .i64 1, .string ⟨#[100, 111, 99]⟩, .int .i64 0, .slice none 0 0, .int .i64 0, .slice none 0 0] 42; rwa [show ((w.alloc (.cells (List.toArray [.int .i64 2, .int .i64 1, .slice (some ⟨w.heap.size + 1, 0, none⟩) 1 1, .slice none 0 0, .slice none 0 0]) 27))).heap.size = w.heap.size + 1 by simp] at hb
  go_enter Try.func7, Try.ntmps7
  go_wp2_with fail
  refine bodyPost_ret (v := .agg #[.int .i64 2, .int .i64 1, .slice (some ⟨w.heap.size + 1, 0, none⟩) 1 1, .slice none 0 0, .slice none 0 0]) (by simp [results, Try.results7, go_sem]) rfl ?_
  exact ⟨⟨_, rfl, newH_own bx.out, by omega⟩, hb0⟩
set_option maxRecDepth 100000 in
set_option maxHeartbeats 800000 in
theorem implNew_any {w : World} : Calls Try.prog 4 #[] w fun e w' => (∃ b, e = .returned (.agg #[.int .i64 2, .int .i64 1, .slice (some ⟨b, 0, none⟩) 1 1, .slice none 0 0, .slice none 0 0]) ∧ HeapOwn w' [.int .i64 2, .int .i64 1, .slice (some ⟨b, 0, none⟩) 1 1, .slice none 0 0, .slice none 0 0] newH [b] ∧ w.heap.size ≤ b) ∧ Below w.heap.size w w' := by
  have hb0 : Below w.heap.size w ((w.alloc (.cells (List.toArray [.int .i64 2, .int .i64 1, .slice (some ⟨w.heap.size + 1, 0, none⟩) 1 1, .slice none 0 0, .slice none 0 0]) 27)).alloc (.cells (List.toArray [.int .i64 1, .string ⟨#[100, 111, 99]⟩, .int .i64 0, .slice none 0 0, .int .i64 0, .slice none 0 0]) 42)) := ((Below.refl _ _).alloc (Nat.le_refl _) _).alloc (by simp) _
  have bx : Hid (Box ((w.alloc (.cells (List.toArray [.int .i64 2, .int .i64 1, .slice (some ⟨w.heap.size + 1, 0, none⟩) 1 1, .slice none 0 0, .slice none 0 0]) 27)).alloc (.cells (List.toArray [.int .i64 1, .string ⟨#[100, 111, 99]⟩, .int .i64 0, .slice none 0 0, .int .i64 0, .slice none 0 0]) 42)) (w.heap.size + 1) [.int .i64 1, .string ⟨#[100, 111, 99]⟩, .int .i64 0, .slice none 0 0, .int .i64 0, .slice none 0 0] 42) := by have hb := Box.new (w.alloc (.cells (List.toArray [.int .i64 2, .int .i64 1, .slice (some ⟨w.heap.size + 1, 0, none⟩) 1 1, .slice none 0 0, .slice none 0 0]) 27)) [.int .i64 1, .string ⟨#[100, 111, 99]⟩, .int .i64 0, .slice none 0 0, .int .i64 0, .slice none 0 0] 42; rwa [show ((w.alloc (.cells (List.toArray [.int .i64 2, .int .i64 1, .slice (some ⟨w.heap.size + 1, 0, none⟩) 1 1, .slice none 0 0, .slice none 0 0]) 27))).heap.size = w.heap.size + 1 by simp] at hb
  go_enter Try.func4, Try.ntmps4
  go_wp2_with fail
  refine bodyPost_ret (v := .agg #[.int .i64 2, .int .i64 1, .slice (some ⟨w.heap.size + 1, 0, none⟩) 1 1, .slice none 0 0, .slice none 0 0]) (by simp [results, Try.results4, go_sem]) rfl ?_
  exact ⟨⟨_, rfl, newH_own bx.out, by omega⟩, hb0⟩
end Go.Proofs.Ytdfomaclnopfeaa
