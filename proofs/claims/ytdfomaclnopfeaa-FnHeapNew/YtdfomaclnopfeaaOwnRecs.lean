/- The records of this package as owners of their memory, and their marks: plain facts. -/
import Derived.Test.YtdfomaclnopfeaaOwn
import Derived.Test.YtdfomaclnopfeaaRecs
namespace Go.Proofs.Ytdfomaclnopfeaa
open Go.RowKit
def ListenerOwn (_ : World) (cs : List Value) (x : ListenerD) (fs : List Nat) : Prop :=
  cs = [.string x.vType, .bool x.vCapture, .bool x.vOnce, .int .i64 x.vStop, .string x.vName] ∧ x.vType.size ≤ maxLen ∧ InI x.vStop ∧ x.vName.size ≤ maxLen ∧ fs = []
theorem ListenerOwn_stays : OwnStays ListenerOwn := fun _ _ _ _ _ _ h => h
theorem ListenerOwn_lt : OwnLt ListenerOwn := by
  intro w cs x fs h b hb
  obtain ⟨_, _, _, _, rfl⟩ := h
  cases hb
theorem ListenerOwn_at {lo : Nat} (w : World) (cs : List Value) (x : ListenerD) (fs : List Nat) (h : ListenerOwn w cs x fs) (_ : ∀ b ∈ fs, lo ≤ b) : ListenerAt w lo cs x := by
  obtain ⟨e, r0, r1, r2, _⟩ := h
  exact ⟨e, r0, r1, r2, trivial⟩
def NodeOwn (w : World) (cs : List Value) (x : NodeD) (fs : List Nat) : Prop :=
  ∃ k3 k5 : Value, ∃ f3 f5 : List Nat, cs = [.int .i64 x.vId, .string x.vTag, .int .i64 x.vParent, k3, .int .i64 x.vWrapper, k5] ∧ SeqOwn 1 IntOwn w k3 x.vKids f3 ∧ SeqOwn 5 ListenerOwn w k5 x.vListeners f5 ∧ InI x.vId ∧ x.vTag.size ≤ maxLen ∧ InI x.vParent ∧ InI x.vWrapper ∧ fs = f3 ++ f5
theorem NodeOwn_stays : OwnStays NodeOwn := by
  intro w w' cs x fs q h
  obtain ⟨k3, k5, f3, f5, e, h3, h5, r0, r1, r2, r3, rfl⟩ := h
  exact ⟨k3, k5, f3, f5, e, h3.stays intOwn_stays (fun b hb => q b (List.mem_append_left _ hb)), h5.stays ListenerOwn_stays (fun b hb => q b (List.mem_append_right _ hb)), r0, r1, r2, r3, rfl⟩
theorem NodeOwn_lt : OwnLt NodeOwn := by
  intro w cs x fs h
  obtain ⟨k3, k5, f3, f5, e, h3, h5, r0, r1, r2, r3, rfl⟩ := h
  intro b hb
  simp only [List.mem_append] at hb
  rcases hb with hb | hb
  · exact h3.lt intOwn_lt b hb
  · exact h5.lt ListenerOwn_lt b hb
theorem NodeOwn_at {lo : Nat} (w : World) (cs : List Value) (x : NodeD) (fs : List Nat) (h : NodeOwn w cs x fs) (q : ∀ b ∈ fs, lo ≤ b) : NodeAt w lo cs x := by
  obtain ⟨k3, k5, f3, f5, e, h3, h5, r0, r1, r2, r3, rfl⟩ := h
  exact ⟨k3, k5, e, h3.at (intOwn_at (lo := lo)) (fun b hb => q b (List.mem_append_left _ hb)), h5.at (ListenerOwn_at (lo := lo)) (fun b hb => q b (List.mem_append_right _ hb)), r0, r1, r2, r3, trivial⟩
def FieldOwn (_ : World) (cs : List Value) (x : FieldD) (fs : List Nat) : Prop :=
  cs = [.string x.vName, .int .i64 x.vObj] ∧ x.vName.size ≤ maxLen ∧ InI x.vObj ∧ fs = []
theorem FieldOwn_stays : OwnStays FieldOwn := fun _ _ _ _ _ _ h => h
theorem FieldOwn_lt : OwnLt FieldOwn := by
  intro w cs x fs h b hb
  obtain ⟨_, _, _, rfl⟩ := h
  cases hb
theorem FieldOwn_at {lo : Nat} (w : World) (cs : List Value) (x : FieldD) (fs : List Nat) (h : FieldOwn w cs x fs) (_ : ∀ b ∈ fs, lo ≤ b) : FieldAt w lo cs x := by
  obtain ⟨e, r0, r1, _⟩ := h
  exact ⟨e, r0, r1, trivial⟩
def ObjOwn (w : World) (cs : List Value) (x : ObjD) (fs : List Nat) : Prop :=
  ∃ k2 : Value, ∃ f2 : List Nat, cs = [.int .i64 x.vId, .int .i64 x.vNode, k2] ∧ SeqOwn 2 FieldOwn w k2 x.vFields f2 ∧ InI x.vId ∧ InI x.vNode ∧ fs = f2
theorem ObjOwn_stays : OwnStays ObjOwn := by
  intro w w' cs x fs q h
  obtain ⟨k2, f2, e, h2, r0, r1, rfl⟩ := h
  exact ⟨k2, _, e, h2.stays FieldOwn_stays (fun b hb => q b hb), r0, r1, rfl⟩
theorem ObjOwn_lt : OwnLt ObjOwn := by
  intro w cs x fs h
  obtain ⟨k2, f2, e, h2, r0, r1, rfl⟩ := h
  intro b hb
  exact h2.lt FieldOwn_lt b hb
theorem ObjOwn_at {lo : Nat} (w : World) (cs : List Value) (x : ObjD) (fs : List Nat) (h : ObjOwn w cs x fs) (q : ∀ b ∈ fs, lo ≤ b) : ObjAt w lo cs x := by
  obtain ⟨k2, f2, e, h2, r0, r1, rfl⟩ := h
  exact ⟨k2, e, h2.at (FieldOwn_at (lo := lo)) (fun b hb => q b hb), r0, r1, trivial⟩
def HeapOwn (w : World) (cs : List Value) (x : HeapD) (fs : List Nat) : Prop :=
  ∃ k2 k3 k4 : Value, ∃ f2 f3 f4 : List Nat, cs = [.int .i64 x.vNext, .int .i64 x.vDoc, k2, k3, k4] ∧ SeqOwn 6 NodeOwn w k2 x.vNodes f2 ∧ SeqOwn 3 ObjOwn w k3 x.vObjs f3 ∧ SeqOwn 2 FieldOwn w k4 x.vGlobals f4 ∧ InI x.vNext ∧ InI x.vDoc ∧ fs = f2 ++ f3 ++ f4
theorem HeapOwn_stays : OwnStays HeapOwn := by
  intro w w' cs x fs q h
  obtain ⟨k2, k3, k4, f2, f3, f4, e, h2, h3, h4, r0, r1, rfl⟩ := h
  exact ⟨k2, k3, k4, f2, f3, f4, e, h2.stays NodeOwn_stays (fun b hb => q b (List.mem_append_left _ (List.mem_append_left _ hb))), h3.stays ObjOwn_stays (fun b hb => q b (List.mem_append_left _ (List.mem_append_right _ hb))), h4.stays FieldOwn_stays (fun b hb => q b (List.mem_append_right _ hb)), r0, r1, rfl⟩
theorem HeapOwn_lt : OwnLt HeapOwn := by
  intro w cs x fs h
  obtain ⟨k2, k3, k4, f2, f3, f4, e, h2, h3, h4, r0, r1, rfl⟩ := h
  intro b hb
  simp only [List.mem_append] at hb
  rcases hb with (hb | hb) | hb
  · exact h2.lt NodeOwn_lt b hb
  · exact h3.lt ObjOwn_lt b hb
  · exact h4.lt FieldOwn_lt b hb
theorem HeapOwn_at {lo : Nat} (w : World) (cs : List Value) (x : HeapD) (fs : List Nat) (h : HeapOwn w cs x fs) (q : ∀ b ∈ fs, lo ≤ b) : HeapAt w lo cs x := by
  obtain ⟨k2, k3, k4, f2, f3, f4, e, h2, h3, h4, r0, r1, rfl⟩ := h
  exact ⟨k2, k3, k4, e, h2.at (NodeOwn_at (lo := lo)) (fun b hb => q b (List.mem_append_left _ (List.mem_append_left _ hb))), h3.at (ObjOwn_at (lo := lo)) (fun b hb => q b (List.mem_append_left _ (List.mem_append_right _ hb))), h4.at (FieldOwn_at (lo := lo)) (fun b hb => q b (List.mem_append_right _ hb)), r0, r1, trivial⟩
end Go.Proofs.Ytdfomaclnopfeaa
