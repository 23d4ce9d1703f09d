/- The walk of FnUnder: what lies in memory. -/
import Derived.Test.YtddhacalnfkopabUnderPlain
import Derived.Test.YtddhacalnfkopabDrawPaths
namespace Go.Proofs.Ytddhacalnfkopab.fnUnder
open Go.RowKit Go.Deep
/-- the tree lies there, and in this block -/
def USt (A : Nat) (ta ka : Value) (xa : TD) (wr : World) : Prop := TreeAt wr 0 4 ta ka xa ∧ Box wr A [ta, ka] 26
theorem USt.below {A : Nat} {ta ka : Value} {xa : TD} {wr w' : World} (h : USt A ta ka xa wr) (hb : Below wr.heap.size wr w') : USt A ta ka xa w' := ⟨h.1.below hb, h.2.below hb h.2.lt⟩
theorem USt.cells {A : Nat} {ta ka : Value} {xa : TD} {wr : World} (h : USt A ta ka xa wr) : wr.cell? ⟨A, 0, none⟩ = some ta ∧ wr.cell? ⟨A, 1, none⟩ = some ka := ⟨h.2.cell 0 rfl, h.2.cell 1 rfl⟩
theorem qat {P : Program} {f : FuncId} {args : Array Value} {w : World} {m x : Nat} {v : Value} (h : Calls P f args (w.drewN (m + x)) fun e w' => e = .returned v ∧ ∃ k, w' = (w.drewN (m + x)).drewN k) : Calls P f args (w.drewN (m + x)) fun e w'' => e = .returned v ∧ ∃ n, w'' = w.drewN (m + n) :=
  h.mono fun _ _ ⟨he, k, hk⟩ => ⟨he, x + k, by rw [hk, World.drewN_drewN, Nat.add_assoc]⟩
theorem run_behind {b o n cap : Nat} (h : 1 ≤ n) : ∀ W : World, Sem.run Try.prog (Instr.sliceAt 31 (.slice (some ⟨b, o, none⟩) n cap) (some (.int .i64 1)) none none) W = .ok (.slice (if cap = 1 then some ⟨b, o, none⟩ else some ⟨b, o + 1, none⟩) (n - 1) (cap - 1)) W := fun W => by
  have e := run_sliceBound (P := Try.prog) (w := W) .i64 1 n BoundsCode.sliceB (by omega) (by omega)
  simp [Instr.sliceAt, Instr.slice, run_underlying Try.underlying31, Instr.sliceBounds, Try.sizeOf2, Result.andThen, e, Addr.add]
/-- what stands behind the first of a list of numbers -/
theorem seq_tail {w : World} {lo : Nat} {k : Value} {x : Int} {xs : List Int} (h : SeqAt 1 IntAt w lo k (x :: xs)) : ∃ (b o cap : Nat) (a2 : Option Addr), k = .slice (some ⟨b, o, none⟩) (xs.length + 1) cap ∧ w.cell? ⟨b, o, none⟩ = some (.int .i64 x) ∧ xs.length + 1 ≤ maxLen ∧
    (∀ W : World, Sem.run Try.prog (Instr.sliceAt 31 (.slice (some ⟨b, o, none⟩) (xs.length + 1) cap) (some (.int .i64 1)) none none) W = .ok (.slice a2 xs.length (cap - 1)) W) ∧ SeqAt 1 IntAt w lo (.slice a2 xs.length (cap - 1)) xs := by
  obtain ⟨a, cap, rfl, hm, hx⟩ := h
  obtain ⟨b, o, rfl, h1, h2, hc⟩ := hx (by simp)
  simp only [List.length_cons] at hm hc ⊢
  refine ⟨b, o, cap, if cap = 1 then some ⟨b, o, none⟩ else some ⟨b, o + 1, none⟩, rfl, ?_, hm.1, fun W => ?_, ?_⟩
  · obtain ⟨cs, _, lie, rfl, _⟩ := hc 0 (by omega)
    have := lie 0 (by simp)
    simpa using this
  · exact run_behind (by omega) W
  · refine ⟨_, _, rfl, ⟨by omega, by omega⟩, fun h0 => ?_⟩
    refine ⟨b, o + 1, by rw [if_neg (by omega)], h1, h2, fun i hi => ?_⟩
    obtain ⟨cs, hl, lie, r⟩ := hc (i + 1) (by omega)
    exact ⟨cs, hl, by rw [show o + 1 + i * 1 = o + (i + 1) * 1 by omega]; exact lie, r⟩
/-- one of a row of lists -/
theorem ints_pick {w : World} {lo b o n cap : Nat} {xs : List (List Int)} (h : SeqAt 1 IntsAt w lo (.slice (some ⟨b, o, none⟩) n cap) xs) {i : Nat} (hi : i < xs.length) : ∃ k, w.cell? ⟨b, o + i, none⟩ = some k ∧ SeqAt 1 IntAt w lo k xs[i] := by
  obtain ⟨a, cap', e, hm, hx⟩ := h
  injection e with e1 e2 e3
  subst e1 e2 e3
  obtain ⟨b', o', e, h1, h2, hc⟩ := hx (by omega)
  injection e with e; injection e with e1 e2 _; subst e1 e2
  obtain ⟨cs, _, lie, k, rfl, hk⟩ := hc i hi
  have := lie 0 (by simp)
  simp only [List.getElem?_cons_zero, Nat.add_zero, Nat.mul_one] at this
  exact ⟨k, this, hk⟩
theorem ints_form {w : World} {lo : Nat} {v : Value} {xs : List (List Int)} (h : SeqAt 1 IntsAt w lo v xs) (h0 : 0 < xs.length) : ∃ b o cap, v = .slice (some ⟨b, o, none⟩) xs.length cap := by
  obtain ⟨a, cap, rfl, hm, hx⟩ := h
  obtain ⟨b, o, rfl, _⟩ := hx h0
  exact ⟨b, o, cap, rfl⟩
/-- what stands behind so many pieces -/
def dropSeq : Nat → Code → Code
  | 0, c => c
  | k + 1, .seq _ b => dropSeq k b
  | _ + 1, c => c
noncomputable def codeAt (k : Nat) : Code := dropSeq k (Try.f3.body.getD .skip)
end Go.Proofs.Ytddhacalnfkopab.fnUnder
