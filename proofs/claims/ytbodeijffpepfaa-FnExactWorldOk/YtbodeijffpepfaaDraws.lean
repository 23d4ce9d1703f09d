/- The reader by which the specification draws: what it tells lies within its bounds; only its own block turns. -/
import Derived.Test.YtbodeijffpepfaaSeq
import Derived.Test.YtbodeijffpepfaaRows
import Derived.WalkKit
import Derived.Deep.QuietTactic
import Derived.BigQuiet
import Derived.Maps.AppendAt
namespace Go.Proofs.Ytbodeijffpepfaa
open Go.RowKit
/-- n bytes lie in memory, ahead of the block g -/
def ByteRow (w : World) (g : Nat) (a : Option Addr) (n : Nat) : Prop :=
  0 < n → ∃ b off, a = some ⟨b, off, none⟩ ∧ b < g ∧ ∀ i, i < n → ∃ x : Int, w.cell? ⟨b, off + i, none⟩ = some (.int .u8 x) ∧ 0 ≤ x ∧ x ≤ 255
/-- a reader lies in the block g -/
def RdAt (w : World) (g : Nat) (a : Option Addr) (n cap : Nat) : Prop :=
  n ≤ 1048576 ∧ ∃ p : Nat, p ≤ n ∧ Box w g [.slice a n cap, .int .i64 p] 999998 ∧ ByteRow w g a n
theorem ByteRow.keep {w w' : World} {g : Nat} {a : Option Addr} {n : Nat} (h : ByteRow w g a n) (hk : ∀ b, b < g → w'.heap[b]? = w.heap[b]?) : ByteRow w' g a n := by
  intro h0
  obtain ⟨b, off, e, h1, h3⟩ := h h0
  refine ⟨b, off, e, h1, fun i hi => ?_⟩
  obtain ⟨x, c, r⟩ := h3 i hi
  exact ⟨x, by rw [World.cell?_of_block (w := w) (w' := w') (hk b h1)]; exact c, r⟩
theorem RdAt.keep {w w' : World} {g : Nat} {a : Option Addr} {n cap : Nat} (h : RdAt w g a n cap) (hk : ∀ b, b ≤ g → w'.heap[b]? = w.heap[b]?) : RdAt w' g a n cap := by
  obtain ⟨hn, p, hp, hx, hr⟩ := h
  exact ⟨hn, p, hp, (hk g (Nat.le_refl _)).trans hx, hr.keep (fun b hb => hk b (Nat.le_of_lt hb))⟩
theorem RdAt.below {w w' : World} {g : Nat} {a : Option Addr} {n cap : Nat} (h : RdAt w g a n cap) (hb : Below w.heap.size w w') : RdAt w' g a n cap := by
  have hlt : g < w.heap.size := by obtain ⟨_, _, _, hx, _⟩ := h; exact hx.lt
  exact h.keep (fun b q => hb.block b (by omega))
theorem RdAt.lt {w : World} {g : Nat} {a : Option Addr} {n cap : Nat} (h : RdAt w g a n cap) : g < w.heap.size := by
  obtain ⟨_, _, _, hx, _⟩ := h; exact hx.lt
theorem grown_refl (w : World) (r : Option Nat) : w.grownBy w r := ⟨rfl, rfl, rfl, Nat.le_refl _, fun _ _ _ => rfl⟩
theorem grown_of_below {w w' : World} (hb : Below w.heap.size w w') (r : Option Nat) : w.grownBy w' r := ⟨hb.os, hb.tape, hb.output, hb.size, fun b h _ => hb.block b h⟩
/-- what lay ahead of the reader is as it was -/
theorem below_grown {w0 w w' : World} {g : Nat} (hb : Below w0.heap.size w0 w) (hg : w0.heap.size ≤ g) (h : w.grownBy w' (some g)) : Below w0.heap.size w0 w' :=
  hb.grown h hb.size fun k hk => by injection hk with e; omega
theorem grown_set {w : World} {g i : Nat} (v : Value) : w.grownBy (w.setCell ⟨g, i, none⟩ v) (some g) :=
  ⟨rfl, rfl, rfl, by simp [World.setCell], fun b _ hne => set_other (fun e => hne (by rw [e])) v⟩
theorem grown_step {w : World} {g i q r : Nat} (v : Value) : w.grownBy (((w.drewN q).setCell ⟨g, i, none⟩ v).drewN r) (some g) :=
  ⟨rfl, rfl, rfl, by simp [World.setCell, World.drewN], fun b _ hne => set_other (w := w.drewN q) (fun e => hne (by rw [e])) v⟩
theorem grown_drew {w : World} {q : Nat} {r : Option Nat} : w.grownBy (w.drewN q) r := ⟨rfl, rfl, rfl, Nat.le_refl _, fun _ _ _ => rfl⟩
theorem rd_step {w : World} {g : Nat} {a : Option Addr} {n cap p : Nat} (hn : n ≤ 1048576) (hp : p + 1 ≤ n) (hx : Box w g [.slice a n cap, .int .i64 p] 999998) (hr : ByteRow w g a n) : RdAt (w.setCell ⟨g, 1, none⟩ (.int .i64 ((p : Int) + 1))) g a n cap := by
  refine ⟨hn, p + 1, hp, ?_, hr.keep (fun b hb => set_other (by omega) _)⟩
  have := Box.set (i := 1) hx (.int .i64 ((p : Int) + 1))
  exact this
theorem box_str {w : World} {g : Nat} {ss : List ByteArray} {T : TypeId} (h : Box w g (ss.map Value.string) T) (k : Nat) (hk : k < ss.length) : w.cell? ⟨g, k, none⟩ = some (.string ss[k]) :=
  Box.cell h k (by rw [List.getElem?_map, List.getElem?_eq_getElem hk]; rfl)
theorem box_other {w w' : World} {g h : Nat} {cs : List Value} {T : TypeId} (hx : Box w h cs T) (hne : h ≠ g) (hg : w.grownBy w' (some g)) : Box w' h cs T :=
  (hg.block h hx.lt (fun e => hne (by injection e))).trans hx
theorem mem_le {ss : List ByteArray} {m : Nat} (h : (ss.all fun s => decide (s.size ≤ m)) = true) (k : Nat) (hk : k < ss.length) : ss[k].size ≤ m := by
  have := List.all_eq_true.1 h ss[k] (List.getElem_mem hk)
  simpa using this
/-- the code that is drawn by lies in memory -/
def CodeAt (w : World) (a : Option Addr) (n : Nat) : Prop :=
  n ≤ 1048576 ∧ (0 < n → ∃ b off, a = some ⟨b, off, none⟩ ∧ b < w.heap.size ∧ ∀ i, i < n → ∃ x : Int, w.cell? ⟨b, off + i, none⟩ = some (.int .u8 x) ∧ 0 ≤ x ∧ x ≤ 255)
theorem CodeAt.below {w w' : World} {a : Option Addr} {n : Nat} (h : CodeAt w a n) (hb : Below w.heap.size w w') : CodeAt w' a n := by
  refine ⟨h.1, fun h0 => ?_⟩
  obtain ⟨b, off, e, h2, h3⟩ := h.2 h0
  refine ⟨b, off, e, Nat.lt_of_lt_of_le h2 hb.size, fun i hi => ?_⟩
  obtain ⟨x, c, r⟩ := h3 i hi
  exact ⟨x, (hb.cell (p := ⟨b, off + i, none⟩) h2).trans c, r⟩
end Go.Proofs.Ytbodeijffpepfaa
