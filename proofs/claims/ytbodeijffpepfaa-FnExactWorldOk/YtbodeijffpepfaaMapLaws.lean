/- Maps by int64 of records: what lies in memory, a lookup, a new entry. -/
import Derived.Test.YtbodeijffpepfaaHeap
import Derived.Test.YtbodeijffpepfaaTakeLit
import Derived.WalkKit
import Derived.MapKept
namespace Go.Proofs.Ytbodeijffpepfaa
open Go.RowKit
/-- the entries of a map are these records, in this order, each under its number -/
def Ents {α : Type} (f : α → Int) (R : World → Nat → List Value → α → Prop) (w : World) (lo : Nat) : List MapEntry → List α → Prop
  | [], [] => True
  | e :: es, x :: xs => e.key = .int .i64 (f x) ∧ (∃ cs, e.val = .agg cs.toArray ∧ R w lo cs x) ∧ Ents f R w lo es xs
  | _, _ => False
def MapAt {α : Type} (f : α → Int) (R : World → Nat → List Value → α → Prop) (w : World) (lo b : Nat) (xs : List α) : Prop :=
  ∃ (es : Array MapEntry) (clock : Nat), w.heap[b]? = some (.map es clock) ∧ Ents f R w lo es.toList xs
theorem Ents.keep {α : Type} {f : α → Int} {R : World → Nat → List Value → α → Prop} (hR : Stays R) {w w' : World} {lo lo' : Nat} (q : Kept w w' lo lo') : ∀ (es : List MapEntry) (xs : List α), Ents f R w lo es xs → Ents f R w' lo' es xs := by
  intro es
  induction es with
  | nil => intro xs h; cases xs with
    | nil => trivial
    | cons x xs => exact h.elim
  | cons e es ih => intro xs h; cases xs with
    | nil => exact h.elim
    | cons x xs =>
      obtain ⟨h1, ⟨cs, h2, h3⟩, h4⟩ := h
      exact ⟨h1, ⟨cs, h2, hR _ _ _ _ _ _ q h3⟩, ih xs h4⟩
theorem MapAt.below {α : Type} {f : α → Int} {R : World → Nat → List Value → α → Prop} (hR : Stays R) {w w' : World} {lo b : Nat} {xs : List α} (h : MapAt f R w lo b xs) (hb : Below w.heap.size w w') : MapAt f R w' lo b xs := by
  obtain ⟨es, clock, h1, h2⟩ := h
  have hlt : b < w.heap.size := (Array.getElem?_eq_some_iff.1 h1).1
  exact ⟨es, clock, (hb.block b hlt).trans h1, Ents.keep hR (.of_below hb) _ _ h2⟩
theorem MapAt.lt {α : Type} {f : α → Int} {R : World → Nat → List Value → α → Prop} {w : World} {lo b : Nat} {xs : List α} (h : MapAt f R w lo b xs) : b < w.heap.size := by
  obtain ⟨es, clock, h1, _⟩ := h
  exact (Array.getElem?_eq_some_iff.1 h1).1
theorem find_ents {α : Type} {f : α → Int} {R : World → Nat → List Value → α → Prop} {w : World} {lo : Nat} {id : Int} : ∀ (es : List MapEntry) (xs : List α) (j : Nat), Ents f R w lo es xs →
    (getI f xs id = none ∧ Instr.findNow (.int .i64) (.int .i64 id) es j = some none) ∨ ∃ x i cs, getI f xs id = some x ∧ Instr.findNow (.int .i64) (.int .i64 id) es j = some (some (i, .agg cs.toArray)) ∧ R w lo cs x := by
  intro es
  induction es with
  | nil => intro xs j h; cases xs with
    | nil => exact Or.inl ⟨rfl, rfl⟩
    | cons x xs => exact h.elim
  | cons e es ih => intro xs j h; cases xs with
    | nil => exact h.elim
    | cons x xs =>
      obtain ⟨h1, ⟨cs, h2, h3⟩, h4⟩ := h
      by_cases hq : f x = id
      · refine Or.inr ⟨x, j, cs, by simp [getI, hq], ?_, h3⟩
        simp [Instr.findNow, Instr.sameNow, h1, hq, h2]
      · have hq' : (id == f x) = false := by simpa using fun h : id = f x => hq h.symm
        rcases ih xs (j + 1) h4 with ⟨g1, g2⟩ | ⟨y, i, cs', g1, g2, g3⟩
        · refine Or.inl ⟨by simp [getI, hq, g1], ?_⟩
          simp [Instr.findNow, Instr.sameNow, h1, hq', g2]
        · refine Or.inr ⟨y, i, cs', by simp [getI, hq, g1], ?_, g3⟩
          simp [Instr.findNow, Instr.sameNow, h1, hq', g2]
theorem ents_length {α : Type} {f : α → Int} {R : World → Nat → List Value → α → Prop} {w : World} {lo : Nat} : ∀ (es : List MapEntry) (xs : List α), Ents f R w lo es xs → es.length = xs.length := by
  intro es
  induction es with
  | nil => intro xs h; cases xs with
    | nil => rfl
    | cons x xs => exact h.elim
  | cons e es ih => intro xs h; cases xs with
    | nil => exact h.elim
    | cons x xs => simp only [List.length_cons]; rw [ih xs h.2.2]
/-- A LOOKUP -/
theorem run_look {α : Type} {f : α → Int} {R : World → Nat → List Value → α → Prop} {w : World} {lo b : Nat} {xs : List α} {M E : TypeId} {z : Value} (hm : MapAt f R w lo b xs) (hT : Try.prog.underlying M = some (.map 2 E)) (hz : ((Try.prog.info? E).map fun i => i.zero) = some (some z)) (id : Int) :
    (getI f xs id = none ∧ (Instr.lookup M (.map (some b)) (.int .i64 id) true).run Try.prog w = .ok (.tuple #[z, .bool false]) w) ∨
    ∃ x cs, getI f xs id = some x ∧ (Instr.lookup M (.map (some b)) (.int .i64 id) true).run Try.prog w = .ok (.tuple #[.agg cs.toArray, .bool true]) w ∧ R w lo cs x := by
  obtain ⟨es, clock, h1, h2⟩ := hm
  obtain ⟨i, hi, hz⟩ := Option.map_eq_some_iff.1 hz
  have hc : ∀ e, (Instr.checkKey e 10000 2 (.int .i64 id)).run Try.prog w = .ok () w := fun e => MapKept.run_checkKey (k := .int .i64 id) Try.underlying2 (by simp [MapKept.IsKey]) e 9999
  rcases find_ents (id := id) es.toList xs 0 h2 with ⟨g1, g2⟩ | ⟨x, i', cs, g1, g2, g3⟩
  · refine Or.inl ⟨g1, ?_⟩
    simp [Instr.lookup, run_underlying hT, MapKept.run_getObj_map h1, hc, MapKept.run_findKey Try.underlying2 g2, Result.andThen, zeroValue, typeInfo, hi, hz]
  · refine Or.inr ⟨x, cs, g1, ?_, g3⟩
    simp [Instr.lookup, run_underlying hT, MapKept.run_getObj_map h1, hc, MapKept.run_findKey Try.underlying2 g2, Result.andThen]
/-- the world behind a new entry -/
def putEnt (w : World) (b : Nat) (es : Array MapEntry) (clock : Nat) (id : Int) (v : Value) : World := { w with heap := w.heap.setIfInBounds b (.map (es.push { key := .int .i64 id, val := v, born := clock }) (clock + 1)) }
theorem run_put {α : Type} {f : α → Int} {R : World → Nat → List Value → α → Prop} {w : World} {lo b : Nat} {xs : List α} {M E : TypeId} {es : Array MapEntry} {clock : Nat} (h1 : w.heap[b]? = some (.map es clock)) (h2 : Ents f R w lo es.toList xs) (hT : Try.prog.underlying M = some (.map 2 E)) (id : Int) (v : Value) (hn : getI f xs id = none) :
    (Instr.mapUpdate M (.map (some b)) (.int .i64 id) v).run Try.prog w = .ok () (putEnt w b es clock id v) := by
  have hc : ∀ e, (Instr.checkKey e 10000 2 (.int .i64 id)).run Try.prog w = .ok () w := fun e => MapKept.run_checkKey (k := .int .i64 id) Try.underlying2 (by simp [MapKept.IsKey]) e 9999
  rcases find_ents (id := id) es.toList xs 0 h2 with ⟨g1, g2⟩ | ⟨x, i', cs, g1, _, _⟩
  · simp [Instr.mapUpdate, run_underlying hT, MapKept.run_getObj_map h1, hc, MapKept.run_findKey Try.underlying2 g2, MapKept.run_setObj_map _ h1, Result.andThen, putEnt]
  · rw [hn] at g1; cases g1
theorem ents_snoc {α : Type} {f : α → Int} {R : World → Nat → List Value → α → Prop} {w : World} {lo : Nat} {e : MapEntry} {x : α} (h1 : e.key = .int .i64 (f x)) (h2 : ∃ cs, e.val = .agg cs.toArray ∧ R w lo cs x) : ∀ (es : List MapEntry) (xs : List α), Ents f R w lo es xs → Ents f R w lo (es ++ [e]) (xs ++ [x]) := by
  intro es
  induction es with
  | nil => intro xs h; cases xs with
    | nil => exact ⟨h1, h2, trivial⟩
    | cons y ys => exact h.elim
  | cons e' es ih => intro xs h; cases xs with
    | nil => exact h.elim
    | cons y ys => exact ⟨h.1, h.2.1, ih ys h.2.2⟩
theorem putEnt_size {w : World} {b : Nat} {es : Array MapEntry} {clock : Nat} {id : Int} {v : Value} : (putEnt w b es clock id v).heap.size = w.heap.size := by simp [putEnt]
theorem putEnt_other {w : World} {b b' : Nat} {es : Array MapEntry} {clock : Nat} {id : Int} {v : Value} (h : b' ≠ b) : (putEnt w b es clock id v).heap[b']? = w.heap[b']? := by
  unfold putEnt; rw [Array.getElem?_setIfInBounds, if_neg (fun e => h e.symm)]
theorem putEnt_at {w : World} {b : Nat} {es : Array MapEntry} {clock : Nat} {id : Int} {v : Value} (h : b < w.heap.size) : (putEnt w b es clock id v).heap[b]? = some (.map (es.push { key := .int .i64 id, val := v, born := clock }) (clock + 1)) := by
  unfold putEnt; rw [Array.getElem?_setIfInBounds, if_pos rfl, if_pos h]
theorem putEnt_below {B : Nat} {a w : World} {b : Nat} {es : Array MapEntry} {clock : Nat} {id : Int} {v : Value} (h : Below B a w) (hB : B ≤ b) : Below B a (putEnt w b es clock id v) :=
  ⟨h.os, h.tape, h.output, by rw [putEnt_size]; exact h.size, fun k hk => (putEnt_other (by omega)).trans (h.block k hk)⟩
end Go.Proofs.Ytbodeijffpepfaa
