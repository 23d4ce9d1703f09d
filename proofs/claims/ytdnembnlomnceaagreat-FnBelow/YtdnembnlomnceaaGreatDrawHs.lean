/- A drawn heap in its box, the reader opened by the function itself. -/
import Derived.Test.YtdnembnlomnceaaGreatAbb
import Derived.Test.YtdnembnlomnceaaGreatDrawHeap
namespace Go.Proofs.YtdnembnlomnceaaGreat
open Go.RowKit Go.Deep
structure DH (w : World) (g : Nat) (a : Option Addr) (n cap R E : Nat) (y : HeapD) (cs : List Value) (W : World) : Prop where
 hB : Below w.heap.size w W
 hR : RdAt W g a n cap
 bR : Box W R cZp 28
 bE : Box W E cs 28
 ne : R ≠ E ∧ R ≠ g ∧ g < E
 lo : w.heap.size ≤ R ∧ w.heap.size ≤ g
 hp : ∃ fs, HeapP W cs y fs ∧ ∀ b ∈ fs, w.heap.size ≤ b ∧ b ≠ R ∧ b ≠ E ∧ b ≠ g
theorem DH.hx {w W : World} {g : Nat} {a : Option Addr} {n cap R E : Nat} {y : HeapD} {cs : List Value} (h : DH w g a n cap R E y cs W) : HeapAt W 0 cs y := by
 obtain ⟨fs, hp, _⟩ := h.hp; exact hp.at0
theorem DH.below {w W W' : World} {g : Nat} {a : Option Addr} {n cap R E : Nat} {y : HeapD} {cs : List Value} (h : DH w g a n cap R E y cs W) (q : Below W.heap.size W W') : DH w g a n cap R E y cs W' := by
 obtain ⟨fs, hp, hn⟩ := h.hp
 exact ⟨h.hB.trans (q.mono h.hB.size), h.hR.below q, h.bR.below q h.bR.lt, h.bE.below q h.bE.lt, h.ne, h.lo, fs, hp.below q, hn⟩
theorem DH.grow {w W W' : World} {g : Nat} {a : Option Addr} {n cap R E : Nat} {y : HeapD} {cs : List Value} (h : DH w g a n cap R E y cs W) (hr : RdAt W' g a n cap) (q : W.grownBy W' (some g)) : DH w g a n cap R E y cs W' := by
 obtain ⟨fs, hp, hn⟩ := h.hp
 have ne := h.ne
 exact ⟨below_grown h.hB h.lo.2 q, hr, box_other h.bR ne.2.1 q, box_other h.bE (by omega) q, ne, h.lo, fs, hp.stays (fun b hb => q.block b (hp.lt b hb) (fun e => by injection e with e; have := hn b hb; omega)), hn⟩
/-- another heap in the box -/
theorem DH.ran {w W W2 : World} {g : Nat} {a : Option Addr} {n cap R E : Nat} {y z : HeapD} {cs : List Value} {k0 k1 k2 k3 k4 : Value} {fs2 : List Nat} (h : DH w g a n cap R E y cs W) (q : Below W.heap.size W W2) (hp : HeapP W2 [k0, k1, k2, k3, k4] z fs2) (hn : ∀ b ∈ fs2, W.heap.size ≤ b) : DH w g a n cap R E z [k0, k1, k2, k3, k4] (putCells W2 E 0 [k0, k1, k2, k3, k4]) := by
 have h2 := h.below q
 have ne := h.ne
 have lo := h.lo
 have e1 := h.bE.lt
 have e2 := h.bR.lt
 have e3 := h.hR.lt
 obtain ⟨a0, a1, a2, a3, a4, rfl⟩ : ∃ a0 a1 a2 a3 a4, cs = [a0, a1, a2, a3, a4] := by
  obtain ⟨fs, hp0, _⟩ := h.hp
  obtain ⟨_, _, _, _, _, _, e⟩ := hp0.form
  exact ⟨_, _, _, _, _, e⟩
 have hz := h.hB.size
 exact ⟨putCells_below _ _ _ _ _ _ (by omega) h2.hB, h2.hR.keep (fun b hb => putCells_other _ _ _ _ _ (by omega)), (putCells_other _ _ _ _ _ (by omega)).trans h2.bR, ((((h2.bE.set (i := 0) _).set (i := 1) _).set (i := 2) _).set (i := 3) _).set (i := 4) _, ne, lo, fs2, hp.stays (fun b hb => putCells_other _ _ _ _ _ (by have := hn b hb; omega)), fun b hb => by have := hn b hb; omega⟩
theorem DH.form {w W : World} {g : Nat} {a : Option Addr} {n cap R E : Nat} {y : HeapD} {cs : List Value} (h : DH w g a n cap R E y cs W) : ∃ (aN5 : Option Addr) (kN5 : Nat) (aO5 : Option Addr) (kO5 : Nat) (aG5 : Option Addr) (kG5 : Nat), cs = (cHp y aN5 kN5 aO5 kO5 aG5 kG5) := by
 obtain ⟨fs, hp, _⟩ := h.hp
 obtain ⟨a1, c1, a2, c2, a3, c3, e⟩ := hp.form
 exact ⟨a1, c1, a2, c2, a3, c3, e⟩
/-- the beginning: the heap that the reader gave -/
theorem DH.first {w w1 w2 : World} {g : Nat} {a : Option Addr} {n cap R : Nat} {y : HeapD} {cs : List Value} {fs : List Nat} (hB : Below w.heap.size w w1) (hR1 : w.heap.size ≤ R ∧ w.heap.size ≤ g ∧ R ≠ g ∧ g < w1.heap.size) (bR : Box w1 R cZp 28) (hp : HeapP w2 cs y fs) (hn : ∀ b ∈ fs, w1.heap.size ≤ b) (hr : RdAt w2 g a n cap) (hg : w1.grownBy w2 (some g)) :
 DH w g a n cap R w2.heap.size y cs (w2.alloc (.cells cs.toArray 28)) := by
 have AL : Below w2.heap.size w2 (w2.alloc (.cells cs.toArray 28)) := (Below.refl _ _).alloc (Nat.le_refl _) _
 have hz := hg.size
 have e2 := bR.lt
 have b2 : Box w2 R cZp 28 := box_other bR hR1.2.2.1 hg
 exact ⟨(below_grown hB hR1.2.1 hg).trans (AL.mono (Nat.le_trans hB.size hz)), hr.below AL, b2.below AL b2.lt, Box.new w2 _ _, ⟨by omega, hR1.2.2.1, by omega⟩, ⟨hR1.1, hR1.2.1⟩, fs, hp.below AL, fun b hb => by have h1 := hn b hb; have h2 := hp.lt b hb; have h3 := hB.size; omega⟩
/-- given back -/
theorem DH.give {w W : World} {g : Nat} {a : Option Addr} {n cap R E : Nat} {y : HeapD} {cs : List Value} (h : DH w g a n cap R E y cs W) : (∃ fs, HeapP (putCells W R 0 cs) cs y fs ∧ ∀ b ∈ fs, w.heap.size ≤ b) ∧ Below w.heap.size w (putCells W R 0 cs) := by
 obtain ⟨fs, hp, hn⟩ := h.hp
 exact ⟨⟨fs, hp.stays (fun b hb => putCells_other _ _ _ _ _ (by have := hn b hb; omega)), fun b hb => (hn b hb).1⟩, putCells_below _ _ _ _ _ _ h.lo.1 h.hB⟩
end Go.Proofs.YtdnembnlomnceaaGreat
