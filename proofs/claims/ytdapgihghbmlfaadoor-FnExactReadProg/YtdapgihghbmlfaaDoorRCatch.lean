/- The deferred function that turns what was thrown into false. -/
import Derived.Test.YtdapgihghbmlfaaDoorRpImpl
import Derived.Defers
import Derived.Recover
namespace Go.Proofs.YtdapgihghbmlfaaDoor
open Go.RowKit Go.Deep
abbrev zT : Obj := .cells #[.slice none 0 0] 25
abbrev catchW (w : World) (b1 b2 : Nat) : World := (w.setCell ⟨b1, 0, none⟩ (.slice none 0 0)).setCell ⟨b2, 0, none⟩ (.bool false)
set_option maxHeartbeats 2000000 in
theorem catch_thrown {w : World} {b1 b2 : Nat} {x0 v : Value} (h1 : Box w b1 [x0] 25) (h2 : Box w b2 [v] 4) (hne : b1 ≠ b2) (u : TypeId) (pv : Value) (older : List PanicEntry) :
    CallsD Tryd.prog 38 #[.pointer (some ⟨b1, 0, none⟩), .pointer (some ⟨b2, 0, none⟩)] (.panicking ({ v := .iface u pv, recovered := false } :: older)) w fun e u' w' =>
      e = .returned (.tuple #[]) ∧ u' = .panicking ({ v := .iface u pv, recovered := true } :: older) ∧ w' = catchW w b1 b2 := by
  refine callsD_of_wpS Tryd.func38 rfl fun c₀ cs hu => ?_
  apply wpS_seq
  apply wpS_region
  simp [wpOpsS, go_sem, recoverD, hu, Tryd.ntmps38, Exit.thenS]
  refine wpS_cond (t := true) (by simp [Act.eval, Array.replicate]) ?_
  simp only [if_true]
  apply wpS_seq
  apply wpS_region
  simp [wpOpsS, go_sem, Exit.thenS]
  apply wpS_region
  have a1 : Box w b1 [x0] 25 := h1
  have a2 : Box w b2 [v] 4 := h2
  have e0 := a1.cell 0 rfl
  have f0 := a1.unfrozen 0
  have s0 := Box.set (i := 0) a1 (.slice none 0 0)
  have t0 := Box.other (i := 0) a2 (Ne.symm hne) (.slice none 0 0)
  have eb := t0.cell 0 rfl
  have fb := t0.unfrozen 0
  simp [wpOpsS, go_sem, e0, f0, eb, fb, bodyPostS, results, Tryd.results38]
set_option maxHeartbeats 1000000 in
theorem catch_idle (p q : Addr) (w : World) :
    CallsD Tryd.prog 38 #[.pointer (some p), .pointer (some q)] .returning w fun e u' w' => e = .returned (.tuple #[]) ∧ u' = .returning ∧ w' = w := by
  refine callsD_of_wpS Tryd.func38 rfl fun c₀ cs hu => ?_
  apply wpS_seq
  apply wpS_region
  simp [wpOpsS, go_sem, recoverD, hu, Tryd.ntmps38, Exit.thenS]
  refine wpS_cond (t := false) (by simp [Act.eval, Array.replicate]) ?_
  simp only [Bool.false_eq_true, if_false]
  refine wpS_of_wp (wp_skip ?_)
  cases c₀
  simp_all [bodyPostS, results, Tryd.results38]
theorem catch_facts {w : World} {b1 b2 : Nat} {x0 v : Value} (h1 : Box w b1 [x0] 25) (h2 : Box w b2 [v] 4) (hne : b1 ≠ b2) : Box (catchW w b1 b2) b1 [.slice none 0 0] 25 ∧ Box (catchW w b1 b2) b2 [.bool false] 4 ∧ ∀ B, B ≤ b1 → B ≤ b2 → Below B w (catchW w b1 b2) := by
  have a1 : Box w b1 [x0] 25 := h1
  have a2 : Box w b2 [v] 4 := h2
  have s0 := Box.set (i := 0) a1 (.slice none 0 0)
  have t0 := Box.other (i := 0) a2 (Ne.symm hne) (.slice none 0 0)
  refine ⟨Box.other s0 hne _, Box.set (i := 0) t0 _, fun B q1 q2 => ?_⟩
  have hb0 : Below B w w := Below.refl _ _
  exact (hb0.setCell (p := ⟨b1, 0, none⟩) q1 _).setCell (p := ⟨b2, 0, none⟩) q2 _
theorem bel_grown {w w0 w1 : World} {g : Nat} (hb : Below w.heap.size w w0) (hs : w.heap.size ≤ w0.heap.size) (hg : w0.grownBy w1 (some g)) (hgl : w.heap.size ≤ g) : Below w.heap.size w w1 :=
  ⟨hg.os.trans hb.os, hg.tape.trans hb.tape, hg.output.trans hb.output, Nat.le_trans hs hg.size, fun b h => (hg.block b (Nat.lt_of_lt_of_le h hs) (fun e => by injection e; omega)).trans (hb.block b h)⟩
theorem fall_below {w w0 w1 w2 : World} {g b1 b2 : Nat} (hb : Below w.heap.size w w0) (hs : w.heap.size ≤ w0.heap.size) (hg : w0.grownBy w1 (some g)) (hgl : w.heap.size ≤ g) (zb : ∀ B, B ≤ b1 → B ≤ b2 → Below B w1 w2) (h1 : w.heap.size ≤ b1 := by omega) (h2 : w.heap.size ≤ b2 := by omega) : Below w.heap.size w w2 :=
  (bel_grown hb hs hg hgl).trans (zb _ h1 h2)
theorem fall_below2 {w w1 w2 : World} {b1 b2 : Nat} (hb : Below w.heap.size w w1) (zb : ∀ B, B ≤ b1 → B ≤ b2 → Below B w1 w2) (h1 : w.heap.size ≤ b1 := by omega) (h2 : w.heap.size ≤ b2 := by omega) : Below w.heap.size w w2 :=
  hb.trans (zb _ h1 h2)
end Go.Proofs.YtdapgihghbmlfaaDoor
