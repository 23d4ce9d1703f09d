/- The deferred function that turns what was thrown into false. -/
import Derived.Test.YtbodeijffpepfaaRtImpl
import Derived.Defers
import Derived.Recover
namespace Go.Proofs.Ytbodeijffpepfaa
open Go.RowKit Go.Deep
abbrev zT : Obj := .cells #[.string ⟨#[]⟩, .slice none 0 0] 48
abbrev catchW (w : World) (b1 b2 : Nat) : World := (((w.alloc zT).setCell ⟨b1, 0, none⟩ (.string ⟨#[]⟩)).setCell ⟨b1, 1, none⟩ (.slice none 0 0)).setCell ⟨b2, 0, none⟩ (.bool false)
set_option maxHeartbeats 2000000 in
theorem catch_thrown {w : World} {b1 b2 : Nat} {x y v : Value} (h1 : Box w b1 [x, y] 48) (h2 : Box w b2 [v] 4) (hne : b1 ≠ b2) (u : TypeId) (pv : Value) (older : List PanicEntry) :
    CallsD Try.prog 74 #[.pointer (some ⟨b1, 0, none⟩), .pointer (some ⟨b2, 0, none⟩)] (.panicking ({ v := .iface u pv, recovered := false } :: older)) w fun e u' w' =>
      e = .returned (.tuple #[]) ∧ u' = .panicking ({ v := .iface u pv, recovered := true } :: older) ∧ w' = catchW w b1 b2 := by
  refine callsD_of_wpS Try.func74 rfl fun c₀ cs hu => ?_
  apply wpS_seq
  apply wpS_region
  simp [wpOpsS, go_sem, recoverD, hu, Try.ntmps74, Exit.thenS]
  refine wpS_cond (t := true) (by simp [Act.eval, Array.replicate]) ?_
  simp only [if_true]
  apply wpS_seq
  apply wpS_region
  simp [wpOpsS, go_sem, Exit.thenS]
  apply wpS_region
  have a1 : Box (w.alloc zT) b1 [x, y] 48 := h1.alloc _
  have a2 : Box (w.alloc zT) b2 [v] 4 := h2.alloc _
  have b1' := Box.set (i := 0) a1 (.string ⟨#[]⟩)
  have b2' := Box.other (i := 0) a2 (Ne.symm hne) (.string ⟨#[]⟩)
  have d1' := Box.set (i := 1) b1' (.slice none 0 0)
  have d2' := Box.other (i := 1) b2' (Ne.symm hne) (.slice none 0 0)
  have e1 := a1.cell 0 rfl
  have f1 := a1.unfrozen 0
  have e2 := b1'.cell 1 rfl
  have f2 := b1'.unfrozen 1
  have e3 := d2'.cell 0 rfl
  have f3 := d2'.unfrozen 0
  simp [wpOpsS, go_sem, e1, f1, e2, f2, e3, f3, bodyPostS, results, Try.results74]
set_option maxHeartbeats 1000000 in
theorem catch_idle (p q : Addr) (w : World) :
    CallsD Try.prog 74 #[.pointer (some p), .pointer (some q)] .returning w fun e u' w' => e = .returned (.tuple #[]) ∧ u' = .returning ∧ w' = w := by
  refine callsD_of_wpS Try.func74 rfl fun c₀ cs hu => ?_
  apply wpS_seq
  apply wpS_region
  simp [wpOpsS, go_sem, recoverD, hu, Try.ntmps74, Exit.thenS]
  refine wpS_cond (t := false) (by simp [Act.eval, Array.replicate]) ?_
  simp only [Bool.false_eq_true, if_false]
  refine wpS_of_wp (wp_skip ?_)
  cases c₀
  simp_all [bodyPostS, results, Try.results74]
end Go.Proofs.Ytbodeijffpepfaa
