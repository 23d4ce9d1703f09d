/- What the laws of edits need besides: an edit read out of memory; cells that stay; how many marks an answer takes. -/
import Derived.Test.YtfncmndgdomjiaaEdLaw
import Derived.Test.YtfncmndgdomjiaaEdTop
import Derived.Test.YtfncmndgdomjiaaTreeTrod
import Derived.Test.YtfncmndgdomjiaaCntNine
import Derived.Deep.DeepCutAuto
namespace Go.Proofs.Ytfncmndgdomjiaa
open Go.RowKit Go.ChangeShapes
set_option maxRecDepth 100000 in
theorem EditL_of_trod {H : Type} {enc : TypeId × Value → H} {w : World} {spare : Nat → Bool} {held : Bool} (n : Nat) (cs : List Value) (y : DataW H × List MemPlace) (h : DataW.trod enc Try.prog w 0 spare held n 27 cs = some y) : ∃ m x, EditL m w 0 cs x := by
  obtain ⟨xs, m, rfl, rfl, hl, hlen, hf⟩ := DataW.trod_struct Try.underlying27 h
  have hl' : cs.length = 5 := hl.trans (by kernel_rfl)
  have hlen' : xs.length = 4 := hlen
  match cs, hl', xs, hlen' with
  | [c0, c1, c2, c3, c4], _, [y0, y1, y2, y3], _ =>
    have g0 : DataW.trod enc Try.prog w 0 spare held m 2 [c0] = some y0 := hf 0 _ rfl
    obtain ⟨x0, e0, _, w0⟩ := DataW.trod_int Try.underlying2 g0
    injection e0 with e0 _
    subst e0
    have g1 : DataW.trod enc Try.prog w 0 spare held m 25 [c1] = some y1 := hf 1 _ rfl
    obtain ⟨k1, x1, e1, s1⟩ := seqAt_of_trod (R := IntAt) Try.underlying25 (show Try.prog.cellsOf 2 = 1 from by kernel_rfl) (by decide) intAt_of_trod g1
    injection e1 with e1 _
    subst e1
    have g2 : DataW.trod enc Try.prog w 0 spare held m 9 [c2] = some y2 := hf 2 _ rfl
    obtain ⟨x2, e2, _, w2⟩ := DataW.trod_string Try.underlying9 g2
    injection e2 with e2 _
    subst e2
    have g3 : DataW.trod enc Try.prog w 0 spare held m 24 [c3, c4] = some y3 := hf 3 _ rfl
    obtain ⟨x3, s3⟩ := TreeL_of_trod m _ _ g3
    obtain ⟨k3, e3, _, _⟩ := s3.opened
    simp only [List.cons.injEq, and_true] at e3
    obtain ⟨e3, e4⟩ := e3
    subst e3 e4
    exact ⟨m, ⟨x0, x1, x2, x3⟩, _, _, rfl, inI_of_wf w0, s1, w2, s3⟩
theorem cell_alloc {w : World} {b i : Nat} {v : Value} (h : w.cell? ⟨b, i, none⟩ = some v) (o : Obj) : (w.alloc o).cell? ⟨b, i, none⟩ = some v := by
  rw [World.cell?_of_block (w := w) (w' := w.alloc o) (Below.heap_alloc _ _ _ (World.block_lt_of_cell? _ _ h))]; exact h
theorem cell_set {w : World} {b i T f : Nat} {v : Value} (h : w.cell? ⟨b, i, none⟩ = some v) (hne : b ≠ T) (u : Value) : (w.setCell ⟨T, f, none⟩ u).cell? ⟨b, i, none⟩ = some v := by
  rw [World.cell?_of_block (w := w) (w' := w.setCell ⟨T, f, none⟩ u) (set_other hne u)]; exact h
theorem cell_realloc {w : World} {o o' : Obj} {b i : Nat} {v : Value} (h : (w.alloc o).cell? ⟨b, i, none⟩ = some v) (hb : b < w.heap.size) : (w.alloc o').cell? ⟨b, i, none⟩ = some v := by
  have h0 : w.cell? ⟨b, i, none⟩ = some v := (World.cell?_of_block (w := w.alloc o) (w' := w) (Below.heap_alloc _ _ _ hb).symm).trans h
  exact cell_alloc h0 _
theorem edited_right {d y : TD} {e : EditD} (h : editedD d e = some y) : treeB d = true ∧ formB e = true ∧ treeB y = true := by
  unfold editedD at h
  split at h
  · rename_i hc
    refine ⟨hc.1, hc.2, ?_⟩
    split at h
    · split at h
      · rename_i hb; injection h with h; rw [← h]; exact hb
      · cases h
    · cases h
  · cases h
theorem edCnt (d : TD) (e : EditD) (L : Nat) : cntL (cntTree L) (kidsOf (resT (editedD d e))) ≤ 30 := by
  cases h : editedD d e with
  | none => show cntL (cntTree L) [] ≤ 30; rw [cntL_nil]; omega
  | some y => exact (treeB_right (edited_right h).2.2).cnt L
end Go.Proofs.Ytfncmndgdomjiaa
