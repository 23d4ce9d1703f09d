/- What the laws with a handle need at their cuts. -/
import Derived.Test.YtcpbcpckmclciaaArStore
import Derived.Deep.DeepCutAuto
namespace Go.Proofs.Ytcpbcpckmclciaa
open Go.RowKit
theorem AnsA.low {w w0 w' : World} {cs : List Value} {x : ArenaD} (h : AnsA w w' cs x) (hs : w0.heap.size ≤ w.heap.size) : AnsA w0 w' cs x := by
  obtain ⟨fs, h1, h2, h3⟩ := h
  exact ⟨fs, h1, h2, fun b m => Nat.le_trans hs (h3 b m)⟩
theorem AnsA.below {w0 w w' : World} {cs : List Value} {x : ArenaD} (h : AnsA w0 w cs x) (hb : Below w.heap.size w w') : AnsA w0 w' cs x := by
  obtain ⟨fs, h1, h2, h3⟩ := h
  exact ⟨fs, ArenaOwn_stays _ _ _ _ _ (fun b m => hb.block b (ArenaOwn_lt _ _ _ _ h1 b m)) h1, h2, h3⟩
theorem ArenaAt.low {w : World} {lo : Nat} {cs : List Value} {x : ArenaD} (h : ArenaAt w lo cs x) : ArenaAt w 0 cs x := ArenaAt_stays _ _ _ _ _ _ (.lower (Nat.zero_le _)) h
theorem cell_realloc {w : World} {o o' : Obj} {b i : Nat} {v : Value} (h : (w.alloc o).cell? ⟨b, i, none⟩ = some v) (hb : b < w.heap.size) : (w.alloc o').cell? ⟨b, i, none⟩ = some v := by
  have h0 : w.cell? ⟨b, i, none⟩ = some v := (World.cell?_of_block (w := w.alloc o) (w' := w) (Below.heap_alloc _ _ _ hb).symm).trans h
  exact cell_alloc h0 _
end Go.Proofs.Ytcpbcpckmclciaa
