/- How many marks what is read takes. -/
import Derived.Test.YtdlkafpemongmaaSelRSpec
namespace Go.Proofs.Ytdlkafpemongmaa
open Go.RowKit Go.Deep
theorem cnt_len : ∀ (l : List StepD) (j : Nat), pos cntStep l j ≤ 2 * j := by
  intro l j
  unfold pos
  have : ∀ m : List StepD, (m.map cntStep).sum = 2 * m.length := by
    intro m
    induction m with
    | nil => rfl
    | cons x m ih => simp only [List.map_cons, List.sum_cons, ih, List.length_cons]; show 1 + 1 + _ = _; omega
  rw [this, List.length_take]
  omega
theorem reads_cnt {s : ByteArray} {x : List StepD} {b : Bool} (h : ReadsS s x b) : (1 : Int) + (cntL cntStep x : Nat) ≤ 4611686018427387904 := by
  have := cnt_len x x.length
  have hl : x.length ≤ 5 := by
    rcases h with ⟨_, h, _⟩ | ⟨_, rfl, _⟩
    · exact (selB_parts h).2.1
    · simp
  unfold cntL
  omega
end Go.Proofs.Ytdlkafpemongmaa
