/- Rows of whole numbers that a call has made, as owners of their memory. -/
import Derived.Test.YtfncmndgdomjiaaOwnFill
namespace Go.Proofs.Ytfncmndgdomjiaa
open Go.RowKit
theorem seqOwn_of_row {w : World} {base : Nat} {v : Value} {xs : List Int} (h : w.ownsRow base 2 1 v xs.length (xs.map fun n => .int .i64 n)) (hx : ∀ x ∈ xs, InI x) : ∃ fs, SeqOwn 1 IntOwn w v xs fs ∧ ∀ b ∈ fs, base ≤ b := by
  obtain ⟨_, ho⟩ := h
  rcases ho with ⟨rfl, hn⟩ | ⟨g, cap, cur, rfl, hg, hh, h1, h2, h3, h4⟩
  · exact ⟨[], ⟨none, 0, by rw [hn], ⟨by omega, by omega⟩, Or.inl ⟨hn, rfl⟩⟩, by simp⟩
  · refine ⟨[g], ⟨_, _, rfl, ⟨Nat.le_trans h1 h2, h1⟩, Or.inr ⟨g, 0, rfl, cur, 2, xs.map fun _ => [], hh, by omega, by simp, by simp, by simp, fun i hi hi' => ⟨[.int .i64 xs[i]], rfl, fun m hm => ?_, rfl, hx _ (List.getElem_mem hi), by simp⟩⟩⟩, by simpa using hg⟩
    obtain rfl : m = 0 := by omega
    have e : (cur.toList.take (xs.length * 1))[i]? = some (.int .i64 xs[i]) := by rw [h4]; simp [hi]
    rw [List.getElem?_take_of_lt (by omega)] at e
    simpa using e
theorem seqOwn_none (w : World) : SeqOwn 1 IntOwn w (.slice none 0 0) [] [] := ⟨none, 0, rfl, ⟨by simp, by simp⟩, Or.inl ⟨rfl, rfl⟩⟩
theorem seqOwn_empty (w : World) (T : TypeId) : SeqOwn 1 IntOwn (w.alloc (.cells #[] T)) (.slice (some ⟨w.heap.size, 0, none⟩) 0 0) [] [w.heap.size] :=
  ⟨_, _, rfl, ⟨by simp, by simp⟩, Or.inr ⟨_, _, rfl, #[], T, [], (MapKept.heap_alloc w _).1, by simp, rfl, rfl, by simp, fun i hi => absurd hi (by simp)⟩⟩
end Go.Proofs.Ytfncmndgdomjiaa
