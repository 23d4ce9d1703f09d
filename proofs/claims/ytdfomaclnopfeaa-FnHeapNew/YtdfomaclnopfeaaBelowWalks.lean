/- The specification's lists that rise, walked. -/
import Derived.Test.YtdfomaclnopfeaaReachPlain
import Derived.Test.YtdfomaclnopfeaaAppendInts
namespace Go.Proofs.Ytdfomaclnopfeaa
open Go.RowKit
theorem SeqAt.part {w : World} {lo : Nat} {a : Option Addr} {n cap : Nat} {xs : List Int} (h : SeqAt 1 IntAt w lo (.slice a n cap) xs) (l k : Nat) (hl : l ≤ k) (hk : k ≤ n) : SeqAt 1 IntAt w lo (sliced a l k cap 1) ((xs.take k).drop l) := by
  obtain ⟨a', cap', e, hm, hx⟩ := h
  injection e with e1 e2 e3
  subst e1 e2 e3
  have hlen : ((xs.take k).drop l).length = k - l := by simp; omega
  refine ⟨if cap = l then a else a.map (·.add (l * 1)), cap - l, by rw [hlen]; rfl, by rw [hlen]; omega, fun h0 => ?_⟩
  obtain ⟨b, off, rfl, h1, h2, hc⟩ := hx (by omega)
  rw [if_neg (by omega)]
  refine ⟨b, off + l, ?_, h1, h2, fun i hi => ?_⟩
  · simp only [Option.map_some, Nat.mul_one, Addr.add]
    split
    · rename_i e; subst e; simp
    · rfl
  · obtain ⟨cs, hcl, lie, r⟩ := hc (l + i) (by omega)
    refine ⟨cs, hcl, fun m hm => ?_, ?_⟩
    · have := lie m hm
      rw [show off + l + i * 1 + m = off + (l + i) * 1 + m by omega]
      exact this
    · rw [List.getElem_drop, List.getElem_take]; exact r
theorem run_cut {a : Option Addr} {n cap j : Nat} (h : j ≤ cap) : ∀ W : World, Sem.run Try.prog (Instr.sliceAt 37 (.slice a n cap) none (some (.int .i64 (j : Int))) none) W = .ok (sliced a 0 j cap 1) W := fun W => by
  simp [Instr.sliceAt, Instr.slice, run_underlying Try.underlying37, Instr.sliceBounds, run_sliceBound, sliced, Try.sizeOf2, Result.andThen, h]
theorem run_rest {a : Option Addr} {n cap j : Nat} (h : j ≤ n) : ∀ W : World, Sem.run Try.prog (Instr.sliceAt 37 (.slice a n cap) (some (.int .i64 (j : Int))) none none) W = .ok (sliced a j n cap 1) W := fun W => by
  simp [Instr.sliceAt, Instr.slice, run_underlying Try.underlying37, Instr.sliceBounds, run_sliceBound, sliced, Try.sizeOf2, Result.andThen, h]
end Go.Proofs.Ytdfomaclnopfeaa
