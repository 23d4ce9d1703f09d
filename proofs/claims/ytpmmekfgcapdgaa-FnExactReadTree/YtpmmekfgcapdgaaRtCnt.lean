/- How many marks what is read takes. -/
import Derived.Test.YtpmmekfgcapdgaaRtSpecTop
namespace Go.Proofs.Ytpmmekfgcapdgaa
open Go.RowKit Go.Deep
theorem cntL_nil (f : TD → Nat) : cntL f [] = 0 := by simp [cntL, pos]
theorem cntL_cons (f : TD → Nat) (k : TD) (ks : List TD) : cntL f (k :: ks) = f k + cntL f ks := by simp [cntL, pos]
theorem gdK_cnt {f : TD → Nat → List UInt8 → List UInt8 → Prop} {g : TD → Nat} (hf : ∀ x c l r, f x c l r → g x ≤ c) : ∀ (ks : List TD) (c : Nat) (l r : List UInt8), GdK f ks c l r → cntL g ks ≤ c := by
  intro ks
  induction ks with
  | nil => intro c l r h; rw [cntL_nil]; omega
  | cons k ks ih =>
    intro c l r h
    obtain ⟨c1, c2, m, rfl, h2, h3⟩ := h
    have := hf _ _ _ _ h2
    have := ih _ _ _ h3
    rw [cntL_cons]; omega
theorem gd_cnt : ∀ (L n : Nat) (x : TD) (c : Nat) (l r : List UInt8), Gd n x c l r → cntTree L x ≤ c ∧ cntL (cntTree L) (kidsOf x) ≤ c := by
  intro L
  induction L with
  | zero =>
    intro n x c l r h
    refine ⟨Nat.zero_le _, ?_⟩
    cases n with
    | zero => exact h.elim
    | succ n =>
      obtain ⟨s, ks, m, c', rfl, _, rfl, _, h5⟩ := h
      rw [mkT_kids]
      exact Nat.le_succ_of_le (gdK_cnt (fun _ _ _ _ _ => Nat.zero_le _) _ _ _ _ h5)
  | succ L ih =>
    intro n x c l r h
    cases n with
    | zero => exact h.elim
    | succ n =>
      obtain ⟨s, ks, m, c', rfl, _, rfl, _, h5⟩ := h
      refine ⟨?_, ?_⟩
      · have := gdK_cnt (fun x c l r h => (ih n x c l r h).1) _ _ _ _ h5
        show 1 + cntL (cntTree L) (kidsOf (mkT s ks)) ≤ _
        rw [mkT_kids]; omega
      · rw [mkT_kids]
        have : ∀ x c l r, Gd n x c l r → cntTree (L + 1) x ≤ c := fun x c l r h => by
          cases n with
          | zero => exact h.elim
          | succ n =>
            have := (ih (n + 1) x c l r h).2
            obtain ⟨s, ks, m, c', rfl, _, rfl, _, h5⟩ := h
            have := gdK_cnt (fun x c l r h => (ih n x c l r h).1) _ _ _ _ h5
            show 1 + cntL (cntTree L) (kidsOf (mkT s ks)) ≤ _
            rw [mkT_kids]; omega
        exact Nat.le_succ_of_le (gdK_cnt this _ _ _ _ h5)
theorem reads_cnt {s : ByteArray} {x : TD} {b : Bool} (h : ReadsT s x b) (L : Nat) : (1 : Int) + (cntL (cntTree L) (kidsOf x) : Nat) ≤ 4611686018427387904 := by
  rcases h with ⟨_, _, c, h1, h2⟩ | ⟨_, rfl, _⟩
  · have := (gd_cnt L _ _ _ _ _ h1).2; omega
  · show (1 : Int) + ((cntL (cntTree L) [] : Nat) : Int) ≤ _
    rw [cntL_nil]; omega
end Go.Proofs.Ytpmmekfgcapdgaa
