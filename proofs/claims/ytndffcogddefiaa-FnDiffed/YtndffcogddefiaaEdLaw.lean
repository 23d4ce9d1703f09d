/- An edit in memory, and one that owns its memory. -/
import Derived.Test.YtndffcogddefiaaEdRec
import Derived.Test.YtndffcogddefiaaTreeO
namespace Go.Proofs.Ytndffcogddefiaa
open Go.RowKit
/-- an edit lies in memory -/
def EditL (n : Nat) (w : World) (lo : Nat) (cs : List Value) (x : EditD) : Prop :=
  ∃ (kp kk : Value), cs = [.int .i64 x.vKind, kp, .string x.vTag, .string (strT x.vTree), kk] ∧ InI x.vKind ∧ SeqAt 1 IntAt w lo kp x.vPath ∧ x.vTag.size ≤ maxLen ∧ TreeL n w lo [.string (strT x.vTree), kk] x.vTree
/-- an edit owns its memory: these blocks -/
def EditO (n : Nat) (w : World) (cs : List Value) (x : EditD) (fs : List Nat) : Prop :=
  ∃ (kp kk : Value) (fp ft : List Nat), cs = [.int .i64 x.vKind, kp, .string x.vTag, .string (strT x.vTree), kk] ∧ InI x.vKind ∧ SeqOwn 1 IntOwn w kp x.vPath fp ∧ x.vTag.size ≤ maxLen ∧ TreeO n w [.string (strT x.vTree), kk] x.vTree ft ∧ fs = fp ++ ft ∧ fs.Nodup
theorem EditL_stays (n : Nat) : Stays (EditL n) := by
  intro w w' lo lo' cs x q h
  obtain ⟨kp, kk, e, h1, h2, h3, h4⟩ := h
  exact ⟨kp, kk, e, h1, h2.keep intAt_stays q, h3, TreeL_stays n _ _ _ _ _ _ q h4⟩
theorem EditL.below {n : Nat} {w w' : World} {lo : Nat} {cs : List Value} {x : EditD} (h : EditL n w lo cs x) (hb : Below w.heap.size w w') : EditL n w' lo cs x := EditL_stays n _ _ _ lo _ _ (.of_below hb) h
theorem EditO_stays (n : Nat) : OwnStays (EditO n) := by
  intro w w' cs x fs q h
  obtain ⟨kp, kk, fp, ft, e, h1, h2, h3, h4, rfl, h5⟩ := h
  exact ⟨kp, kk, fp, ft, e, h1, h2.stays intOwn_stays (fun b hb => q b (List.mem_append.2 (Or.inl hb))), h3, TreeO_stays n _ _ _ _ _ (fun b hb => q b (List.mem_append.2 (Or.inr hb))) h4, rfl, h5⟩
theorem EditO_lt (n : Nat) : OwnLt (EditO n) := by
  intro w cs x fs h b hb
  obtain ⟨kp, kk, fp, ft, e, h1, h2, h3, h4, rfl, h5⟩ := h
  rcases List.mem_append.1 hb with q | q
  · exact h2.lt intOwn_lt b q
  · exact TreeO_lt n _ _ _ _ h4 b q
theorem EditO_at {lo n : Nat} {w : World} {cs : List Value} {x : EditD} {fs : List Nat} (h : EditO n w cs x fs) (hlo : ∀ b ∈ fs, lo ≤ b) : EditL n w lo cs x := by
  obtain ⟨kp, kk, fp, ft, e, h1, h2, h3, h4, rfl, h5⟩ := h
  exact ⟨kp, kk, e, h1, h2.at intOwn_at (fun b hb => hlo b (List.mem_append.2 (Or.inl hb))), h3, TreeO_at n _ _ _ _ h4 (fun b hb => hlo b (List.mem_append.2 (Or.inr hb)))⟩
theorem EditO_nodup {n : Nat} {w : World} {cs : List Value} {x : EditD} {fs : List Nat} (h : EditO n w cs x fs) : fs.Nodup := by
  obtain ⟨_, _, _, _, _, _, _, _, _, _, h5⟩ := h; exact h5
theorem EditO_mono {n m : Nat} (hnm : n ≤ m) {w : World} {cs : List Value} {x : EditD} {fs : List Nat} (h : EditO n w cs x fs) : EditO m w cs x fs := by
  obtain ⟨kp, kk, fp, ft, e, h1, h2, h3, h4, h5⟩ := h
  exact ⟨kp, kk, fp, ft, e, h1, h2, h3, TreeO_mono hnm h4, h5⟩
theorem EditL.form {n : Nat} {w : World} {lo : Nat} {cs : List Value} {x : EditD} (h : EditL n w lo cs x) : ∃ ap cp a c, cs = [.int .i64 x.vKind, .slice ap x.vPath.length cp, .string x.vTag, .string (strT x.vTree), .slice a (kidsOf x.vTree).length c] ∧ SeqAt 1 IntAt w lo (.slice ap x.vPath.length cp) x.vPath ∧ x.vTag.size ≤ maxLen ∧ TreeL n w lo [.string (strT x.vTree), .slice a (kidsOf x.vTree).length c] x.vTree := by
  obtain ⟨kp, kk, rfl, h1, h2, h3, h4⟩ := h
  obtain ⟨ap, cp, rfl⟩ := h2.form
  obtain ⟨k1, e1, hs, _⟩ := h4.opened
  obtain ⟨a, c, rfl⟩ := hs.form
  simp only [List.cons.injEq, and_true, true_and] at e1
  subst e1
  exact ⟨ap, cp, a, c, rfl, h2, h3, h4⟩
theorem EditL.at {n : Nat} {w : World} {lo : Nat} {cs : List Value} {x : EditD} (h : EditL n w lo cs x) : EditAt n w lo cs x := by
  obtain ⟨kp, kk, rfl, h1, h2, h3, h4⟩ := h
  exact ⟨kp, _, kk, rfl, h1, h2, h3, TreeL.at n _ _ _ h4⟩
end Go.Proofs.Ytndffcogddefiaa
