/- Quiet operations, and those that may come up next, in short. -/
import Derived.WalkKit
import Derived.Deep.RegionHeld3
import Derived.Laws.Cover1
import Derived.Test.YtdnembnlomnceaaGreatSeq
namespace Go.Proofs.YtdnembnlomnceaaGreat
open Go.RowKit
theorem take_lit {P : Program} {md : Region.Mode} {ops : Array Oper} {Q : Exit → Act → World → Prop} {S : World → Prop} {i d : Nat} {oi : Oper} {v : Value} {fuel : Nat} {listed : Array Bool} {l : List Value} {ds : List Deferred} {w : World} (hi : ops[i]? = some oi) (hd : oi.dst = some d)
 (hs : Region.noSelect ops = true) (hf : Region.free md ops listed i = true) (hr : (Region.ready md ops listed).contains i = true)
 (hQ : ∀ c a w, Q (.panic c) (a.put (some d) v) w → Q (.panic c) a w) (hy : YieldsIf P ops S oi v { tmps := l.toArray, defers := ds }) (hS : S w)
 (h : wpAnyH P md ops Q S fuel (listed.setIfInBounds i true) { tmps := (l.set d v).toArray, defers := ds } w) : wpAnyH P md ops Q S (fuel + 1) listed { tmps := l.toArray, defers := ds } w :=
 wpAnyH_take hi hs hf hr (by rw [hd]; exact hQ) hy hS (by rw [hd]; simpa [Act.put] using h)
theorem sz {α : Type} {a b : α} {as : List α} : (a :: as).set 0 b = b :: as := rfl
theorem ss {α : Type} {a b : α} {as : List α} {n : Nat} : (a :: as).set (n + 1) b = a :: as.set n b := rfl
/-- an operation that yields v, taken: all that is closed is paid by itself -/
theorem tq {P : Program} {md : Region.Mode} {ops : Array Oper} {Q : Exit → Act → World → Prop} {S : World → Prop} {i d : Nat} {oi : Oper} {v : Value} {fuel : Nat} {listed : Array Bool} {l : List Value} {ds : List Deferred} {w : World}
 (h : wpAnyH P md ops Q S fuel (listed.setIfInBounds i true) { tmps := (l.set d v).toArray, defers := ds } w) (hi : ops[i]? = some oi := by rfl) (hd : oi.dst = some d := by rfl)
 (hs : Region.noSelect ops = true := by kernel_rfl) (hf : Region.free md ops listed i = true := by kernel_rfl) (hr : (Region.ready md ops listed).contains i = true := by kernel_rfl)
 (hQ : ∀ c a w, Q (.panic c) (a.put (some d) v) w → Q (.panic c) a w := by exact fun _ _ _ h => h) (hw : Region.wanted oi (yielded ops ({ tmps := l.toArray, defers := ds } : Act).tmps) = true := by rfl)
 (hy : ∀ w, S w → (execOp ({ tmps := l.toArray, defers := ds } : Act).eval oi).run P w = .ok (.value v) w := by (intro w hSw; (try dsimp only at hSw); first | (go_simp; done) | (go_simp; with_reducible rfl))) (hS : S w := by assumption) : wpAnyH P md ops Q S (fuel + 1) listed { tmps := l.toArray, defers := ds } w :=
 take_lit hi hd hs hf hr hQ (Or.inl ⟨hw, hy⟩) hS h
/-- one that is not wanted, taken -/
theorem tn {P : Program} {md : Region.Mode} {ops : Array Oper} {Q : Exit → Act → World → Prop} {S : World → Prop} {i d : Nat} {oi : Oper} {fuel : Nat} {listed : Array Bool} {l : List Value} {ds : List Deferred} {w : World}
 (h : wpAnyH P md ops Q S fuel (listed.setIfInBounds i true) { tmps := (l.set d undef).toArray, defers := ds } w) (hi : ops[i]? = some oi := by rfl) (hd : oi.dst = some d := by rfl)
 (hs : Region.noSelect ops = true := by kernel_rfl) (hf : Region.free md ops listed i = true := by kernel_rfl) (hr : (Region.ready md ops listed).contains i = true := by kernel_rfl)
 (hQ : ∀ c a w, Q (.panic c) (a.put (some d) undef) w → Q (.panic c) a w := by exact fun _ _ _ h => h) (hw : Region.wanted oi (yielded ops ({ tmps := l.toArray, defers := ds } : Act).tmps) = false := by rfl) (hS : S w := by assumption) : wpAnyH P md ops Q S (fuel + 1) listed { tmps := l.toArray, defers := ds } w :=
 take_lit hi hd hs hf hr hQ (Or.inr ⟨hw, rfl⟩) hS h
/-- a cell behind a call that keeps what was there -/
theorem cell_on {W w1 : World} {a : Addr} {v : Value} (hb : Below W.heap.size W w1) (h : W.cell? a = some v) : w1.cell? a = some v := by
 rw [hb.cell (addr_of_cell h).2]; exact h
end Go.Proofs.YtdnembnlomnceaaGreat
namespace Go.Proofs.YtdnembnlomnceaaGreat
open Go.RowKit Go.Deep
/-- tq, the frame laid out anew -/
theorem tk (i : Nat) {P : Program} {md : Region.Mode} {ops : Array Oper} {Q : Exit → Act → World → Prop} {S : World → Prop} {d : Nat} {oi : Oper} {v : Value} {fuel : Nat} {listed : Array Bool} {l l' : List Value} {ds : List Deferred} {w : World}
 (h : wpAnyH P md ops Q S fuel (listed.setIfInBounds i true) { tmps := l'.toArray, defers := ds } w) (hi : ops[i]? = some oi := by rfl) (hd : oi.dst = some d := by rfl)
 (hs : Region.noSelect ops = true := by kernel_rfl) (hf : Region.free md ops listed i = true := by kernel_rfl) (hr : (Region.ready md ops listed).contains i = true := by kernel_rfl)
 (hQ : ∀ c a w, Q (.panic c) (a.put (some d) v) w → Q (.panic c) a w := by exact fun _ _ _ h => h) (hw : Region.wanted oi (yielded ops ({ tmps := l.toArray, defers := ds } : Act).tmps) = true := by rfl)
 (hy : ∀ w, S w → (execOp ({ tmps := l.toArray, defers := ds } : Act).eval oi).run P w = .ok (.value v) w := by (intro w hSw; (try dsimp only at hSw); first | (go_simp; done) | (go_simp; with_reducible rfl))) (hS : S w := by assumption) (hl : l.set d v = l' := by first | (simp only [sz, ss]; done) | (simp only [sz, ss]; rfl)) : wpAnyH P md ops Q S (fuel + 1) listed { tmps := l.toArray, defers := ds } w :=
 take_lit hi hd hs hf hr hQ (Or.inl ⟨hw, hy⟩) hS (hl ▸ h)
/-- tn, the frame laid out anew -/
theorem tu (i : Nat) {P : Program} {md : Region.Mode} {ops : Array Oper} {Q : Exit → Act → World → Prop} {S : World → Prop} {d : Nat} {oi : Oper} {fuel : Nat} {listed : Array Bool} {l l' : List Value} {ds : List Deferred} {w : World}
 (h : wpAnyH P md ops Q S fuel (listed.setIfInBounds i true) { tmps := l'.toArray, defers := ds } w) (hi : ops[i]? = some oi := by rfl) (hd : oi.dst = some d := by rfl)
 (hs : Region.noSelect ops = true := by kernel_rfl) (hf : Region.free md ops listed i = true := by kernel_rfl) (hr : (Region.ready md ops listed).contains i = true := by kernel_rfl)
 (hQ : ∀ c a w, Q (.panic c) (a.put (some d) undef) w → Q (.panic c) a w := by exact fun _ _ _ h => h) (hw : Region.wanted oi (yielded ops ({ tmps := l.toArray, defers := ds } : Act).tmps) = false := by rfl) (hS : S w := by assumption) (hl : l.set d undef = l' := by first | (simp only [sz, ss]; done) | (simp only [sz, ss]; rfl)) : wpAnyH P md ops Q S (fuel + 1) listed { tmps := l.toArray, defers := ds } w :=
 take_lit hi hd hs hf hr hQ (Or.inr ⟨hw, rfl⟩) hS (hl ▸ h)
/-- 1 may come up next -/
theorem rd1 (i : Nat) {P : Program} {md : Region.Mode} {ops : Array Oper} {Q : Exit → Act → World → Prop} {S : World → Prop} {fuel : Nat} {listed : Array Bool} {a : Act} {w : World} {oi : Oper} (hi : ∀ K' : Act → World → Prop, Shut (∀ a w, S w → (S w → wpAnyH P md ops Q S fuel (listed.setIfInBounds i true) a w) → K' a w) → if Region.wanted oi (yielded ops a.tmps) = true then Oper.wp P oi a w K' Q else K' (a.put oi.dst undef) w) (hr : Region.ready md ops listed = [i] := by kernel_rfl) (hi' : ops[i]? = some oi := by rfl) : wpAnyH P md ops Q S (fuel + 1) listed a w :=
 wpAnyH_ready hr (List.cons_ne_nil _ _) (AllReadyH.cons hi' hi AllReadyH.nil)
/-- 2 may come up next -/
theorem rd2 (i j : Nat) {P : Program} {md : Region.Mode} {ops : Array Oper} {Q : Exit → Act → World → Prop} {S : World → Prop} {fuel : Nat} {listed : Array Bool} {a : Act} {w : World} {oi oj : Oper} (hi : ∀ K' : Act → World → Prop, Shut (∀ a w, S w → (S w → wpAnyH P md ops Q S fuel (listed.setIfInBounds i true) a w) → K' a w) → if Region.wanted oi (yielded ops a.tmps) = true then Oper.wp P oi a w K' Q else K' (a.put oi.dst undef) w) (hj : ∀ K' : Act → World → Prop, Shut (∀ a w, S w → (S w → wpAnyH P md ops Q S fuel (listed.setIfInBounds j true) a w) → K' a w) → if Region.wanted oj (yielded ops a.tmps) = true then Oper.wp P oj a w K' Q else K' (a.put oj.dst undef) w) (hr : Region.ready md ops listed = [i, j] := by kernel_rfl) (hi' : ops[i]? = some oi := by rfl) (hj' : ops[j]? = some oj := by rfl) : wpAnyH P md ops Q S (fuel + 1) listed a w :=
 wpAnyH_ready hr (List.cons_ne_nil _ _) (AllReadyH.cons hi' hi (AllReadyH.cons hj' hj AllReadyH.nil))
/-- 3 may come up next -/
theorem rd3 (i j k : Nat) {P : Program} {md : Region.Mode} {ops : Array Oper} {Q : Exit → Act → World → Prop} {S : World → Prop} {fuel : Nat} {listed : Array Bool} {a : Act} {w : World} {oi oj ok : Oper} (hi : ∀ K' : Act → World → Prop, Shut (∀ a w, S w → (S w → wpAnyH P md ops Q S fuel (listed.setIfInBounds i true) a w) → K' a w) → if Region.wanted oi (yielded ops a.tmps) = true then Oper.wp P oi a w K' Q else K' (a.put oi.dst undef) w) (hj : ∀ K' : Act → World → Prop, Shut (∀ a w, S w → (S w → wpAnyH P md ops Q S fuel (listed.setIfInBounds j true) a w) → K' a w) → if Region.wanted oj (yielded ops a.tmps) = true then Oper.wp P oj a w K' Q else K' (a.put oj.dst undef) w) (hk : ∀ K' : Act → World → Prop, Shut (∀ a w, S w → (S w → wpAnyH P md ops Q S fuel (listed.setIfInBounds k true) a w) → K' a w) → if Region.wanted ok (yielded ops a.tmps) = true then Oper.wp P ok a w K' Q else K' (a.put ok.dst undef) w) (hr : Region.ready md ops listed = [i, j, k] := by kernel_rfl) (hi' : ops[i]? = some oi := by rfl) (hj' : ops[j]? = some oj := by rfl) (hk' : ops[k]? = some ok := by rfl) : wpAnyH P md ops Q S (fuel + 1) listed a w :=
 wpAnyH_ready hr (List.cons_ne_nil _ _) (AllReadyH.cons hi' hi (AllReadyH.cons hj' hj (AllReadyH.cons hk' hk AllReadyH.nil)))
/-- 4 may come up next -/
theorem rd4 (i j k m : Nat) {P : Program} {md : Region.Mode} {ops : Array Oper} {Q : Exit → Act → World → Prop} {S : World → Prop} {fuel : Nat} {listed : Array Bool} {a : Act} {w : World} {oi oj ok om : Oper} (hi : ∀ K' : Act → World → Prop, Shut (∀ a w, S w → (S w → wpAnyH P md ops Q S fuel (listed.setIfInBounds i true) a w) → K' a w) → if Region.wanted oi (yielded ops a.tmps) = true then Oper.wp P oi a w K' Q else K' (a.put oi.dst undef) w) (hj : ∀ K' : Act → World → Prop, Shut (∀ a w, S w → (S w → wpAnyH P md ops Q S fuel (listed.setIfInBounds j true) a w) → K' a w) → if Region.wanted oj (yielded ops a.tmps) = true then Oper.wp P oj a w K' Q else K' (a.put oj.dst undef) w) (hk : ∀ K' : Act → World → Prop, Shut (∀ a w, S w → (S w → wpAnyH P md ops Q S fuel (listed.setIfInBounds k true) a w) → K' a w) → if Region.wanted ok (yielded ops a.tmps) = true then Oper.wp P ok a w K' Q else K' (a.put ok.dst undef) w) (hm : ∀ K' : Act → World → Prop, Shut (∀ a w, S w → (S w → wpAnyH P md ops Q S fuel (listed.setIfInBounds m true) a w) → K' a w) → if Region.wanted om (yielded ops a.tmps) = true then Oper.wp P om a w K' Q else K' (a.put om.dst undef) w) (hr : Region.ready md ops listed = [i, j, k, m] := by kernel_rfl) (hi' : ops[i]? = some oi := by rfl) (hj' : ops[j]? = some oj := by rfl) (hk' : ops[k]? = some ok := by rfl) (hm' : ops[m]? = some om := by rfl) : wpAnyH P md ops Q S (fuel + 1) listed a w :=
 wpAnyH_ready hr (List.cons_ne_nil _ _) (AllReadyH.cons hi' hi (AllReadyH.cons hj' hj (AllReadyH.cons hk' hk (AllReadyH.cons hm' hm AllReadyH.nil))))
end Go.Proofs.YtdnembnlomnceaaGreat
