/- What is stored is read, all else stays: plain facts. -/
import Derived.Test.YtcbomaflfjdmjaaArLawP
import Derived.Test.YtcbomaflfjdmjaaArDeref
namespace Go.Proofs.Ytcbomaflfjdmjaa
open Go.RowKit
theorem un_congr : ∀ (xs ys : List SlotD) (i : Nat), xs.map (·.vUsed) = ys.map (·.vUsed) → un xs i = un ys i := by
  intro xs
  induction xs with
  | nil => intro ys i h; cases ys with
    | nil => rfl
    | cons _ _ => cases h
  | cons x xs ih =>
    intro ys i h
    cases ys with
    | nil => cases h
    | cons y ys =>
      simp only [List.map_cons, List.cons.injEq] at h
      unfold un
      rw [h.1, ih ys (i + 1) h.2]
theorem hs_congr : ∀ (xs ys : List SlotD) (i : Nat), xs.map (fun s => (s.vUsed, s.vGen)) = ys.map (fun s => (s.vUsed, s.vGen)) → hs xs i = hs ys i := by
  intro xs
  induction xs with
  | nil => intro ys i h; cases ys with
    | nil => rfl
    | cons _ _ => cases h
  | cons x xs ih =>
    intro ys i h
    cases ys with
    | nil => cases h
    | cons y ys =>
      simp only [List.map_cons, List.cons.injEq, Prod.mk.injEq] at h
      unfold hs
      rw [h.1.1, h.1.2, ih ys (i + 1) h.2]
theorem set_self {α β : Type} (f : α → β) (xs : List α) (n : Nat) (q : n < xs.length) (a : α) (h : f a = f xs[n]) : (xs.set n a).map f = xs.map f := by
  apply List.ext_getElem
  · simp
  · intro i h1 h2
    simp only [List.getElem_map, List.getElem_set]
    split
    · rename_i e; subst e; exact h
    · rfl
theorem stored_open {x y : ArenaD} {hA hX : Int} {dt : ByteArray} (h : storedD x hA hX dt = (y, true)) : Live x hA hX ∧ wordB 10 dt = true ∧ ∃ q : hA.toNat < x.vSlots.length, y = ⟨x.vSlots.set hA.toNat ⟨x.vSlots[hA.toNat].vGen, x.vSlots[hA.toNat].vUsed, dt⟩, x.vFree⟩ := by
  unfold storedD at h
  split at h
  · rename_i hc
    simp only [Bool.and_eq_true] at hc
    have hl : Live x hA hX := by simpa [liveB] using hc.1
    obtain ⟨_, _, q, _⟩ := id hl
    rw [List.getElem?_eq_getElem q] at h
    simp only [Prod.mk.injEq, and_true] at h
    exact ⟨hl, hc.2, q, h.symm⟩
  · cases h
theorem stored_right {x y : ArenaD} {hA hX : Int} {dt : ByteArray} (h : storedD x hA hX dt = (y, true)) : RightI y := by
  obtain ⟨hl, hw, q, rfl⟩ := stored_open h
  obtain ⟨hr, h0, q2, hu, hg⟩ := hl
  obtain ⟨r1, r2, r3, r4, r5, r6⟩ := hr
  have hun : ∀ (k : Nat) (q1 : k < x.vSlots.length) (q3 : k < (x.vSlots.set hA.toNat ⟨x.vSlots[hA.toNat].vGen, x.vSlots[hA.toNat].vUsed, dt⟩).length), (x.vSlots.set hA.toNat ⟨x.vSlots[hA.toNat].vGen, x.vSlots[hA.toNat].vUsed, dt⟩)[k].vUsed = x.vSlots[k].vUsed := fun k q1 q3 => by
    rw [List.getElem_set]
    split
    · rename_i e; subst e; rfl
    · rfl
  refine ⟨by simpa using r1, by simpa using r2, by simpa using r3, fun i hi => ?_, fun i hi hj => ?_, ?_⟩
  · simp only [List.getElem_set]
    have hi' : i < x.vSlots.length := by simpa using hi
    split
    · rename_i e
      have := r4 hA.toNat q
      exact ⟨this.1, this.2.1, hw, Or.inl hu⟩
    · exact r4 i hi'
  · obtain ⟨f1, ⟨f2, f3⟩, f4⟩ := r5 i hi hj
    exact ⟨f1, ⟨by simpa using f2, by rw [hun _ f2]; exact f3⟩, f4⟩
  · show x.vFree.length = (un (x.vSlots.set _ _) 0).length
    rw [un_congr _ x.vSlots 0 (set_self (·.vUsed) x.vSlots _ q ⟨x.vSlots[hA.toNat].vGen, x.vSlots[hA.toNat].vUsed, dt⟩ rfl)]
    exact r6
theorem stored_handles {x y : ArenaD} {hA hX : Int} {dt : ByteArray} (h : storedD x hA hX dt = (y, true)) : handlesD y = handlesD x := by
  have hr := stored_right h
  obtain ⟨hl, hw, q, rfl⟩ := stored_open h
  rw [handles_of hr, handles_of hl.1]
  exact hs_congr _ _ 0 (set_self (fun s => (s.vUsed, s.vGen)) x.vSlots _ q ⟨x.vSlots[hA.toNat].vGen, x.vSlots[hA.toNat].vUsed, dt⟩ rfl)
theorem live_same {x y : ArenaD} (h : handlesD y = handlesD x) {a g : Int} (hl : Live x a g) : Live y a g := by
  rw [live_iff] at hl ⊢
  rw [h]; exact hl
theorem stored_deref {x y : ArenaD} {hA hX : Int} {dt : ByteArray} (h : storedD x hA hX dt = (y, true)) {a g : Int} (hl : Live x a g) : derefD y a g = ((if a = hA ∧ g = hX then dt else (derefD x a g).1), true) := by
  have hly := live_same (stored_handles h) hl
  obtain ⟨hlh, hw, q, rfl⟩ := stored_open h
  obtain ⟨_, a0, qa, ua, ga⟩ := id hl
  obtain ⟨_, h0, qh, uh, gh⟩ := id hlh
  have qy : a.toNat < (x.vSlots.set hA.toNat ⟨x.vSlots[hA.toNat].vGen, x.vSlots[hA.toNat].vUsed, dt⟩).length := by simpa using qa
  rw [derefD_yes (liveB_true hly) qy, derefD_yes (liveB_true hl) qa]
  simp only [List.getElem_set]
  by_cases e : hA.toNat = a.toNat
  · have ea : a = hA := by omega
    subst ea
    rw [if_pos rfl, if_pos ⟨rfl, by rw [← ga, ← gh]⟩]
  · rw [if_neg e, if_neg (fun e2 => e (by rw [e2.1]))]
end Go.Proofs.Ytcbomaflfjdmjaa
