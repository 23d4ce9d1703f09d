/- What is allocated is there, all else stays: plain facts. -/
import Derived.Test.YtcbomaflfjdmjaaArStoreP
namespace Go.Proofs.Ytcbomaflfjdmjaa
open Go.RowKit
theorem un_count : ∀ (xs : List SlotD) (i : Nat), (un xs i).length = xs.countP (fun s => !s.vUsed) := by
  intro xs
  induction xs with
  | nil => intro i; rfl
  | cons x xs ih => intro i; cases hu : x.vUsed <;> simp [un, hu, ih]
theorem hs_count : ∀ (xs : List SlotD) (i : Nat), (hs xs i).length = xs.countP (fun s => s.vUsed) := by
  intro xs
  induction xs with
  | nil => intro i; rfl
  | cons x xs ih => intro i; cases hu : x.vUsed <;> simp [hs, hu, ih]
theorem count_set {p : SlotD → Bool} : ∀ (xs : List SlotD) (n : Nat) (q : n < xs.length) (a : SlotD), (xs.set n a).countP p + (if p xs[n] then 1 else 0) = xs.countP p + (if p a then 1 else 0) := by
  intro xs
  induction xs with
  | nil => intro n q; simp at q
  | cons x xs ih =>
    intro n q a
    cases n with
    | zero => simp only [List.set_cons_zero, List.countP_cons, List.getElem_cons_zero]; omega
    | succ n =>
      have := ih n (by simpa using q) a
      simp only [List.set_cons_succ, List.countP_cons, List.getElem_cons_succ]
      omega
theorem alloc_open {x y : ArenaD} {dt : ByteArray} {p s : Int} (h : allocD x dt = (y, p, s, true)) : RightI x ∧ wordB 10 dt = true ∧ ∃ rest, x.vFree = p :: rest ∧ 0 ≤ p ∧ ∃ q : p.toNat < x.vSlots.length, x.vSlots[p.toNat].vUsed = false ∧ s = x.vSlots[p.toNat].vGen ∧ y = ⟨x.vSlots.set p.toNat ⟨x.vSlots[p.toNat].vGen, true, dt⟩, rest⟩ := by
  unfold allocD at h
  split at h
  · rename_i hc
    simp only [Bool.and_eq_true] at hc
    have hr := rightB_iff.1 hc.1
    refine ⟨hr, hc.2, ?_⟩
    cases hf : x.vFree with
    | nil => rw [hf] at h; cases h
    | cons p' rest =>
      rw [hf] at h
      dsimp only at h
      have hp := hr.2.2.2.2.1 0 (by rw [hf]; simp) (by rw [hf]; simp)
      simp only [hf, List.getElem_cons_zero] at hp
      obtain ⟨h0, ⟨q, hu⟩, _⟩ := hp
      rw [List.getElem?_eq_getElem q] at h
      simp only [Prod.mk.injEq, and_true] at h
      obtain ⟨rfl, rfl, rfl⟩ := h
      exact ⟨rest, rfl, h0, q, hu, rfl, rfl⟩
  · cases h
theorem alloc_right {x y : ArenaD} {dt : ByteArray} {p s : Int} (h : allocD x dt = (y, p, s, true)) : RightI y := by
  obtain ⟨hr, hw, rest, hf, h0, q, hu, rfl, rfl⟩ := alloc_open h
  obtain ⟨r1, r2, r3, r4, r5, r6⟩ := hr
  have hcnt := count_set (p := fun s => !s.vUsed) x.vSlots p.toNat q ⟨x.vSlots[p.toNat].vGen, true, dt⟩
  rw [hu] at hcnt
  simp only [Bool.not_false, if_true, Bool.not_true, Bool.false_eq_true, if_false] at hcnt
  rw [un_count, hf, List.length_cons] at r6
  refine ⟨by simpa using r1, by simpa using r2, ?_, fun i hi => ?_, fun i hi hj => ?_, ?_⟩
  · show rest.length ≤ (x.vSlots.set _ _).length
    rw [hf, List.length_cons] at r3
    rw [List.length_set]; omega
  · simp only [List.getElem_set]
    have hi' : i < x.vSlots.length := by simpa using hi
    split
    · have := r4 p.toNat q
      exact ⟨this.1, this.2.1, hw, Or.inl rfl⟩
    · exact r4 i hi'
  · have hi2 : i < rest.length := hi
    have f := r5 (i + 1) (by rw [hf]; simpa using hi2) (by rw [hf]; simpa using hi2)
    simp only [hf, List.getElem_cons_succ, List.take_succ_cons] at f
    obtain ⟨f1, ⟨f2, f3⟩, f4⟩ := f
    have hne : p ≠ rest[i] ∧ hasB (rest.take i) rest[i] = false := by
      have := f4
      simp [hasB] at this ⊢
      exact ⟨fun e => this.1 (by first | exact e | exact e.symm), this.2⟩
    refine ⟨f1, ⟨by simpa using f2, ?_⟩, hne.2⟩
    have hne2 : p.toNat ≠ rest[i].toNat := by have := hne.1; omega
    simp only [List.getElem_set_ne hne2]
    exact f3
  · show rest.length = (un (x.vSlots.set _ _) 0).length
    rw [un_count]
    omega
theorem alloc_count {x y : ArenaD} {dt : ByteArray} {p s : Int} (h : allocD x dt = (y, p, s, true)) : (handlesD y).length = (handlesD x).length + 1 := by
  have hy := alloc_right h
  obtain ⟨hr, hw, rest, hf, h0, q, hu, rfl, rfl⟩ := alloc_open h
  rw [handles_of hy, handles_of hr, hs_count, hs_count]
  have hcnt := count_set (p := fun s => s.vUsed) x.vSlots p.toNat q ⟨x.vSlots[p.toNat].vGen, true, dt⟩
  rw [hu] at hcnt
  simpa using hcnt
theorem alloc_live {x y : ArenaD} {dt : ByteArray} {p s : Int} (h : allocD x dt = (y, p, s, true)) : derefD y p s = (dt, true) ∧ ¬ Live x p s := by
  have hy := alloc_right h
  obtain ⟨hr, hw, rest, hf, h0, q, hu, rfl, rfl⟩ := alloc_open h
  constructor
  · have q2 : p.toNat < (x.vSlots.set p.toNat ⟨x.vSlots[p.toNat].vGen, true, dt⟩).length := by simpa using q
    have hl : Live ⟨x.vSlots.set p.toNat ⟨x.vSlots[p.toNat].vGen, true, dt⟩, rest⟩ p x.vSlots[p.toNat].vGen := ⟨hy, h0, q2, by simp, by simp⟩
    rw [derefD_yes (liveB_true hl) q2]
    simp
  · rintro ⟨_, _, q3, hu3, _⟩
    rw [hu] at hu3; cases hu3
theorem alloc_deref {x y : ArenaD} {dt : ByteArray} {p s : Int} (h : allocD x dt = (y, p, s, true)) {a g : Int} (hl : Live x a g) : derefD y a g = ((derefD x a g).1, true) := by
  have hy := alloc_right h
  obtain ⟨hr, hw, rest, hf, h0, q, hu, rfl, rfl⟩ := alloc_open h
  obtain ⟨_, a0, qa, ua, ga⟩ := id hl
  have hne : p.toNat ≠ a.toNat := fun e => by
    have : x.vSlots[p.toNat].vUsed = x.vSlots[a.toNat].vUsed := by simp only [e]
    rw [hu, ua] at this; cases this
  have q2 : a.toNat < (x.vSlots.set p.toNat ⟨x.vSlots[p.toNat].vGen, true, dt⟩).length := by simpa using qa
  have hly : Live ⟨x.vSlots.set p.toNat ⟨x.vSlots[p.toNat].vGen, true, dt⟩, rest⟩ a g := ⟨hy, a0, q2, by simp only [List.getElem_set_ne hne]; exact ua, by simp only [List.getElem_set_ne hne]; exact ga⟩
  rw [derefD_yes (liveB_true hly) q2, derefD_yes (liveB_true hl) qa]
  simp only [List.getElem_set_ne hne]
end Go.Proofs.Ytcbomaflfjdmjaa
