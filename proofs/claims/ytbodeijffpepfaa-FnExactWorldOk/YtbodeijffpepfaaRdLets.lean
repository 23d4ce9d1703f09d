/- Letters as far as a byte that is none. -/
import Derived.Test.YtbodeijffpepfaaNames
namespace Go.Proofs.Ytbodeijffpepfaa
theorem lets_get {l : List UInt8} (h : letsB l = true) : ∀ c ∈ l, letB (c.toNat : Int) = true := by
  induction l with
  | nil => intro c hc; simp at hc
  | cons d r ih =>
    intro c hc
    simp only [letsB, Bool.and_eq_true] at h
    rcases List.mem_cons.1 hc with rfl | hc
    · exact h.1
    · exact ih h.2 c hc
theorem name_lets {l : List UInt8} (h : nameB l = true) : letsB l = true := by simp [nameB] at h; exact h.2
theorem name_len {l : List UInt8} (h : nameB l = true) : 1 ≤ l.length ∧ l.length ≤ 6 := by simp [nameB] at h; omega
/-- letters as far as a byte that is none: one way alone -/
theorem lets_one {c d : UInt8} (hc : letB (c.toNat : Int) = false) (hd : letB (d.toNat : Int) = false) : ∀ (a b : List UInt8) (r q : List UInt8), letsB a = true → letsB b = true → a ++ c :: r = b ++ d :: q → a = b ∧ c = d ∧ r = q := by
  intro a
  induction a with
  | nil =>
    intro b r q _ hb h
    cases b with
    | nil => simp at h; exact ⟨rfl, h.1, h.2⟩
    | cons e b =>
      simp only [List.nil_append, List.cons_append, List.cons.injEq] at h
      have := lets_get hb e (by simp)
      rw [← h.1, hc] at this; cases this
  | cons e a ih =>
    intro b r q ha hb h
    cases b with
    | nil =>
      simp only [List.nil_append, List.cons_append, List.cons.injEq] at h
      have := lets_get ha e (by simp)
      rw [h.1, hd] at this; cases this
    | cons e' b =>
      simp only [List.cons_append, List.cons.injEq] at h
      obtain ⟨rfl, h⟩ := h
      simp only [letsB, Bool.and_eq_true] at ha hb
      obtain ⟨h1, h2, h3⟩ := ih b r q ha.2 hb.2 h
      exact ⟨by rw [h1], h2, h3⟩
theorem let62 : letB (((62 : UInt8).toNat : Nat) : Int) = false := by decide
theorem let47 : letB (((47 : UInt8).toNat : Nat) : Int) = false := by decide
theorem ba_of {s t : ByteArray} (h : s.data.toList = t.data.toList) : s = t := by
  cases s; cases t; simp at h; rw [h]
end Go.Proofs.Ytbodeijffpepfaa
