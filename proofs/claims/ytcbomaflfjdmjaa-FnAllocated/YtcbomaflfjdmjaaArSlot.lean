/- What slotCountOk and slotOk of the program return. -/
import Derived.Test.YtcbomaflfjdmjaaArPlain
namespace Go.Proofs.Ytcbomaflfjdmjaa
open Go.RowKit
theorem em_eq {s : ByteArray} (h : s.size = 0) : s = ⟨#[]⟩ := by
  obtain ⟨⟨l⟩⟩ := s
  have : l.length = 0 := h
  rw [List.eq_nil_of_length_eq_zero this]
theorem em_list {s : ByteArray} (h : ¬ s.size = 0) : ¬ s.toList = [] := by
  intro e
  rw [ByteArray.toList_eq] at e
  exact h (by have := congrArg List.length e; simpa using this)
theorem em_no {s : ByteArray} (h : ¬ s.size = 0) : (s.toList == []) = false := by simpa using em_list h
theorem em_ne {s : ByteArray} (h : ¬ s.size = 0) : (s.toList != []) = true := by simpa using em_list h
def slotB (x : SlotD) : Bool := decide (1 ≤ x.vGen) && decide (x.vGen ≤ 1000000) && wordB 10 x.vData && (x.vUsed || decide (x.vData.size = 0))
theorem slotB_iff {x : SlotD} : slotB x = true ↔ SlotP x := by simp [slotB, SlotP, and_assoc]
theorem slotB_no {x : SlotD} (h : slotB x = false) : ¬ SlotP x := fun q => by rw [slotB_iff.2 q] at h; cases h
theorem slotCountOk_any (n : Int) (w : World) : Calls Try.prog 46 #[.int .i64 n] w fun e w' => e = .returned (.bool (inB n 1 12)) ∧ w' = w := by
  by_cases h1 : 1 ≤ n
  · by_cases h2 : n ≤ 12
    · go_enter Try.func46, Try.ntmps46
      go_wp2_with fail
      go_ret
      exact ⟨ret_bool (by simp [inB, h1, h2]), rfl⟩
    · go_enter Try.func46, Try.ntmps46
      go_wp2_with fail
      go_ret
      exact ⟨ret_bool (by simp [inB, h1, h2]), rfl⟩
  · go_enter Try.func46, Try.ntmps46
    go_wp2_with fail
    go_ret
    exact ⟨ret_bool (by simp [inB]; omega), rfl⟩
set_option maxHeartbeats 800000 in
theorem slotOk_any {w : World} {lo : Nat} {cs : List Value} {x : SlotD} (hx : SlotAt w lo cs x) :
    Calls Try.prog 47 #[.agg cs.toArray] w fun e w' => e = .returned (.bool (slotB x)) ∧ Below w.heap.size w w' := by
  obtain ⟨rfl, rGen, rData, _⟩ := hx
  obtain ⟨G, U, D⟩ := x
  dsimp only at *
  have hb0 : Hid (Below w.heap.size w (w.alloc (.cells #[.int .i64 G, .bool U, .string D] 63))) := (Below.refl _ _).alloc (Nat.le_refl _) _
  have hD : Hid (D.size ≤ maxLen) := rData
  clear rGen rData
  by_cases h1 : 1 ≤ G
  · by_cases h2 : G ≤ 1000000
    · have H1 : Hid (slotB ⟨G, U, D⟩ = (wordB 10 D && (U || decide (D.size = 0)))) := by show _ = _; simp [slotB, h1, h2]
      go_enter Try.func47, Try.ntmps47
      go_wp2_with fail
      refine (wordsOk_any _ _ _ hD.out).mono ?_
      rintro e w1 ⟨rfl, rfl⟩
      cases hW : wordB 10 D with
      | false =>
        rw [hW] at H1
        go_wp2_with fail
        go_ret
        exact ⟨ret_bool (by rw [H1.out]; rfl), hb0.out⟩
      | true =>
        rw [hW] at H1
        cases U with
        | true =>
          go_wp2_with fail
          go_ret
          exact ⟨ret_bool (by rw [H1.out]; rfl), hb0.out⟩
        | false =>
          by_cases h : D.size = 0
          · have e := em_eq h
            subst e
            clear h
            go_wp2_with fail
            go_ret
            exact ⟨ret_bool (by rw [H1.out]; rfl), hb0.out⟩
          · have H : Hid _ := h
            have q := em_no h
            clear h
            go_wp2_with fail
            go_ret
            exact ⟨ret_bool (by rw [H1.out, decide_eq_false H.out]; rfl), hb0.out⟩
    · have H1 : Hid (slotB ⟨G, U, D⟩ = false) := by show _ = _; simp [slotB, h1, h2]
      go_enter Try.func47, Try.ntmps47
      go_wp2_with fail
      go_ret
      exact ⟨ret_bool H1.out.symm, hb0.out⟩
  · have H1 : Hid (slotB ⟨G, U, D⟩ = false) := by show _ = _; simp [slotB, h1]
    go_enter Try.func47, Try.ntmps47
    go_wp2_with fail
    go_ret
    exact ⟨ret_bool H1.out.symm, hb0.out⟩
end Go.Proofs.Ytcbomaflfjdmjaa
