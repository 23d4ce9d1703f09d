/- Small functions that the handles' chapter calls, walked: words, numbers within bounds, a number in a list. -/
import Derived.Test.YtcbomaflfjdmjaaArRecs
import Derived.Test.YtcbomaflfjdmjaaTakeLit
import Derived.WalkKit
namespace Go.Proofs.Ytcbomaflfjdmjaa
open Go.RowKit
theorem ret_bool {a b : Bool} (h : a = b) : Ending.returned (.bool a) = .returned (.bool b) := by rw [h]
theorem take_snoc (s : ByteArray) (k : Nat) (h : k < s.size) : s.data.toList.take (k + 1) = s.data.toList.take k ++ [s[k]] := by
  rw [List.take_succ_eq_append_getElem (by simpa using h)]; rfl
/-- a byte from 32 to 126 -/
def plainC (c : Int) : Bool := decide (32 ≤ c) && decide (c ≤ 126)
def plainL : List UInt8 → Bool
  | [] => true
  | c :: r => plainC (c.toNat : Int) && plainL r
theorem plainL_append (a b : List UInt8) : plainL (a ++ b) = (plainL a && plainL b) := by
  induction a with
  | nil => simp [plainL]
  | cons c r ih => simp [plainL, ih, Bool.and_assoc]
theorem plainL_snoc (s : ByteArray) (k : Nat) (h : k < s.size) : plainL (s.data.toList.take (k + 1)) = (plainL (s.data.toList.take k) && plainC (s[k].toNat : Int)) := by
  rw [take_snoc s k h, plainL_append]; simp [plainL]
theorem plainL_take_false (l : List UInt8) (k : Nat) (h : plainL (l.take k) = false) : plainL l = false := by
  have : l = l.take k ++ l.drop k := (List.take_append_drop k l).symm
  rw [this, plainL_append, h]; rfl
theorem plainC_low (c : Int) (h1 : c < 32) : plainC c = false := by simp [plainC]; omega
theorem plainC_high (c : Int) (h1 : 126 < c) : plainC c = false := by simp [plainC]; omega
theorem plainC_true (c : Int) (h1 : 32 ≤ c) (h2 : c ≤ 126) : plainC c = true := by simp [plainC, h1, h2]
/-- at most so many such bytes -/
def wordB (most : Int) (s : ByteArray) : Bool := decide ((s.size : Int) ≤ most) && plainL s.data.toList
/-- where the first one with this number stands; -1: nowhere -/
def findI {α : Type} (f : α → Int) : List α → Int → Nat → Int
  | [], _, _ => -1
  | x :: xs, id, j => if f x = id then (j : Int) else findI f xs id (j + 1)
theorem drop_cons {α : Type} (xs : List α) (j : Nat) (h : j < xs.length) : xs.drop j = xs[j] :: xs.drop (j + 1) := List.drop_eq_getElem_cons h
theorem findI_hit {α : Type} {f : α → Int} {xs : List α} {id : Int} {j : Nat} (h : j < xs.length) (e : f xs[j] = id) : findI f (xs.drop j) id j = (j : Int) := by
  rw [drop_cons xs j h]; simp [findI, e]
theorem findI_miss {α : Type} {f : α → Int} {xs : List α} {id : Int} {j : Nat} (h : j < xs.length) (e : ¬ f xs[j] = id) : findI f (xs.drop j) id j = findI f (xs.drop (j + 1)) id (j + 1) := by
  rw [drop_cons xs j h]; simp [findI, e]
theorem findI_end {α : Type} {f : α → Int} {xs : List α} {id : Int} {j : Nat} (h : ¬ j < xs.length) : findI f (xs.drop j) id j = -1 := by
  rw [List.drop_of_length_le (by omega)]; rfl
def hasB : List Int → Int → Bool
  | [], _ => false
  | x :: xs, id => decide (x = id) || hasB xs id
theorem hasB_hit {xs : List Int} {id : Int} {j : Nat} (h : j < xs.length) (e : xs[j] = id) : hasB (xs.drop j) id = true := by
  rw [drop_cons xs j h]; simp [hasB, e]
theorem hasB_miss {xs : List Int} {id : Int} {j : Nat} (h : j < xs.length) (e : ¬ xs[j] = id) : hasB (xs.drop j) id = hasB (xs.drop (j + 1)) id := by
  rw [drop_cons xs j h]; simp [hasB, e]
theorem hasB_end {xs : List Int} {id : Int} {j : Nat} (h : ¬ j < xs.length) : hasB (xs.drop j) id = false := by
  rw [List.drop_of_length_le (by omega)]; rfl
def inB (n low high : Int) : Bool := decide (low ≤ n) && decide (n ≤ high)
theorem wordB_long {most : Int} {s : ByteArray} (h : most < (s.size : Int)) : wordB most s = false := by simp [wordB]; omega
theorem wordB_short {most : Int} {s : ByteArray} (h : (s.size : Int) ≤ most) : wordB most s = plainL s.data.toList := by simp [wordB, h]
theorem wordB_bad {most : Int} {s : ByteArray} (h : plainL s.data.toList = false) : wordB most s = false := by simp [wordB, h]
theorem wordB_len {most : Int} {s : ByteArray} (h : plainL s.data.toList = true) : wordB most s = decide ((s.size : Int) ≤ most) := by simp [wordB, h]
set_option maxHeartbeats 400000 in
theorem l8Plain_any (s : ByteArray) (most : Int) (w : World) (hs : s.size ≤ maxLen) :
    Calls Try.prog 32 #[.string s, .int .i64 most] w fun e w' => e = .returned (.bool (wordB most s)) ∧ w' = w := by
  unfold maxLen at hs
  go_enter Try.func32, Try.ntmps32
  go_wp2
  go_loop [5] (fun i => ∃ k : Nat, k ≤ s.size ∧ i = .int .i64 k ∧ Hid (plainL (s.data.toList.take k) = true)) (fun i => s.size - (intOf i).toNat)
  case atStart => exact ⟨0, Nat.zero_le _, rfl, rfl⟩
  case round =>
    obtain ⟨k, hk, rfl, hall⟩ := hrel
    by_cases hlt : k < s.size
    · have HS : Hid (plainL (s.data.toList.take (k + 1)) = plainC (s[k].toNat : Int)) := by show _ = _; rw [plainL_snoc s k hlt, hall.out, Bool.true_and]
      by_cases hl : (s[k].toNat : Int) < 32
      · go_wp2
        go_ret
        exact ⟨ret_bool (wordB_bad (plainL_take_false _ (k + 1) (by rw [HS.out]; exact plainC_low _ hl))).symm, rfl⟩
      · by_cases hh : 126 < (s[k].toNat : Int)
        · go_wp2
          go_ret
          exact ⟨ret_bool (wordB_bad (plainL_take_false _ (k + 1) (by rw [HS.out]; exact plainC_high _ hh))).symm, rfl⟩
        · go_wp2
          go_round
          case rel => exact ⟨k + 1, by omega, by go_num, by show _ = _; rw [HS.out]; exact plainC_true _ (by omega) (by omega)⟩
          case measure => simp [intOf]; omega
    · have HP : Hid (plainL s.data.toList = true) := by
        have := hall.out
        rw [List.take_of_length_le (by simp; omega)] at this
        exact this
      go_wp2
      go_ret
      exact ⟨ret_bool (wordB_len HP.out).symm, rfl⟩
set_option maxHeartbeats 400000 in
theorem wordsOk_any (s : ByteArray) (most : Int) (w : World) (hs : s.size ≤ maxLen) :
    Calls Try.prog 30 #[.string s, .int .i64 most] w fun e w' => e = .returned (.bool (wordB most s)) ∧ w' = w := by
  unfold maxLen at hs
  by_cases h1 : most < (s.size : Int)
  · have H : Hid _ := wordB_long h1
    go_enter Try.func30, Try.ntmps30
    go_wp2
    go_ret
    exact ⟨ret_bool H.out.symm, rfl⟩
  have H : Hid _ := wordB_short (most := most) (s := s) (by omega)
  go_enter Try.func30, Try.ntmps30
  go_wp2
  go_loop [12] (fun i => ∃ k : Nat, k ≤ s.size ∧ i = .int .i64 k ∧ Hid (plainL (s.data.toList.take k) = true)) (fun i => s.size - (intOf i).toNat)
  case atStart => exact ⟨0, Nat.zero_le _, rfl, rfl⟩
  case round =>
    obtain ⟨k, hk, rfl, hall⟩ := hrel
    by_cases hlt : k < s.size
    · have HS : Hid (plainL (s.data.toList.take (k + 1)) = plainC (s[k].toNat : Int)) := by show _ = _; rw [plainL_snoc s k hlt, hall.out, Bool.true_and]
      by_cases hl : (s[k].toNat : Int) < 32
      · go_wp2
        go_ret
        exact ⟨ret_bool (by rw [H.out]; exact (plainL_take_false _ (k + 1) (by rw [HS.out]; exact plainC_low _ hl)).symm), rfl⟩
      · by_cases hh : 126 < (s[k].toNat : Int)
        · go_wp2
          go_ret
          exact ⟨ret_bool (by rw [H.out]; exact (plainL_take_false _ (k + 1) (by rw [HS.out]; exact plainC_high _ hh)).symm), rfl⟩
        · go_wp2
          go_round
          case rel => exact ⟨k + 1, by omega, by go_num, by show _ = _; rw [HS.out]; exact plainC_true _ (by omega) (by omega)⟩
          case measure => simp [intOf]; omega
    · go_wp2
      go_ret
      exact ⟨ret_bool (by rw [H.out]; have := hall.out; rw [List.take_of_length_le (by simp; omega)] at this; exact this.symm), rfl⟩
theorem l1In_any (n low high : Int) (w : World) : Calls Try.prog 35 #[.int .i64 n, .int .i64 low, .int .i64 high] w fun e w' => e = .returned (.bool (inB n low high)) ∧ w' = w := by
  by_cases h1 : low ≤ n
  · by_cases h2 : n ≤ high
    · go_enter Try.func35, Try.ntmps35
      go_wp2_with fail
      go_ret
      exact ⟨ret_bool (by simp [inB, h1, h2]), rfl⟩
    · go_enter Try.func35, Try.ntmps35
      go_wp2_with fail
      go_ret
      exact ⟨ret_bool (by simp [inB, h1, h2]), rfl⟩
  · go_enter Try.func35, Try.ntmps35
    go_wp2_with fail
    go_ret
    exact ⟨ret_bool (by simp [inB]; omega), rfl⟩
set_option maxHeartbeats 400000 in
theorem l2Has_any {w : World} {lo : Nat} {k : Value} {xs : List Int} {id : Int} (hk : SeqAt 1 IntAt w lo k xs) :
    Calls Try.prog 36 #[k, .int .i64 id] w fun e w' => e = .returned (.bool (hasB xs id)) ∧ w' = w := by
  obtain ⟨a, cap, rfl, hm, hx⟩ := hk
  unfold maxLen at hm
  have hx' : Hid _ := hx
  clear hx
  go_enter Try.func36, Try.ntmps36
  go_wp2_with fail
  go_loop [5] (fun i => ∃ (j : Nat), j ≤ xs.length ∧ i = .int .i64 j ∧ Hid (hasB xs id = hasB (xs.drop j) id)) (fun i => xs.length - (intOf i).toNat)
  case atStart => exact ⟨0, by omega, rfl, rfl⟩
  case round =>
    obtain ⟨j, hj, rfl, hrem⟩ := hrel
    by_cases hlt : j < xs.length
    · obtain ⟨b, off, rfl, hlo, hbw, hc⟩ := hx'.out (by omega)
      obtain ⟨cs, hcl, lie, hr⟩ := hc j hlt
      by_cases hq : xs[j] = id
      · have H2 : Hid _ := hasB_hit hlt hq
        generalize xs[j] = X at hr hq
        subst hq
        obtain ⟨rfl, hI⟩ := hr
        have z0 := lie 0 (by simp)
        simp only [List.getElem?_cons_zero, Nat.add_zero, Nat.mul_one] at z0
        clear lie hcl hx' hc
        go_wp2_with fail
        go_ret
        exact ⟨ret_bool (by rw [hrem.out, H2.out]), rfl⟩
      · have H2 : Hid _ := hasB_miss hlt hq
        generalize xs[j] = X at hr hq
        obtain ⟨rfl, hI⟩ := hr
        have z0 := lie 0 (by simp)
        simp only [List.getElem?_cons_zero, Nat.add_zero, Nat.mul_one] at z0
        have hq' : (X == id) = false := by simpa using hq
        clear lie hcl hx' hc hq
        go_wp2_with fail
        go_round
        case rel => exact ⟨j + 1, by omega, by go_num, by show _ = _; rw [hrem.out, H2.out]⟩
        case measure => simp [intOf]; omega
    · have H2 : Hid _ := hasB_end (id := id) hlt
      go_wp2_with fail
      go_ret
      exact ⟨ret_bool (by rw [hrem.out, H2.out]), rfl⟩
theorem has_of_find (xs : List Int) (v : Int) : ∀ j, decide (0 ≤ findI (fun x => x) xs v j) = hasB xs v := by
  induction xs with
  | nil => intro j; simp [findI, hasB]
  | cons x xs ih =>
    intro j
    by_cases e : x = v
    · simp [findI, hasB, e]
    · simp only [findI, if_neg e]; rw [ih]; simp [hasB, e]
set_option maxHeartbeats 400000 in
theorem slIndex_any {w : World} {lo : Nat} {k : Value} {xs : List Int} {id : Int} (hk : SeqAt 1 IntAt w lo k xs) :
    Calls Try.prog 59 #[k, .int .i64 id] w fun e w' => e = .returned (.int .i64 (findI (fun x => x) xs id 0)) ∧ w' = w := by
  obtain ⟨a, cap, rfl, hm, hx⟩ := hk
  unfold maxLen at hm
  have hx' : Hid _ := hx
  clear hx
  go_enter Try.func59, Try.ntmps59
  go_wp2_with fail
  go_loop [8] (fun i => ∃ (j : Nat), j ≤ xs.length ∧ i = .int .i64 j ∧ Hid (findI (fun x => x) xs id 0 = findI (fun x => x) (xs.drop j) id j)) (fun i => xs.length - (intOf i).toNat)
  case atStart => exact ⟨0, by omega, rfl, rfl⟩
  case round =>
    obtain ⟨j, hj, rfl, hrem⟩ := hrel
    by_cases hlt : j < xs.length
    · obtain ⟨b, off, rfl, hlo, hbw, hc⟩ := hx'.out (by omega)
      obtain ⟨cs, hcl, lie, hr⟩ := hc j hlt
      by_cases hq : xs[j] = id
      · have H2 : Hid _ := findI_hit (f := fun x => x) hlt hq
        generalize xs[j] = X at hr hq
        subst hq
        obtain ⟨rfl, hI⟩ := hr
        have z0 := lie 0 (by simp)
        simp only [List.getElem?_cons_zero, Nat.add_zero, Nat.mul_one] at z0
        clear lie hcl hx' hc
        go_wp2_with fail
        go_ret
        exact ⟨by rw [hrem.out, H2.out]; rfl, rfl⟩
      · have H2 : Hid _ := findI_miss (f := fun x => x) hlt hq
        generalize xs[j] = X at hr hq
        obtain ⟨rfl, hI⟩ := hr
        have z0 := lie 0 (by simp)
        simp only [List.getElem?_cons_zero, Nat.add_zero, Nat.mul_one] at z0
        have hq' : (id == X) = false := by simpa using fun e => hq e.symm
        clear lie hcl hx' hc hq
        go_wp2_with fail
        go_round
        case rel => exact ⟨j + 1, by omega, by go_num, by show _ = _; rw [hrem.out, H2.out]⟩
        case measure => simp [intOf]; omega
    · have H2 : Hid _ := findI_end (f := fun x => x) (id := id) hlt
      go_wp2_with fail
      go_ret
      exact ⟨by rw [hrem.out, H2.out]; rfl, rfl⟩
set_option maxHeartbeats 400000 in
theorem slContains_any {w : World} {lo : Nat} {k : Value} {xs : List Int} {id : Int} (hk : SeqAt 1 IntAt w lo k xs) :
    Calls Try.prog 55 #[k, .int .i64 id] w fun e w' => e = .returned (.bool (hasB xs id)) ∧ w' = w := by
  have H1 : Hid _ := has_of_find xs id 0
  go_enter Try.func55, Try.ntmps55
  go_wp2_with fail
  refine (slIndex_any hk).mono ?_
  rintro e w1 ⟨rfl, rfl⟩
  go_wp2_with fail
  go_ret
  exact ⟨ret_bool H1.out, rfl⟩
end Go.Proofs.Ytcbomaflfjdmjaa
