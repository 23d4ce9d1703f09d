/- Small functions of the program's second chapter, and the lookups in its maps, walked. -/
import Derived.Test.YtbodeijffpepfaaHeap
import Derived.Test.YtbodeijffpepfaaNameWalks
import Derived.Test.YtbodeijffpepfaaTakeLit
import Derived.WalkKit
import Derived.MapKept
namespace Go.Proofs.Ytbodeijffpepfaa
open Go.RowKit
theorem has_of_find (xs : List Int) (v : Int) : ∀ j, decide (0 ≤ findI (fun x => x) xs v j) = hasB xs v := by
  induction xs with
  | nil => intro j; simp [findI, hasB]
  | cons x xs ih =>
    intro j
    by_cases e : x = v
    · simp [findI, hasB, e]
    · simp only [findI, if_neg e]; rw [ih]; simp [hasB, e]
set_option maxHeartbeats 400000 in
theorem slIndex_any {w : World} {lo : Nat} {k : Value} {xs : List Int} {id : Int} (hk : SeqAt 1 IntAt w lo k xs) :
    Calls Try.prog 96 #[k, .int .i64 id] w fun e w' => e = .returned (.int .i64 (findI (fun x => x) xs id 0)) ∧ w' = w := by
  obtain ⟨a, cap, rfl, hm, hx⟩ := hk
  unfold maxLen at hm
  have hx' : Hid _ := hx
  clear hx
  go_enter Try.func96, Try.ntmps96
  go_wp2_with fail
  go_loop [8] (fun i => ∃ (j : Nat), j ≤ xs.length ∧ i = .int .i64 j ∧ Hid (findI (fun x => x) xs id 0 = findI (fun x => x) (xs.drop j) id j)) (fun i => xs.length - (intOf i).toNat)
  case atStart => exact ⟨0, by omega, rfl, rfl⟩
  case round =>
    obtain ⟨j, hj, rfl, hrem⟩ := hrel
    by_cases hlt : j < xs.length
    · obtain ⟨b, off, rfl, hlo, hbw, hc⟩ := hx'.out (by omega)
      obtain ⟨cs, hcl, lie, hr⟩ := hc j hlt
      by_cases hq : xs[j] = id
      · have H2 : Hid _ := findI_hit (f := fun x => x) hlt hq
        generalize xs[j] = X at hr hq
        subst hq
        obtain ⟨rfl, hI⟩ := hr
        have z0 := lie 0 (by simp)
        simp only [List.getElem?_cons_zero, Nat.add_zero, Nat.mul_one] at z0
        clear lie hcl hx' hc
        go_wp2_with fail
        go_ret
        exact ⟨by rw [hrem.out, H2.out]; rfl, rfl⟩
      · have H2 : Hid _ := findI_miss (f := fun x => x) hlt hq
        generalize xs[j] = X at hr hq
        obtain ⟨rfl, hI⟩ := hr
        have z0 := lie 0 (by simp)
        simp only [List.getElem?_cons_zero, Nat.add_zero, Nat.mul_one] at z0
        have hq' : (id == X) = false := by simpa using fun e => hq e.symm
        clear lie hcl hx' hc hq
        go_wp2_with fail
        go_round
        case rel => exact ⟨j + 1, by omega, by go_num, by show _ = _; rw [hrem.out, H2.out]⟩
        case measure => simp [intOf]; omega
    · have H2 : Hid _ := findI_end (f := fun x => x) (id := id) hlt
      go_wp2_with fail
      go_ret
      exact ⟨by rw [hrem.out, H2.out]; rfl, rfl⟩
set_option maxHeartbeats 400000 in
theorem slContains_any {w : World} {lo : Nat} {k : Value} {xs : List Int} {id : Int} (hk : SeqAt 1 IntAt w lo k xs) :
    Calls Try.prog 88 #[k, .int .i64 id] w fun e w' => e = .returned (.bool (hasB xs id)) ∧ w' = w := by
  have H1 : Hid _ := has_of_find xs id 0
  go_enter Try.func88, Try.ntmps88
  go_wp2_with fail
  refine (slIndex_any hk).mono ?_
  rintro e w1 ⟨rfl, rfl⟩
  go_wp2_with fail
  go_ret
  exact ⟨ret_bool H1.out, rfl⟩
set_option maxHeartbeats 400000 in
theorem listenerOk_any {w : World} {lo : Nat} {cs : List Value} {x : ListenerD} (hx : ListenerAt w lo cs x) :
    Calls Try.prog 89 #[.agg cs.toArray] w fun e w' => e = .returned (.bool (lisB x)) ∧ Below w.heap.size w w' := by
  obtain ⟨rfl, rType, rStop, rName, _⟩ := hx
  have hb0 : Below w.heap.size w (w.alloc (.cells #[.string x.vType, .bool x.vCapture, .bool x.vOnce, .int .i64 x.vStop, .string x.vName] 100)) := (Below.refl _ _).alloc (Nat.le_refl _) _
  have rType' : Hid _ := rType
  have rName' : Hid _ := rName
  clear rType rName
  go_enter Try.func89, Try.ntmps89
  go_wp2_with fail
  refine (implNameOk_any _ _ rType'.out).mono ?_
  rintro e w1 ⟨rfl, rfl⟩
  cases h1 : nameB x.vType.data.toList
  · have H1 : Hid (lisB x = false) := by show _ = _; simp [lisB, nmB, h1]
    clear h1
    go_wp2_with fail
    go_ret
    exact ⟨ret_bool H1.out.symm, hb0⟩
  have H1 : Hid (nmB x.vType = true) := h1
  clear h1
  go_wp2_with fail
  refine (implNameOk_any _ _ rName'.out).mono ?_
  rintro e w1 ⟨rfl, rfl⟩
  cases h2 : nameB x.vName.data.toList
  · have H2 : Hid (lisB x = false) := by show _ = _; simp [lisB, nmB, h2]
    clear h2
    go_wp2_with fail
    go_ret
    exact ⟨ret_bool H2.out.symm, hb0⟩
  have H2 : Hid (lisB x = inB x.vStop 0 2) := by show _ = _; have := H1.out; simp [lisB, this]; simp [nmB, h2]
  clear h2
  by_cases h3 : 0 ≤ x.vStop
  · by_cases h4 : x.vStop ≤ 2
    · have H3 : Hid (lisB x = true) := by show _ = _; rw [H2.out]; simp [inB, h3, h4]
      go_wp2_with fail
      go_ret
      exact ⟨ret_bool H3.out.symm, hb0⟩
    · have H3 : Hid (lisB x = false) := by show _ = _; rw [H2.out]; simp [inB, h3, h4]
      go_wp2_with fail
      go_ret
      exact ⟨ret_bool (by rw [H3.out]; simp [h4]), hb0⟩
  · have H3 : Hid (lisB x = false) := by show _ = _; rw [H2.out]; simp [inB]; omega
    have h5 : decide (0 ≤ x.vStop) = false := by simpa using h3
    go_wp2_with fail
    go_ret
    exact ⟨ret_bool H3.out.symm, hb0⟩
end Go.Proofs.Ytbodeijffpepfaa
