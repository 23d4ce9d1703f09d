/- One way up is the end of another: plain; whether a number is in a row: walked. -/
import Derived.Test.YtdnembnlomnceaaRnAct
import Derived.Test.YtdnembnlomnceaaNameWalks
import Derived.Test.YtdnembnlomnceaaAboveWalks
namespace Go.Proofs.Ytdnembnlomnceaa
open Go.RowKit
theorem up_suffix {h : HeapD} (hr : specB h = true) (hz : nodeAt h 0 = none) : ∀ (m : Nat) (b a : Int), (upL h h.vNodes.length b).length ≤ m → a ∈ upL h h.vNodes.length b → ∃ pre, upL h h.vNodes.length b = pre ++ upL h h.vNodes.length a := by
 intro m
 induction m with
 | zero =>
  intro b a h1 h2
  rw [List.eq_nil_of_length_eq_zero (Nat.le_zero.1 h1)] at h2
  cases h2
 | succ m ih =>
  intro b a h1 h2
  cases hx : nodeAt h b with
  | none => rw [upL_none hx] at h2; cases h2
  | some x =>
   have e := upL_eq hz hx (up_ends hr hx)
   rw [e] at h1 h2
   rcases List.mem_cons.1 h2 with q | q
   · exact ⟨[], by rw [q]; rfl⟩
   · obtain ⟨pre, hp⟩ := ih x.vParent a (by rw [List.length_cons] at h1; omega) q
     exact ⟨b :: pre, by rw [e, hp]; rfl⟩
theorem up_both {h : HeapD} (hr : specB h = true) (hz : nodeAt h 0 = none) {a b : Int} (h1 : a ∈ upL h h.vNodes.length b) (h2 : b ∈ upL h h.vNodes.length a) : a = b := by
 obtain ⟨p1, e1⟩ := up_suffix hr hz _ b a (Nat.le_refl _) h1
 obtain ⟨p2, e2⟩ := up_suffix hr hz _ a b (Nat.le_refl _) h2
 have l1 := congrArg List.length e1
 have l2 := congrArg List.length e2
 rw [List.length_append] at l1 l2
 have z1 : p1 = [] := List.eq_nil_of_length_eq_zero (by omega)
 rw [z1, List.nil_append] at e1
 cases ha : nodeAt h a with
 | none => rw [upL_none ha] at h2; cases h2
 | some x =>
  cases hb : nodeAt h b with
  | none => rw [upL_none hb] at h1; cases h1
  | some y =>
   rw [upL_eq hz ha (up_ends hr ha), upL_eq hz hb (up_ends hr hb)] at e1
   injection e1 with q _
   exact q.symm
theorem up_trans {h : HeapD} (hr : specB h = true) (hz : nodeAt h 0 = none) {a b i : Int} (h1 : a ∈ upL h h.vNodes.length b) (h2 : b ∈ upL h h.vNodes.length i) : a ∈ upL h h.vNodes.length i := by
 obtain ⟨p, e⟩ := up_suffix hr hz _ i b (Nat.le_refl _) h2
 rw [e]; exact List.mem_append_right _ h1
/-- what the law of Contains asks -/
theorem cont_both {h : HeapD} {a b : Int} (hr : implB h = true) (h1 : containsI h a b = true) (h2 : containsI h b a = true) : a = b := by
 unfold containsI at h1 h2
 rw [hr, Bool.true_and] at h1 h2
 exact up_both (by rw [spec_impl]; exact hr) (node_zero hr) ((hasB_memP _ _).1 h1) ((hasB_memP _ _).1 h2)
theorem cont_trans {h : HeapD} {a b i : Int} (hr : implB h = true) (h1 : containsI h a b = true) (h2 : containsI h b i = true) : containsI h a i = true := by
 unfold containsI at h1 h2 ⊢
 rw [hr, Bool.true_and] at h1 h2 ⊢
 exact (hasB_memP _ _).2 (up_trans (by rw [spec_impl]; exact hr) (node_zero hr) ((hasB_memP _ _).1 h1) ((hasB_memP _ _).1 h2))
theorem cont_above {h : HeapD} {a b : Int} (hr : implB h = true) : hasB (aboveS h b) a = containsI h a b := by
 unfold aboveS containsI
 rw [if_pos (by rw [spec_impl]; exact hr), hr, Bool.true_and]
theorem hasB_hitW {xs : List Int} {x : Int} {j : Nat} (h : j < xs.length) (e : xs[j] = x) : hasB (xs.drop j) x = true := by
 rw [drop_cons xs j h]; simp [hasB, e]
theorem hasB_missW {xs : List Int} {x : Int} {j : Nat} (h : j < xs.length) (e : ¬ xs[j] = x) : hasB (xs.drop j) x = hasB (xs.drop (j + 1)) x := by
 rw [drop_cons xs j h]; simp [hasB, e]
set_option maxHeartbeats 400000 in
theorem has_any {w : World} {lo : Nat} {k : Value} {xs : List Int} {x : Int} (hk : SeqAt 1 IntAt w lo k xs) :
 Calls Try.prog 20 #[k, .int .i64 x] w fun e w' => e = .returned (.bool (hasB xs x)) ∧ w' = w := by
 obtain ⟨a, cap, rfl, hm, hx⟩ := hk
 unfold maxLen at hm
 have hx' : Hid _ := hx
 clear hx
 go_enter Try.func20, Try.ntmps20
 go_wp2_with fail
 go_loop [5] (fun i => ∃ (j : Nat), j ≤ xs.length ∧ i = .int .i64 j ∧ Hid (hasB xs x = hasB (xs.drop j) x)) (fun i => xs.length - (intOf i).toNat)
 case atStart => exact ⟨0, by omega, rfl, rfl⟩
 case round =>
  obtain ⟨j, hj, rfl, hrem⟩ := hrel
  by_cases hlt : j < xs.length
  · obtain ⟨b, off, rfl, hlo, hbw, hc⟩ := hx'.out (by omega)
    obtain ⟨cs, hcl, lie, hr⟩ := hc j hlt
    have Hh : Hid _ := hasB_hitW (x := x) hlt
    have Hm : Hid _ := hasB_missW (x := x) hlt
    generalize xs[j] = Q at hr Hh Hm
    obtain ⟨rfl, _⟩ := hr
    have z0 := lie_at lie 0 rfl
    simp only [Nat.mul_one, Nat.add_zero] at z0
    clear lie hcl hx' hc
    by_cases hq : Q = x
    · have H2 : Hid (hasB xs x = true) := by show _ = _; rw [hrem.out, Hh.out hq]
      subst hq
      clear Hh Hm hrem
      go_wp2_with fail
      go_ret
      exact ⟨by rw [H2.out] <;> rfl, rfl⟩
    · have H2 : Hid _ := Hm.out hq
      go_wp2_with fail
      go_round
      case rel => exact ⟨j + 1, by omega, by go_num, by show _ = _; rw [hrem.out, H2.out]⟩
      case measure => simp [intOf]; omega
  · have H2 : Hid (hasB xs x = false) := by show _ = _; rw [hrem.out, List.drop_of_length_le (by omega)]; rfl
    go_wp2_with fail
    go_ret
    exact ⟨by rw [H2.out] <;> rfl, rfl⟩
end Go.Proofs.Ytdnembnlomnceaa
