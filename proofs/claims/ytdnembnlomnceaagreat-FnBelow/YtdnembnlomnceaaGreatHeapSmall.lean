/- The small functions of the specification's second chapter, walked. -/
import Derived.Test.YtdnembnlomnceaaGreatHeap
import Derived.Test.YtdnembnlomnceaaGreatNameWalks
import Derived.Test.YtdnembnlomnceaaGreatTakeMore
import Derived.WalkKit
namespace Go.Proofs.YtdnembnlomnceaaGreat
open Go.RowKit
theorem l1In_any (n low high : Int) (w : World) : Calls Tryz.prog 49 #[.int .i64 n, .int .i64 low, .int .i64 high] w fun e w' => e = .returned (.bool (inB n low high)) ∧ w' = w := by
 by_cases h1 : low ≤ n
 · by_cases h2 : n ≤ high
   · go_enter Tryz.func49, Tryz.ntmps49
     go_wp2_with fail
     go_ret
     exact ⟨ret_bool (by simp [inB, h1, h2]), rfl⟩
   · go_enter Tryz.func49, Tryz.ntmps49
     go_wp2_with fail
     go_ret
     exact ⟨ret_bool (by simp [inB, h1, h2]), rfl⟩
 · go_enter Tryz.func49, Tryz.ntmps49
   go_wp2_with fail
   go_ret
   exact ⟨ret_bool (by simp [inB]; omega), rfl⟩
set_option maxHeartbeats 400000 in
theorem l2Has_any {w : World} {lo : Nat} {k : Value} {xs : List Int} {id : Int} (hk : SeqAt 1 IntAt w lo k xs) :
 Calls Tryz.prog 55 #[k, .int .i64 id] w fun e w' => e = .returned (.bool (hasB xs id)) ∧ w' = w := by
 obtain ⟨a, cap, rfl, hm, hx⟩ := hk
 unfold maxLen at hm
 have hx' : Hid _ := hx
 clear hx
 go_enter Tryz.func55, Tryz.ntmps55
 go_wp2_with fail
 go_loop [5] (fun i => ∃ (j : Nat), j ≤ xs.length ∧ i = .int .i64 j ∧ Hid (hasB xs id = hasB (xs.drop j) id)) (fun i => xs.length - (intOf i).toNat)
 case atStart => exact ⟨0, by omega, rfl, rfl⟩
 case round =>
  obtain ⟨j, hj, rfl, hrem⟩ := hrel
  by_cases hlt : j < xs.length
  · obtain ⟨b, off, rfl, hlo, hbw, hc⟩ := hx'.out (by omega)
    obtain ⟨cs, hcl, lie, hr⟩ := hc j hlt
    by_cases hq : xs[j] = id
    · have H2 : Hid _ := hasB_hit hlt hq
      generalize xs[j] = X at hr hq
      subst hq
      obtain ⟨rfl, hI⟩ := hr
      have z0 := lie 0 (by simp)
      simp only [List.getElem?_cons_zero, Nat.add_zero, Nat.mul_one] at z0
      clear lie hcl hx' hc
      go_wp2_with fail
      go_ret
      exact ⟨ret_bool (by rw [hrem.out, H2.out]), rfl⟩
    · have H2 : Hid _ := hasB_miss hlt hq
      generalize xs[j] = X at hr hq
      obtain ⟨rfl, hI⟩ := hr
      have z0 := lie 0 (by simp)
      simp only [List.getElem?_cons_zero, Nat.add_zero, Nat.mul_one] at z0
      have hq' : (X == id) = false := by simpa using hq
      clear lie hcl hx' hc hq
      go_wp2_with fail
      go_round
      case rel => exact ⟨j + 1, by omega, by go_num, by show _ = _; rw [hrem.out, H2.out]⟩
      case measure => simp [intOf]; omega
  · have H2 : Hid _ := hasB_end (id := id) hlt
    go_wp2_with fail
    go_ret
    exact ⟨ret_bool (by rw [hrem.out, H2.out]), rfl⟩
/-- a record's cells in the midst of a row, one by one -/
theorem lie_at {w : World} {b o : Nat} {cs : List Value} (h : Lie w b o cs) (m : Nat) {v : Value} (e : cs[m]? = some v) : w.cell? ⟨b, o + m, none⟩ = some v := by
 have hm : m < cs.length := by
  rcases Nat.lt_or_ge m cs.length with h | h
  · exact h
  · rw [List.getElem?_eq_none h] at e; cases e
 rw [h m hm]; exact e
set_option maxHeartbeats 400000 in
theorem l2Node_any {w : World} {lo : Nat} {cs : List Value} {h : HeapD} {id : Int} (hh : HeapAt w lo cs h) :
 Calls Tryz.prog 53 #[.agg cs.toArray, .int .i64 id] w fun e w' => e = .returned (.int .i64 (idxN h id)) ∧ Below w.heap.size w w' := by
 obtain ⟨k2, k3, k4, rfl, s2, s3, s4, rNext, rDoc, _⟩ := hh
 obtain ⟨a, cap, rfl, hm, hx⟩ := s2
 unfold maxLen at hm
 have hx' : Hid _ := hx
 clear hx s3 s4
 have hb0 : Below w.heap.size w (w.alloc (.cells #[.int .i64 h.vNext, .int .i64 h.vDoc, .slice a h.vNodes.length cap, k3, k4] 28)) := (Below.refl _ _).alloc (Nat.le_refl _) _
 go_enter Tryz.func53, Tryz.ntmps53
 go_wp2_with fail
 go_loop [5] (fun i => ∃ (j : Nat), j ≤ h.vNodes.length ∧ i = .int .i64 j ∧ Hid (idxN h id = findI NodeD.vId (h.vNodes.drop j) id j)) (fun i => h.vNodes.length - (intOf i).toNat)
 case atStart => exact ⟨0, by omega, rfl, rfl⟩
 case round =>
  obtain ⟨j, hj, rfl, hrem⟩ := hrel
  by_cases hlt : j < h.vNodes.length
  · obtain ⟨b, off, rfl, hlo, hbw, hc⟩ := hx'.out (by omega)
    obtain ⟨cs, hcl, lie, hr⟩ := hc j hlt
    have lie1 := Lie.keep (lo := lo) (lo' := lo) lie (.of_below hb0) hlo hbw
    by_cases hq : h.vNodes[j].vId = id
    · have H2 : Hid _ := findI_hit (f := NodeD.vId) hlt hq
      generalize h.vNodes[j] = X at hr hq
      obtain ⟨_, _, rfl, _⟩ := hr
      have z0 := lie_at lie1 0 rfl
      rw [hq] at z0
      simp only [Nat.add_zero] at z0
      clear lie lie1 hcl hx' hc hq
      go_wp2_with fail
      go_ret
      exact ⟨by rw [hrem.out, H2.out]; rfl, hb0⟩
    · have H2 : Hid _ := findI_miss (f := NodeD.vId) hlt hq
      generalize h.vNodes[j] = X at hr hq
      obtain ⟨_, _, rfl, _⟩ := hr
      have z0 := lie_at lie1 0 rfl
      simp only [Nat.add_zero] at z0
      have hq' : (X.vId == id) = false := by simpa using hq
      clear lie lie1 hcl hx' hc hq
      go_wp2_with fail
      go_round
      case rel => exact ⟨j + 1, by omega, by go_num, by show _ = _; rw [hrem.out, H2.out]⟩
      case measure => simp [intOf]; omega
  · have H2 : Hid _ := findI_end (f := NodeD.vId) (id := id) hlt
    go_wp2_with fail
    go_ret
    exact ⟨by rw [hrem.out, H2.out]; rfl, hb0⟩
set_option maxHeartbeats 400000 in
theorem l2Obj_any {w : World} {lo : Nat} {cs : List Value} {h : HeapD} {id : Int} (hh : HeapAt w lo cs h) :
 Calls Tryz.prog 51 #[.agg cs.toArray, .int .i64 id] w fun e w' => e = .returned (.int .i64 (idxO h id)) ∧ Below w.heap.size w w' := by
 obtain ⟨k2, k3, k4, rfl, s2, s3, s4, rNext, rDoc, _⟩ := hh
 obtain ⟨a, cap, rfl, hm, hx⟩ := s3
 unfold maxLen at hm
 have hx' : Hid _ := hx
 clear hx s2 s4
 have hb0 : Below w.heap.size w (w.alloc (.cells #[.int .i64 h.vNext, .int .i64 h.vDoc, k2, .slice a h.vObjs.length cap, k4] 28)) := (Below.refl _ _).alloc (Nat.le_refl _) _
 go_enter Tryz.func51, Tryz.ntmps51
 go_wp2_with fail
 go_loop [5] (fun i => ∃ (j : Nat), j ≤ h.vObjs.length ∧ i = .int .i64 j ∧ Hid (idxO h id = findI ObjD.vId (h.vObjs.drop j) id j)) (fun i => h.vObjs.length - (intOf i).toNat)
 case atStart => exact ⟨0, by omega, rfl, rfl⟩
 case round =>
  obtain ⟨j, hj, rfl, hrem⟩ := hrel
  by_cases hlt : j < h.vObjs.length
  · obtain ⟨b, off, rfl, hlo, hbw, hc⟩ := hx'.out (by omega)
    obtain ⟨cs, hcl, lie, hr⟩ := hc j hlt
    have lie1 := Lie.keep (lo := lo) (lo' := lo) lie (.of_below hb0) hlo hbw
    by_cases hq : h.vObjs[j].vId = id
    · have H2 : Hid _ := findI_hit (f := ObjD.vId) hlt hq
      generalize h.vObjs[j] = X at hr hq
      obtain ⟨_, rfl, _⟩ := hr
      have z0 := lie_at lie1 0 rfl
      rw [hq] at z0
      simp only [Nat.add_zero] at z0
      clear lie lie1 hcl hx' hc hq
      go_wp2_with fail
      go_ret
      exact ⟨by rw [hrem.out, H2.out]; rfl, hb0⟩
    · have H2 : Hid _ := findI_miss (f := ObjD.vId) hlt hq
      generalize h.vObjs[j] = X at hr hq
      obtain ⟨_, rfl, _⟩ := hr
      have z0 := lie_at lie1 0 rfl
      simp only [Nat.add_zero] at z0
      have hq' : (X.vId == id) = false := by simpa using hq
      clear lie lie1 hcl hx' hc hq
      go_wp2_with fail
      go_round
      case rel => exact ⟨j + 1, by omega, by go_num, by show _ = _; rw [hrem.out, H2.out]⟩
      case measure => simp [intOf]; omega
  · have H2 : Hid _ := findI_end (f := ObjD.vId) (id := id) hlt
    go_wp2_with fail
    go_ret
    exact ⟨by rw [hrem.out, H2.out]; rfl, hb0⟩
set_option maxHeartbeats 400000 in
theorem l2Listener_any {w : World} {lo : Nat} {cs : List Value} {x : ListenerD} (hx : ListenerAt w lo cs x) :
 Calls Tryz.prog 88 #[.agg cs.toArray] w fun e w' => e = .returned (.bool (lisB x)) ∧ Below w.heap.size w w' := by
 obtain ⟨rfl, rType, rStop, rName, _⟩ := hx
 have hb0 : Below w.heap.size w (w.alloc (.cells #[.string x.vType, .bool x.vCapture, .bool x.vOnce, .int .i64 x.vStop, .string x.vName] 89)) := (Below.refl _ _).alloc (Nat.le_refl _) _
 have rType' : Hid _ := rType
 have rName' : Hid _ := rName
 clear rType rName
 go_enter Tryz.func88, Tryz.ntmps88
 go_wp2_with fail
 refine (specNameOk_any _ _ rType'.out).mono ?_
 rintro e w1 ⟨rfl, rfl⟩
 cases h1 : nameB x.vType.data.toList
 · have H1 : Hid (lisB x = false) := by show _ = _; simp [lisB, nmB, h1]
   clear h1
   go_wp2_with fail
   go_ret
   exact ⟨ret_bool H1.out.symm, hb0⟩
 have H1 : Hid (nmB x.vType = true) := h1
 clear h1
 go_wp2_with fail
 refine (specNameOk_any _ _ rName'.out).mono ?_
 rintro e w1 ⟨rfl, rfl⟩
 cases h2 : nameB x.vName.data.toList
 · have H2 : Hid (lisB x = false) := by show _ = _; simp [lisB, nmB, h2]
   clear h2
   go_wp2_with fail
   go_ret
   exact ⟨ret_bool H2.out.symm, hb0⟩
 have H2 : Hid (lisB x = inB x.vStop 0 2) := by show _ = _; have := H1.out; simp [lisB, this]; simp [nmB, h2]
 clear h2
 go_wp2_with fail
 refine (l1In_any _ _ _ _).mono ?_
 rintro e w1 ⟨rfl, rfl⟩
 go_wp2_with fail
 go_ret
 exact ⟨ret_bool H2.out.symm, hb0⟩
end Go.Proofs.YtdnembnlomnceaaGreat
