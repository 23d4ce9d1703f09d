/- What the functions sz.. of the laws return: a number below nothing, or what was measured is small. -/
import Derived.Test.YtbodeijffpepfaaRecs
import Derived.WalkKit
namespace Go.Proofs.Ytbodeijffpepfaa
open Go.RowKit
set_option maxHeartbeats 400000 in
theorem szInt64S_any {w : World} {lo : Nat} {k : Value} {xs : List Int} {left : Int} (hk : SeqAt 1 IntAt w lo k xs) (h0 : 0 ≤ left) (h1 : left ≤ 1048576) :
    Calls Try.prog 83 #[k, .int .i64 left] w fun e w' => (∃ r : Int, e = .returned (.int .i64 r) ∧ r ≤ left ∧ -1 ≤ r ∧ (r < 0 ∨ xs.length ≤ 1048576)) ∧ Below w.heap.size w w' := by
  obtain ⟨a, cap, rfl, hm, _⟩ := hk
  unfold maxLen at hm
  by_cases hneg : left - (xs.length : Int) < 0
  · go_enter Try.func83, Try.ntmps83
    go_wp2_with fail
    go_ret
    exact ⟨⟨-1, rfl, by omega, by omega, Or.inl (by omega)⟩, Below.refl _ _⟩
  · go_enter Try.func83, Try.ntmps83
    go_wp2_with fail
    go_ret
    exact ⟨⟨left - xs.length, rfl, by omega, by omega, Or.inr (by omega)⟩, Below.refl _ _⟩
set_option maxHeartbeats 800000 in
theorem szListener_any {w : World} {lo : Nat} {cs : List Value} {x : ListenerD} {left : Int} (hx : ListenerAt w lo cs x) (h0 : 0 ≤ left) (h1 : left ≤ 1048576) :
    Calls Try.prog 94 #[.agg cs.toArray, .int .i64 left] w fun e w' => (∃ r : Int, e = .returned (.int .i64 r) ∧ r ≤ left ∧ -1 ≤ r ∧ (r < 0 ∨ x.small)) ∧ Below w.heap.size w w' := by
  obtain ⟨rfl, rType, rStop, rName, _⟩ := hx
  unfold maxLen at rType
  unfold maxLen at rName
  have hb0 : Below w.heap.size w (w.alloc (.cells (List.toArray [.string x.vType, .bool x.vCapture, .bool x.vOnce, .int .i64 x.vStop, .string x.vName]) 147)) := (Below.refl _ _).alloc (Nat.le_refl _) _
  have bx0 : Hid (Box (w.alloc (.cells (List.toArray [.string x.vType, .bool x.vCapture, .bool x.vOnce, .int .i64 x.vStop, .string x.vName]) 147)) w.heap.size [.string x.vType, .bool x.vCapture, .bool x.vOnce, .int .i64 x.vStop, .string x.vName] 147) := Box.new w _ _
  by_cases n0 : (left - (x.vType.size : Int)) < 0
  · go_enter Try.func94, Try.ntmps94
    go_wp2_with fail
    go_ret
    exact ⟨⟨-1, rfl, by omega, by omega, Or.inl (by omega)⟩, hb0⟩
  by_cases n1 : ((left - (x.vType.size : Int)) - (x.vName.size : Int)) < 0
  · go_enter Try.func94, Try.ntmps94
    go_wp2_with fail
    go_ret
    exact ⟨⟨-1, rfl, by omega, by omega, Or.inl (by omega)⟩, hb0⟩
  go_enter Try.func94, Try.ntmps94
  go_wp2_with fail
  go_ret
  exact ⟨⟨((left - (x.vType.size : Int)) - (x.vName.size : Int)), rfl, by omega, by omega, Or.inr ⟨by omega, by omega, trivial⟩⟩, hb0⟩
set_option maxHeartbeats 800000 in
theorem szListenerS_any {w : World} {lo : Nat} {k : Value} {xs : List ListenerD} {left : Int} (hk : SeqAt 5 ListenerAt w lo k xs) (h0 : 0 ≤ left) (h1 : left ≤ 1048576) :
    Calls Try.prog 84 #[k, .int .i64 left] w fun e w' => (∃ r : Int, e = .returned (.int .i64 r) ∧ r ≤ left ∧ -1 ≤ r ∧ (r < 0 ∨ AllS ListenerD.small xs)) ∧ Below w.heap.size w w' := by
  obtain ⟨a, cap, rfl, hm, hx⟩ := hk
  unfold maxLen at hm
  by_cases hneg : left - (xs.length : Int) < 0
  · clear hx
    go_enter Try.func84, Try.ntmps84
    go_wp2_with fail
    go_ret
    exact ⟨⟨-1, rfl, by omega, by omega, Or.inl (by omega)⟩, Below.refl _ _⟩
  · have hx' : Hid _ := hx
    clear hx
    go_enter Try.func84, Try.ntmps84
    go_wp2_with fail
    go_loopw [1, 5] (fun l i wr => ∃ (j : Nat) (r : Int), j ≤ xs.length ∧ i = .int .i64 j ∧ l = .int .i64 r ∧ 0 ≤ r ∧ r ≤ left ∧ Below w.heap.size w wr ∧ Hid (∀ i', (h : i' < xs.length) → i' < j → ListenerD.small xs[i'])) (fun _ i _ => xs.length - (intOf i).toNat)
    case atStart => exact ⟨0, left - xs.length, by omega, rfl, rfl, by omega, by omega, Below.refl _ _, fun i' _ h => absurd h (by omega)⟩
    case round =>
      obtain ⟨j, r, hj, rfl, rfl, hr0, hr1, hb, hs⟩ := hrel
      by_cases hlt : j < xs.length
      · obtain ⟨b, off, rfl, hlo, hbw, hc⟩ := hx'.out (by omega)
        obtain ⟨cs, hcl, lie, hr⟩ := hc j hlt
        have lie1 := Lie.keep (lo := lo) (lo' := lo) lie (.of_below hb) hlo hbw
        have hr2 := ListenerAt_stays _ _ _ lo _ _ (.of_below hb) hr
        generalize hX : xs[j] = X at hr2
        have hX' : Hid _ := hX
        have hr3 : Hid (ListenerAt wr lo cs X) := hr2
        clear hX hr lie hc
        obtain ⟨rfl, rType, rStop, rName, _⟩ := hr2
        clear rType rStop rName
        have z0 := lie1 0 (by simp)
        have z1 := lie1 1 (by simp)
        have z2 := lie1 2 (by simp)
        have z3 := lie1 3 (by simp)
        have z4 := lie1 4 (by simp)
        simp only [List.getElem?_cons_zero, List.getElem?_cons_succ, Nat.add_zero] at z0 z1 z2 z3 z4
        clear lie1 hcl hx'
        go_wp2_with fail
        refine (szListener_any hr3.out hr0 (by omega)).mono ?_
        rintro e w1 ⟨⟨r', rfl, hr', hr'', hsm⟩, hb1⟩
        have hb' : Below w.heap.size w w1 := hb.trans (hb1.mono hb.size)
        have hsm' : Hid (r' < 0 ∨ ListenerD.small X) := hsm
        clear hsm z0 z1 z2 z3 z4
        by_cases hneg' : r' < 0
        · go_wp2_with fail
          go_ret
          exact ⟨⟨-1, rfl, by omega, by omega, Or.inl (by omega)⟩, hb'⟩
        · go_wp2_with fail
          go_roundw
          case rel => exact ⟨j + 1, r', by omega, by go_num, rfl, by omega, by omega, hb', fun i' h hi' => by
            by_cases e : i' < j
            · exact hs.out i' h e
            · have e' : i' = j := by omega
              subst e'
              rw [hX'.out]
              exact hsm'.out.resolve_left (by omega)⟩
          case measure => simp [intOf]; omega
      · go_wp2_with fail
        go_ret
        exact ⟨⟨r, rfl, by omega, by omega, Or.inr ⟨by omega, fun i h => hs.out i h (by omega)⟩⟩, hb⟩
set_option maxHeartbeats 800000 in
theorem szNode_any {w : World} {lo : Nat} {cs : List Value} {x : NodeD} {left : Int} (hx : NodeAt w lo cs x) (h0 : 0 ≤ left) (h1 : left ≤ 1048576) :
    Calls Try.prog 60 #[.agg cs.toArray, .int .i64 left] w fun e w' => (∃ r : Int, e = .returned (.int .i64 r) ∧ r ≤ left ∧ -1 ≤ r ∧ (r < 0 ∨ x.small)) ∧ Below w.heap.size w w' := by
  obtain ⟨k3, k5, rfl, s3, s5, rId, rTag, rParent, rWrapper, _⟩ := hx
  unfold maxLen at rTag
  have s3' : Hid (SeqAt 1 IntAt w lo k3 x.vKids) := s3
  obtain ⟨a3, cap3, rfl⟩ := s3.form
  clear s3
  have s5' : Hid (SeqAt 5 ListenerAt w lo k5 x.vListeners) := s5
  obtain ⟨a5, cap5, rfl⟩ := s5.form
  clear s5
  have hb0 : Below w.heap.size w (w.alloc (.cells (List.toArray [.int .i64 x.vId, .string x.vTag, .int .i64 x.vParent, .slice a3 x.vKids.length cap3, .int .i64 x.vWrapper, .slice a5 x.vListeners.length cap5]) 118)) := (Below.refl _ _).alloc (Nat.le_refl _) _
  have bx0 : Hid (Box (w.alloc (.cells (List.toArray [.int .i64 x.vId, .string x.vTag, .int .i64 x.vParent, .slice a3 x.vKids.length cap3, .int .i64 x.vWrapper, .slice a5 x.vListeners.length cap5]) 118)) w.heap.size [.int .i64 x.vId, .string x.vTag, .int .i64 x.vParent, .slice a3 x.vKids.length cap3, .int .i64 x.vWrapper, .slice a5 x.vListeners.length cap5] 118) := Box.new w _ _
  by_cases n0 : (left - (x.vTag.size : Int)) < 0
  · go_enter Try.func60, Try.ntmps60
    go_wp2_with fail
    go_ret
    exact ⟨⟨-1, rfl, by omega, by omega, Or.inl (by omega)⟩, hb0⟩
  go_enter Try.func60, Try.ntmps60
  go_wp2_with fail
  refine (szInt64S_any (s3'.out.below intAt_stays hb0) (by omega) (by omega)).mono ?_
  rintro e u1 ⟨⟨r1, rfl, p1, q1, m1⟩, hbc⟩
  have hb2 : Below w.heap.size w u1 := hb0.trans (hbc.mono hb0.size)
  have bx2 : Hid (Box u1 w.heap.size [.int .i64 x.vId, .string x.vTag, .int .i64 x.vParent, .slice a3 x.vKids.length cap3, .int .i64 x.vWrapper, .slice a5 x.vListeners.length cap5] 118) := bx0.out.below hbc bx0.out.lt
  have t1_0 := bx2.out.cell 0 rfl
  have t1_1 := bx2.out.cell 1 rfl
  have t1_2 := bx2.out.cell 2 rfl
  have t1_3 := bx2.out.cell 3 rfl
  have t1_4 := bx2.out.cell 4 rfl
  have t1_5 := bx2.out.cell 5 rfl
  have m1' : Hid (r1 < 0 ∨ x.vKids.length ≤ 1048576) := m1
  clear m1 hbc
  by_cases n1 : r1 < 0
  · go_wp2_with fail
    go_ret
    exact ⟨⟨-1, rfl, by omega, by omega, Or.inl (by omega)⟩, hb2⟩
  go_wp2_with fail
  refine (szListenerS_any (s5'.out.below ListenerAt_stays hb2) (by omega) (by omega)).mono ?_
  rintro e u2 ⟨⟨r2, rfl, p2, q2, m2⟩, hbc⟩
  have hb3 : Below w.heap.size w u2 := hb2.trans (hbc.mono hb2.size)
  have bx3 : Hid (Box u2 w.heap.size [.int .i64 x.vId, .string x.vTag, .int .i64 x.vParent, .slice a3 x.vKids.length cap3, .int .i64 x.vWrapper, .slice a5 x.vListeners.length cap5] 118) := bx2.out.below hbc bx2.out.lt
  have t2_0 := bx3.out.cell 0 rfl
  have t2_1 := bx3.out.cell 1 rfl
  have t2_2 := bx3.out.cell 2 rfl
  have t2_3 := bx3.out.cell 3 rfl
  have t2_4 := bx3.out.cell 4 rfl
  have t2_5 := bx3.out.cell 5 rfl
  have m2' : Hid (r2 < 0 ∨ AllS ListenerD.small x.vListeners) := m2
  clear m2 hbc t1_0 t1_1 t1_2 t1_3 t1_4 t1_5
  by_cases n2 : r2 < 0
  · go_wp2_with fail
    go_ret
    exact ⟨⟨-1, rfl, by omega, by omega, Or.inl (by omega)⟩, hb3⟩
  go_wp2_with fail
  go_ret
  exact ⟨⟨r2, rfl, by omega, by omega, Or.inr ⟨by omega, m1'.out.resolve_left (by omega), m2'.out.resolve_left (by omega), trivial⟩⟩, hb3⟩
set_option maxHeartbeats 800000 in
theorem szNodeS_any {w : World} {lo : Nat} {k : Value} {xs : List NodeD} {left : Int} (hk : SeqAt 6 NodeAt w lo k xs) (h0 : 0 ≤ left) (h1 : left ≤ 1048576) :
    Calls Try.prog 37 #[k, .int .i64 left] w fun e w' => (∃ r : Int, e = .returned (.int .i64 r) ∧ r ≤ left ∧ -1 ≤ r ∧ (r < 0 ∨ AllS NodeD.small xs)) ∧ Below w.heap.size w w' := by
  obtain ⟨a, cap, rfl, hm, hx⟩ := hk
  unfold maxLen at hm
  by_cases hneg : left - (xs.length : Int) < 0
  · clear hx
    go_enter Try.func37, Try.ntmps37
    go_wp2_with fail
    go_ret
    exact ⟨⟨-1, rfl, by omega, by omega, Or.inl (by omega)⟩, Below.refl _ _⟩
  · have hx' : Hid _ := hx
    clear hx
    go_enter Try.func37, Try.ntmps37
    go_wp2_with fail
    go_loopw [1, 5] (fun l i wr => ∃ (j : Nat) (r : Int), j ≤ xs.length ∧ i = .int .i64 j ∧ l = .int .i64 r ∧ 0 ≤ r ∧ r ≤ left ∧ Below w.heap.size w wr ∧ Hid (∀ i', (h : i' < xs.length) → i' < j → NodeD.small xs[i'])) (fun _ i _ => xs.length - (intOf i).toNat)
    case atStart => exact ⟨0, left - xs.length, by omega, rfl, rfl, by omega, by omega, Below.refl _ _, fun i' _ h => absurd h (by omega)⟩
    case round =>
      obtain ⟨j, r, hj, rfl, rfl, hr0, hr1, hb, hs⟩ := hrel
      by_cases hlt : j < xs.length
      · obtain ⟨b, off, rfl, hlo, hbw, hc⟩ := hx'.out (by omega)
        obtain ⟨cs, hcl, lie, hr⟩ := hc j hlt
        have lie1 := Lie.keep (lo := lo) (lo' := lo) lie (.of_below hb) hlo hbw
        have hr2 := NodeAt_stays _ _ _ lo _ _ (.of_below hb) hr
        generalize hX : xs[j] = X at hr2
        have hX' : Hid _ := hX
        have hr3 : Hid (NodeAt wr lo cs X) := hr2
        clear hX hr lie hc
        obtain ⟨k3, k5, rfl, s3, s5, rId, rTag, rParent, rWrapper, _⟩ := hr2
        clear s3 s5 rId rTag rParent rWrapper
        have z0 := lie1 0 (by simp)
        have z1 := lie1 1 (by simp)
        have z2 := lie1 2 (by simp)
        have z3 := lie1 3 (by simp)
        have z4 := lie1 4 (by simp)
        have z5 := lie1 5 (by simp)
        simp only [List.getElem?_cons_zero, List.getElem?_cons_succ, Nat.add_zero] at z0 z1 z2 z3 z4 z5
        clear lie1 hcl hx'
        go_wp2_with fail
        refine (szNode_any hr3.out hr0 (by omega)).mono ?_
        rintro e w1 ⟨⟨r', rfl, hr', hr'', hsm⟩, hb1⟩
        have hb' : Below w.heap.size w w1 := hb.trans (hb1.mono hb.size)
        have hsm' : Hid (r' < 0 ∨ NodeD.small X) := hsm
        clear hsm z0 z1 z2 z3 z4 z5
        by_cases hneg' : r' < 0
        · go_wp2_with fail
          go_ret
          exact ⟨⟨-1, rfl, by omega, by omega, Or.inl (by omega)⟩, hb'⟩
        · go_wp2_with fail
          go_roundw
          case rel => exact ⟨j + 1, r', by omega, by go_num, rfl, by omega, by omega, hb', fun i' h hi' => by
            by_cases e : i' < j
            · exact hs.out i' h e
            · have e' : i' = j := by omega
              subst e'
              rw [hX'.out]
              exact hsm'.out.resolve_left (by omega)⟩
          case measure => simp [intOf]; omega
      · go_wp2_with fail
        go_ret
        exact ⟨⟨r, rfl, by omega, by omega, Or.inr ⟨by omega, fun i h => hs.out i h (by omega)⟩⟩, hb⟩
set_option maxHeartbeats 800000 in
theorem szField_any {w : World} {lo : Nat} {cs : List Value} {x : FieldD} {left : Int} (hx : FieldAt w lo cs x) (h0 : 0 ≤ left) (h1 : left ≤ 1048576) :
    Calls Try.prog 62 #[.agg cs.toArray, .int .i64 left] w fun e w' => (∃ r : Int, e = .returned (.int .i64 r) ∧ r ≤ left ∧ -1 ≤ r ∧ (r < 0 ∨ x.small)) ∧ Below w.heap.size w w' := by
  obtain ⟨rfl, rName, rObj, _⟩ := hx
  unfold maxLen at rName
  have hb0 : Below w.heap.size w (w.alloc (.cells (List.toArray [.string x.vName, .int .i64 x.vObj]) 123)) := (Below.refl _ _).alloc (Nat.le_refl _) _
  have bx0 : Hid (Box (w.alloc (.cells (List.toArray [.string x.vName, .int .i64 x.vObj]) 123)) w.heap.size [.string x.vName, .int .i64 x.vObj] 123) := Box.new w _ _
  by_cases n0 : (left - (x.vName.size : Int)) < 0
  · go_enter Try.func62, Try.ntmps62
    go_wp2_with fail
    go_ret
    exact ⟨⟨-1, rfl, by omega, by omega, Or.inl (by omega)⟩, hb0⟩
  go_enter Try.func62, Try.ntmps62
  go_wp2_with fail
  go_ret
  exact ⟨⟨(left - (x.vName.size : Int)), rfl, by omega, by omega, Or.inr ⟨by omega, trivial⟩⟩, hb0⟩
set_option maxHeartbeats 800000 in
theorem szFieldS_any {w : World} {lo : Nat} {k : Value} {xs : List FieldD} {left : Int} (hk : SeqAt 2 FieldAt w lo k xs) (h0 : 0 ≤ left) (h1 : left ≤ 1048576) :
    Calls Try.prog 39 #[k, .int .i64 left] w fun e w' => (∃ r : Int, e = .returned (.int .i64 r) ∧ r ≤ left ∧ -1 ≤ r ∧ (r < 0 ∨ AllS FieldD.small xs)) ∧ Below w.heap.size w w' := by
  obtain ⟨a, cap, rfl, hm, hx⟩ := hk
  unfold maxLen at hm
  by_cases hneg : left - (xs.length : Int) < 0
  · clear hx
    go_enter Try.func39, Try.ntmps39
    go_wp2_with fail
    go_ret
    exact ⟨⟨-1, rfl, by omega, by omega, Or.inl (by omega)⟩, Below.refl _ _⟩
  · have hx' : Hid _ := hx
    clear hx
    go_enter Try.func39, Try.ntmps39
    go_wp2_with fail
    go_loopw [1, 5] (fun l i wr => ∃ (j : Nat) (r : Int), j ≤ xs.length ∧ i = .int .i64 j ∧ l = .int .i64 r ∧ 0 ≤ r ∧ r ≤ left ∧ Below w.heap.size w wr ∧ Hid (∀ i', (h : i' < xs.length) → i' < j → FieldD.small xs[i'])) (fun _ i _ => xs.length - (intOf i).toNat)
    case atStart => exact ⟨0, left - xs.length, by omega, rfl, rfl, by omega, by omega, Below.refl _ _, fun i' _ h => absurd h (by omega)⟩
    case round =>
      obtain ⟨j, r, hj, rfl, rfl, hr0, hr1, hb, hs⟩ := hrel
      by_cases hlt : j < xs.length
      · obtain ⟨b, off, rfl, hlo, hbw, hc⟩ := hx'.out (by omega)
        obtain ⟨cs, hcl, lie, hr⟩ := hc j hlt
        have lie1 := Lie.keep (lo := lo) (lo' := lo) lie (.of_below hb) hlo hbw
        have hr2 := FieldAt_stays _ _ _ lo _ _ (.of_below hb) hr
        generalize hX : xs[j] = X at hr2
        have hX' : Hid _ := hX
        have hr3 : Hid (FieldAt wr lo cs X) := hr2
        clear hX hr lie hc
        obtain ⟨rfl, rName, rObj, _⟩ := hr2
        clear rName rObj
        have z0 := lie1 0 (by simp)
        have z1 := lie1 1 (by simp)
        simp only [List.getElem?_cons_zero, List.getElem?_cons_succ, Nat.add_zero] at z0 z1
        clear lie1 hcl hx'
        go_wp2_with fail
        refine (szField_any hr3.out hr0 (by omega)).mono ?_
        rintro e w1 ⟨⟨r', rfl, hr', hr'', hsm⟩, hb1⟩
        have hb' : Below w.heap.size w w1 := hb.trans (hb1.mono hb.size)
        have hsm' : Hid (r' < 0 ∨ FieldD.small X) := hsm
        clear hsm z0 z1
        by_cases hneg' : r' < 0
        · go_wp2_with fail
          go_ret
          exact ⟨⟨-1, rfl, by omega, by omega, Or.inl (by omega)⟩, hb'⟩
        · go_wp2_with fail
          go_roundw
          case rel => exact ⟨j + 1, r', by omega, by go_num, rfl, by omega, by omega, hb', fun i' h hi' => by
            by_cases e : i' < j
            · exact hs.out i' h e
            · have e' : i' = j := by omega
              subst e'
              rw [hX'.out]
              exact hsm'.out.resolve_left (by omega)⟩
          case measure => simp [intOf]; omega
      · go_wp2_with fail
        go_ret
        exact ⟨⟨r, rfl, by omega, by omega, Or.inr ⟨by omega, fun i h => hs.out i h (by omega)⟩⟩, hb⟩
set_option maxHeartbeats 800000 in
theorem szObj_any {w : World} {lo : Nat} {cs : List Value} {x : ObjD} {left : Int} (hx : ObjAt w lo cs x) (h0 : 0 ≤ left) (h1 : left ≤ 1048576) :
    Calls Try.prog 61 #[.agg cs.toArray, .int .i64 left] w fun e w' => (∃ r : Int, e = .returned (.int .i64 r) ∧ r ≤ left ∧ -1 ≤ r ∧ (r < 0 ∨ x.small)) ∧ Below w.heap.size w w' := by
  obtain ⟨k2, rfl, s2, rId, rNode, _⟩ := hx
  have s2' : Hid (SeqAt 2 FieldAt w lo k2 x.vFields) := s2
  obtain ⟨a2, cap2, rfl⟩ := s2.form
  clear s2
  have hb0 : Below w.heap.size w (w.alloc (.cells (List.toArray [.int .i64 x.vId, .int .i64 x.vNode, .slice a2 x.vFields.length cap2]) 121)) := (Below.refl _ _).alloc (Nat.le_refl _) _
  have bx0 : Hid (Box (w.alloc (.cells (List.toArray [.int .i64 x.vId, .int .i64 x.vNode, .slice a2 x.vFields.length cap2]) 121)) w.heap.size [.int .i64 x.vId, .int .i64 x.vNode, .slice a2 x.vFields.length cap2] 121) := Box.new w _ _
  go_enter Try.func61, Try.ntmps61
  go_wp2_with fail
  refine (szFieldS_any (s2'.out.below FieldAt_stays hb0) (by omega) (by omega)).mono ?_
  rintro e u0 ⟨⟨r0, rfl, p0, q0, m0⟩, hbc⟩
  have hb1 : Below w.heap.size w u0 := hb0.trans (hbc.mono hb0.size)
  have bx1 : Hid (Box u0 w.heap.size [.int .i64 x.vId, .int .i64 x.vNode, .slice a2 x.vFields.length cap2] 121) := bx0.out.below hbc bx0.out.lt
  have t0_0 := bx1.out.cell 0 rfl
  have t0_1 := bx1.out.cell 1 rfl
  have t0_2 := bx1.out.cell 2 rfl
  have m0' : Hid (r0 < 0 ∨ AllS FieldD.small x.vFields) := m0
  clear m0 hbc
  by_cases n0 : r0 < 0
  · go_wp2_with fail
    go_ret
    exact ⟨⟨-1, rfl, by omega, by omega, Or.inl (by omega)⟩, hb1⟩
  go_wp2_with fail
  go_ret
  exact ⟨⟨r0, rfl, by omega, by omega, Or.inr ⟨m0'.out.resolve_left (by omega), trivial⟩⟩, hb1⟩
set_option maxHeartbeats 800000 in
theorem szObjS_any {w : World} {lo : Nat} {k : Value} {xs : List ObjD} {left : Int} (hk : SeqAt 3 ObjAt w lo k xs) (h0 : 0 ≤ left) (h1 : left ≤ 1048576) :
    Calls Try.prog 38 #[k, .int .i64 left] w fun e w' => (∃ r : Int, e = .returned (.int .i64 r) ∧ r ≤ left ∧ -1 ≤ r ∧ (r < 0 ∨ AllS ObjD.small xs)) ∧ Below w.heap.size w w' := by
  obtain ⟨a, cap, rfl, hm, hx⟩ := hk
  unfold maxLen at hm
  by_cases hneg : left - (xs.length : Int) < 0
  · clear hx
    go_enter Try.func38, Try.ntmps38
    go_wp2_with fail
    go_ret
    exact ⟨⟨-1, rfl, by omega, by omega, Or.inl (by omega)⟩, Below.refl _ _⟩
  · have hx' : Hid _ := hx
    clear hx
    go_enter Try.func38, Try.ntmps38
    go_wp2_with fail
    go_loopw [1, 5] (fun l i wr => ∃ (j : Nat) (r : Int), j ≤ xs.length ∧ i = .int .i64 j ∧ l = .int .i64 r ∧ 0 ≤ r ∧ r ≤ left ∧ Below w.heap.size w wr ∧ Hid (∀ i', (h : i' < xs.length) → i' < j → ObjD.small xs[i'])) (fun _ i _ => xs.length - (intOf i).toNat)
    case atStart => exact ⟨0, left - xs.length, by omega, rfl, rfl, by omega, by omega, Below.refl _ _, fun i' _ h => absurd h (by omega)⟩
    case round =>
      obtain ⟨j, r, hj, rfl, rfl, hr0, hr1, hb, hs⟩ := hrel
      by_cases hlt : j < xs.length
      · obtain ⟨b, off, rfl, hlo, hbw, hc⟩ := hx'.out (by omega)
        obtain ⟨cs, hcl, lie, hr⟩ := hc j hlt
        have lie1 := Lie.keep (lo := lo) (lo' := lo) lie (.of_below hb) hlo hbw
        have hr2 := ObjAt_stays _ _ _ lo _ _ (.of_below hb) hr
        generalize hX : xs[j] = X at hr2
        have hX' : Hid _ := hX
        have hr3 : Hid (ObjAt wr lo cs X) := hr2
        clear hX hr lie hc
        obtain ⟨k2, rfl, s2, rId, rNode, _⟩ := hr2
        clear s2 rId rNode
        have z0 := lie1 0 (by simp)
        have z1 := lie1 1 (by simp)
        have z2 := lie1 2 (by simp)
        simp only [List.getElem?_cons_zero, List.getElem?_cons_succ, Nat.add_zero] at z0 z1 z2
        clear lie1 hcl hx'
        go_wp2_with fail
        refine (szObj_any hr3.out hr0 (by omega)).mono ?_
        rintro e w1 ⟨⟨r', rfl, hr', hr'', hsm⟩, hb1⟩
        have hb' : Below w.heap.size w w1 := hb.trans (hb1.mono hb.size)
        have hsm' : Hid (r' < 0 ∨ ObjD.small X) := hsm
        clear hsm z0 z1 z2
        by_cases hneg' : r' < 0
        · go_wp2_with fail
          go_ret
          exact ⟨⟨-1, rfl, by omega, by omega, Or.inl (by omega)⟩, hb'⟩
        · go_wp2_with fail
          go_roundw
          case rel => exact ⟨j + 1, r', by omega, by go_num, rfl, by omega, by omega, hb', fun i' h hi' => by
            by_cases e : i' < j
            · exact hs.out i' h e
            · have e' : i' = j := by omega
              subst e'
              rw [hX'.out]
              exact hsm'.out.resolve_left (by omega)⟩
          case measure => simp [intOf]; omega
      · go_wp2_with fail
        go_ret
        exact ⟨⟨r, rfl, by omega, by omega, Or.inr ⟨by omega, fun i h => hs.out i h (by omega)⟩⟩, hb⟩
set_option maxHeartbeats 800000 in
theorem szHeap_any {w : World} {lo : Nat} {cs : List Value} {x : HeapD} {left : Int} (hx : HeapAt w lo cs x) (h0 : 0 ≤ left) (h1 : left ≤ 1048576) :
    Calls Try.prog 21 #[.agg cs.toArray, .int .i64 left] w fun e w' => (∃ r : Int, e = .returned (.int .i64 r) ∧ r ≤ left ∧ -1 ≤ r ∧ (r < 0 ∨ x.small)) ∧ Below w.heap.size w w' := by
  obtain ⟨k2, k3, k4, rfl, s2, s3, s4, rNext, rDoc, _⟩ := hx
  have s2' : Hid (SeqAt 6 NodeAt w lo k2 x.vNodes) := s2
  obtain ⟨a2, cap2, rfl⟩ := s2.form
  clear s2
  have s3' : Hid (SeqAt 3 ObjAt w lo k3 x.vObjs) := s3
  obtain ⟨a3, cap3, rfl⟩ := s3.form
  clear s3
  have s4' : Hid (SeqAt 2 FieldAt w lo k4 x.vGlobals) := s4
  obtain ⟨a4, cap4, rfl⟩ := s4.form
  clear s4
  have hb0 : Below w.heap.size w (w.alloc (.cells (List.toArray [.int .i64 x.vNext, .int .i64 x.vDoc, .slice a2 x.vNodes.length cap2, .slice a3 x.vObjs.length cap3, .slice a4 x.vGlobals.length cap4]) 62)) := (Below.refl _ _).alloc (Nat.le_refl _) _
  have bx0 : Hid (Box (w.alloc (.cells (List.toArray [.int .i64 x.vNext, .int .i64 x.vDoc, .slice a2 x.vNodes.length cap2, .slice a3 x.vObjs.length cap3, .slice a4 x.vGlobals.length cap4]) 62)) w.heap.size [.int .i64 x.vNext, .int .i64 x.vDoc, .slice a2 x.vNodes.length cap2, .slice a3 x.vObjs.length cap3, .slice a4 x.vGlobals.length cap4] 62) := Box.new w _ _
  go_enter Try.func21, Try.ntmps21
  go_wp2_with fail
  refine (szNodeS_any (s2'.out.below NodeAt_stays hb0) (by omega) (by omega)).mono ?_
  rintro e u0 ⟨⟨r0, rfl, p0, q0, m0⟩, hbc⟩
  have hb1 : Below w.heap.size w u0 := hb0.trans (hbc.mono hb0.size)
  have bx1 : Hid (Box u0 w.heap.size [.int .i64 x.vNext, .int .i64 x.vDoc, .slice a2 x.vNodes.length cap2, .slice a3 x.vObjs.length cap3, .slice a4 x.vGlobals.length cap4] 62) := bx0.out.below hbc bx0.out.lt
  have t0_0 := bx1.out.cell 0 rfl
  have t0_1 := bx1.out.cell 1 rfl
  have t0_2 := bx1.out.cell 2 rfl
  have t0_3 := bx1.out.cell 3 rfl
  have t0_4 := bx1.out.cell 4 rfl
  have m0' : Hid (r0 < 0 ∨ AllS NodeD.small x.vNodes) := m0
  clear m0 hbc
  by_cases n0 : r0 < 0
  · go_wp2_with fail
    go_ret
    exact ⟨⟨-1, rfl, by omega, by omega, Or.inl (by omega)⟩, hb1⟩
  go_wp2_with fail
  refine (szObjS_any (s3'.out.below ObjAt_stays hb1) (by omega) (by omega)).mono ?_
  rintro e u1 ⟨⟨r1, rfl, p1, q1, m1⟩, hbc⟩
  have hb2 : Below w.heap.size w u1 := hb1.trans (hbc.mono hb1.size)
  have bx2 : Hid (Box u1 w.heap.size [.int .i64 x.vNext, .int .i64 x.vDoc, .slice a2 x.vNodes.length cap2, .slice a3 x.vObjs.length cap3, .slice a4 x.vGlobals.length cap4] 62) := bx1.out.below hbc bx1.out.lt
  have t1_0 := bx2.out.cell 0 rfl
  have t1_1 := bx2.out.cell 1 rfl
  have t1_2 := bx2.out.cell 2 rfl
  have t1_3 := bx2.out.cell 3 rfl
  have t1_4 := bx2.out.cell 4 rfl
  have m1' : Hid (r1 < 0 ∨ AllS ObjD.small x.vObjs) := m1
  clear m1 hbc t0_0 t0_1 t0_2 t0_3 t0_4
  by_cases n1 : r1 < 0
  · go_wp2_with fail
    go_ret
    exact ⟨⟨-1, rfl, by omega, by omega, Or.inl (by omega)⟩, hb2⟩
  go_wp2_with fail
  refine (szFieldS_any (s4'.out.below FieldAt_stays hb2) (by omega) (by omega)).mono ?_
  rintro e u2 ⟨⟨r2, rfl, p2, q2, m2⟩, hbc⟩
  have hb3 : Below w.heap.size w u2 := hb2.trans (hbc.mono hb2.size)
  have bx3 : Hid (Box u2 w.heap.size [.int .i64 x.vNext, .int .i64 x.vDoc, .slice a2 x.vNodes.length cap2, .slice a3 x.vObjs.length cap3, .slice a4 x.vGlobals.length cap4] 62) := bx2.out.below hbc bx2.out.lt
  have t2_0 := bx3.out.cell 0 rfl
  have t2_1 := bx3.out.cell 1 rfl
  have t2_2 := bx3.out.cell 2 rfl
  have t2_3 := bx3.out.cell 3 rfl
  have t2_4 := bx3.out.cell 4 rfl
  have m2' : Hid (r2 < 0 ∨ AllS FieldD.small x.vGlobals) := m2
  clear m2 hbc t1_0 t1_1 t1_2 t1_3 t1_4
  by_cases n2 : r2 < 0
  · go_wp2_with fail
    go_ret
    exact ⟨⟨-1, rfl, by omega, by omega, Or.inl (by omega)⟩, hb3⟩
  go_wp2_with fail
  go_ret
  exact ⟨⟨r2, rfl, by omega, by omega, Or.inr ⟨m0'.out.resolve_left (by omega), m1'.out.resolve_left (by omega), m2'.out.resolve_left (by omega), trivial⟩⟩, hb3⟩
set_option maxHeartbeats 800000 in
theorem szHeapS_any {w : World} {lo : Nat} {k : Value} {xs : List HeapD} {left : Int} (hk : SeqAt 5 HeapAt w lo k xs) (h0 : 0 ≤ left) (h1 : left ≤ 1048576) :
    Calls Try.prog 9 #[k, .int .i64 left] w fun e w' => (∃ r : Int, e = .returned (.int .i64 r) ∧ r ≤ left ∧ -1 ≤ r ∧ (r < 0 ∨ AllS HeapD.small xs)) ∧ Below w.heap.size w w' := by
  obtain ⟨a, cap, rfl, hm, hx⟩ := hk
  unfold maxLen at hm
  by_cases hneg : left - (xs.length : Int) < 0
  · clear hx
    go_enter Try.func9, Try.ntmps9
    go_wp2_with fail
    go_ret
    exact ⟨⟨-1, rfl, by omega, by omega, Or.inl (by omega)⟩, Below.refl _ _⟩
  · have hx' : Hid _ := hx
    clear hx
    go_enter Try.func9, Try.ntmps9
    go_wp2_with fail
    go_loopw [1, 5] (fun l i wr => ∃ (j : Nat) (r : Int), j ≤ xs.length ∧ i = .int .i64 j ∧ l = .int .i64 r ∧ 0 ≤ r ∧ r ≤ left ∧ Below w.heap.size w wr ∧ Hid (∀ i', (h : i' < xs.length) → i' < j → HeapD.small xs[i'])) (fun _ i _ => xs.length - (intOf i).toNat)
    case atStart => exact ⟨0, left - xs.length, by omega, rfl, rfl, by omega, by omega, Below.refl _ _, fun i' _ h => absurd h (by omega)⟩
    case round =>
      obtain ⟨j, r, hj, rfl, rfl, hr0, hr1, hb, hs⟩ := hrel
      by_cases hlt : j < xs.length
      · obtain ⟨b, off, rfl, hlo, hbw, hc⟩ := hx'.out (by omega)
        obtain ⟨cs, hcl, lie, hr⟩ := hc j hlt
        have lie1 := Lie.keep (lo := lo) (lo' := lo) lie (.of_below hb) hlo hbw
        have hr2 := HeapAt_stays _ _ _ lo _ _ (.of_below hb) hr
        generalize hX : xs[j] = X at hr2
        have hX' : Hid _ := hX
        have hr3 : Hid (HeapAt wr lo cs X) := hr2
        clear hX hr lie hc
        obtain ⟨k2, k3, k4, rfl, s2, s3, s4, rNext, rDoc, _⟩ := hr2
        clear s2 s3 s4 rNext rDoc
        have z0 := lie1 0 (by simp)
        have z1 := lie1 1 (by simp)
        have z2 := lie1 2 (by simp)
        have z3 := lie1 3 (by simp)
        have z4 := lie1 4 (by simp)
        simp only [List.getElem?_cons_zero, List.getElem?_cons_succ, Nat.add_zero] at z0 z1 z2 z3 z4
        clear lie1 hcl hx'
        go_wp2_with fail
        refine (szHeap_any hr3.out hr0 (by omega)).mono ?_
        rintro e w1 ⟨⟨r', rfl, hr', hr'', hsm⟩, hb1⟩
        have hb' : Below w.heap.size w w1 := hb.trans (hb1.mono hb.size)
        have hsm' : Hid (r' < 0 ∨ HeapD.small X) := hsm
        clear hsm z0 z1 z2 z3 z4
        by_cases hneg' : r' < 0
        · go_wp2_with fail
          go_ret
          exact ⟨⟨-1, rfl, by omega, by omega, Or.inl (by omega)⟩, hb'⟩
        · go_wp2_with fail
          go_roundw
          case rel => exact ⟨j + 1, r', by omega, by go_num, rfl, by omega, by omega, hb', fun i' h hi' => by
            by_cases e : i' < j
            · exact hs.out i' h e
            · have e' : i' = j := by omega
              subst e'
              rw [hX'.out]
              exact hsm'.out.resolve_left (by omega)⟩
          case measure => simp [intOf]; omega
      · go_wp2_with fail
        go_ret
        exact ⟨⟨r, rfl, by omega, by omega, Or.inr ⟨by omega, fun i h => hs.out i h (by omega)⟩⟩, hb⟩
end Go.Proofs.Ytbodeijffpepfaa
