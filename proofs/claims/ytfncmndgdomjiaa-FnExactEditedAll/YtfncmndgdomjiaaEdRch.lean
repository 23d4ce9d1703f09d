/- rightChange of the program: walked. -/
import Derived.Test.YtfncmndgdomjiaaEdChg
namespace Go.Proofs.Ytfncmndgdomjiaa
open Go.RowKit Go.Deep
set_option maxRecDepth 100000 in
set_option maxHeartbeats 4000000 in
theorem rightIns_any {n lo : Nat} {w : World} {ap a : Option Addr} {cp c : Nat} {path : List Int} {x : TD} (hm : path.length ≤ maxLen) (ht0 : TreeAt w lo n (.string (strT x)) (.slice a (kidsOf x).length c) x) :
    Calls Try.prog 100 #[.agg #[.slice ap path.length cp, .string (strT x), .slice a (kidsOf x).length c]] w fun e1 w' => e1 = .returned (.bool (decide (0 < path.length) && treeB x)) ∧ Below w.heap.size w w' := by
  unfold maxLen at hm
  have hb0 : Hid (Below w.heap.size w (w.alloc (.cells #[.slice ap path.length cp, .string (strT x), .slice a (kidsOf x).length c] 94))) := (Below.refl _ _).alloc (Nat.le_refl _) _
  have bx : Hid (Box (w.alloc (.cells #[.slice ap path.length cp, .string (strT x), .slice a (kidsOf x).length c] 94)) w.heap.size [.slice ap path.length cp, .string (strT x), .slice a (kidsOf x).length c] 94) := Box.new w _ _
  have c0 := bx.out.cell 0 rfl
  have c1 := bx.out.cell 1 rfl
  have c2 := bx.out.cell 2 rfl
  have ht : Hid (TreeAt (w.alloc (.cells #[.slice ap path.length cp, .string (strT x), .slice a (kidsOf x).length c] 94)) lo n (.string (strT x)) (.slice a (kidsOf x).length c) x) := ht0.below hb0.out
  clear ht0
  go_enter Try.func100, Try.ntmps100
  by_cases h0 : 0 < (path.length : Int)
  · have h1 : Hid (0 < path.length) := by show _ < _; omega
    go_wp2_with fail
    refine (implOk_any ht.out).mono ?_
    rintro e1 w1 ⟨rfl, hb1⟩
    have hB1 : Hid (Below w.heap.size w w1) := hb0.out.trans (hb1.mono hb0.out.size)
    clear hb1
    go_wp2_with fail
    go_ret
    exact ⟨by simp [h1.out], hB1.out⟩
  · have h1 : Hid (¬ 0 < path.length) := by show ¬ _; omega
    go_wp2_with fail
    go_ret
    exact ⟨by simp, hb0.out⟩
set_option maxRecDepth 100000 in
set_option maxHeartbeats 4000000 in
theorem rightDel_any {w : World} {ap : Option Addr} {cp : Nat} {path : List Int} (hm : path.length ≤ maxLen) :
    Calls Try.prog 99 #[.agg #[.slice ap path.length cp]] w fun e1 w' => e1 = .returned (.bool (decide (0 < path.length))) ∧ Below w.heap.size w w' := by
  unfold maxLen at hm
  have hb0 : Hid (Below w.heap.size w (w.alloc (.cells #[.slice ap path.length cp] 92))) := (Below.refl _ _).alloc (Nat.le_refl _) _
  have bx : Hid (Box (w.alloc (.cells #[.slice ap path.length cp] 92)) w.heap.size [.slice ap path.length cp] 92) := Box.new w _ _
  have c0 := bx.out.cell 0 rfl
  go_enter Try.func99, Try.ntmps99
  by_cases h0 : 0 < (path.length : Int)
  · have h1 : Hid (0 < path.length) := by show _ < _; omega
    go_wp2_with fail
    go_ret
    exact ⟨by simp [h1.out], hb0.out⟩
  · have h1 : Hid (¬ 0 < path.length) := by show ¬ _; omega
    go_wp2_with fail
    go_ret
    exact ⟨by simp [h1.out], hb0.out⟩
set_option maxRecDepth 100000 in
set_option maxHeartbeats 4000000 in
theorem rightRen_any {w : World} {kp : Value} {tag : ByteArray} (hm : tag.size ≤ maxLen) :
    Calls Try.prog 98 #[.agg #[kp, .string tag]] w fun e1 w' => e1 = .returned (.bool (nameB tag.data.toList)) ∧ Below w.heap.size w w' := by
  have hm' : Hid (tag.size ≤ maxLen) := hm
  clear hm
  have hb0 : Hid (Below w.heap.size w (w.alloc (.cells #[kp, .string tag] 89))) := (Below.refl _ _).alloc (Nat.le_refl _) _
  have bx : Hid (Box (w.alloc (.cells #[kp, .string tag] 89)) w.heap.size [kp, .string tag] 89) := Box.new w _ _
  have c1 := bx.out.cell 1 rfl
  go_enter Try.func98, Try.ntmps98
  go_wp2_with fail
  refine (implNameOk_any _ _ hm'.out).mono ?_
  rintro e1 w1 ⟨rfl, hw1⟩
  have hw2 := hw1.symm
  subst hw2
  clear hw1
  go_wp2_with fail
  go_ret
  exact ⟨rfl, hb0.out⟩
set_option maxRecDepth 100000 in
set_option maxHeartbeats 8000000 in
theorem rightChange_any {n lo : Nat} {w : World} {ap a : Option Addr} {cp c : Nat} {e : EditD} (h : EditAt n w lo [.int .i64 e.vKind, .slice ap e.vPath.length cp, .string e.vTag, .string (strT e.vTree), .slice a (kidsOf e.vTree).length c] e) :
    Calls Try.prog 56 #[.agg #[.int .i64 e.vKind, .slice ap e.vPath.length cp, .string e.vTag, .string (strT e.vTree), .slice a (kidsOf e.vTree).length c]] w fun e1 w' => e1 = .returned (.tuple #[chV e (.slice ap e.vPath.length cp) (.slice a (kidsOf e.vTree).length c), .bool (formB e)]) ∧ Below w.heap.size w w' := by
  obtain ⟨kp, t, k, ee, _, hp0, htg0, ht0⟩ := h
  simp only [List.cons.injEq, and_true, true_and] at ee
  obtain ⟨e1, e2, e3⟩ := ee
  subst e1 e2 e3
  have hpl : Hid (e.vPath.length ≤ maxLen) := by obtain ⟨_, _, _, hm, _⟩ := hp0; exact hm.1
  have htg : Hid (e.vTag.size ≤ maxLen) := htg0
  have hb0 : Hid (Below w.heap.size w (w.alloc (.cells #[.int .i64 e.vKind, .slice ap e.vPath.length cp, .string e.vTag, .string (strT e.vTree), .slice a (kidsOf e.vTree).length c] 36))) := (Below.refl _ _).alloc (Nat.le_refl _) _
  have bx : Hid (Box (w.alloc (.cells #[.int .i64 e.vKind, .slice ap e.vPath.length cp, .string e.vTag, .string (strT e.vTree), .slice a (kidsOf e.vTree).length c] 36)) w.heap.size [.int .i64 e.vKind, .slice ap e.vPath.length cp, .string e.vTag, .string (strT e.vTree), .slice a (kidsOf e.vTree).length c] 36) := Box.new w _ _
  have ht : Hid (TreeAt w lo n (.string (strT e.vTree)) (.slice a (kidsOf e.vTree).length c) e.vTree) := ht0
  clear hp0 htg0 ht0
  have c0 := bx.out.cell 0 rfl
  have c1 := bx.out.cell 1 rfl
  have c2 := bx.out.cell 2 rfl
  have c3 := bx.out.cell 3 rfl
  have c4 := bx.out.cell 4 rfl
  go_enter Try.func56, Try.ntmps56
  go_wp2_with fail
  refine (changeOf_any).mono ?_
  rintro e1 w1 ⟨rfl, hb1⟩
  have hB1 : Hid (Below w.heap.size w w1) := hb0.out.trans (hb1.mono hb0.out.size)
  clear hb1 c0 c1 c2 c3 c4 bx
  by_cases hk1 : e.vKind = 1
  · have hcv : chV e (.slice ap e.vPath.length cp) (.slice a (kidsOf e.vTree).length c) = .iface 94 (.agg #[.slice ap e.vPath.length cp, .string (strT e.vTree), .slice a (kidsOf e.vTree).length c]) := by simp [chV, hk1]
    have hcb : chB e = emS e.vTag := by simp [chB, hk1]
    rw [hcv, hcb]
    rcases em_or e.vTag with ⟨q1, _, _⟩ | ⟨q1, _, _⟩
    · rw [q1]
      have hv : Hid (formB e = false) := by show _ = _; simp [formB, hk1, q1]
      go_wp2_with fail
      go_ret2
      exact ⟨by rw [hcv, hv.out]; rfl, hB1.out⟩
    · rw [q1]
      have hv : Hid (formB e = (decide (0 < e.vPath.length) && treeB e.vTree)) := by show _ = _; simp [formB, hk1, q1]
      go_wp2_with fail
      refine (rightIns_any hpl.out (ht.out.below hB1.out)).mono ?_
      rintro e2 w2 ⟨rfl, hb2⟩
      have hB2 : Hid (Below w.heap.size w w2) := hB1.out.trans (hb2.mono hB1.out.size)
      clear hb2
      go_wp2_with fail
      go_ret2
      exact ⟨by rw [hcv, hv.out]; rfl, hB2.out⟩
  by_cases hk2 : e.vKind = 2
  · have hcv : chV e (.slice ap e.vPath.length cp) (.slice a (kidsOf e.vTree).length c) = .iface 92 (.agg #[.slice ap e.vPath.length cp]) := by simp [chV, hk2]
    have hcb : chB e = (emS e.vTag && emT e.vTree) := by simp [chB, hk2]
    rw [hcv, hcb]
    cases q1 : emS e.vTag
    · simp only [Bool.false_and]
      have hv : Hid (formB e = false) := by show _ = _; simp [formB, hk2, q1]
      go_wp2_with fail
      go_ret2
      exact ⟨by rw [hcv, hv.out]; rfl, hB1.out⟩
    · cases q2 : emT e.vTree
      · simp only [Bool.true_and]
        have hv : Hid (formB e = false) := by show _ = _; simp [formB, hk2, q1, q2]
        go_wp2_with fail
        go_ret2
        exact ⟨by rw [hcv, hv.out]; rfl, hB1.out⟩
      · simp only [Bool.true_and]
        have hv : Hid (formB e = (decide (0 < e.vPath.length))) := by show _ = _; simp [formB, hk2, q1, q2]
        go_wp2_with fail
        refine (rightDel_any hpl.out).mono ?_
        rintro e2 w2 ⟨rfl, hb2⟩
        have hB2 : Hid (Below w.heap.size w w2) := hB1.out.trans (hb2.mono hB1.out.size)
        clear hb2
        go_wp2_with fail
        go_ret2
        exact ⟨by rw [hcv, hv.out]; rfl, hB2.out⟩
  by_cases hk3 : e.vKind = 3
  · have hcv : chV e (.slice ap e.vPath.length cp) (.slice a (kidsOf e.vTree).length c) = .iface 89 (.agg #[.slice ap e.vPath.length cp, .string e.vTag]) := by simp [chV, hk3]
    have hcb : chB e = emT e.vTree := by simp [chB, hk3]
    rw [hcv, hcb]
    cases q2 : emT e.vTree
    · have hv : Hid (formB e = false) := by show _ = _; simp [formB, hk3, q2]
      go_wp2_with fail
      go_ret2
      exact ⟨by rw [hcv, hv.out]; rfl, hB1.out⟩
    · have hv : Hid (formB e = (nameB e.vTag.data.toList)) := by show _ = _; simp [formB, hk3, q2]
      go_wp2_with fail
      refine (rightRen_any htg.out).mono ?_
      rintro e2 w2 ⟨rfl, hb2⟩
      have hB2 : Hid (Below w.heap.size w w2) := hB1.out.trans (hb2.mono hB1.out.size)
      clear hb2
      go_wp2_with fail
      go_ret2
      exact ⟨by rw [hcv, hv.out]; rfl, hB2.out⟩
  have hcv : chV e (.slice ap e.vPath.length cp) (.slice a (kidsOf e.vTree).length c) = .nilIface := by simp [chV, hk1, hk2, hk3]
  have hcb : chB e = false := by simp [chB, hk1, hk2, hk3]
  rw [hcv, hcb]
  have hv : Hid (formB e = false) := by show _ = _; simp [formB, hk1, hk2, hk3]
  go_wp2_with fail
  go_ret2
  exact ⟨by rw [hcv, hv.out]; rfl, hB1.out⟩
end Go.Proofs.Ytfncmndgdomjiaa
