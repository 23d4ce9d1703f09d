/- An edit in memory; is it right by itself? l10Form walked. -/
import Derived.Test.YtndffcogddefiaaEdPlain
import Derived.Test.YtndffcogddefiaaNameWalks
import Derived.Test.YtndffcogddefiaaGrowOwn
import Derived.WalkKit
import Derived.Laws.Cover1
import Derived.Deep.DeepCutAuto
namespace Go.Proofs.Ytndffcogddefiaa
open Go.RowKit
/-- an edit lies in memory -/
def EditAt (n : Nat) (w : World) (lo : Nat) (cs : List Value) (e : EditD) : Prop :=
  ∃ kp t k, cs = [.int .i64 e.vKind, kp, .string e.vTag, t, k] ∧ InI e.vKind ∧ SeqAt 1 IntAt w lo kp e.vPath ∧ e.vTag.size ≤ maxLen ∧ TreeAt w lo n t k e.vTree
theorem EditAt.stays {n : Nat} : Stays (EditAt n) := by
  intro w w' lo lo' cs x q h
  obtain ⟨kp, t, k, e, h1, h2, h3, h4⟩ := h
  refine ⟨kp, t, k, e, h1, h2.keep intAt_stays q, h3, ?_⟩
  exact TreeAt.keep q.1 q.2.1 q.2.2 n t k _ h4
theorem EditAt.form {n : Nat} {w : World} {lo : Nat} {cs : List Value} {e : EditD} (h : EditAt n w lo cs e) : ∃ ap cp a c, cs = [.int .i64 e.vKind, .slice ap e.vPath.length cp, .string e.vTag, .string (strT e.vTree), .slice a (kidsOf e.vTree).length c] ∧ SeqAt 1 IntAt w lo (.slice ap e.vPath.length cp) e.vPath ∧ e.vTag.size ≤ maxLen ∧ TreeAt w lo n (.string (strT e.vTree)) (.slice a (kidsOf e.vTree).length c) e.vTree := by
  obtain ⟨kp, t, k, rfl, h1, h2, h3, h4⟩ := h
  obtain ⟨ap, cp, rfl⟩ := h2.form
  obtain ⟨rfl, _⟩ := h4.tag
  obtain ⟨_, a, c, rfl⟩ := h4.form
  exact ⟨ap, cp, a, c, rfl, h2, h3, h4⟩
theorem TreeAt.few {n : Nat} {w : World} {lo : Nat} {t k : Value} {d : TD} (h : TreeAt w lo n t k d) : (kidsOf d).length ≤ maxLen := by
  cases n with
  | zero => exact h.elim
  | succ n => obtain ⟨_, a, cap, _, hm, _⟩ := h; exact hm
theorem em_yes {s : ByteArray} (h : emS s = true) : s = ⟨#[]⟩ := by simpa [emS] using h
theorem em_no {s : ByteArray} (h : emS s = false) : (s.toList == []) = false := by
  have h' : ¬ s = ⟨#[]⟩ := by simpa [emS] using h
  cases e : s.toList with
  | nil => exact absurd (by cases s with | mk d => (have e2 : d.toList = [] := by rw [← ByteArray.toList_eq] ; exact e) ; congr 1; exact Array.toList_eq_nil_iff.1 e2) h'
  | cons => rfl
theorem em_or (s : ByteArray) : (emS s = false ∧ (s.toList == []) = false ∧ s.toList.isEmpty = false) ∨ (emS s = true ∧ (s.toList == []) = true ∧ s.toList.isEmpty = true) := by
  cases h : emS s
  · left; refine ⟨rfl, em_no h, ?_⟩
    have := em_no h
    cases e : s.toList with
    | nil => rw [e] at this; cases this
    | cons => rfl
  · right; rw [em_yes h]; exact ⟨rfl, by simp [ByteArray.toList_eq], by simp [ByteArray.toList_eq]⟩
set_option maxRecDepth 100000 in
set_option maxHeartbeats 4000000 in
theorem l10Form_any {n : Nat} {w : World} {lo : Nat} {cs : List Value} {e : EditD} (h : EditAt n w lo cs e) :
    Calls Try.prog 30 #[.agg cs.toArray] w fun e1 w' => e1 = .returned (.bool (formB e)) ∧ Below w.heap.size w w' := by
  obtain ⟨ap, cp, a, c, rfl, hp, htg, ht⟩ := h.form
  have hlp : (e.vPath.length : Int) ≤ 9223372036854775807 := by obtain ⟨_, _, _, hm, _⟩ := hp; unfold maxLen at hm; omega
  have hlk : ((kidsOf e.vTree).length : Int) ≤ 9223372036854775807 := by have := ht.few; unfold maxLen at this; omega
  have hb0 : Hid (Below w.heap.size w (w.alloc (.cells #[.int .i64 e.vKind, .slice ap e.vPath.length cp, .string e.vTag, .string (strT e.vTree), .slice a (kidsOf e.vTree).length c] 29))) := (Below.refl _ _).alloc (Nat.le_refl _) _
  have ht' : Hid (TreeAt (w.alloc (.cells #[.int .i64 e.vKind, .slice ap e.vPath.length cp, .string e.vTag, .string (strT e.vTree), .slice a (kidsOf e.vTree).length c] 29)) lo n (.string (strT e.vTree)) (.slice a (kidsOf e.vTree).length c) e.vTree) := ht.below hb0.out
  have bx : Hid (Box (w.alloc (.cells #[.int .i64 e.vKind, .slice ap e.vPath.length cp, .string e.vTag, .string (strT e.vTree), .slice a (kidsOf e.vTree).length c] 29)) w.heap.size [.int .i64 e.vKind, .slice ap e.vPath.length cp, .string e.vTag, .string (strT e.vTree), .slice a (kidsOf e.vTree).length c] 29) := Box.new w _ _
  have htg' : Hid (e.vTag.size ≤ maxLen) := htg
  have hF : Hid (formB e = (if e.vKind = 1 then emS e.vTag && decide (0 < e.vPath.length) && treeB e.vTree else if e.vKind = 2 then emS e.vTag && decide (0 < e.vPath.length) && emT e.vTree else decide (e.vKind = 3) && nameB e.vTag.data.toList && emT e.vTree)) := rfl
  have hEm : Hid (emT e.vTree = (emS (strT e.vTree) && decide ((kidsOf e.vTree).length = 0))) := rfl
  clear h hp ht htg
  go_enter Try.func30, Try.ntmps30
  go_upto_region 1 with fail
  generalize w.alloc (.cells #[.int .i64 e.vKind, .slice ap e.vPath.length cp, .string e.vTag, .string (strT e.vTree), .slice a (kidsOf e.vTree).length c] 29) = w0 at *
  have c0 := bx.out.cell 0 rfl
  have c1 := bx.out.cell 1 rfl
  have c2 := bx.out.cell 2 rfl
  have c3 := bx.out.cell 3 rfl
  have c4 := bx.out.cell 4 rfl
  by_cases hk : e.vKind = 1
  · rw [hk] at c0
    rcases em_or (e.vTag) with ⟨q1, q1a, q1b⟩ | ⟨q1, q1a, q1b⟩
    · have hv : Hid (formB e = false) := by show _ = _; rw [hF.out]; simp [hk, q1]
      go_wp2_with fail
      go_ret
      exact ⟨by rw [hv.out]; rfl, hb0.out⟩
    · by_cases hp0 : 0 < (e.vPath.length : Int)
      · have hpn : 0 < e.vPath.length := by omega
        have hv : Hid (formB e = treeB e.vTree) := by show _ = _; rw [hF.out]; simp [hk, q1, hpn]
        go_wp2_with fail
        refine (specOk_any ht'.out).mono ?_
        rintro e9 w1 ⟨rfl, hb1⟩
        have hB1 : Hid (Below w.heap.size w w1) := hb0.out.trans (hb1.mono hb0.out.size)
        clear hb1
        go_wp2_with fail
        go_ret
        exact ⟨by rw [hv.out]; rfl, hB1.out⟩
      · have hpn : ¬ 0 < e.vPath.length := by omega
        have hv : Hid (formB e = false) := by show _ = _; rw [hF.out]; simp [hk, q1, hpn]
        go_wp2_with fail
        go_ret
        exact ⟨by rw [hv.out]; rfl, hb0.out⟩
  by_cases hk2 : e.vKind = 2
  · have hk := hk2
    rw [hk2] at c0
    rcases em_or (e.vTag) with ⟨q1, q1a, q1b⟩ | ⟨q1, q1a, q1b⟩
    · have hv : Hid (formB e = false) := by show _ = _; rw [hF.out]; simp [hk, q1]
      go_wp2_with fail
      go_ret
      exact ⟨by rw [hv.out]; rfl, hb0.out⟩
    · by_cases hp0 : 0 < (e.vPath.length : Int)
      · have hpn : 0 < e.vPath.length := by omega
        rcases em_or (strT e.vTree) with ⟨q2, q2a, q2b⟩ | ⟨q2, q2a, q2b⟩
        · have hv : Hid (formB e = false) := by show _ = _; rw [hF.out]; simp [hk, q1, hpn, emT, q2]
          go_wp2_with fail
          go_ret
          exact ⟨by rw [hv.out]; rfl, hb0.out⟩
        · by_cases hk0 : ((kidsOf e.vTree).length : Int) = 0
          · have hkn : (kidsOf e.vTree).length = 0 := by omega
            have hv : Hid (formB e = true) := by show _ = _; rw [hF.out]; simp [hk, q1, hpn, emT, q2, hkn]
            go_wp2_with fail
            go_ret
            exact ⟨by rw [hv.out]; rfl, hb0.out⟩
          · have hkn : ¬ (kidsOf e.vTree).length = 0 := by omega
            have hkb : (((kidsOf e.vTree).length : Int) == 0) = false := by simpa using hk0
            have hv : Hid (formB e = false) := by show _ = _; rw [hF.out]; simp [hk, q1, hpn, emT, q2, hkn]
            go_wp2_with fail
            go_ret
            exact ⟨by rw [hv.out]; rfl, hb0.out⟩
      · have hpn : ¬ 0 < e.vPath.length := by omega
        have hv : Hid (formB e = false) := by show _ = _; rw [hF.out]; simp [hk, q1, hpn]
        go_wp2_with fail
        go_ret
        exact ⟨by rw [hv.out]; rfl, hb0.out⟩
  by_cases hk3 : e.vKind = 3
  · have hk := hk3
    rw [hk3] at c0
    clear hk2 hk3
    go_wp2_with fail
    refine (specNameOk_any _ _ htg'.out).mono ?_
    rintro e9 w1 ⟨rfl, e8⟩
    have e7 := e8.symm
    clear e8
    subst e7
    rcases (by cases nameB e.vTag.data.toList <;> simp : nameB e.vTag.data.toList = false ∨ nameB e.vTag.data.toList = true) with hn | hn
    · rw [hn]
      have hv : Hid (formB e = false) := by show _ = _; rw [hF.out]; simp [hk, hn]
      go_wp2_with fail
      go_ret
      exact ⟨by rw [hv.out]; rfl, hb0.out⟩
    · rw [hn]
      rcases em_or (strT e.vTree) with ⟨q2, q2a, q2b⟩ | ⟨q2, q2a, q2b⟩
      · have hv : Hid (formB e = false) := by show _ = _; rw [hF.out]; simp [hk, hn, emT, q2]
        go_wp2_with fail
        go_ret
        exact ⟨by rw [hv.out]; rfl, hb0.out⟩
      · by_cases hk0 : ((kidsOf e.vTree).length : Int) = 0
        · have hkn : (kidsOf e.vTree).length = 0 := by omega
          have hv : Hid (formB e = true) := by show _ = _; rw [hF.out]; simp [hk, hn, emT, q2, hkn]
          go_wp2_with fail
          go_ret
          exact ⟨by rw [hv.out]; rfl, hb0.out⟩
        · have hkn : ¬ (kidsOf e.vTree).length = 0 := by omega
          have hkb : (((kidsOf e.vTree).length : Int) == 0) = false := by simpa using hk0
          have hv : Hid (formB e = false) := by show _ = _; rw [hF.out]; simp [hk, hn, emT, q2, hkn]
          go_wp2_with fail
          go_ret
          exact ⟨by rw [hv.out]; rfl, hb0.out⟩
  · have b1 : (e.vKind == 1) = false := by simpa using hk
    have b2 : (e.vKind == 2) = false := by simpa using hk2
    have b3 : (e.vKind == 3) = false := by simpa using hk3
    have hv : Hid (formB e = false) := by show _ = _; rw [hF.out]; simp [hk, hk2, hk3]
    go_wp2_with fail
    go_ret
    exact ⟨by rw [hv.out]; rfl, hb0.out⟩
end Go.Proofs.Ytndffcogddefiaa
