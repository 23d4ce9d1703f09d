/- The text of a selector: plain facts, and both sides walked. -/
import Derived.Test.YtdlkafpemongmaaSelWalks
import Derived.Test.YtdlkafpemongmaaShelfJoin
import Derived.Laws.AppendOwn
import Derived.WalkKit
import Derived.OwnWalk
import Derived.MapKept
namespace Go.Proofs.Ytdlkafpemongmaa
open Go.RowKit
theorem stx_app (a b : ByteArray) : (a ++ b).data.toList = a.data.toList ++ b.data.toList := by
  rw [ByteArray.data_append, Array.toList_append]
theorem stx_size (a b : ByteArray) : (a ++ b).size = a.size + b.size := ByteArray.size_append
theorem stx_len (a : ByteArray) : a.data.toList.length = a.size := by rfl
/-- a tag's text, and a step's -/
def tagT (x : StepD) : ByteArray := if x.vTag = ⟨#[]⟩ then ⟨#[42]⟩ else x.vTag
def stepT (x : StepD) : ByteArray := if x.vDeep = true then tagT x else ⟨#[62, 32]⟩ ++ tagT x
def joinT (l : List StepD) : List UInt8 := Lib.join ((l.map stepT).map (·.data.toList)) [32]
def selT (l : List StepD) : ByteArray := if selB l = true then ⟨(joinT l).toArray⟩ else ⟨#[]⟩
theorem joinT_take (l : List StepD) (j : Nat) (h : j < l.length) : joinT (l.take (j + 1)) = joinT (l.take j) ++ ((if 0 < j then [32] else []) ++ (stepT l[j]).data.toList) := by
  cases l with
  | nil => simp at h
  | cons x r =>
    cases j with
    | zero => simp [joinT, Lib.join_one, Lib.join_nil]
    | succ k =>
      have hk : k < r.length := by simpa using h
      simp only [joinT, List.take_succ_cons, List.map_cons, Lib.join_cons, List.getElem_cons_succ]
      rw [List.map_take, List.map_take, List.map_take, List.map_take, Lib.joinTail_take_succ _ _ k ((stepT r[k]).data.toList) (by simp [hk])]
      simp
theorem tagT_small {x : StepD} (h : stepB x = true) : (tagT x).size ≤ 6 := by
  unfold tagT
  by_cases e : x.vTag = ⟨#[]⟩
  · rw [if_pos e]; show 1 ≤ 6; omega
  · rw [if_neg e]
    rw [stepB_name e] at h
    rw [← stx_len]
    rcases Nat.lt_or_ge 6 x.vTag.data.toList.length with q | q
    · rw [nameB_long _ q] at h; cases h
    · exact q
theorem stepT_small {x : StepD} (h : stepB x = true) : (stepT x).size ≤ 8 := by
  have := tagT_small h
  unfold stepT
  split
  · omega
  · rw [stx_size]; show 2 + _ ≤ 8; omega
theorem stepsB_at {l : List StepD} (h : stepsB l = true) {j : Nat} (hj : j < l.length) : stepB l[j] = true := by
  have h1 := stepsB_take l j hj
  cases e : stepsB (l.take (j + 1)) with
  | false => rw [stepsB_take_false l _ e] at h; cases h
  | true => rw [e] at h1; cases q : stepB l[j] with
    | true => rfl
    | false => rw [q, Bool.and_false] at h1; cases h1
theorem joinT_small {l : List StepD} (h : stepsB l = true) : ∀ j, j ≤ l.length → (joinT (l.take j)).length ≤ 9 * j := by
  intro j
  induction j with
  | zero => intro _; simp [joinT, Lib.join_nil]
  | succ j ih =>
    intro hj
    have h1 := ih (by omega)
    have h2 := stepT_small (stepsB_at h (show j < l.length from hj))
    rw [joinT_take l j hj, List.length_append, List.length_append, stx_len]
    split <;> simp <;> omega
theorem selB_parts {l : List StepD} (h : selB l = true) : 1 ≤ l.length ∧ l.length ≤ 5 ∧ stepsB l = true := by
  simp [selB] at h
  exact ⟨by omega, by omega, h.2⟩
set_option maxHeartbeats 1000000 in
theorem stepText_any {x : StepD} (hs : x.vTag.size ≤ 6) (w : World) :
    Calls Try.prog 18 #[.agg #[.string x.vTag, .bool x.vDeep]] w fun e w' => e = .returned (.string (stepT x)) ∧ Below w.heap.size w w' := by
  have hd : ¬ 9223372036854775807 < 2 + x.vTag.size := by omega
  by_cases he : x.vTag = ⟨#[]⟩
  · have hde : decide (x.vTag = ⟨#[]⟩) = true := by simp [he]
    have ht : Hid (tagT x = ⟨#[42]⟩) := by show _ = _; unfold tagT; rw [if_pos he]
    clear he hd
    rcases (by cases x.vDeep <;> simp : x.vDeep = false ∨ x.vDeep = true) with hx | hx
    · have hr : Hid (stepT x = ⟨#[62, 32]⟩ ++ ⟨#[42]⟩) := by show _ = _; unfold stepT; rw [hx, ht.out]; rfl
      rw [hx]
      clear hx
      go_enter Try.func18, Try.ntmps18
      go_wp2_with (go_at_call 22; refine (isAny_any _ _).mono ?_; rintro e w' ⟨rfl, rfl⟩; rw [hde])
      go_ret
      exact ⟨by rw [hr.out]; rfl, (Below.refl _ _).alloc (Nat.le_refl _) _⟩
    · have hr : Hid (stepT x = ⟨#[42]⟩) := by show _ = _; unfold stepT; rw [hx, ht.out]; rfl
      rw [hx]
      clear hx
      go_enter Try.func18, Try.ntmps18
      go_wp2_with (go_at_call 22; refine (isAny_any _ _).mono ?_; rintro e w' ⟨rfl, rfl⟩; rw [hde])
      go_ret
      exact ⟨by rw [hr.out]; rfl, (Below.refl _ _).alloc (Nat.le_refl _) _⟩
  · have hde : decide (x.vTag = ⟨#[]⟩) = false := by simp [he]
    have ht : Hid (tagT x = x.vTag) := by show _ = _; unfold tagT; rw [if_neg he]
    clear he
    rcases (by cases x.vDeep <;> simp : x.vDeep = false ∨ x.vDeep = true) with hx | hx
    · have hr : Hid (stepT x = ⟨#[62, 32]⟩ ++ x.vTag) := by show _ = _; unfold stepT; rw [hx, ht.out]; rfl
      rw [hx]
      clear hx
      go_enter Try.func18, Try.ntmps18
      go_wp2_with (go_at_call 22; refine (isAny_any _ _).mono ?_; rintro e w' ⟨rfl, rfl⟩; rw [hde])
      go_ret
      exact ⟨by rw [hr.out]; rfl, (Below.refl _ _).alloc (Nat.le_refl _) _⟩
    · have hr : Hid (stepT x = x.vTag) := by show _ = _; unfold stepT; rw [hx, ht.out]; rfl
      rw [hx]
      clear hx
      go_enter Try.func18, Try.ntmps18
      go_wp2_with (go_at_call 22; refine (isAny_any _ _).mono ?_; rintro e w' ⟨rfl, rfl⟩; rw [hde])
      go_ret
      exact ⟨by rw [hr.out]; rfl, (Below.refl _ _).alloc (Nat.le_refl _) _⟩
end Go.Proofs.Ytdlkafpemongmaa
