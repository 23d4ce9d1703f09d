/- Texts of selectors as a reader meets them: plain facts. -/
import Derived.Test.YtdlkafpemongmaaSelTextS
import Derived.Test.YtdlkafpemongmaaRtSmall
namespace Go.Proofs.Ytdlkafpemongmaa
open Go.RowKit
def tagL (x : StepD) : List UInt8 := (tagT x).data.toList
def stepL (x : StepD) : List UInt8 := (stepT x).data.toList
theorem stepL_of (x : StepD) : stepL x = (if x.vDeep = true then [] else [62, 32]) ++ tagL x := by
  unfold stepL stepT tagL
  cases x.vDeep
  · simp only [Bool.false_eq_true, if_false]; rw [stx_app]
  · simp
/-- behind a step there is nothing, or a blank -/
def Sep (r : List UInt8) : Prop := ∀ c z, r = c :: z → c = 32
/-- a tag is read -/
def rdTag (l : List UInt8) : Option (ByteArray × List UInt8) := if preP [42] l = true then some (⟨#[]⟩, l.drop 1) else if nameB (lw l) = true then some (⟨(lw l).toArray⟩, l.drop (lw l).length) else none
/-- a step is read -/
def rdStep (l : List UInt8) : Option (StepD × List UInt8) :=
  if preP [62] l = true then (if preP [62, 32] l = true then (rdTag (l.drop 2)).map fun q => (⟨q.1, false⟩, q.2) else none) else (rdTag l).map fun q => (⟨q.1, true⟩, q.2)
theorem tagL_any {x : StepD} (h : x.vTag = ⟨#[]⟩) : tagL x = [42] := by unfold tagL tagT; rw [if_pos h]
theorem tagL_name {x : StepD} (h : ¬ x.vTag = ⟨#[]⟩) : tagL x = x.vTag.data.toList := by unfold tagL tagT; rw [if_neg h]
theorem let32 : letB (((32 : UInt8).toNat : Nat) : Int) = false := by decide
theorem let42 : letB (((42 : UInt8).toNat : Nat) : Int) = false := by decide
theorem pre_cons {c d : UInt8} {l : List UInt8} : preP [c] (d :: l) = decide (d = c) := by
  show ([d] == [c]) = decide (d = c)
  by_cases e : d = c
  · subst e; simp
  · simp [e]
theorem name_ne {t : List UInt8} (h : nameB t = true) : ∃ c r, t = c :: r ∧ letB (c.toNat : Int) = true := by
  have hl := (name_len h).1
  cases t with
  | nil => simp at hl
  | cons c r => exact ⟨c, r, rfl, lets_get (name_lets h) c (by simp)⟩
theorem let_ne {c d : UInt8} (hc : letB (c.toNat : Int) = true) (hd : letB (d.toNat : Int) = false) : decide (c = d) = false := by
  apply decide_eq_false; intro e; rw [e, hd] at hc; cases hc
theorem rdTag_of {x : StepD} (h : stepB x = true) {r : List UInt8} (hr : Sep r) : rdTag (tagL x ++ r) = some (x.vTag, r) := by
  by_cases e : x.vTag = ⟨#[]⟩
  · rw [tagL_any e]
    unfold rdTag
    rw [if_pos (preP_of (p := [42]) (r := r) rfl), e]
    rfl
  · rw [stepB_name e] at h
    rw [tagL_name e]
    obtain ⟨c, t, ht, hc⟩ := name_ne h
    have hlw : lw (x.vTag.data.toList ++ r) = x.vTag.data.toList := lw_of (name_lets h) (fun d z hz => by rw [hr d z hz]; exact let32)
    unfold rdTag
    have hp : preP [42] (x.vTag.data.toList ++ r) = false := by rw [ht, List.cons_append, pre_cons]; exact let_ne hc let42
    rw [hp, hlw, if_neg (by simp), if_pos h]
    simp
theorem rdTag_sound {l : List UInt8} {t : ByteArray} {r : List UInt8} (h : rdTag l = some (t, r)) (d : Bool) : stepB ⟨t, d⟩ = true ∧ l = tagL ⟨t, d⟩ ++ r ∧ r.length < l.length := by
  unfold rdTag at h
  split at h
  · rename_i hp
    simp only [Option.some.injEq, Prod.mk.injEq] at h
    obtain ⟨rfl, rfl⟩ := h
    obtain ⟨z, hz⟩ := preP_yes hp
    refine ⟨stepB_any rfl, ?_, ?_⟩
    · rw [tagL_any rfl, hz]; simp
    · rw [hz]; simp
  · split at h
    · rename_i hn
      simp only [Option.some.injEq, Prod.mk.injEq] at h
      obtain ⟨rfl, rfl⟩ := h
      have hl := (name_len hn).1
      have hne : ¬ (⟨(lw l).toArray⟩ : ByteArray) = ⟨#[]⟩ := fun e => by
        have : (lw l).toArray = #[] := by injection e
        have := congrArg Array.size this
        simp at this
        rw [this] at hl; simp at hl
      refine ⟨by rw [stepB_name hne]; exact hn, ?_, ?_⟩
      · rw [tagL_name hne]
        show l = lw l ++ _
        have : l.take (lw l).length = lw l := (List.prefix_iff_eq_take.1 (List.takeWhile_prefix _)).symm
        conv => lhs; rw [← List.take_append_drop (lw l).length l, this]
      · rw [List.length_drop]
        have := lw_len_le l
        omega
    · cases h
theorem tagL_head {x : StepD} (h : stepB x = true) : ∃ c t, tagL x = c :: t ∧ c ≠ 62 ∧ c ≠ 32 := by
  by_cases e : x.vTag = ⟨#[]⟩
  · rw [tagL_any e]; exact ⟨42, [], rfl, by decide, by decide⟩
  · rw [stepB_name e] at h
    rw [tagL_name e]
    obtain ⟨c, t, ht, hc⟩ := name_ne h
    exact ⟨c, t, ht, fun q => by rw [q] at hc; exact absurd hc (by decide), fun q => by rw [q] at hc; exact absurd hc (by decide)⟩
theorem rdStep_of {x : StepD} (h : stepB x = true) {r : List UInt8} (hr : Sep r) : rdStep (stepL x ++ r) = some (x, r) := by
  rw [stepL_of]
  obtain ⟨tg, dp⟩ := x
  obtain ⟨c, t, ht, hc, _⟩ := tagL_head h
  cases dp
  · unfold rdStep
    have e : (if (⟨tg, false⟩ : StepD).vDeep = true then [] else [62, 32]) ++ tagL ⟨tg, false⟩ ++ r = 62 :: 32 :: (tagL ⟨tg, false⟩ ++ r) := by simp
    have hp2 : preP [62, 32] (62 :: 32 :: (tagL ⟨tg, false⟩ ++ r)) = true := preP_of (p := [62, 32]) (r := tagL ⟨tg, false⟩ ++ r) rfl
    rw [e, if_pos (by rw [pre_cons]; rfl), if_pos hp2]
    simp only [List.drop_succ_cons, List.drop_zero]
    rw [rdTag_of h hr]; rfl
  · unfold rdStep
    have e : (if (⟨tg, true⟩ : StepD).vDeep = true then [] else [62, 32]) ++ tagL ⟨tg, true⟩ ++ r = tagL ⟨tg, true⟩ ++ r := by simp
    have hp : preP [62] (tagL ⟨tg, true⟩ ++ r) = false := by rw [ht, List.cons_append, pre_cons]; exact decide_eq_false hc
    rw [e, hp, if_neg (by simp), rdTag_of h hr]; rfl
theorem rdStep_sound {l : List UInt8} {x : StepD} {r : List UInt8} (h : rdStep l = some (x, r)) : stepB x = true ∧ l = stepL x ++ r ∧ r.length < l.length := by
  unfold rdStep at h
  split at h
  · split at h
    · rename_i hp
      obtain ⟨⟨t, q⟩, h1, h2⟩ := Option.map_eq_some_iff.1 h
      simp only [Prod.mk.injEq] at h2
      obtain ⟨rfl, rfl⟩ := h2
      obtain ⟨s1, s2, s3⟩ := rdTag_sound h1 false
      obtain ⟨z, hz⟩ := preP_yes hp
      have hd : l.drop 2 = z := by rw [hz]; rfl
      rw [hd] at s2 s3
      refine ⟨s1, ?_, ?_⟩
      · rw [stepL_of, hz, s2]; simp
      · rw [hz]; simp; omega
    · cases h
  · obtain ⟨⟨t, q⟩, h1, h2⟩ := Option.map_eq_some_iff.1 h
    simp only [Prod.mk.injEq] at h2
    obtain ⟨rfl, rfl⟩ := h2
    obtain ⟨s1, s2, s3⟩ := rdTag_sound h1 true
    refine ⟨s1, ?_, s3⟩
    rw [stepL_of]; simpa using s2
/-- steps, a blank between two -/
def textS : List StepD → List UInt8
  | [] => []
  | x :: xs => stepL x ++ (if xs = [] then [] else 32 :: textS xs)
def tailS (xs : List StepD) : List UInt8 := if xs = [] then [] else 32 :: textS xs
theorem textS_cons (x : StepD) (xs : List StepD) : textS (x :: xs) = stepL x ++ tailS xs := rfl
theorem tailS_sep (xs : List StepD) : Sep (tailS xs) := by
  intro c z h
  unfold tailS at h
  split at h
  · cases h
  · injection h with h _; exact h.symm
theorem tailS_cons (x : StepD) (xs : List StepD) : tailS (x :: xs) = 32 :: (stepL x ++ tailS xs) := by
  unfold tailS; rw [if_neg (by simp), textS_cons]; rfl
theorem joinTail_tailS : ∀ (xs : List StepD), Lib.joinTail [32] ((xs.map stepT).map (·.data.toList)) = tailS xs := by
  intro xs
  induction xs with
  | nil => rfl
  | cons x xs ih =>
    have e : Lib.joinTail [32] (((x :: xs).map stepT).map (·.data.toList)) = [32] ++ (stepT x).data.toList ++ Lib.joinTail [32] ((xs.map stepT).map (·.data.toList)) := by simp [Lib.joinTail]
    rw [e, ih, tailS_cons]
    simp [stepL]
theorem joinT_textS (l : List StepD) : joinT l = textS l := by
  cases l with
  | nil => rfl
  | cons x xs =>
    show Lib.join _ _ = _
    simp only [List.map_cons, Lib.join_cons]
    rw [joinTail_tailS, textS_cons]; rfl
/-- the steps that come behind xs -/
def rdMore : Nat → List StepD → List UInt8 → Option (List StepD × List UInt8)
  | 0, _, _ => none
  | n + 1, xs, l => if preP [32] l = true then (match rdStep (l.drop 1) with
    | none => none
    | some (x, r) => rdMore n (xs ++ [x]) r) else some (xs, l)
def rdSel (l : List UInt8) : Option (List StepD × List UInt8) := match rdStep l with
  | none => none
  | some (x, r) => rdMore (l.length + 1) [x] r
theorem rdMore_of : ∀ (ys : List StepD) (n : Nat) (xs : List StepD), stepsB ys = true → ys.length < n → rdMore n xs (tailS ys) = some (xs ++ ys, []) := by
  intro ys
  induction ys with
  | nil =>
    intro n xs _ hn
    obtain ⟨m, rfl⟩ : ∃ m, n = m + 1 := ⟨n - 1, by simp at hn; omega⟩
    simp [rdMore, tailS, preP]
  | cons y ys ih =>
    intro n xs hs hn
    obtain ⟨m, rfl⟩ : ∃ m, n = m + 1 := ⟨n - 1, by simp at hn; omega⟩
    simp only [stepsB, Bool.and_eq_true] at hs
    have e : tailS (y :: ys) = 32 :: (stepL y ++ tailS ys) := by unfold tailS; rw [if_neg (by simp), textS_cons]; rfl
    unfold rdMore
    rw [e, if_pos (by rw [pre_cons]; rfl)]
    simp only [List.drop_succ_cons, List.drop_zero]
    rw [rdStep_of hs.1 (tailS_sep ys)]
    show rdMore m (xs ++ [y]) (tailS ys) = _
    rw [ih m (xs ++ [y]) hs.2 (by simp at hn; omega)]
    simp
theorem tailS_len : ∀ ys : List StepD, ys.length ≤ (tailS ys).length := by
  intro ys
  induction ys with
  | nil => simp
  | cons y ys ih =>
    unfold tailS
    rw [if_neg (by simp), textS_cons]
    simp; omega
theorem rdSel_of {l : List StepD} (h : selB l = true) : rdSel (textS l) = some (l, []) := by
  obtain ⟨h1, h2, h3⟩ := selB_parts h
  cases l with
  | nil => simp at h1
  | cons x xs =>
    simp only [stepsB, Bool.and_eq_true] at h3
    unfold rdSel
    rw [textS_cons, rdStep_of h3.1 (tailS_sep xs)]
    show rdMore _ [x] (tailS xs) = _
    rw [rdMore_of xs _ [x] h3.2 (by have := tailS_len xs; simp; omega)]
    rfl
theorem rdMore_sound : ∀ (n : Nat) (xs : List StepD) (l : List UInt8) (zs : List StepD) (r : List UInt8), rdMore n xs l = some (zs, r) → ∃ ys, zs = xs ++ ys ∧ l = tailS ys ++ r := by
  intro n
  induction n with
  | zero => intro xs l zs r h; cases h
  | succ n ih =>
    intro xs l zs r h
    unfold rdMore at h
    split at h
    · rename_i hp
      cases hx : rdStep (l.drop 1) with
      | none => rw [hx] at h; cases h
      | some q =>
        obtain ⟨x, r1⟩ := q
        rw [hx] at h
        obtain ⟨ys, e1, e2⟩ := ih _ _ _ _ h
        obtain ⟨_, s2, _⟩ := rdStep_sound hx
        obtain ⟨z, hz⟩ := preP_yes hp
        have hd : l.drop 1 = z := by rw [hz]; rfl
        rw [hd] at s2
        refine ⟨x :: ys, by rw [e1]; simp, ?_⟩
        rw [hz, s2, e2]
        have e : tailS (x :: ys) = 32 :: (stepL x ++ tailS ys) := by unfold tailS; rw [if_neg (by simp), textS_cons]; rfl
        rw [e]; simp
    · simp only [Option.some.injEq, Prod.mk.injEq] at h
      obtain ⟨rfl, rfl⟩ := h
      exact ⟨[], by simp, rfl⟩
theorem rdSel_sound {l : List UInt8} {zs : List StepD} {r : List UInt8} (h : rdSel l = some (zs, r)) : l = textS zs ++ r := by
  unfold rdSel at h
  cases hx : rdStep l with
  | none => rw [hx] at h; cases h
  | some q =>
    obtain ⟨x, r1⟩ := q
    rw [hx] at h
    obtain ⟨ys, e1, e2⟩ := rdMore_sound _ _ _ _ _ h
    obtain ⟨_, s2, _⟩ := rdStep_sound hx
    rw [s2, e2, e1]
    show _ = textS (x :: ys) ++ r
    rw [textS_cons]; simp
/-- what is read of a text -/
def ReadsS (s : ByteArray) (l : List StepD) (b : Bool) : Prop := (b = true ∧ selB l = true ∧ s.data.toList = textS l) ∨ (b = false ∧ l = [] ∧ ∀ l', selB l' = true → s.data.toList ≠ textS l')
theorem ReadsS.one {s : ByteArray} {x y : List StepD} {a b : Bool} (h : ReadsS s x a) (k : ReadsS s y b) : x = y ∧ a = b := by
  rcases h with ⟨rfl, h1, h2⟩ | ⟨rfl, h1, h2⟩ <;> rcases k with ⟨rfl, k1, k2⟩ | ⟨rfl, k1, k2⟩
  · have e1 := rdSel_of h1
    have e2 := rdSel_of k1
    rw [← h2] at e1
    rw [← k2] at e2
    rw [e1] at e2
    simp only [Option.some.injEq, Prod.mk.injEq] at e2
    exact ⟨e2.1, rfl⟩
  · exact (k2 _ h1 h2).elim
  · exact (h2 _ k1 k2).elim
  · exact ⟨by rw [h1, k1], rfl⟩
theorem stepL_len {x : StepD} (h : stepB x = true) : (stepL x).length ≤ 8 := by have := stepT_small h; rw [← bd_len] at this; exact this
theorem tailS_le : ∀ ys : List StepD, stepsB ys = true → (tailS ys).length ≤ 9 * ys.length := by
  intro ys
  induction ys with
  | nil => intro _; simp [tailS]
  | cons y ys ih =>
    intro h
    simp only [stepsB, Bool.and_eq_true] at h
    have := ih h.2
    have := stepL_len h.1
    have e : tailS (y :: ys) = 32 :: (stepL y ++ tailS ys) := by unfold tailS; rw [if_neg (by simp), textS_cons]; rfl
    rw [e]; simp; omega
/-- a right selector's text is not too long -/
theorem textS_small {l : List StepD} (h : selB l = true) : (textS l).length ≤ 42 := by
  obtain ⟨h1, h2, h3⟩ := selB_parts h
  cases l with
  | nil => simp at h1
  | cons x xs =>
    simp only [stepsB, Bool.and_eq_true] at h3
    have hd : x.vDeep = true := by
      cases hq : x.vDeep with
      | true => rfl
      | false => rw [selB_head (by show x.vDeep = false; exact hq)] at h; cases h
    have a := tagT_small h3.1
    have b := tailS_le xs h3.2
    have e : (stepL x).length ≤ 6 := by rw [stepL_of, hd]; simp; unfold tagL; rw [bd_len]; exact a
    rw [textS_cons]
    simp at h2 ⊢
    omega
end Go.Proofs.Ytdlkafpemongmaa
