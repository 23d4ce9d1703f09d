/- What FnNarrower needs: a selector with a tag less, or a step deeper, matches no less; rows of steps with one that has turned. -/
import Derived.Test.YtgmgbjeejlkdmaaDrawMatch
import Derived.Test.YtgmgbjeejlkdmaaMatchPlain
namespace Go.Proofs.Ytgmgbjeejlkdmaa
open Go.RowKit
theorem upB_mono {f f' : Nat → Bool} {d d' : Bool} (hf : ∀ q, f q = true → f' q = true) (hd : d = true → d' = true) : ∀ p, upB f d p = true → upB f' d' p = true := by
  intro p
  induction p with
  | zero => intro h; cases h
  | succ p ih =>
    intro h
    simp only [upB, Bool.or_eq_true, Bool.and_eq_true] at h ⊢
    rcases h with h | ⟨h1, h2⟩
    · exact Or.inl (hf p h)
    · exact Or.inr ⟨hd h1, ih h2⟩
theorem mB_mono {st st' : Nat → StepD} {tg : Nat → ByteArray} (h1 : ∀ i t, tagM (st i) t = true → tagM (st' i) t = true) (h2 : ∀ i, (st i).vDeep = true → (st' i).vDeep = true) : ∀ n p, mB st tg n p = true → mB st' tg n p = true := by
  intro n
  induction n with
  | zero => intro p h; exact h1 0 _ h
  | succ n ih =>
    intro p h
    simp only [mB, Bool.and_eq_true] at h ⊢
    exact ⟨h1 _ _ h.1, upB_mono (ih ·) (h2 _) p h.2⟩
theorem mB_tag {st : Nat → StepD} {tg : Nat → ByteArray} {n p : Nat} (h : mB st tg n p = true) : tagM (st n) (tg p) = true := by
  cases hb : tagM (st n) (tg p)
  · rw [mB_no hb] at h; cases h
  · rfl
theorem stL_set {l : List StepD} {i : Nat} (x : StepD) (j : Nat) (hi : i < l.length) : stL (l.set i x) j = if j = i then x else stL l j := by
  unfold stL
  rw [List.getD_eq_getElem?_getD, List.getD_eq_getElem?_getD, List.getElem?_set]
  by_cases e : j = i
  · subst e; simp [hi]
  · rw [if_neg e, if_neg (fun q => e q.symm)]
theorem stepsB_set {x : StepD} (hx : stepB x = true) : ∀ (l : List StepD) (i : Nat), stepsB l = true → stepsB (l.set i x) = true := by
  intro l
  induction l with
  | nil => intro i h; exact h
  | cons y r ih =>
    intro i h
    simp only [stepsB, Bool.and_eq_true] at h
    cases i with
    | zero => simp only [List.set_cons_zero, stepsB, Bool.and_eq_true]; exact ⟨hx, h.2⟩
    | succ i => simp only [List.set_cons_succ, stepsB, Bool.and_eq_true]; exact ⟨h.1, ih i h.2⟩
theorem selB_set {l : List StepD} {i : Nat} {x : StepD} (h : selB l = true) (hx : stepB x = true) (hd : (stL l i).vDeep = true → x.vDeep = true) (hi : i < l.length) : selB (l.set i x) = true := by
  simp only [selB, Bool.and_eq_true, decide_eq_true_eq] at h ⊢
  obtain ⟨⟨⟨h1, h2⟩, h3⟩, h4⟩ := h
  refine ⟨⟨⟨by simpa using h1, by simpa using h2⟩, ?_⟩, stepsB_set hx l i h4⟩
  cases l with
  | nil => simp at hi
  | cons y r =>
    cases i with
    | zero => exact hd (by simpa [stL, headB] using h3)
    | succ i => exact h3
theorem stepsB_get : ∀ (l : List StepD) (i : Nat) (hi : i < l.length), stepsB l = true → stepB l[i] = true := by
  intro l
  induction l with
  | nil => intro i hi; simp at hi
  | cons y r ih =>
    intro i hi h
    simp only [stepsB, Bool.and_eq_true] at h
    cases i with
    | zero => exact h.1
    | succ i => exact ih i (by simpa using hi) h.2
theorem selB_steps2 {l : List StepD} (h : selB l = true) : stepsB l = true ∧ 1 ≤ l.length ∧ l.length ≤ 5 := by
  simp only [selB, Bool.and_eq_true, decide_eq_true_eq] at h
  exact ⟨h.2, h.1.1.1, h.1.1.2⟩
def wideL (l : List StepD) (i : Nat) : List StepD := l.set i ⟨⟨#[]⟩, (stL l i).vDeep⟩
def deepL (l : List StepD) (i : Nat) : List StepD := l.set i ⟨(stL l i).vTag, true⟩
theorem match_split {ok : Bool} {d : TD} {path : List Int} {l : List StepD} (h : matchD ok d path l = true) : ok = true ∧ okP d path = true ∧ selB l = true ∧ mB (stL l) (tgP d path) (l.length - 1) path.length = true := by
  simp only [matchD, Bool.and_eq_true] at h
  exact ⟨h.1.1.1, h.1.1.2, h.1.2, h.2⟩
theorem match_join {ok : Bool} {d : TD} {path : List Int} {l : List StepD} (h1 : ok = true) (h2 : okP d path = true) (h3 : selB l = true) (h4 : mB (stL l) (tgP d path) (l.length - 1) path.length = true) : matchD ok d path l = true := by
  simp [matchD, h1, h2, h3, h4]
theorem match_wide {ok : Bool} {d : TD} {path : List Int} {l : List StepD} {i : Nat} (hi : i < l.length) (h : matchD ok d path l = true) : matchD ok d path (wideL l i) = true := by
  obtain ⟨h1, h2, h3, h4⟩ := match_split h
  refine match_join h1 h2 (selB_set h3 (stepB_any rfl) (fun q => q) hi) ?_
  have hl : (wideL l i).length = l.length := by simp [wideL]
  rw [hl]
  refine mB_mono (fun j t q => ?_) (fun j q => ?_) _ _ h4
  · rw [wideL, stL_set _ _ hi]
    split
    · simp [tagM]
    · exact q
  · rw [wideL, stL_set _ _ hi]
    split
    · rename_i e; rw [← e]; exact q
    · exact q
theorem match_deep {ok : Bool} {d : TD} {path : List Int} {l : List StepD} {i : Nat} (hi : i < l.length) (h : matchD ok d path l = true) : matchD ok d path (deepL l i) = true := by
  obtain ⟨h1, h2, h3, h4⟩ := match_split h
  have hst : stepB ⟨(stL l i).vTag, true⟩ = true := by
    have := stepsB_get l i hi (selB_steps2 h3).1
    rw [← stL_get hi] at this
    exact this
  refine match_join h1 h2 (selB_set h3 hst (fun _ => rfl) hi) ?_
  have hl : (deepL l i).length = l.length := by simp [deepL]
  rw [hl]
  refine mB_mono (fun j t q => ?_) (fun j q => ?_) _ _ h4
  · rw [deepL, stL_set _ _ hi]
    split
    · rename_i e; rw [e] at q; exact q
    · exact q
  · rw [deepL, stL_set _ _ hi]
    split
    · rfl
    · exact q
theorem match_all {ok : Bool} {d : TD} {path : List Int} : matchD ok d path [⟨⟨#[]⟩, true⟩] = (ok && okP d path) := by
  have : selB [⟨⟨#[]⟩, true⟩] = true := rfl
  simp [matchD, this, mB, tagM, stL]
theorem match_last {ok : Bool} {d : TD} {path : List Int} {l : List StepD} (h : matchD ok d path l = true) : matchD ok d path [⟨(stL l (l.length - 1)).vTag, true⟩] = true := by
  obtain ⟨h1, h2, h3, h4⟩ := match_split h
  obtain ⟨q1, q2, q3⟩ := selB_steps2 h3
  have hst : stepB ⟨(stL l (l.length - 1)).vTag, true⟩ = true := by
    have := stepsB_get l (l.length - 1) (by omega) q1
    rw [← stL_get (by omega)] at this
    exact this
  refine match_join h1 h2 ?_ ?_
  · simp only [selB, headB, stepsB, hst]; rfl
  · have := mB_tag h4
    exact this
/-! ### one cell of a row turned -/
theorem flatSt_tag (t : ByteArray) : ∀ (l : List StepD) (i : Nat), i < l.length → flatSt (l.set i ⟨t, (stL l i).vDeep⟩) = (flatSt l).set (i * 2) (.string t) := by
  intro l
  induction l with
  | nil => intro i h; simp at h
  | cons y r ih =>
    intro i h
    cases i with
    | zero => rfl
    | succ i =>
      have := ih i (by simpa using h)
      have e : (i + 1) * 2 = i * 2 + 1 + 1 := by omega
      rw [List.set_cons_succ, e]
      simp only [flatSt, stC, List.cons_append, List.nil_append, List.set_cons_succ]
      have es : (stL (y :: r) (i + 1)).vDeep = (stL r i).vDeep := rfl
      rw [es, this]
theorem flatSt_deep (b : Bool) : ∀ (l : List StepD) (i : Nat), i < l.length → flatSt (l.set i ⟨(stL l i).vTag, b⟩) = (flatSt l).set (i * 2 + 1) (.bool b) := by
  intro l
  induction l with
  | nil => intro i h; simp at h
  | cons y r ih =>
    intro i h
    cases i with
    | zero => rfl
    | succ i =>
      have := ih i (by simpa using h)
      have e : (i + 1) * 2 + 1 = i * 2 + 1 + 1 + 1 := by omega
      rw [List.set_cons_succ, e]
      simp only [flatSt, stC, List.cons_append, List.nil_append, List.set_cons_succ]
      have es : (stL (y :: r) (i + 1)).vTag = (stL r i).vTag := rfl
      rw [es, this]
theorem rowS_put {w : World} {base r cp k : Nat} {ss ss' : List StepD} {v : Value} (h : RowS w base r cp ss) (hl : ss'.length = ss.length) (hk : k < ss.length * 2) (hf : flatSt ss' = (flatSt ss).set k v) : (∃ u, w.cell? ⟨r, k, none⟩ = some u) ∧ w.frozen? ⟨r, k, none⟩ = false ∧ RowS (w.setCell ⟨r, k, none⟩ v) base r cp ss' := by
  rcases h.2 with ⟨q, _⟩ | ⟨g, cap, cur, q, h1, h2, h3, h4, h5, h6⟩
  · cases q
  · injection q with q1 _ q3
    injection q1 with q1
    injection q1 with q1
    subst q1 q3
    have hkc : k < cur.size := by omega
    refine ⟨⟨cur[k], by rw [blk_cell h2]; exact Array.getElem?_eq_getElem hkc⟩, blk_unfrozen h2 k, flatSt_length _, Or.inr ⟨r, cp, cur.setIfInBounds k v, by rw [hl], h1, blk_set h2 _, by omega, h4, by simpa using h5, ?_⟩⟩
    have e2 : (cur.setIfInBounds k v).toList = cur.toList.set k v := by simp
    rw [e2, hl, List.take_set, h6, hf]
theorem rowS_wide {w : World} {base r cp i : Nat} {ss : List StepD} (h : RowS w base r cp ss) (hi : i < ss.length) : (∃ u, w.cell? ⟨r, i * 2, none⟩ = some u) ∧ w.frozen? ⟨r, i * 2, none⟩ = false ∧ RowS (w.setCell ⟨r, i * 2, none⟩ (.string ⟨#[]⟩)) base r cp (wideL ss i) := rowS_put h (by simp [wideL]) (by omega) (flatSt_tag _ _ _ hi)
theorem rowS_deep {w : World} {base r cp i : Nat} {ss : List StepD} (h : RowS w base r cp ss) (hi : i < ss.length) : (∃ u, w.cell? ⟨r, i * 2 + 1, none⟩ = some u) ∧ w.frozen? ⟨r, i * 2 + 1, none⟩ = false ∧ RowS (w.setCell ⟨r, i * 2 + 1, none⟩ (.bool true)) base r cp (deepL ss i) := rowS_put h (by simp [deepL]) (by omega) (flatSt_deep _ _ _ hi)
theorem rowS_news {w : World} {base r cp : Nat} {ss : List StepD} (h : RowS w base r cp ss) (j : Nat) (u : Value) (hu : (flatSt ss)[j]? = some u) : w.cell? ((⟨r, 0, none⟩ : Addr).add j) = some u := by
  rcases h.2 with ⟨q, _⟩ | ⟨g, cap, cur, q, _, h2, _, _, _, h6⟩
  · cases q
  · injection q with q1 _ q3
    injection q1 with q1
    injection q1 with q1
    subst q1
    have h1 : cur.toList[j]? = some u := by
      rw [← h6, List.getElem?_take] at hu
      split at hu
      · exact hu
      · cases hu
    have h3 : cur[j]? = some u := by simpa using h1
    unfold Addr.add
    by_cases e : j = 0
    · subst e; simp [World.cell?, h2, h3]
    · rw [if_neg e]; simp [World.cell?, h2, h3]
end Go.Proofs.Ytgmgbjeejlkdmaa
