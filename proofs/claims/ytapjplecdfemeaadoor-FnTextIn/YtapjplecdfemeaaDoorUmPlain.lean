/- What is left of a mark's text without its tags: its texts, escaped: plain facts. -/
import Derived.Test.YtapjplecdfemeaaDoorMtPlain
import Derived.Test.YtapjplecdfemeaaDoorUnLaws
namespace Go.Proofs.YtapjplecdfemeaaDoor
/-- a text without all that stands between < and > -/
def unmF : Bool → List UInt8 → List UInt8
  | _, [] => []
  | b, c :: r => if c = 60 then unmF true r else if c = 62 then unmF false r else if b then unmF b r else c :: unmF b r
/-- no > among these -/
def noGt (l : List UInt8) : Prop := ∀ c ∈ l, c ≠ 62
theorem unm_in : ∀ (l r : List UInt8), noGt l → unmF true (l ++ 62 :: r) = unmF false r := by
  intro l
  induction l with
  | nil => intro r _; simp [unmF]
  | cons c l ih =>
    intro r h
    have hc : c ≠ 62 := h c (by simp)
    have hl : noGt l := fun d hd => h d (by simp [hd])
    show unmF true (c :: (l ++ 62 :: r)) = _
    conv => lhs; unfold unmF
    by_cases h60 : c = 60
    · rw [if_pos h60]; exact ih r hl
    · rw [if_neg h60, if_neg hc]; simp only [if_true]; exact ih r hl
theorem escB_no (c : UInt8) : ∀ d ∈ escB c, d ≠ 60 ∧ d ≠ 62 := by
  intro d hd
  unfold escB at hd
  split at hd
  · simp at hd; rcases hd with rfl | rfl | rfl | rfl | rfl <;> decide
  split at hd
  · simp at hd; rcases hd with rfl | rfl | rfl | rfl <;> decide
  split at hd
  · simp at hd; rcases hd with rfl | rfl | rfl | rfl <;> decide
  split at hd
  · simp at hd; rcases hd with rfl | rfl | rfl | rfl | rfl | rfl <;> decide
  · rename_i h1 h2 h3 h4
    simp at hd; subst hd; exact ⟨h2, h3⟩
theorem escL_no : ∀ (l : List UInt8), ∀ d ∈ escL l, d ≠ 60 ∧ d ≠ 62 := by
  intro l
  induction l with
  | nil => intro d hd; cases hd
  | cons c l ih =>
    intro d hd
    rcases List.mem_append.1 hd with q | q
    · exact escB_no c d q
    · exact ih d q
theorem unm_out : ∀ (l r : List UInt8), (∀ d ∈ l, d ≠ 60 ∧ d ≠ 62) → unmF false (l ++ r) = l ++ unmF false r := by
  intro l
  induction l with
  | nil => intro r _; rfl
  | cons c l ih =>
    intro r h
    have hc := h c (by simp)
    show unmF false (c :: (l ++ r)) = _
    conv => lhs; unfold unmF
    rw [if_neg hc.1, if_neg hc.2]
    simp only [Bool.false_eq_true, if_false]
    rw [ih r (fun d hd => h d (by simp [hd]))]; rfl
theorem letB_range {c : UInt8} (h : letB (c.toNat : Int) = true) : 97 ≤ c.toNat ∧ c.toNat ≤ 122 := by
  rw [letB_iff] at h; omega
theorem lets_noGt : ∀ (l : List UInt8), letsB l = true → noGt l := by
  intro l
  induction l with
  | nil => intro _ c hc; cases hc
  | cons d l ih =>
    intro h c hc
    simp only [letsB, Bool.and_eq_true] at h
    rcases List.mem_cons.1 hc with e | e
    · subst e
      intro q; subst q
      have := letB_range h.1
      exact absurd this (by decide)
    · exact ih h.2 c e
theorem name_noGt {s : ByteArray} (h : nmB s = true) : noGt s.data.toList := by
  unfold nmB nameB at h
  simp only [Bool.and_eq_true] at h
  exact lets_noGt _ h.2
theorem noGt_app {a b : List UInt8} (h1 : noGt a) (h2 : noGt b) : noGt (a ++ b) := fun c hc => by
  rcases List.mem_append.1 hc with q | q
  · exact h1 c q
  · exact h2 c q
theorem att_noGt : ∀ (l : List AttrD) (p : Option ByteArray), attF p l = true → noGt (catK attT l) := by
  intro l
  induction l with
  | nil => intro p _ c hc; cases hc
  | cons a r ih =>
    intro p h
    unfold attF at h
    simp only [Bool.and_eq_true] at h
    obtain ⟨⟨⟨h1, _⟩, _⟩, h4⟩ := h
    have hv : noGt (escL a.vValue.data.toList) := fun c hc => (escL_no _ c hc).2
    have k32 : noGt [32] := by intro c hc; simp at hc; subst hc; decide
    have k61 : noGt [61, 34] := by intro c hc; simp at hc; rcases hc with rfl | rfl <;> decide
    have k34 : noGt [34] := by intro c hc; simp at hc; subst hc; decide
    exact noGt_app (noGt_app (noGt_app (noGt_app (noGt_app k32 (name_noGt h1)) k61) hv) k34) (ih _ h4)
theorem mzF_all {f : MarkD → Int → Option Int} : ∀ (ds : List MarkD) (p : Bool) (room size m : Int), mzF f p ds room size = some m → ∀ d ∈ ds, ∃ r q, f d r = some q := by
  intro ds
  induction ds with
  | nil => intro p room size m _ d hd; cases hd
  | cons e ds ih =>
    intro p room size m h d hd
    unfold mzF at h
    split at h
    · cases h
    · rename_i q hq
      split at h
      · cases h
      · rcases List.mem_cons.1 hd with k | k
        · subst k; exact ⟨_, _, hq⟩
        · exact ih _ _ _ _ h d k
theorem cat_unm {f g : MarkD → List UInt8} : ∀ (ds : List MarkD) (r : List UInt8), (∀ d ∈ ds, ∀ r, unmF false (f d ++ r) = escL (g d) ++ unmF false r) → unmF false (catK f ds ++ r) = escL (catK g ds) ++ unmF false r := by
  intro ds
  induction ds with
  | nil => intro r _; rfl
  | cons d ds ih =>
    intro r h
    show unmF false ((f d ++ catK f ds) ++ r) = _
    rw [List.append_assoc, h d (by simp), ih r (fun e he => h e (by simp [he]))]
    show _ = escL (g d ++ catK g ds) ++ _
    rw [escL_append, List.append_assoc]
theorem mt_unm : ∀ (n : Nat) (x : MarkD) (room m : Int), mzD n x room = some m → ∀ r, unmF false (mtD n x ++ r) = escL (inD n x) ++ unmF false r := by
  intro n
  induction n with
  | zero => intro x room m h; simp [mzD] at h
  | succ n ih =>
    intro x room m h r
    unfold mzD at h
    split at h
    · cases h
    · rename_i hc
      have hs : selfB x = true := by cases hs : selfB x <;> simp_all
      have hk := mzF_all _ _ _ _ _ h
      cases ht : isT x
      · unfold selfB at hs
        rw [ht] at hs
        simp only [Bool.false_eq_true, if_false] at hs
        unfold tagB at hs
        simp only [Bool.and_eq_true, decide_eq_true_eq] at hs
        obtain ⟨⟨⟨g1, g2⟩, g3⟩, g4⟩ := hs
        have hx0 : x.vText.data.toList = [] := List.eq_nil_of_length_eq_zero (by rw [eb_len]; exact g2)
        have e1 : mtD (n + 1) x ++ r = 60 :: ((x.vTag.data.toList ++ catK attT x.vAttrs) ++ 62 :: (catK (mtD n) x.vKids ++ (60 :: ((47 :: x.vTag.data.toList) ++ 62 :: r)))) := by
          rw [mtD_tag ht]; simp [headM, footM]
        rw [e1]
        have n47 : noGt [47] := by intro c hc; simp at hc; subst hc; decide
        have s1 : unmF false (60 :: ((x.vTag.data.toList ++ catK attT x.vAttrs) ++ 62 :: (catK (mtD n) x.vKids ++ (60 :: ((47 :: x.vTag.data.toList) ++ 62 :: r))))) = unmF true ((x.vTag.data.toList ++ catK attT x.vAttrs) ++ 62 :: (catK (mtD n) x.vKids ++ (60 :: ((47 :: x.vTag.data.toList) ++ 62 :: r)))) := by
          conv => lhs; unfold unmF
          rw [if_pos rfl]
        have s2 : unmF false (60 :: ((47 :: x.vTag.data.toList) ++ 62 :: r)) = unmF true ((47 :: x.vTag.data.toList) ++ 62 :: r) := by
          conv => lhs; unfold unmF
          rw [if_pos rfl]
        rw [s1, unm_in _ _ (noGt_app (name_noGt g1) (att_noGt _ _ g4)), cat_unm (g := inD n) _ _ (fun d hd r => by obtain ⟨q1, q2, q3⟩ := hk d hd; exact ih d q1 q2 q3 r), s2, unm_in (47 :: x.vTag.data.toList) _ (noGt_app n47 (name_noGt g1))]
        show _ = escL (x.vText.data.toList ++ catK (inD n) x.vKids) ++ _
        rw [hx0]; rfl
      · unfold selfB at hs
        rw [ht] at hs
        simp only [if_true] at hs
        unfold textB at hs
        simp only [Bool.and_eq_true, decide_eq_true_eq] at hs
        have hk0 : x.vKids = [] := List.eq_nil_of_length_eq_zero hs.2
        rw [mtD_text ht, unm_out _ _ (escL_no _)]
        show _ = escL (x.vText.data.toList ++ catK (inD n) x.vKids) ++ _
        rw [hk0]; simp [catK]
theorem mt_unm_all {n : Nat} {x : MarkD} {room m : Int} (h : mzD n x room = some m) : unmF false (mtD n x) = escL (inD n x) := by
  have := mt_unm n x room m h []
  rw [List.append_nil] at this
  rw [this]; simp [unmF]
end Go.Proofs.YtapjplecdfemeaaDoor
