/- The text of a mark: plain facts. -/
import Derived.Test.YtlcddndpfhdakaaDoorInPlain
namespace Go.Proofs.YtlcddndpfhdakaaDoor
/-- the text of an attribute -/
def attT (a : AttrD) : List UInt8 := [32] ++ a.vName.data.toList ++ [61, 34] ++ escL a.vValue.data.toList ++ [34]
def headM (x : MarkD) : List UInt8 := [60] ++ x.vTag.data.toList
def footM (x : MarkD) : List UInt8 := [60, 47] ++ x.vTag.data.toList ++ [62]
/-- the text of a mark -/
def mtD : Nat → MarkD → List UInt8
  | 0, _ => []
  | n + 1, x => if isT x then escL x.vText.data.toList else headM x ++ catK attT x.vAttrs ++ [62] ++ catK (mtD n) x.vKids ++ footM x
theorem mtD_text {n : Nat} {x : MarkD} (h : isT x = true) : mtD (n + 1) x = escL x.vText.data.toList := by simp [mtD, h]
theorem mtD_tag {n : Nat} {x : MarkD} (h : isT x = false) : mtD (n + 1) x = headM x ++ catK attT x.vAttrs ++ [62] ++ catK (mtD n) x.vKids ++ footM x := by simp [mtD, h]
theorem headM_length (x : MarkD) : (headM x).length = x.vTag.size + 1 := by simp [headM]
theorem footM_length (x : MarkD) : (footM x).length = x.vTag.size + 3 := by simp [footM]
theorem attT_length (a : AttrD) : (attT a).length = a.vName.size + 4 + (escL a.vValue.data.toList).length := by simp [attT]; omega
theorem mtD_tag_length {n : Nat} {x : MarkD} (h : isT x = false) : (mtD (n + 1) x).length = 2 * x.vTag.size + 5 + (catK attT x.vAttrs).length + (catK (mtD n) x.vKids).length := by
  rw [mtD_tag h]
  simp only [List.length_append, headM_length, footM_length, List.length_cons, List.length_nil]
  omega
theorem nmB_length {s : ByteArray} (h : nmB s = true) : s.size ≤ 6 := by
  unfold nmB nameB at h
  simp only [Bool.and_eq_true, decide_eq_true_eq] at h
  have := eb_len s
  omega
theorem attF_length : ∀ (l : List AttrD) (p : Option ByteArray), attF p l = true → (catK attT l).length ≤ 70 * l.length := by
  intro l
  induction l with
  | nil => intro p _; simp [catK]
  | cons a r ih =>
    intro p h
    unfold attF at h
    simp only [Bool.and_eq_true] at h
    obtain ⟨⟨⟨h1, _⟩, h3⟩, h4⟩ := h
    have i := ih _ h4
    have k := nmB_length h1
    unfold wordB at h3
    simp only [Bool.and_eq_true, decide_eq_true_eq] at h3
    have e := escL_length a.vValue.data.toList
    rw [eb_len] at e
    have t := attT_length a
    simp only [catK, List.length_append, List.length_cons]
    omega
theorem mzD_mt : ∀ (n : Nat) (x : MarkD) (room m : Int), mzD n x room = some m → ((mtD n x).length : Int) ≤ 400 * m := by
  intro n
  induction n with
  | zero => intro x room m h; simp [mzD] at h
  | succ n ih =>
    intro x room m h
    have hr := mzD_range _ _ _ _ h
    unfold mzD at h
    split at h
    · cases h
    · rename_i hc
      have hs : selfB x = true := by cases hs : selfB x <;> simp_all
      have h1 := mzF_cat ih _ _ _ _ _ h
      have h2 := self_text hs
      cases ht : isT x
      · unfold selfB at hs
        rw [ht] at hs
        simp only [Bool.false_eq_true, if_false] at hs
        unfold tagB at hs
        simp only [Bool.and_eq_true, decide_eq_true_eq] at hs
        obtain ⟨⟨⟨g1, _⟩, g3⟩, g4⟩ := hs
        have k := nmB_length g1
        have a := attF_length _ _ g4
        rw [mtD_tag_length ht]
        omega
      · rw [mtD_text ht]
        have e := escL_length x.vText.data.toList
        rw [eb_len] at e
        omega
end Go.Proofs.YtlcddndpfhdakaaDoor
