/- How many marks what is read takes. -/
import Derived.Test.YtlcddndpfhdakaaDoorRmSpecTop
import Derived.Test.YtlcddndpfhdakaaDoorMarkMarks
namespace Go.Proofs.YtlcddndpfhdakaaDoor
open Go.RowKit Go.Deep
theorem cntL_nilM {α : Type} (f : α → Nat) : cntL f [] = 0 := by simp [cntL, pos]
theorem cntL_consM {α : Type} (f : α → Nat) (k : α) (ks : List α) : cntL f (k :: ks) = f k + cntL f ks := by simp [cntL, pos]
theorem cntA (l : List AttrD) : cntL cntAttr l = 2 * l.length := by
  induction l with
  | nil => rw [cntL_nilM]; rfl
  | cons a l ih => rw [cntL_consM, ih, List.length_cons]; show 1 + 1 + _ = _; omega
theorem mdK_cnt {f : MarkD → Nat → List UInt8 → List UInt8 → Prop} {g : MarkD → Nat} (hf : ∀ x c l r, f x c l r → g x + 2 * r.length ≤ 2 * l.length) : ∀ (ks : List MarkD) (c : Nat) (l r : List UInt8), MdK f ks c l r → cntL g ks + 2 * r.length ≤ 2 * l.length := by
  intro ks
  induction ks with
  | nil => intro c l r h; obtain ⟨_, rfl⟩ := h; rw [cntL_nilM]; omega
  | cons k ks ih =>
    intro c l r h
    obtain ⟨c1, c2, m, _, h2, h3⟩ := h
    have := hf _ _ _ _ h2
    have := ih _ _ _ h3
    rw [cntL_consM]; omega
theorem md_cnt : ∀ (L n : Nat) (x : MarkD) (c : Nat) (l r : List UInt8), Md n x c l r → cntMark L x + 2 * r.length ≤ 2 * l.length := by
  intro L
  induction L with
  | zero =>
    intro n
    induction n with
    | zero => intro x c l r h; exact h.elim
    | succ n ih =>
      intro x c l r h
      show 0 + _ ≤ _
      rcases h with ⟨t, _, _, e, _⟩ | ⟨s, as0, ks, m, c', _, _, _, _, e, h6⟩
      · rw [e, List.length_append]; omega
      · have := mdK_cnt (g := cntMark 0) ih _ _ _ _ h6
        rw [e]
        simp only [List.length_cons, List.length_append] at this ⊢
        omega
  | succ L ihL =>
    intro n x c l r h
    cases n with
    | zero => exact h.elim
    | succ n =>
      show 1 + 1 + cntL cntAttr x.vAttrs + cntL (cntMark L) x.vKids + _ ≤ _
      rcases h with ⟨t, rfl, _, e, hne, hp, ho⟩ | ⟨s, as0, ks, m, c', rfl, _, _, _, e, h6⟩
      · rw [MarkD.mk_attrs, MarkD.mk_kids, cntL_nilM, cntL_nilM]
        have : 1 ≤ (escL t.data.toList).length := by
          cases hq : escL t.data.toList with
          | nil =>
            rw [hq, List.nil_append] at e
            obtain ⟨z, hz⟩ := op60_pre ho (by rw [← e]; exact hne)
            rw [e, pre60 hz] at hp; cases hp
          | cons c z => simp
        rw [e, List.length_append]; omega
      · rw [MarkD.mk_attrs, MarkD.mk_kids, cntA]
        have h1 := mdK_cnt (g := cntMark L) (ihL n) _ _ _ _ h6
        have h2 := catK_attT_len as0
        rw [e]
        simp only [List.length_cons, List.length_append] at h1 ⊢
        omega
theorem readsM_cnt {s : ByteArray} {x : MarkD} {b : Bool} (h : ReadsM s x b) : (1 : Int) + (cntL cntAttr x.vAttrs : Nat) + (cntL (cntMark 30) x.vKids : Nat) ≤ 4611686018427387904 := by
  rcases h with ⟨_, h1, h2, h3, h4, _⟩ | ⟨_, rfl, _⟩
  · obtain ⟨c, _, g⟩ := ok_md h2 h4 h3.symm
    have h5 : 1 + 1 + cntL cntAttr x.vAttrs + cntL (cntMark 30) x.vKids + 2 * ([] : List UInt8).length ≤ 2 * s.data.toList.length := md_cnt 31 31 x c _ _ g
    rw [bd_len, List.length_nil] at h5
    omega
  · unfold zeroM
    rw [MarkD.mk_attrs, MarkD.mk_kids, cntL_nilM, cntL_nilM]; omega
end Go.Proofs.YtlcddndpfhdakaaDoor
