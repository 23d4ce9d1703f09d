/- What is escaped comes back; what is unescaped, escaped again, has just its bytes: plain facts. -/
import Derived.Test.YtlcddndpfhdakaaDoorUnPlain
namespace Go.Proofs.YtlcddndpfhdakaaDoor
theorem firstU_esc (c : UInt8) (r : List UInt8) : firstU (escB c ++ r) = some (c, (escB c).length) := by
  unfold escB
  split
  · rename_i h; subst h; exact firstU_amp (by simp [preB])
  split
  · rename_i h; subst h; exact firstU_lt (by simp [preB]) (by simp [preB])
  split
  · rename_i h; subst h; exact firstU_gt (by simp [preB]) (by simp [preB]) (by simp [preB])
  split
  · rename_i h; subst h; exact firstU_quot (by simp [preB]) (by simp [preB]) (by simp [preB]) (by simp [preB])
  · rename_i h1 h2 h3 h4
    show firstU (c :: r) = _
    rw [firstU_other h1, if_neg (by simp [bareB, h1, h2, h3, h4])]; rfl
theorem unL_esc (l : List UInt8) : unL (escL l) = some l := by
  induction l with
  | nil => rfl
  | cons c r ih =>
    show unL (escB c ++ escL r) = _
    rw [unL_some (firstU_esc c (escL r)), List.drop_left, ih]; rfl
theorem preB_take {p l : List UInt8} (h : preB p l = true) : l.take p.length = p := by simpa [preB] using h
theorem firstU_take {l : List UInt8} {c : UInt8} {k : Nat} (h : firstU l = some (c, k)) : l.take k = escB c := by
  unfold firstU at h
  split at h
  · rename_i q; cases h; exact preB_take q
  split at h
  · rename_i q; cases h; exact preB_take q
  split at h
  · rename_i q; cases h; exact preB_take q
  split at h
  · rename_i q; cases h; exact preB_take q
  split at h
  · cases h
  · split at h
    · cases h
    · rename_i hb
      cases h
      have : bareB c = false := by simpa using hb
      simp only [bareB, Bool.or_eq_false_iff, beq_eq_false_iff_ne] at this
      obtain ⟨⟨⟨h1, h2⟩, h3⟩, h4⟩ := this
      simp [escB, h1, h2, h3, h4]
theorem unE_back : ∀ (n : Nat) (u x : List UInt8), unE n u = some x → escL x = u := by
  intro n
  induction n with
  | zero =>
    intro u x h
    cases u with
    | nil => simp [unE] at h; subst h; rfl
    | cons c r => simp [unE] at h
  | succ n ih =>
    intro u x h
    unfold unE at h
    split at h
    · rename_i hu; cases h; rw [hu]; rfl
    · split at h
      · cases h
      · rename_i c k hq
        obtain ⟨y, hy, rfl⟩ := Option.map_eq_some_iff.1 h
        have := ih _ _ hy
        show escB c ++ escL y = u
        rw [this, ← firstU_take hq, List.take_append_drop]
theorem unL_back {u x : List UInt8} (h : unL u = some x) : escL x = u := unE_back _ _ _ h
theorem escL_split (l : List UInt8) (k : Nat) : escL (l.take k) ++ escL (l.drop k) = escL l := by rw [← escL_append, List.take_append_drop]
theorem unL_length {u x : List UInt8} (h : unL u = some x) : x.length ≤ u.length := by
  rw [← unL_back h]
  clear h
  induction x with
  | nil => simp
  | cons c r ih => have := (escB_length c).2; simp only [escL, List.length_append, List.length_cons]; omega
end Go.Proofs.YtlcddndpfhdakaaDoor
