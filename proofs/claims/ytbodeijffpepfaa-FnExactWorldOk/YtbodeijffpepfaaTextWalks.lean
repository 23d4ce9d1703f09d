/- What TreeText returns, that of the specification and that of the program. -/
import Derived.Test.YtbodeijffpepfaaOkWalks
import Derived.Test.YtbodeijffpepfaaTextSpec
import Derived.Laws.IdiomStrings
namespace Go.Proofs.Ytbodeijffpepfaa
open Go.RowKit
/-- the text of a tree if it is right; else no byte -/
def textR {H : Type} (n : Nat) (d : DataW H) : ByteArray := if okB (szD n d 30) = true then ⟨(textD n d).toArray⟩ else ⟨#[]⟩
theorem textR_yes {H : Type} {n : Nat} {d : DataW H} (h : okB (szD n d 30) = true) : textR n d = ⟨(textD n d).toArray⟩ := by simp [textR, h]
theorem textR_no {H : Type} {n : Nat} {d : DataW H} (h : okB (szD n d 30) = false) : textR n d = ⟨#[]⟩ := by simp [textR, h]
theorem ok_text {H : Type} {n : Nat} {d : DataW H} (h : okB (szD n d 30) = true) : (textD n d).length ≤ 1048576 := by
  cases hq : szD n d 30 with
  | none => rw [hq] at h; cases h
  | some q =>
    have h1 := szD_text _ _ _ _ hq
    have h2 := szD_range _ _ _ _ hq
    omega
set_option maxHeartbeats 400000 in
theorem specTreeText_any {H : Type} {n : Nat} {w : World} {lo : Nat} {t k : Value} {d : DataW H} (ht : TreeAt w lo n t k d) :
    Calls Try.prog 29 #[.agg #[t, k]] w fun e w' => e = .returned (.string (textR n d)) ∧ Below w.heap.size w w' := by
  have hb0 : Below w.heap.size w (w.alloc (.cells #[t, k] 48)) := (Below.refl _ _).alloc (Nat.le_refl _) _
  have hz0 : (w.alloc (.cells #[t, k] 48)).heap.size = w.heap.size + 1 := by simp
  have ht' : Hid (TreeAt (w.alloc (.cells #[t, k] 48)) lo n t k d) := ht.below hb0
  clear ht
  go_enter Try.func29, Try.ntmps29
  go_wp2_with fail
  refine (specTreeOk_any ht'.out).mono ?_
  rintro e w1 ⟨rfl, hb1⟩
  have hB1 : Below w.heap.size w w1 := hb0.trans (hb1.mono hb0.size)
  have ht1 : Hid (TreeAt w1 lo n t k d) := ht'.out.below hb1
  have c0 : w1.cell? ⟨w.heap.size, 0, none⟩ = some t := by rw [hb1.cell (by simp)]; simp [go_sem]
  have c1 : w1.cell? ⟨w.heap.size, 1, none⟩ = some k := by rw [hb1.cell (by simp)]; simp [go_sem]
  clear hb1 hz0
  cases hq : okB (szD n d 30)
  · have HQ : Hid _ := textR_no hq
    clear hq
    go_wp2_with fail
    go_ret
    exact ⟨by rw [HQ.out]; rfl, hB1⟩
  · have HQ : Hid _ := textR_yes hq
    have HL : Hid _ := ok_text hq
    clear hq
    go_wp2_with fail
    refine (txS_all n _ lo _ _ d ht1.out HL.out).mono ?_
    rintro e w2 ⟨⟨r, rfl, hr⟩, hb2⟩
    have hr' : Hid _ := hr
    clear hr
    go_wp2_with fail
    go_ret
    refine ⟨?_, hB1.trans (hb2.mono hB1.size)⟩
    rw [HQ.out, ← hr'.out]; rfl
end Go.Proofs.Ytbodeijffpepfaa
