/- What TreeText returns, that of the specification and that of the program. -/
import Derived.Test.YtpmmekfgcapdgaaOkWalks
import Derived.Test.YtpmmekfgcapdgaaTextSpec
import Derived.Test.YtpmmekfgcapdgaaTextAp
import Derived.Laws.IdiomStrings
namespace Go.Proofs.Ytpmmekfgcapdgaa
open Go.RowKit
/-- the text of a tree if it is right; else no byte -/
def textR {H : Type} (n : Nat) (d : DataW H) : ByteArray := if okB (szD n d 30) = true then ⟨(textD n d).toArray⟩ else ⟨#[]⟩
theorem textR_yes {H : Type} {n : Nat} {d : DataW H} (h : okB (szD n d 30) = true) : textR n d = ⟨(textD n d).toArray⟩ := by simp [textR, h]
theorem textR_no {H : Type} {n : Nat} {d : DataW H} (h : okB (szD n d 30) = false) : textR n d = ⟨#[]⟩ := by simp [textR, h]
theorem ok_text {H : Type} {n : Nat} {d : DataW H} (h : okB (szD n d 30) = true) : (textD n d).length ≤ 1048576 := by
  cases hq : szD n d 30 with
  | none => rw [hq] at h; cases h
  | some q =>
    have h1 := szD_text _ _ _ _ hq
    have h2 := szD_range _ _ _ _ hq
    omega
set_option maxHeartbeats 400000 in
theorem specTreeText_any {H : Type} {n : Nat} {w : World} {lo : Nat} {t k : Value} {d : DataW H} (ht : TreeAt w lo n t k d) :
    Calls Try.prog 9 #[.agg #[t, k]] w fun e w' => e = .returned (.string (textR n d)) ∧ Below w.heap.size w w' := by
  have hb0 : Below w.heap.size w (w.alloc (.cells #[t, k] 26)) := (Below.refl _ _).alloc (Nat.le_refl _) _
  have hz0 : (w.alloc (.cells #[t, k] 26)).heap.size = w.heap.size + 1 := by simp
  have ht' : Hid (TreeAt (w.alloc (.cells #[t, k] 26)) lo n t k d) := ht.below hb0
  clear ht
  go_enter Try.func9, Try.ntmps9
  go_wp2_with fail
  refine (specTreeOk_any ht'.out).mono ?_
  rintro e w1 ⟨rfl, hb1⟩
  have hB1 : Below w.heap.size w w1 := hb0.trans (hb1.mono hb0.size)
  have ht1 : Hid (TreeAt w1 lo n t k d) := ht'.out.below hb1
  have c0 : w1.cell? ⟨w.heap.size, 0, none⟩ = some t := by rw [hb1.cell (by simp)]; simp [go_sem]
  have c1 : w1.cell? ⟨w.heap.size, 1, none⟩ = some k := by rw [hb1.cell (by simp)]; simp [go_sem]
  clear hb1 hz0
  cases hq : okB (szD n d 30)
  · have HQ : Hid _ := textR_no hq
    clear hq
    go_wp2_with fail
    go_ret
    exact ⟨by rw [HQ.out]; rfl, hB1⟩
  · have HQ : Hid _ := textR_yes hq
    have HL : Hid _ := ok_text hq
    clear hq
    go_wp2_with fail
    refine (txS_all n _ lo _ _ d ht1.out HL.out).mono ?_
    rintro e w2 ⟨⟨r, rfl, hr⟩, hb2⟩
    have hr' : Hid _ := hr
    clear hr
    go_wp2_with fail
    go_ret
    refine ⟨?_, hB1.trans (hb2.mono hB1.size)⟩
    rw [HQ.out, ← hr'.out]; rfl
set_option maxHeartbeats 400000 in
theorem implTreeText_any {H : Type} {n : Nat} {w : World} {lo : Nat} {t k : Value} {d : DataW H} (ht : TreeAt w lo n t k d) :
    Calls Try.prog 7 #[.agg #[t, k]] w fun e w' => e = .returned (.string (textR n d)) ∧ Below w.heap.size w w' := by
  have hb0 : Below w.heap.size w (w.alloc (.cells #[t, k] 26)) := (Below.refl _ _).alloc (Nat.le_refl _) _
  have ht' : Hid (TreeAt (w.alloc (.cells #[t, k] 26)) lo n t k d) := ht.below hb0
  clear ht
  go_enter Try.func7, Try.ntmps7
  go_wp2_with fail
  refine (implTreeOk_any ht'.out).mono ?_
  rintro e w1 ⟨rfl, hb1⟩
  have hB1 : Below w.heap.size w w1 := hb0.trans (hb1.mono hb0.size)
  have ht1 : Hid (TreeAt w1 lo n t k d) := ht'.out.below hb1
  have c0 : w1.cell? ⟨w.heap.size, 0, none⟩ = some t := by rw [hb1.cell (by simp)]; simp [go_sem]
  have c1 : w1.cell? ⟨w.heap.size, 1, none⟩ = some k := by rw [hb1.cell (by simp)]; simp [go_sem]
  clear hb1
  cases hq : okB (szD n d 30)
  · have HQ : Hid _ := textR_no hq
    clear hq
    go_wp2_with fail
    go_ret
    exact ⟨by rw [HQ.out]; rfl, hB1⟩
  · have HQ : Hid _ := textR_yes hq
    have HL : Hid ((textD n d).length ≤ 1048576) := ok_text hq
    have HP : 0 < (textD n d).length := by
      match n, hq with
      | 0, hq => simp [szD, okB] at hq
      | n + 1, _ => rw [textD_length]; omega
    clear hq
    have ho : Hid (OwnB w1 w1.heap.size (.slice none 0 0) []) := World.ownsRow_nil w1 _ _ _
    go_wp2_with fail
    refine (apT_all n w1 w1 lo _ _ _ d [] ht1.out (Below.refl _ _) ho.out (by simpa using HL.out)).mono ?_
    rintro e w2 ⟨v2, rfl, ho2, hg2⟩
    have hB2 : Below w1.heap.size w1 w2 := hg2.below (Below.refl _ _) ho.out
    rw [List.nil_append] at ho2
    rcases ho2.2 with ⟨_, hn⟩ | ⟨g, cap, cur, rfl, hg, hh, _⟩
    · omega
    have hcv := run_convert_bytes_back (P := Try.prog) w2 22 9 5 ⟨g, 0, none⟩ cap (textD n d) Try.underlying22 Try.underlying5 Try.underlying9 (fun j hj => World.ownsRow.cells (g := g) ho2 rfl j _ (by simp [byteCells, List.getElem?_eq_getElem hj]))
    clear ho2 hg2 hh HP
    go_wp2_with fail
    go_ret
    exact ⟨by rw [HQ.out]; rfl, hB1.trans (hB2.mono hB1.size)⟩
end Go.Proofs.Ytpmmekfgcapdgaa
