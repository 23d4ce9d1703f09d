/- What Matches of the specification returns. -/
import Derived.Test.YtgmgbjeejlkdmaaMatchSpecB
namespace Go.Proofs.Ytgmgbjeejlkdmaa
open Go.RowKit
theorem lm_all {H : Type} (st : Nat → StepD) (m : Nat) (d : DataW H) (path : List Int) : ∀ n, LMs st m d path n := fun n =>
  Nat.strongRecOn n fun n ih => lm_step st m d path n ih
theorem selB_one {l : List StepD} (h : selB l = true) : 1 ≤ l.length := by
  rcases Nat.lt_or_ge l.length 1 with q | q
  · rw [selB_short q] at h; cases h
  · exact q
set_option maxHeartbeats 4000000 in
theorem specMatches_any {H : Type} {n : Nat} {w : World} {lo lo2 lo3 : Nat} {t k kp kl : Value} {d : DataW H} {path : List Int} {l : List StepD} (ht : TreeAt w lo n t k d) (hp : SeqAt 1 IntAt w lo2 kp path) (hl : SeqAt 2 StepAt w lo3 kl l) :
    Calls Try.prog 25 #[.agg #[t, k], kp, kl] w fun e w' => e = .returned (.bool (matchD (okB (szD n d 30)) d path l)) ∧ Below w.heap.size w w' := by
  obtain ⟨rfl, _⟩ := ht.tag
  obtain ⟨_, a0, cap0, rfl⟩ := ht.form
  have ht0 : Hid (TreeAt w lo n _ _ d) := ht
  have hp0 : Hid (SeqAt 1 IntAt w lo2 kp path) := hp
  have hl0 : Hid (SeqAt 2 StepAt w lo3 kl l) := hl
  clear ht hp hl
  have hb0 : Hid (Below w.heap.size w (w.alloc (.cells #[.string (strT d), .slice a0 (kidsOf d).length cap0] 26))) := (Below.refl _ _).alloc (Nat.le_refl _) _
  have bx0 : Hid (Box (w.alloc (.cells #[.string (strT d), .slice a0 (kidsOf d).length cap0] 26)) w.heap.size [.string (strT d), .slice a0 (kidsOf d).length cap0] 26) := Box.new w _ _
  go_enter Try.func25, Try.ntmps25
  go_wp2_with fail
  refine (l9At_any (ht0.out.below hb0.out) (hp0.out.below intAt_stays hb0.out)).mono ?_
  rintro e w1 ⟨hres, hb1⟩
  have hB1 : Hid (Below w.heap.size w w1) := hb0.out.trans (hb1.mono hb0.out.size)
  have bx1 : Hid (Box w1 w.heap.size [.string (strT d), .slice a0 (kidsOf d).length cap0] 26) := bx0.out.below hb1 bx0.out.lt
  clear hb1 bx0 hb0
  obtain ⟨X, aX, nX, cX, rfl⟩ : ∃ (X : ByteArray) (aX : Option Addr) (nX cX : Nat), e = .returned (.tuple #[.agg #[.string X, .slice aX nX cX], .bool (okP d path)]) := by
    rcases hres with ⟨e1, m, a, c, e2, _⟩ | ⟨e1, e2⟩
    · exact ⟨_, _, _, _, by rw [e2, e1]⟩
    · exact ⟨_, _, _, _, by rw [e2, e1]⟩
  clear hres
  have hB2 : Hid (Below w.heap.size w (w1.alloc (.cells #[.string X, .slice aX nX cX] 26))) := hB1.out.alloc hB1.out.size _
  have bx2 : Hid (Box (w1.alloc (.cells #[.string X, .slice aX nX cX] 26)) w.heap.size [.string (strT d), .slice a0 (kidsOf d).length cap0] 26) := bx1.out.alloc _
  have c0 := bx1.out.cell 0 rfl
  have c1 := bx1.out.cell 1 rfl
  have hlt1 : w.heap.size < w1.heap.size := bx1.out.lt
  clear bx1 hB1
  go_wp2_with fail
  generalize (w1.alloc (.cells #[.string X, .slice aX nX cX] 26)) = W at hB2 bx2
  clear c0 c1
  refine (specTreeOk_any (ht0.out.below hB2.out)).mono ?_
  rintro e w3 ⟨rfl, hb3⟩
  have hB3 : Hid (Below w.heap.size w w3) := hB2.out.trans (hb3.mono hB2.out.size)
  have bx3 : Hid (Box w3 w.heap.size [.string (strT d), .slice a0 (kidsOf d).length cap0] 26) := bx2.out.below hb3 bx2.out.lt
  clear hb3 bx2 hB2
  rcases two_b2 (okB (szD n d 30)) with hok | hok
  · have H : Hid (matchD (okB (szD n d 30)) d path l = false) := by show _ = _; unfold matchD; rw [hok]; simp
    rw [hok]
    clear hok
    go_wp2_with fail
    go_ret
    exact ⟨by rw [H.out]; rfl, hB3.out⟩
  have hok' : Hid (okB (szD n d 30) = true) := hok
  rw [hok]
  clear hok
  rcases two_b2 (okP d path) with hoP | hoP
  · have H : Hid (matchD (okB (szD n d 30)) d path l = false) := by show _ = _; unfold matchD; rw [hoP]; simp
    rw [hoP]
    clear hoP
    go_wp2_with fail
    go_ret
    exact ⟨by rw [H.out]; rfl, hB3.out⟩
  have hoP' : Hid (okP d path = true) := hoP
  rw [hoP]
  clear hoP
  go_wp2_with fail
  refine (specSelOk_any (hl0.out.below StepAt_stays hB3.out)).mono ?_
  rintro e w4 ⟨rfl, hb4⟩
  have hB4 : Hid (Below w.heap.size w w4) := hB3.out.trans (hb4.mono hB3.out.size)
  have bx4 : Hid (Box w4 w.heap.size [.string (strT d), .slice a0 (kidsOf d).length cap0] 26) := bx3.out.below hb4 bx3.out.lt
  clear hb4 bx3
  rcases two_b2 (selB l) with hs | hs
  · have H : Hid (matchD (okB (szD n d 30)) d path l = false) := by show _ = _; unfold matchD; rw [hs]; simp
    rw [hs]
    clear hs
    go_wp2_with fail
    go_ret
    exact ⟨by rw [H.out]; rfl, hB4.out⟩
  have H : Hid (matchD (okB (szD n d 30)) d path l = mB (stL l) (tgP d path) (l.length - 1) path.length) := by show _ = _; unfold matchD; rw [hs, hok'.out, hoP'.out]; simp
  have hl1 : Hid (1 ≤ l.length) := selB_one hs
  rw [hs]
  clear hs
  have c0 := bx4.out.cell 0 rfl
  have c1 := bx4.out.cell 1 rfl
  go_wp2_with fail
  refine (lm_all (stL l) n d path (l.length - 1) hoP'.out _ lo lo2 lo3 _ _ _ _ l path.length (ht0.out.below hB4.out) (by rw [List.take_length]; exact hp0.out.below intAt_stays hB4.out) (Nat.le_refl _) (hl0.out.below StepAt_stays hB4.out) (by have := hl1.out; omega) (fun i hi => (stL_get hi).symm)).mono ?_
  rintro e w5 ⟨rfl, hb5⟩
  go_wp2_with fail
  go_ret
  exact ⟨by rw [H.out]; rfl, hB4.out.trans (hb5.mono hB4.out.size)⟩
end Go.Proofs.Ytgmgbjeejlkdmaa
