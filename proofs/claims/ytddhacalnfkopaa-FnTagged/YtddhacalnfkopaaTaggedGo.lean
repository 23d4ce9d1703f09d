/- FnTagged, walked. -/
import Derived.Test.YtddhacalnfkopaaTaggedTail
namespace Go.Proofs.Ytddhacalnfkopaa.fnTagged
open Go.RowKit Go.Deep
set_option maxHeartbeats 400000 in
theorem big_any {a : Option Addr} {n cap : Nat} (w : World) : Calls Try.prog 9 #[.slice a n cap] w fun e w' => e = .returned (.bool (decide ((1048576 : Int) < (n : Int)))) ∧ w' = w := by
  go_enter Try.func9, Try.ntmps9
  go_wp2
  go_ret
  exact ⟨rfl, rfl⟩
set_option maxRecDepth 100000 in
set_option maxHeartbeats 4000000 in
theorem walk {a : Option Addr} {n cap : Nat} (w : World) (hlen : n ≤ maxLen) (hcode : n ≤ 1048576 → CodeAt w a n) :
    Calls Try.prog 8 #[.slice a n cap] w fun e w' => e = .returned (.bool true) ∧ Below w.heap.size w w' := by
  unfold maxLen at hlen
  by_cases hbig : (1048576 : Int) < (n : Int)
  · clear hcode
    go_enter Try.func8, Try.ntmps8
    go_wp2_with (go_at_call 9; refine (big_any _).mono ?_; rintro e w' ⟨rfl, rfl⟩; rw [decide_eq_true hbig])
    go_ret
    exact ⟨rfl, Below.refl _ _⟩
  · have hc' : Hid (CodeAt w a n) := hcode (by omega)
    have hn0 : n ≤ 1048576 := by omega
    clear hcode
    go_enter Try.func8, Try.ntmps8
    go_wp2_with fail
    refine (big_any _).mono ?_
    rintro e w0 ⟨rfl, rfl⟩
    rw [decide_eq_false (show ¬ (1048576 : Int) < (n : Int) by omega)]
    go_wp2_with fail
    refine (drawPathsOf_any hc'.out).mono ?_
    rintro e w2 ⟨⟨ta, ka, xa, rfl, hta⟩, hb2⟩
    obtain ⟨rfl, _⟩ := hta.tag
    obtain ⟨_, aa, ca, rfl⟩ := hta.form
    have hta' : Hid (TreeAt w2 0 4 (.string (strT xa)) (.slice aa (kidsOf xa).length ca) xa) := TreeAt.keep (Nat.le_refl _) (Nat.zero_le _) (fun _ _ _ => rfl) 4 _ _ _ hta
    have hB2 : Hid (Below w0.heap.size w0 w2) := hb2
    clear hta hb2
    have hbA : Hid (Below w2.heap.size w2 (w2.alloc (.cells #[.string (strT xa), .slice aa (kidsOf xa).length ca] 33))) := (Below.refl _ _).alloc (Nat.le_refl _) _
    have hG4 : Hid (USt w2.heap.size (.string (strT xa)) (.slice aa (kidsOf xa).length ca) xa (w2.alloc (.cells #[.string (strT xa), .slice aa (kidsOf xa).length ca] 33))) := ⟨hta'.out.below hbA.out, Box.new w2 _ _⟩
    have hB4 : Hid (Below w0.heap.size w0 (w2.alloc (.cells #[.string (strT xa), .slice aa (kidsOf xa).length ca] 33))) := hB2.out.trans (hbA.out.mono hB2.out.size)
    clear hbA hta' hB2
    go_wp2_with fail
    refine (implPathsOf_any (n := 4) (by exact hG4.out.1)).mono ?_
    rintro e w5 ⟨⟨vp, fs, rfl, hs, _, _⟩, hb5⟩
    have hal5 : Hid (SeqAt 1 IntsAt w5 0 vp (pathsOfD (okB (szD 4 xa 30)) 4 xa)) := hs.at IntsOwn_at (fun _ _ => Nat.zero_le _)
    have hG5 : Hid (USt w2.heap.size (.string (strT xa)) (.slice aa (kidsOf xa).length ca) xa w5) := hG4.out.below hb5
    have hB5 : Hid (Below w0.heap.size w0 w5) := hB4.out.trans (hb5.mono hB4.out.size)
    clear hs hb5 hG4 hB4
    generalize w2.heap.size = A at *
    obtain ⟨ap, cp, rfl⟩ := hal5.out.form
    obtain ⟨a0, a1⟩ := USt.cells hG5.out
    go_wp2_with fail
    rename_i K1 hK1 K2 hK2 K3 hK3
    refine (specPathsOf_any (n := 4) (by exact hG5.out.1)).mono ?_
    rintro e w6 ⟨⟨vq, fq, rfl, hs, _, _⟩, hb6⟩
    have hq6 : Hid (SeqAt 1 IntsAt w6 0 vq (pathsOfD (okB (szD 4 xa 30)) 4 xa)) := hs.at IntsOwn_at (fun _ _ => Nat.zero_le _)
    have hal6 : Hid (SeqAt 1 IntsAt w6 0 (.slice ap (pathsOfD (okB (szD 4 xa 30)) 4 xa).length cp) (pathsOfD (okB (szD 4 xa 30)) 4 xa)) := hal5.out.below IntsAt_stays hb6
    have hG6 : Hid (USt A (.string (strT xa)) (.slice aa (kidsOf xa).length ca) xa w6) := hG5.out.below hb6
    have hB6 : Hid (Below w0.heap.size w0 w6) := hB5.out.trans (hb6.mono hB5.out.size)
    clear hs hb6 hal5 hG5 hB5 a0 a1
    obtain ⟨aq, cq, rfl⟩ := hq6.out.form
    go_wp2_with fail
    refine (samePaths_yes hal6.out hq6.out).mono ?_
    rintro e w7 ⟨rfl, m, hw7⟩
    have hb7 : Below w6.heap.size w6 w7 := by rw [hw7]; exact belowN_drew (Below.refl _ _) m
    have hal7 : Hid (SeqAt 1 IntsAt w7 0 (.slice ap (pathsOfD (okB (szD 4 xa 30)) 4 xa).length cp) (pathsOfD (okB (szD 4 xa 30)) 4 xa)) := hal6.out.below IntsAt_stays hb7
    have hG7 : Hid (USt A (.string (strT xa)) (.slice aa (kidsOf xa).length ca) xa w7) := hG6.out.below hb7
    have hB7 : Hid (Below w0.heap.size w0 w7) := hB6.out.trans (hb7.mono hB6.out.size)
    clear hb7 hw7 hal6 hG6 hB6 hq6
    obtain ⟨a0, a1⟩ := USt.cells hG7.out
    go_wp2_with fail
    refine (specTreeOk_any (n := 4) (by exact hG7.out.1)).mono ?_
    rintro e w8 ⟨rfl, hb8⟩
    have hal8 : Hid (SeqAt 1 IntsAt w8 0 (.slice ap (pathsOfD (okB (szD 4 xa 30)) 4 xa).length cp) (pathsOfD (okB (szD 4 xa 30)) 4 xa)) := hal7.out.below IntsAt_stays hb8
    have hG8 : Hid (USt A (.string (strT xa)) (.slice aa (kidsOf xa).length ca) xa w8) := hG7.out.below hb8
    have hB8 : Hid (Below w0.heap.size w0 w8) := hB7.out.trans (hb8.mono hB7.out.size)
    clear hb8 hal7 hG7 hB7 a0 a1
    obtain ⟨a0, a1⟩ := USt.cells hG8.out
    rcases two_b3 (okB (szD 4 xa 30)) with hok | hok
    · have hok' : Hid (okB (szD 4 xa 30) = false) := hok
      rw [hok] at hal8 ⊢
      clear hok
      go_wp2_with fail
      refine (specPathsOf_any (n := 4) (by exact hG8.out.1)).mono ?_
      rintro e w9 ⟨⟨vr, fr, rfl, hs, _, _⟩, hb9⟩
      rw [hok'.out] at hs
      have hr9 : Hid (SeqAt 1 IntsAt w9 0 vr (pathsOfD false 4 xa)) := hs.at IntsOwn_at (fun _ _ => Nat.zero_le _)
      have hal9 : Hid (SeqAt 1 IntsAt w9 0 (.slice ap (pathsOfD false 4 xa).length cp) (pathsOfD false 4 xa)) := hal8.out.below IntsAt_stays hb9
      have hB9 : Hid (Below w0.heap.size w0 w9) := hB8.out.trans (hb9.mono hB8.out.size)
      clear hs hb9 hal8 hG8 hB8 a0 a1
      obtain ⟨ar, cr, rfl⟩ := hr9.out.form
      go_wp2_with fail
      refine (samePaths_yes hal9.out hr9.out).mono ?_
      rintro e w10 ⟨rfl, m2, hw10⟩
      go_wp2_with fail
      go_ret
      exact ⟨rfl, belowN_drew hB9.out m2⟩
    · have hok' : Hid (okB (szD 4 xa 30) = true) := hok
      rw [hok] at hal8 ⊢
      rw [pathsOfD_yes rfl] at hal8 ⊢
      clear hok
      obtain ⟨ba, oa, capa, e⟩ := ints_form hal8.out (by rw [pathsD_succ]; simp)
      injection e with e1 _ e3
      subst e1 e3
      have hK1' : Hid _ := hK1
      clear hK1
      go_wp2_with fail
      exact hK1'.out _ _ (tail_any hok' hG8 hal8 hB8)
end Go.Proofs.Ytddhacalnfkopaa.fnTagged
