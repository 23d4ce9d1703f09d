/- FnClosest, walked. -/
import Derived.Test.YtddhacalnfkopaaFncTail
namespace Go.Proofs.Ytddhacalnfkopaa.fnClosest
open Go.RowKit Go.Deep
set_option maxHeartbeats 400000 in
theorem big_any {a : Option Addr} {n cap : Nat} (w : World) : Calls Try.prog 9 #[.slice a n cap] w fun e w' => e = .returned (.bool (decide ((1048576 : Int) < (n : Int)))) ∧ w' = w := by
  go_enter Try.func9, Try.ntmps9
  go_wp2
  go_ret
  exact ⟨rfl, rfl⟩
set_option maxRecDepth 100000 in
set_option maxHeartbeats 4000000 in
theorem walk {a : Option Addr} {n cap : Nat} (w : World) (hlen : n ≤ maxLen) (hcode : n ≤ 1048576 → CodeAt w a n) :
    Calls Try.prog 7 #[.slice a n cap] w fun e w' => e = .returned (.bool true) ∧ Below w.heap.size w w' := by
  unfold maxLen at hlen
  by_cases hbig : (1048576 : Int) < (n : Int)
  · clear hcode
    go_enter Try.func7, Try.ntmps7
    go_wp2_with (go_at_call 9; refine (big_any _).mono ?_; rintro e w' ⟨rfl, rfl⟩; rw [decide_eq_true hbig])
    go_ret
    exact ⟨rfl, Below.refl _ _⟩
  · have hc' : Hid (CodeAt w a n) := hcode (by omega)
    have hn0 : n ≤ 1048576 := by omega
    clear hcode
    go_enter Try.func7, Try.ntmps7
    go_wp2_with fail
    refine (big_any _).mono ?_
    rintro e w0 ⟨rfl, rfl⟩
    rw [decide_eq_false (show ¬ (1048576 : Int) < (n : Int) by omega)]
    go_wp2_with fail
    refine (drawClosest_any hc'.out).mono ?_
    rintro e w2 ⟨⟨ta, ka, vp, xa, path, tag, rfl, hta, hp, hpl0, htg⟩, hb2⟩
    obtain ⟨rfl, _⟩ := hta.tag
    obtain ⟨_, aa, ca, rfl⟩ := hta.form
    obtain ⟨ap, cp, rfl, hcp0, _⟩ := id hp
    have hcp : Hid (path.length ≤ cp) := hcp0.2
    have hpl : Hid (path.length ≤ 5) := hpl0
    have hbA : Below w2.heap.size w2 (w2.alloc (.cells #[.string (strT xa), .slice aa (kidsOf xa).length ca] 33)) := (Below.refl _ _).alloc (Nat.le_refl _) _
    have hG4 : Hid (USt w2.heap.size (.string (strT xa)) (.slice aa (kidsOf xa).length ca) xa (w2.alloc (.cells #[.string (strT xa), .slice aa (kidsOf xa).length ca] 33))) := ⟨hta.below hbA, Box.new w2 _ _⟩
    have hP4 : Hid (SeqAt 1 IntAt (w2.alloc (.cells #[.string (strT xa), .slice aa (kidsOf xa).length ca] 33)) 0 (.slice ap path.length cp) path) := hp.below intAt_stays hbA
    have hB4 : Hid (Below w0.heap.size w0 (w2.alloc (.cells #[.string (strT xa), .slice aa (kidsOf xa).length ca] 33))) := hb2.trans (hbA.mono hb2.size)
    clear hta hp hb2 hbA hcp0 hpl0
    go_wp2_with fail
    refine (implClosest_any (n := 4) tag (by exact hG4.out.1) (by exact hP4.out) (by have := hpl.out; omega)).mono ?_
    rintro e w5 ⟨⟨vr, fr, rfl, hs, _, _⟩, hb5⟩
    have hG5 : Hid (USt w2.heap.size (.string (strT xa)) (.slice aa (kidsOf xa).length ca) xa w5) := hG4.out.below hb5
    have hP5 : Hid (SeqAt 1 IntAt w5 0 (.slice ap path.length cp) path) := hP4.out.below intAt_stays hb5
    have hB5 : Hid (Below w0.heap.size w0 w5) := hB4.out.trans (hb5.mono hB4.out.size)
    have hR5 : Hid (SeqAt 1 IntAt w5 0 vr (closeD (okB (szD 4 xa 30)) xa path tag).1) := hs.at intOwn_at (fun _ _ => Nat.zero_le _)
    have htold : Hid (Told xa path (closeD (okB (szD 4 xa 30)) xa path tag).1 tag (closeD (okB (szD 4 xa 30)) xa path tag).2) := told_any xa path tag
    clear hs hb5 hG4 hP4 hB4
    obtain ⟨ar, cr, rfl⟩ := hR5.out.form
    generalize w2.heap.size = A at *
    obtain ⟨a0, a1⟩ := USt.cells hG5.out
    go_wp2_with fail
    refine (specClosest_any (n := 4) tag (by exact hG5.out.1) (by exact hP5.out) (by have := hpl.out; omega)).mono ?_
    rintro e w6 ⟨⟨vq, fq, rfl, hs, _, _⟩, hb6⟩
    have hG6 : Hid (USt A (.string (strT xa)) (.slice aa (kidsOf xa).length ca) xa w6) := hG5.out.below hb6
    have hP6 : Hid (SeqAt 1 IntAt w6 0 (.slice ap path.length cp) path) := hP5.out.below intAt_stays hb6
    have hB6 : Hid (Below w0.heap.size w0 w6) := hB5.out.trans (hb6.mono hB5.out.size)
    have hR6 : Hid (SeqAt 1 IntAt w6 0 (.slice ar (closeD (okB (szD 4 xa 30)) xa path tag).1.length cr) (closeD (okB (szD 4 xa 30)) xa path tag).1) := hR5.out.below intAt_stays hb6
    have hQ6 : Hid (SeqAt 1 IntAt w6 0 vq (closeD (okB (szD 4 xa 30)) xa path tag).1) := hs.at intOwn_at (fun _ _ => Nat.zero_le _)
    clear hs hb6 hG5 hP5 hB5 hR5 a0 a1
    obtain ⟨aq, cq, rfl⟩ := hQ6.out.form
    generalize (closeD (okB (szD 4 xa 30)) xa path tag) = CC at *
    obtain ⟨C1, isb⟩ := CC
    go_wp2_with fail
    rename_i K1 hK1 K2 hK2 K3 hK3
    refine (samePath_yes hR6.out hQ6.out).mono ?_
    rintro e w7 ⟨rfl, m, hw7⟩
    have hb7 : Below w6.heap.size w6 w7 := by rw [hw7]; exact belowN_drew (Below.refl _ _) m
    have hG7 : Hid (USt A (.string (strT xa)) (.slice aa (kidsOf xa).length ca) xa w7) := hG6.out.below hb7
    have hP7 : Hid (SeqAt 1 IntAt w7 0 (.slice ap path.length cp) path) := hP6.out.below intAt_stays hb7
    have hR7 : Hid (SeqAt 1 IntAt w7 0 (.slice ar C1.length cr) C1) := hR6.out.below intAt_stays hb7
    have hB7 : Hid (Below w0.heap.size w0 w7) := hB6.out.trans (hb7.mono hB6.out.size)
    clear hb7 hw7 hG6 hP6 hR6 hB6 hQ6
    have hK1' : Hid _ := hK1
    clear hK1
    go_wp2_with fail
    exact hK1'.out _ _ (tail_any htold.out hpl hcp hG7 hP7 hR7 hB7)
end Go.Proofs.Ytddhacalnfkopaa.fnClosest
