/- What sizeWithin of the program returns. -/
import Derived.Test.YtpmmekfgcapdgaaSize
import Derived.Test.YtpmmekfgcapdgaaNameWalks
import Derived.Test.YtpmmekfgcapdgaaRows
import Derived.WalkKit
namespace Go.Proofs.Ytpmmekfgcapdgaa
open Go.RowKit
def resP : Option Int → Value
  | none => .tuple #[.int .i64 0, .bool false]
  | some m => .tuple #[.int .i64 m, .bool true]
def SwS {H : Type} (n : Nat) : Prop := ∀ (w : World) (lo : Nat) (t k : Value) (d : DataW H) (room : Int), TreeAt w lo n t k d → 0 ≤ room → room ≤ 30 →
  Calls Try.prog 24 #[.agg #[t, k], .int .i64 room] w fun e w' => e = .returned (resP (szD n d room)) ∧ Below w.heap.size w w'
set_option maxHeartbeats 400000 in
theorem swS_of {H : Type} (n : Nat) (h23 : SwS (H := H) n) : SwS (H := H) (n + 1) := by
  intro w lo t k d room ht h0 h1
  obtain ⟨⟨s, rfl, hs, htag⟩, hrow⟩ := ht
  have hs' : Hid (s.size ≤ maxLen) := hs
  obtain ⟨a, cap, rfl, hm, hx⟩ := hrow
  have hx' : Hid _ := hx
  unfold maxLen at hm
  have h23' : Hid (SwS (H := H) n) := h23
  clear hs h23 hx
  have hb0 : Below w.heap.size w (w.alloc (.cells #[.string s, .slice a (kidsOf d).length cap] 26)) := (Below.refl _ _).alloc (Nat.le_refl _) _
  by_cases hr : room < 1
  · have H1 : Hid (szD (n + 1) d room = none) := szD_no (.inl hr)
    clear htag
    go_enter Try.func24, Try.ntmps24
    go_wp2_with fail
    go_ret2
    exact ⟨by rw [H1.out]; rfl, hb0⟩
  cases hn : nameB (tagOf d)
  · have H1 : Hid (szD (n + 1) d room = none) := szD_no (.inr hn)
    rw [htag] at hn
    clear htag
    go_enter Try.func24, Try.ntmps24
    go_wp2_with fail
    refine (implNameOk_any s _ hs'.out).mono ?_
    rintro e w1 ⟨rfl, rfl⟩
    rw [hn]
    go_wp2_with fail
    go_ret2
    exact ⟨by rw [H1.out]; rfl, hb0⟩
  have H1 : Hid (szD (n + 1) d room = szF (szD n) (kidsOf d) room 1) := szD_yes (by omega) hn
  rw [htag] at hn
  clear htag
  go_enter Try.func24, Try.ntmps24
  go_wp2_with fail
  refine (implNameOk_any s _ hs'.out).mono ?_
  rintro e w1 ⟨rfl, rfl⟩
  rw [hn]
  go_wp2_with fail
  go_loopw [6, 22] (fun z i wr => ∃ (j : Nat) (m : Int), j ≤ (kidsOf d).length ∧ i = .int .i64 j ∧ z = .int .i64 m ∧ 1 ≤ m ∧ m ≤ room ∧ Below (w.heap.size + 1) (w.alloc (.cells #[.string s, .slice a (kidsOf d).length cap] 26)) wr ∧
      Hid (szF (szD n) (kidsOf d) room 1 = szF (szD n) ((kidsOf d).drop j) room m)) (fun _ i _ => (kidsOf d).length - (intOf i).toNat)
  case atStart => exact ⟨0, 1, by omega, rfl, rfl, by omega, by omega, Below.refl _ _, rfl⟩
  case round =>
    obtain ⟨j, m, hj, rfl, rfl, hm1, hm2, hb, hsz⟩ := hrel
    have hbw : Below w.heap.size w wr := hb0.trans (hb.mono (by omega))
    by_cases hlt : j < (kidsOf d).length
    · obtain ⟨b, off, rfl, hlo, hbb, hc⟩ := hx'.out (by omega)
      obtain ⟨t', k', c1, c2, ht⟩ := hc j hlt
      have q1 : wr.cell? ⟨b, off + j * 2, none⟩ = some t' := (hbw.cell (p := ⟨b, off + j * 2, none⟩) hbb).trans c1
      have q2 : wr.cell? ⟨b, off + j * 2 + 1, none⟩ = some k' := (hbw.cell (p := ⟨b, off + j * 2 + 1, none⟩) hbb).trans c2
      have ht0 : TreeAt wr lo n t' k' (nth (kidsOf d) j) := TreeAt.below ht hbw
      obtain ⟨⟨s1, rfl⟩, a1, cap1, rfl⟩ := ht0.form
      have ht' : Hid (TreeAt wr lo n _ _ (nth (kidsOf d) j)) := ht0
      clear hc c1 c2 ht ht0 hx'
      go_wp2_with fail
      have hbr : Below wr.heap.size wr (wr.alloc (.cells #[.string s1, .slice a1 (kidsOf (nth (kidsOf d) j)).length cap1] 26)) := (Below.refl _ _).alloc (Nat.le_refl _) _
      refine (h23'.out _ lo _ _ (nth (kidsOf d) j) _ (ht'.out.below hbr) (by omega) (by omega)).mono ?_
      rintro e w1 ⟨rfl, hb1⟩
      have hB1 : Below wr.heap.size wr w1 := hbr.trans (hb1.mono hbr.size)
      have hB : Below (w.heap.size + 1) (w.alloc (.cells #[.string s, .slice (some ⟨b, off, none⟩) (kidsOf d).length cap] 26)) w1 := hb.trans (hB1.mono (by have := hb.size; simpa using this))
      clear q1 q2 hb1 hbr hB1
      cases hq : szD n (nth (kidsOf d) j) (room - m) with
      | none =>
        have H2 : Hid _ := szF_none hlt hq
        clear hq
        rw [show resP none = .tuple #[.int .i64 0, .bool false] from rfl]
        go_wp2_with fail
        go_ret2
        refine ⟨?_, hb0.trans (hB.mono (by omega))⟩
        rw [H1.out, hsz.out, H2.out]; rfl
      | some q =>
        have H2 : Hid _ := szF_some hlt hq
        have hqr := szD_range _ _ _ _ hq
        clear hq
        rw [show resP (some q) = .tuple #[.int .i64 q, .bool true] from rfl]
        go_wp2_with fail
        go_roundw
        case rel => exact ⟨j + 1, m + q, by omega, by go_num, rfl, by omega, by omega, hB, by show _ = _; rw [hsz.out, H2.out]⟩
        case measure => simp [intOf]; omega
    · have H2 : Hid _ := szF_end (f := szD n) (room := room) (size := m) hlt
      go_wp2_with fail
      go_ret2
      refine ⟨?_, hbw⟩
      rw [H1.out, hsz.out, H2.out]; rfl
theorem swS_all {H : Type} : ∀ n, SwS (H := H) n := by
  intro n
  induction n with
  | zero => exact fun _ _ _ _ _ _ h _ _ => h.elim
  | succ n ih => exact swS_of n ih
end Go.Proofs.Ytpmmekfgcapdgaa
