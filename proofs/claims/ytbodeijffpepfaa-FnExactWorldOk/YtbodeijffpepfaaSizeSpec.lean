/- What l1Size of the specification returns. -/
import Derived.Test.YtbodeijffpepfaaSize
import Derived.Test.YtbodeijffpepfaaNameWalks
import Derived.Test.YtbodeijffpepfaaRows
import Derived.WalkKit
namespace Go.Proofs.Ytbodeijffpepfaa
open Go.RowKit
def L1S {H : Type} (n : Nat) : Prop := ∀ (w : World) (lo : Nat) (t k : Value) (d : DataW H) (room : Int), TreeAt w lo n t k d → 0 ≤ room → room ≤ 30 →
  Calls Try.prog 63 #[.agg #[t, k], .int .i64 room] w fun e w' => e = .returned (.int .i64 (resI (szD n d room))) ∧ Below w.heap.size w w'
set_option maxHeartbeats 400000 in
theorem l1S_of {H : Type} (n : Nat) (h21 : L1S (H := H) n) : L1S (H := H) (n + 1) := by
  intro w lo t k d room ht h0 h1
  obtain ⟨⟨s, rfl, hs, htag⟩, hrow⟩ := ht
  have hs' : Hid (s.size ≤ maxLen) := hs
  obtain ⟨a, cap, rfl, hm, hx⟩ := hrow
  have hx' : Hid _ := hx
  unfold maxLen at hm
  have h21' : Hid (L1S (H := H) n) := h21
  clear hs h21 hx
  have hb0 : Below w.heap.size w (w.alloc (.cells #[.string s, .slice a (kidsOf d).length cap] 48)) := (Below.refl _ _).alloc (Nat.le_refl _) _
  cases hn : nameB (tagOf d)
  · have H1 : Hid (szD (n + 1) d room = none) := szD_no (.inr hn)
    rw [htag] at hn
    clear htag
    go_enter Try.func63, Try.ntmps63
    go_wp2_with fail
    refine (specNameOk_any s _ hs'.out).mono ?_
    rintro e w1 ⟨rfl, rfl⟩
    rw [hn]
    go_wp2_with fail
    go_ret
    exact ⟨by rw [H1.out]; rfl, hb0⟩
  by_cases hr : room < 1
  · have H1 : Hid (szD (n + 1) d room = none) := szD_no (.inl hr)
    rw [htag] at hn
    clear htag
    go_enter Try.func63, Try.ntmps63
    go_wp2_with fail
    refine (specNameOk_any s _ hs'.out).mono ?_
    rintro e w1 ⟨rfl, rfl⟩
    rw [hn]
    go_wp2_with fail
    go_ret
    exact ⟨by rw [H1.out]; rfl, hb0⟩
  have H1 : Hid (szD (n + 1) d room = szF (szD n) (kidsOf d) room 1) := szD_yes (by omega) hn
  rw [htag] at hn
  clear htag
  go_enter Try.func63, Try.ntmps63
  go_wp2_with fail
  refine (specNameOk_any s _ hs'.out).mono ?_
  rintro e w1 ⟨rfl, rfl⟩
  rw [hn]
  go_wp2_with fail
  go_loopw [5, 6, 7] (fun z i q wr => ∃ (j : Nat) (m : Int), j ≤ (kidsOf d).length ∧ i = .int .i64 j ∧ z = .int .i64 m ∧ 1 ≤ m ∧ m ≤ room ∧ Below (w.heap.size + 1) (w.alloc (.cells #[.string s, .slice a (kidsOf d).length cap] 48)) wr ∧
      Hid (szF (szD n) (kidsOf d) room 1 = szF (szD n) ((kidsOf d).drop j) room m)) (fun _ i _ _ => (kidsOf d).length - (intOf i).toNat)
  case atStart => exact ⟨0, 1, by omega, rfl, rfl, by omega, by omega, Below.refl _ _, rfl⟩
  case round =>
    obtain ⟨j, m, hj, rfl, rfl, hm1, hm2, hb, hsz⟩ := hrel
    have hcell : wr.cell? ⟨w.heap.size, 1, none⟩ = some (.slice a (kidsOf d).length cap) := by rw [hb.cell (by simp)]; simp [go_sem]
    have hbw : Below w.heap.size w wr := hb0.trans (hb.mono (by omega))
    by_cases hlt : j < (kidsOf d).length
    · obtain ⟨b, off, rfl, hlo, hbb, hc⟩ := hx'.out (by omega)
      obtain ⟨t', k', c1, c2, ht⟩ := hc j hlt
      have q1 : wr.cell? ⟨b, off + j * 2, none⟩ = some t' := (hbw.cell (p := ⟨b, off + j * 2, none⟩) hbb).trans c1
      have q2 : wr.cell? ⟨b, off + j * 2 + 1, none⟩ = some k' := (hbw.cell (p := ⟨b, off + j * 2 + 1, none⟩) hbb).trans c2
      have ht' : Hid (TreeAt wr lo n t' k' (nth (kidsOf d) j)) := TreeAt.below ht hbw
      clear hc c1 c2 ht hx'
      go_wp2_with fail
      refine (h21'.out _ lo t' k' (nth (kidsOf d) j) _ ht'.out (by omega) (by omega)).mono ?_
      rintro e w1 ⟨rfl, hb1⟩
      have hB : Below (w.heap.size + 1) (w.alloc (.cells #[.string s, .slice (some ⟨b, off, none⟩) (kidsOf d).length cap] 48)) w1 := hb.trans (hb1.mono (by have := hb.size; simpa using this))
      clear q1 q2 hcell
      cases hq : szD n (nth (kidsOf d) j) (room - m) with
      | none =>
        have H2 : Hid _ := szF_none hlt hq
        clear hq
        go_wp2_with fail
        go_ret
        refine ⟨?_, hb0.trans (hB.mono (by omega))⟩
        rw [H1.out, hsz.out, H2.out]; rfl
      | some q =>
        have H2 : Hid _ := szF_some hlt hq
        have hqr := szD_range _ _ _ _ hq
        clear hq
        rw [show resI (some q) = q from rfl]
        go_wp2_with fail
        go_roundw
        case rel => exact ⟨j + 1, m + q, by omega, by go_num, rfl, by omega, by omega, hB, by show _ = _; rw [hsz.out, H2.out]⟩
        case measure => simp [intOf]; omega
    · have H2 : Hid _ := szF_end (f := szD n) (room := room) (size := m) hlt
      go_wp2_with fail
      go_ret
      refine ⟨?_, hbw⟩
      rw [H1.out, hsz.out, H2.out]; rfl
theorem l1S_all {H : Type} : ∀ n, L1S (H := H) n := by
  intro n
  induction n with
  | zero => exact fun _ _ _ _ _ _ h _ _ => h.elim
  | succ n ih => exact l1S_of n ih
end Go.Proofs.Ytbodeijffpepfaa
