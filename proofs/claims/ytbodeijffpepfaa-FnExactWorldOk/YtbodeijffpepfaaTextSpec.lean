/- What l1Text of the specification returns. -/
import Derived.Test.YtbodeijffpepfaaText
import Derived.Test.YtbodeijffpepfaaRows
import Derived.WalkKit
namespace Go.Proofs.Ytbodeijffpepfaa
open Go.RowKit
def TxS {H : Type} (n : Nat) : Prop := ∀ (w : World) (lo : Nat) (t k : Value) (d : DataW H), TreeAt w lo n t k d → (textD n d).length ≤ 1048576 →
  Calls Try.prog 46 #[.agg #[t, k]] w fun e w' => (∃ r : ByteArray, e = .returned (.string r) ∧ r.data.toList = textD n d) ∧ Below w.heap.size w w'
set_option maxHeartbeats 400000 in
theorem txS_of {H : Type} (n : Nat) (h25 : TxS (H := H) n) : TxS (H := H) (n + 1) := by
  intro w lo t k d ht hlen
  obtain ⟨⟨s, rfl, hs, htag⟩, hrow⟩ := ht
  obtain ⟨a, cap, rfl, hm, hx⟩ := hrow
  have hx' : Hid _ := hx
  unfold maxLen at hm
  have h25' : Hid (TxS (H := H) n) := h25
  have htag' : Hid _ := htag
  clear hs h25 hx htag
  have hb0 : Below w.heap.size w (w.alloc (.cells #[.string s, .slice a (kidsOf d).length cap] 48)) := (Below.refl _ _).alloc (Nat.le_refl _) _
  have hts : (tagOf d).length = s.size := by rw [htag'.out]; simp
  have hL := textD_length n d
  have hd1 : ¬ 9223372036854775807 < 1 + s.size := by omega
  have hd2 : ¬ 9223372036854775807 < 1 + s.size + 1 := by omega
  have hlen' : Hid (2 * s.size + 5 + (textK (textD n) (kidsOf d)).length ≤ 1048576) := by show _ ≤ _; omega
  clear hL hts hlen
  go_enter Try.func46, Try.ntmps46
  go_wp2_with fail
  go_loopw [3, 4] (fun z i wr => ∃ (j : Nat) (acc : ByteArray), j ≤ (kidsOf d).length ∧ i = .int .i64 j ∧ z = .string acc ∧ Below (w.heap.size + 1) (w.alloc (.cells #[.string s, .slice a (kidsOf d).length cap] 48)) wr ∧
      Hid (acc.data.toList = headT d ++ textK (textD n) ((kidsOf d).take j))) (fun _ i _ => (kidsOf d).length - (intOf i).toNat)
  case atStart => exact ⟨0, _, by omega, rfl, rfl, Below.refl _ _, by show _ = _; rw [ba_app, ba_app, htag'.out.symm]; simp [headT, textK]⟩
  case round =>
    obtain ⟨j, acc, hj, rfl, rfl, hb, hacc⟩ := hrel
    have hcell : wr.cell? ⟨w.heap.size, 1, none⟩ = some (.slice a (kidsOf d).length cap) := by rw [hb.cell (by simp)]; simp [go_sem]
    have hcell0 : wr.cell? ⟨w.heap.size, 0, none⟩ = some (.string s) := by rw [hb.cell (by simp)]; simp [go_sem]
    have hbw : Below w.heap.size w wr := hb0.trans (hb.mono (by omega))
    have hts : (tagOf d).length = s.size := by rw [htag'.out]; simp
    have hsz : acc.size = s.size + 2 + (textK (textD n) ((kidsOf d).take j)).length := by rw [← ba_len, hacc.out]; simp [headT, hts]; omega
    have hl := hlen'.out
    by_cases hlt : j < (kidsOf d).length
    · obtain ⟨b, off, rfl, hlo, hbb, hc⟩ := hx'.out (by omega)
      obtain ⟨t', k', c1, c2, ht⟩ := hc j hlt
      have q1 : wr.cell? ⟨b, off + j * 2, none⟩ = some t' := (hbw.cell (p := ⟨b, off + j * 2, none⟩) hbb).trans c1
      have q2 : wr.cell? ⟨b, off + j * 2 + 1, none⟩ = some k' := (hbw.cell (p := ⟨b, off + j * 2 + 1, none⟩) hbb).trans c2
      have ht' : Hid (TreeAt wr lo n t' k' (nth (kidsOf d) j)) := TreeAt.below ht hbw
      have hkl := textK_kid_le (textD n) (kidsOf d) j hlt
      have hkl' : Hid ((textD n (nth (kidsOf d) j)).length ≤ 1048576) := by show _ ≤ _; omega
      have hbd : acc.size + (textD n (nth (kidsOf d) j)).length ≤ 1048576 := by omega
      clear hc c1 c2 ht hx' hts hsz hl hkl
      go_wp2_with fail
      refine (h25'.out _ lo t' k' (nth (kidsOf d) j) ht'.out hkl'.out).mono ?_
      rintro e w1 ⟨⟨r, rfl, hr⟩, hb1⟩
      have hB : Below (w.heap.size + 1) (w.alloc (.cells #[.string s, .slice (some ⟨b, off, none⟩) (kidsOf d).length cap] 48)) w1 := hb.trans (hb1.mono (by have := hb.size; simpa using this))
      have hrs : r.size = (textD n (nth (kidsOf d) j)).length := by rw [← ba_len, hr]
      have hd3 : ¬ 9223372036854775807 < acc.size + r.size := by omega
      have hr' : Hid _ := hr
      clear q1 q2 hcell hcell0 hrs hbd hr
      go_wp2_with fail
      go_roundw
      case rel => exact ⟨j + 1, acc ++ r, by omega, by go_num, rfl, hB, by show _ = _; rw [ba_app, hacc.out, hr'.out, textK_take _ _ _ hlt, List.append_assoc]⟩
      case measure => simp [intOf]; omega
    · have hka := textK_take_all (textD n) (kidsOf d) j hlt
      rw [hka] at hsz
      have hd3 : ¬ 9223372036854775807 < acc.size + 2 := by omega
      have hd4 : ¬ 9223372036854775807 < acc.size + 2 + s.size := by omega
      have hd5 : ¬ 9223372036854775807 < acc.size + 2 + s.size + 1 := by omega
      have hka' : Hid _ := hka
      clear hka hsz hts
      go_wp2_with fail
      go_ret
      refine ⟨⟨_, rfl, ?_⟩, hbw⟩
      rw [ba_app, ba_app, ba_app, hacc.out, hka'.out, htag'.out.symm]
      simp [textD, footT]
theorem txS_all {H : Type} : ∀ n, TxS (H := H) n := by
  intro n
  induction n with
  | zero => exact fun _ _ _ _ _ h _ => h.elim
  | succ n ih => exact txS_of n ih
end Go.Proofs.Ytbodeijffpepfaa
