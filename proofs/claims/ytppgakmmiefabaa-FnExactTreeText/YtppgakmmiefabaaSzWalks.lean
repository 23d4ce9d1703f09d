/- What szTree and szTreeS return: a number below nothing, or the tree is small. -/
import Derived.Test.YtppgakmmiefabaaTrees
import Derived.Test.YtppgakmmiefabaaRows
import Derived.WalkKit
namespace Go.Proofs.Ytppgakmmiefabaa
open Go.RowKit
def SzT {H : Type} (n : Nat) : Prop := ∀ (w : World) (lo : Nat) (t k : Value) (d : DataW H) (left : Int), TreeAt w lo n t k d → 0 ≤ left → left ≤ 1048576 →
  Calls Try.prog 7 #[.agg #[t, k], .int .i64 left] w fun e w' => (∃ r : Int, e = .returned (.int .i64 r) ∧ r ≤ left ∧ -1 ≤ r ∧ (r < 0 ∨ SmallT n d)) ∧ Below w.heap.size w w'
def SzK {H : Type} (n : Nat) : Prop := ∀ (w : World) (lo : Nat) (k : Value) (ds : List (DataW H)) (left : Int), RowAt (TreeAt w lo n) w lo k ds → 0 ≤ left → left ≤ 1048576 →
  Calls Try.prog 20 #[k, .int .i64 left] w fun e w' => (∃ r : Int, e = .returned (.int .i64 r) ∧ r ≤ left ∧ -1 ≤ r ∧ (r < 0 ∨ SmallK n ds)) ∧ Below w.heap.size w w'
set_option maxHeartbeats 400000 in
theorem szK_of {H : Type} (n : Nat) (h7 : SzT (H := H) n) : SzK (H := H) n := by
  intro w lo k ds left hrow h0 h1
  obtain ⟨a, cap, rfl, hm, hx⟩ := hrow
  unfold maxLen at hm
  have h7' : Hid (SzT (H := H) n) := h7
  clear h7
  by_cases hneg : left - (ds.length : Int) < 0
  · clear hx
    go_enter Try.func20, Try.ntmps20
    go_wp2_with fail
    go_ret
    exact ⟨⟨-1, rfl, by omega, by omega, Or.inl (by omega)⟩, Below.refl _ _⟩
  · have hx' : Hid _ := hx
    clear hx
    go_enter Try.func20, Try.ntmps20
    go_wp2_with fail
    go_loopw [1, 5] (fun l i wr => ∃ (j : Nat) (r : Int), j ≤ ds.length ∧ i = .int .i64 j ∧ l = .int .i64 r ∧ 0 ≤ r ∧ r ≤ left ∧ Below w.heap.size w wr ∧ Hid (∀ i', i' < j → SmallT n (nth ds i'))) (fun _ i _ => ds.length - (intOf i).toNat)
    case atStart => exact ⟨0, left - ds.length, by omega, rfl, rfl, by omega, by omega, Below.refl _ _, fun i' h => absurd h (by omega)⟩
    case round =>
      obtain ⟨j, r, hj, rfl, rfl, hr0, hr1, hb, hs⟩ := hrel
      by_cases hlt : j < ds.length
      · obtain ⟨b, off, rfl, hlo, hbw, hc⟩ := hx'.out (by omega)
        obtain ⟨t', k', c1, c2, ht⟩ := hc j hlt
        have hc1 : wr.cell? ⟨b, off + j * 2, none⟩ = some t' := (hb.cell (p := ⟨b, off + j * 2, none⟩) hbw).trans c1
        have hc2 : wr.cell? ⟨b, off + j * 2 + 1, none⟩ = some k' := (hb.cell (p := ⟨b, off + j * 2 + 1, none⟩) hbw).trans c2
        clear hc c1 c2
        have ht' : Hid (TreeAt wr lo n t' k' (nth ds j)) := TreeAt.below ht hb
        clear ht
        clear hx'
        go_wp2_with fail
        refine (h7'.out wr lo t' k' (nth ds j) r ht'.out hr0 (by omega)).mono ?_
        rintro e w1 ⟨⟨r', rfl, hr', hr'', hsm⟩, hb1⟩
        have hb' : Below w.heap.size w w1 := hb.trans (hb1.mono hb.size)
        clear hc1 hc2
        have hsm' : Hid (r' < 0 ∨ SmallT n (nth ds j)) := hsm
        clear hsm
        by_cases hneg' : r' < 0
        · go_wp2_with fail
          go_ret
          exact ⟨⟨-1, rfl, by omega, by omega, Or.inl (by omega)⟩, hb'⟩
        · go_wp2_with fail
          go_roundw
          case rel => exact ⟨j + 1, r', by omega, by go_num, rfl, by omega, by omega, hb', fun i' hi' => by
            by_cases e : i' < j
            · exact hs.out i' e
            · have e' : i' = j := by omega
              subst e'
              exact hsm'.out.resolve_left (by omega)⟩
          case measure => simp [intOf]; omega
      · go_wp2_with fail
        go_ret
        exact ⟨⟨r, rfl, by omega, by omega, Or.inr ⟨by omega, fun i hi => hs.out i (by omega)⟩⟩, hb⟩
set_option maxHeartbeats 400000 in
theorem szT_of {H : Type} (n : Nat) (h20 : SzK (H := H) n) : SzT (H := H) (n + 1) := by
  intro w lo t k d left ht h0 h1
  obtain ⟨⟨s, rfl, hs, htag⟩, hrow⟩ := ht
  have hlen : (tagOf d).length = s.size := by rw [htag]; simp
  have hlen' : Hid ((tagOf d).length = s.size) := hlen
  unfold maxLen at hs
  have hrow' : Hid (RowAt (TreeAt w lo n) w lo k (kidsOf d)) := hrow
  have h20' : Hid (SzK (H := H) n) := h20
  obtain ⟨a, cap, rfl, hm, _⟩ := hrow
  clear htag hlen h20
  by_cases hneg : left - (s.size : Int) < 0
  · go_enter Try.func7, Try.ntmps7
    go_wp2_with fail
    go_ret
    exact ⟨⟨-1, rfl, by omega, by omega, Or.inl (by omega)⟩, (Below.refl _ _).alloc (Nat.le_refl _) _⟩
  · go_enter Try.func7, Try.ntmps7
    go_wp2_with fail
    have hb0 : Below w.heap.size w (w.alloc (.cells #[.string s, .slice a (kidsOf d).length cap] 24)) := (Below.refl _ _).alloc (Nat.le_refl _) _
    refine (h20'.out _ lo _ (kidsOf d) _ (hrow'.out.below hb0) (by omega) (by omega)).mono ?_
    rintro e w1 ⟨⟨r', rfl, hr', hr'', hsm⟩, hb1⟩
    have hb' : Below w.heap.size w w1 := hb0.trans (hb1.mono hb0.size)
    have hsm' : Hid _ := hsm
    clear hsm
    by_cases hneg' : r' < 0
    · go_wp2_with fail
      go_ret
      exact ⟨⟨-1, rfl, by omega, by omega, Or.inl (by omega)⟩, hb'⟩
    · go_wp2_with fail
      go_ret
      refine ⟨⟨r', rfl, by omega, by omega, Or.inr ⟨?_, hsm'.out.resolve_left (by omega)⟩⟩, hb'⟩
      have := hlen'.out; omega
theorem szT_all {H : Type} : ∀ n, SzT (H := H) n ∧ SzK (H := H) n := by
  intro n
  induction n with
  | zero => exact ⟨fun _ _ _ _ _ _ h _ _ => h.elim, szK_of 0 (fun _ _ _ _ _ _ h _ _ => h.elim)⟩
  | succ n ih => exact ⟨szT_of n ih.2, szK_of (n + 1) (szT_of n ih.2)⟩
end Go.Proofs.Ytppgakmmiefabaa
