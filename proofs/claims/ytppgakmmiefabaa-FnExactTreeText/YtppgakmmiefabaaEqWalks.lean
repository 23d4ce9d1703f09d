/- eqTree and eqTreeS return true of two trees that lie in memory as one and the same. -/
import Derived.Test.YtppgakmmiefabaaTrees
import Derived.Test.YtppgakmmiefabaaRows
import Derived.WalkKit
import Derived.Deep.RegionHeld3
namespace Go.Proofs.Ytppgakmmiefabaa
open Go.RowKit
def EqT {H : Type} (n : Nat) : Prop := ∀ (w : World) (lo lo' : Nat) (t k t2 k2 : Value) (d : DataW H), TreeAt w lo n t k d → TreeAt w lo' n t2 k2 d →
  Calls Try.prog 11 #[.agg #[t, k], .agg #[t2, k2]] w fun e w' => e = .returned (.bool true) ∧ Below w.heap.size w w'
def EqK {H : Type} (n : Nat) : Prop := ∀ (w : World) (lo lo' : Nat) (k k2 : Value) (ds : List (DataW H)), RowAt (TreeAt w lo n) w lo k ds → RowAt (TreeAt w lo' n) w lo' k2 ds →
  Calls Try.prog 24 #[k, k2] w fun e w' => e = .returned (.bool true) ∧ Below w.heap.size w w'
theorem keep4 {w wr w1 : World} {b b2 o1 o2 o3 o4 : Nat} {v1 v2 v3 v4 : Value} (hb : Below w.heap.size w wr) (hb1 : Below wr.drew.heap.size wr.drew w1) (h : b < wr.heap.size) (h2 : b2 < wr.heap.size)
    (q1 : wr.cell? ⟨b, o1, none⟩ = some v1) (q2 : wr.cell? ⟨b, o2, none⟩ = some v2) (q3 : wr.cell? ⟨b2, o3, none⟩ = some v3) (q4 : wr.cell? ⟨b2, o4, none⟩ = some v4) :
    w1.cell? ⟨b, o1, none⟩ = some v1 ∧ w1.cell? ⟨b, o2, none⟩ = some v2 ∧ w1.cell? ⟨b2, o3, none⟩ = some v3 ∧ w1.cell? ⟨b2, o4, none⟩ = some v4 ∧ Below w.heap.size w w1 :=
  ⟨(hb1.cell (p := ⟨b, o1, none⟩) (by exact h)).trans q1, (hb1.cell (p := ⟨b, o2, none⟩) (by exact h)).trans q2, (hb1.cell (p := ⟨b2, o3, none⟩) (by exact h2)).trans q3, (hb1.cell (p := ⟨b2, o4, none⟩) (by exact h2)).trans q4,
    hb.trans ((Below.drew (Below.refl _ _)).trans (hb1.mono hb.size))⟩
set_option maxHeartbeats 400000 in
theorem eqK_of {H : Type} (n : Nat) (h11 : EqT (H := H) n) : EqK (H := H) n := by
  intro w lo lo' k k2 ds hrow hrow2
  obtain ⟨a, cap, rfl, hm, hx⟩ := hrow
  obtain ⟨a2, cap2, rfl, _, hx2⟩ := hrow2
  unfold maxLen at hm
  have h11' : Hid (EqT (H := H) n) := h11
  have hx' : Hid _ := hx
  have hx2' : Hid _ := hx2
  clear h11 hx hx2
  go_enter Try.func24, Try.ntmps24
  go_wp2_with fail
  go_loopw [5] (fun i wr => ∃ (j : Nat), j ≤ ds.length ∧ i = .int .i64 j ∧ Below w.heap.size w wr) (fun i _ => ds.length - (intOf i).toNat)
  case atStart => exact ⟨0, by omega, rfl, Below.refl _ _⟩
  case round =>
    obtain ⟨j, hj, rfl, hb⟩ := hrel
    by_cases hlt : j < ds.length
    · obtain ⟨b, off, rfl, hlo, hbw, hc⟩ := hx'.out (by omega)
      obtain ⟨b2, off2, rfl, hlo2, hbw2, hc2⟩ := hx2'.out (by omega)
      obtain ⟨t', k', c1, c2, ht⟩ := hc j hlt
      obtain ⟨t2', k2', c3, c4, ht2⟩ := hc2 j hlt
      have q1 : wr.cell? ⟨b, off + j * 2, none⟩ = some t' := (hb.cell (p := ⟨b, off + j * 2, none⟩) hbw).trans c1
      have q2 : wr.cell? ⟨b, off + j * 2 + 1, none⟩ = some k' := (hb.cell (p := ⟨b, off + j * 2 + 1, none⟩) hbw).trans c2
      have q3 : wr.cell? ⟨b2, off2 + j * 2, none⟩ = some t2' := (hb.cell (p := ⟨b2, off2 + j * 2, none⟩) hbw2).trans c3
      have q4 : wr.cell? ⟨b2, off2 + j * 2 + 1, none⟩ = some k2' := (hb.cell (p := ⟨b2, off2 + j * 2 + 1, none⟩) hbw2).trans c4
      have ht' : Hid (TreeAt wr lo n t' k' (nth ds j)) := TreeAt.below ht hb
      have ht2' : Hid (TreeAt wr lo' n t2' k2' (nth ds j)) := TreeAt.below ht2 hb
      clear hc c1 c2 hc2 c3 c4 ht ht2 hx' hx2'
      have hbr : b < wr.heap.size := by have := hb.size; omega
      have hbr2 : b2 < wr.heap.size := by have := hb.size; omega
      have hlt' : (j : Int) < (ds.length : Int) := by omega
      have h0' : (0 : Int) ≤ (j : Int) := by omega
      go_wp2_with fail
      go_region_held3 (fun w' => w'.cell? ⟨b, off + j * 2, none⟩ = some t' ∧ w'.cell? ⟨b, off + j * 2 + 1, none⟩ = some k' ∧ w'.cell? ⟨b2, off2 + j * 2, none⟩ = some t2' ∧ w'.cell? ⟨b2, off2 + j * 2 + 1, none⟩ = some k2') (go_keep)
        (first | (go_at_call 11; refine (h11'.out _ lo lo' t' k' t2' k2' (nth ds j) (by exact ht'.out.below (Below.drew (Below.refl _ _))) (by exact ht2'.out.below (Below.drew (Below.refl _ _)))).mono ?_; rintro e w1 ⟨rfl, hb1⟩; obtain ⟨z1, z2, z3, z4, hb'⟩ := keep4 hb hb1 hbr hbr2 q1 q2 q3 q4))
      go_wp2_with fail
      go_roundw
      case rel => exact ⟨j + 1, by omega, by go_num, hb'⟩
      case measure => simp [intOf]; omega
    · go_wp2_with fail
      go_ret
      exact ⟨rfl, hb⟩
set_option maxHeartbeats 400000 in
theorem eqT_of {H : Type} (n : Nat) (h24 : EqK (H := H) n) : EqT (H := H) (n + 1) := by
  intro w lo lo' t k t2 k2 d ht ht2
  obtain ⟨⟨s, rfl, hs, htag⟩, hrow⟩ := ht
  obtain ⟨⟨s2, rfl, hs2, htag2⟩, hrow2⟩ := ht2
  have e : s2 = s := by
    have := htag.symm.trans htag2
    cases s; cases s2
    simp at this
    rw [this]
  subst e
  have hrow' : Hid (RowAt (TreeAt w lo n) w lo k (kidsOf d)) := hrow
  have hrow2' : Hid (RowAt (TreeAt w lo' n) w lo' k2 (kidsOf d)) := hrow2
  have h24' : Hid (EqK (H := H) n) := h24
  clear htag htag2 h24 hrow hrow2
  go_enter Try.func11, Try.ntmps11
  go_wp2_with fail
  have hb0 : Below w.heap.size w ((w.alloc (.cells #[.string s2, k] 29)).alloc (.cells #[.string s2, k2] 29)) := ((Below.refl _ _).alloc (Nat.le_refl _) _).alloc (by simp) _
  refine (h24'.out _ lo lo' _ _ (kidsOf d) (hrow'.out.below hb0) (hrow2'.out.below hb0)).mono ?_
  rintro e w1 ⟨rfl, hb1⟩
  go_wp2_with fail
  go_ret
  exact ⟨rfl, hb0.trans (hb1.mono hb0.size)⟩
theorem eqT_all {H : Type} : ∀ n, EqT (H := H) n ∧ EqK (H := H) n := by
  intro n
  induction n with
  | zero => exact ⟨fun _ _ _ _ _ _ _ _ h _ => h.elim, eqK_of 0 (fun _ _ _ _ _ _ _ _ h _ => h.elim)⟩
  | succ n ih => exact ⟨eqT_of n ih.2, eqK_of (n + 1) (eqT_of n ih.2)⟩
end Go.Proofs.Ytppgakmmiefabaa
