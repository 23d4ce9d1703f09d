/- The walks of held..: what has its marks is told so. -/
import Derived.Test.YtopjkiifajlkhaaDoorOwnRecs
import Derived.Test.YtopjkiifajlkhaaDoorTakeLit
import Derived.WalkKit
namespace Go.Proofs.YtopjkiifajlkhaaDoor
open Go.RowKit
theorem lie_at2 {w : World} {b o : Nat} {cs : List Value} (h : Lie w b o cs) (m : Nat) {v : Value} (e : cs[m]? = some v) : w.cell? ⟨b, o + m, none⟩ = some v := by
  have hm : m < cs.length := by
    rcases Nat.lt_or_ge m cs.length with h | h
    · exact h
    · rw [List.getElem?_eq_none h] at e; cases e
  rw [h m hm]; exact e
set_option maxRecDepth 100000 in
set_option maxHeartbeats 3200000 in
theorem heldInt64S_any {w : World} {lo : Nat} {k : Value} {xs : List Int} {m : Int} (hk : SeqAt 1 IntAt w lo k (mkL cntI mkI xs m)) (h0 : 0 ≤ m) (h1 : m + (cntL cntI xs : Nat) ≤ 4611686018427387904) :
    Calls Tryd.prog 19 #[k, .int .i64 m] w fun e w' => e = .returned (.int .i64 (m + (cntL cntI xs : Nat))) ∧ Below w.heap.size w w' := by
  obtain ⟨a, cap, rfl, hm, hx⟩ := hk
  have hx' : Hid _ := hx
  clear hx
  rw [mkL_length] at hm ⊢
  unfold maxLen at hm
  go_enter Tryd.func19, Tryd.ntmps19
  go_wp2_with fail
  go_loopw [1, 5] (fun z i wr => ∃ (j : Nat), j ≤ xs.length ∧ i = .int .i64 j ∧ z = .int .i64 (m + (pos cntI xs j : Nat)) ∧ Hid (Below w.heap.size w wr)) (fun _ i _ => xs.length - (intOf i).toNat)
  case atStart => exact ⟨0, by omega, rfl, by rw [pos_zero]; simp, Below.refl _ _⟩
  case round =>
    obtain ⟨j, hj, rfl, rfl, hbr⟩ := hrel
    by_cases hlt : j < xs.length
    · obtain ⟨b, off, rfl, hlo, hbw, hc⟩ := hx'.out (by rw [mkL_length]; omega)
      obtain ⟨cs, hcl, lie, hr⟩ := hc j (by rw [mkL_length]; exact hlt)
      have hps2 : pos cntI xs (j + 1) = pos cntI xs j + (1) := pos_succ hlt
      have hpl : pos cntI xs (j + 1) ≤ cntL cntI xs := pos_le (by omega) (Nat.le_refl _)
      rw [mkL_get] at hr
      generalize xs[j] = Q at *
      generalize hP : m + (pos cntI xs j : Nat) = P at *
      have hP0 : 0 ≤ P := by omega
      obtain ⟨rfl, _⟩ := hr
      have lie1 := Lie.keep (lo := lo) (lo' := lo) lie (.of_below hbr.out) hlo hbw
      have z0 := lie_at2 lie1 0 rfl
      simp only [Nat.add_zero, Nat.mul_one, mkI] at z0
      have hP1 : P + 1 ≤ 4611686018427387904 := by omega
      have hz : m + (pos cntI xs (j + 1) : Nat) = P + 1 := by omega
      clear lie lie1 hcl hc hpl hps2
      go_wp2_with fail
      go_roundw
      case rel => exact ⟨j + 1, by omega, by go_num, by rw [hz], hbr⟩
      case measure => simp [intOf]; omega
    · obtain rfl : j = xs.length := by omega
      go_wp2_with fail
      go_ret
      exact ⟨rfl, hbr.out⟩
end Go.Proofs.YtopjkiifajlkhaaDoor
