/- The walks of held..: what has its marks is told so. -/
import Derived.Test.YtdapgihghbmlfaaDoorOwnRecs
import Derived.Test.YtdapgihghbmlfaaDoorTakeLit
import Derived.WalkKit
namespace Go.Proofs.YtdapgihghbmlfaaDoor
open Go.RowKit
theorem lie_at2 {w : World} {b o : Nat} {cs : List Value} (h : Lie w b o cs) (m : Nat) {v : Value} (e : cs[m]? = some v) : w.cell? ⟨b, o + m, none⟩ = some v := by
  have hm : m < cs.length := by
    rcases Nat.lt_or_ge m cs.length with h | h
    · exact h
    · rw [List.getElem?_eq_none h] at e; cases e
  rw [h m hm]; exact e
set_option maxRecDepth 100000 in
set_option maxHeartbeats 3200000 in
theorem heldInstrS_any {w : World} {lo : Nat} {k : Value} {xs : List InstrD} {m : Int} (hk : SeqAt 3 InstrAt w lo k (mkL cntInstr mkInstr xs m)) (h0 : 0 ≤ m) (h1 : m + (cntL cntInstr xs : Nat) ≤ 4611686018427387904) :
    Calls Tryd.prog 13 #[k, .int .i64 m] w fun e w' => e = .returned (.int .i64 (m + (cntL cntInstr xs : Nat))) ∧ Below w.heap.size w w' := by
  obtain ⟨a, cap, rfl, hm, hx⟩ := hk
  have hx' : Hid _ := hx
  clear hx
  rw [mkL_length] at hm ⊢
  unfold maxLen at hm
  go_enter Tryd.func13, Tryd.ntmps13
  go_wp2_with fail
  go_loopw [1, 5] (fun z i wr => ∃ (j : Nat), j ≤ xs.length ∧ i = .int .i64 j ∧ z = .int .i64 (m + (pos cntInstr xs j : Nat)) ∧ Hid (Below w.heap.size w wr)) (fun _ i _ => xs.length - (intOf i).toNat)
  case atStart => exact ⟨0, by omega, rfl, by rw [pos_zero]; simp, Below.refl _ _⟩
  case round =>
    obtain ⟨j, hj, rfl, rfl, hbr⟩ := hrel
    by_cases hlt : j < xs.length
    · obtain ⟨b, off, rfl, hlo, hbw, hc⟩ := hx'.out (by rw [mkL_length]; omega)
      obtain ⟨cs, hcl, lie, hr⟩ := hc j (by rw [mkL_length]; exact hlt)
      have hps2 : pos cntInstr xs (j + 1) = pos cntInstr xs j + (1 + 1 + 1) := pos_succ hlt
      have hpl : pos cntInstr xs (j + 1) ≤ cntL cntInstr xs := pos_le (by omega) (Nat.le_refl _)
      rw [mkL_get] at hr
      generalize xs[j] = Q at *
      generalize hP : m + (pos cntInstr xs j : Nat) = P at *
      have hP0 : 0 ≤ P := by omega
      obtain ⟨rfl, _⟩ := hr
      have hP1 : P + (1 + 1 + 1) ≤ 4611686018427387904 := by omega
      have hz : m + (pos cntInstr xs (j + 1) : Nat) = P + 1 + 1 + 1 := by omega
      clear hpl hps2
      clear hcl hc
      have hb0 := hbr.out
      have lie' : Hid (Lie w b (off + j * 3) [.int .i64 (P), .int .i64 (P + 1), .string (markT (P + 1 + 1))]) := by exact lie
      clear lie
      have lie0 := Lie.keep (lo := lo) (lo' := lo) lie'.out (.of_below hb0) hlo hbw
      have z0_0 : wr.cell? ⟨b, off + j * 3 + 0, none⟩ = some (.int .i64 (P)) := lie_at2 lie0 0 rfl
      have z0_1 : wr.cell? ⟨b, off + j * 3 + 1, none⟩ = some (.int .i64 (P + 1)) := lie_at2 lie0 1 rfl
      have z0_2 : wr.cell? ⟨b, off + j * 3 + 2, none⟩ = some (.string (markT (P + 1 + 1))) := lie_at2 lie0 2 rfl
      simp only [Nat.add_zero] at z0_0
      clear lie0
      go_wp2_with fail
      go_region_held3 (fun w' => w'.cell? ⟨b, off + j * 3 + 2, none⟩ = some (.string (markT (P + 1 + 1)))) (go_keep) (first | (go_at_call 28; refine (markText_any (by omega)).mono ?_; rintro e v1 ⟨rfl, hq1⟩; have zz := cell_on (undrew hq1) z0_2))
      have hb1 : Below w.heap.size w v1 := hb0.trans ((undrew hq1).mono hb0.size)
      clear hq1 zz
      clear z0_0 z0_1 z0_2
      have lie1 := Lie.keep (lo := lo) (lo' := lo) lie'.out (.of_below hb1) hlo hbw
      have z1_0 : v1.cell? ⟨b, off + j * 3 + 0, none⟩ = some (.int .i64 (P)) := lie_at2 lie1 0 rfl
      have z1_1 : v1.cell? ⟨b, off + j * 3 + 1, none⟩ = some (.int .i64 (P + 1)) := lie_at2 lie1 1 rfl
      have z1_2 : v1.cell? ⟨b, off + j * 3 + 2, none⟩ = some (.string (markT (P + 1 + 1))) := lie_at2 lie1 2 rfl
      simp only [Nat.add_zero] at z1_0
      clear lie1
      go_wp2_with fail
      go_roundw
      case rel => exact ⟨j + 1, by omega, by go_num, by rw [hz], hb1⟩
      case measure => simp [intOf]; omega
    · obtain rfl : j = xs.length := by omega
      go_wp2_with fail
      go_ret
      exact ⟨rfl, hbr.out⟩
end Go.Proofs.YtdapgihghbmlfaaDoor
