/- The functions eq.. of the laws return true of two that lie in memory as one and the same. -/
import Derived.Test.YtdapgihghbmlfaaDoorInRecs
import Derived.WalkKit
import Derived.Deep.RegionHeld3
namespace Go.Proofs.YtdapgihghbmlfaaDoor
open Go.RowKit
set_option maxHeartbeats 1000000 in
theorem eqInstr_any {w : World} {lo lo2 : Nat} {cs cs2 : List Value} {x : InstrD} (hx : InstrAt w lo cs x) (hx2 : InstrAt w lo2 cs2 x) :
    Calls Tryd.prog 23 #[.agg cs.toArray, .agg cs2.toArray] w fun e w' => e = .returned (.bool true) ∧ Below w.heap.size w w' := by
  obtain ⟨rfl, rKind, rN, rName, _⟩ := hx
  obtain ⟨rfl, _⟩ := hx2
  have hb : Below w.heap.size w ((w.alloc (.cells (List.toArray [.int .i64 x.vKind, .int .i64 x.vN, .string x.vName]) 39)).alloc (.cells (List.toArray [.int .i64 x.vKind, .int .i64 x.vN, .string x.vName]) 39)) := ((Below.refl _ _).alloc (Nat.le_refl _) _).alloc (by simp) _
  go_enter Tryd.func23, Tryd.ntmps23
  go_wp2_with fail
  go_ret
  exact ⟨rfl, hb⟩
set_option maxHeartbeats 1000000 in
theorem eqInstrS_any {w : World} {lo lo2 : Nat} {k k2 : Value} {xs : List InstrD} (hk : SeqAt 3 InstrAt w lo k xs) (hk2 : SeqAt 3 InstrAt w lo2 k2 xs) :
    Calls Tryd.prog 9 #[k, k2] w fun e w' => e = .returned (.bool true) ∧ Below w.heap.size w w' := by
  obtain ⟨a, cap, rfl, hm, hx⟩ := hk
  obtain ⟨a2, cap2, rfl, _, hx2⟩ := hk2
  unfold maxLen at hm
  have hx' : Hid _ := hx
  have hx2' : Hid _ := hx2
  clear hx hx2
  go_enter Tryd.func9, Tryd.ntmps9
  go_wp2_with fail
  go_loopw [5] (fun i wr => ∃ (j : Nat), j ≤ xs.length ∧ i = .int .i64 j ∧ Below w.heap.size w wr) (fun i _ => xs.length - (intOf i).toNat)
  case atStart => exact ⟨0, by omega, rfl, Below.refl _ _⟩
  case round =>
    obtain ⟨j, hj, rfl, hb⟩ := hrel
    by_cases hlt : j < xs.length
    · obtain ⟨b, off, rfl, hlo, hbw, hc⟩ := hx'.out (by omega)
      obtain ⟨b2, off2, rfl, hlo2, hbw2, hc2⟩ := hx2'.out (by omega)
      obtain ⟨cs, hcl, lie, hr⟩ := hc j hlt
      obtain ⟨cs2, hcl2, lie2, hr2⟩ := hc2 j hlt
      have lie1 := Lie.keep (lo := lo) (lo' := lo) lie (.of_below hb) hlo hbw
      have lie3 := Lie.keep (lo := lo2) (lo' := lo2) lie2 (.of_below hb) hlo2 hbw2
      replace hr := InstrAt_stays _ _ _ lo _ _ (.of_below hb.drew) hr
      replace hr2 := InstrAt_stays _ _ _ lo2 _ _ (.of_below hb.drew) hr2
      generalize xs[j] = X at hr hr2
      have hr' : Hid (InstrAt wr.drew lo cs X) := hr
      have hr2' : Hid (InstrAt wr.drew lo2 cs2 X) := hr2
      obtain ⟨rfl, rKind, rN, rName, _⟩ := hr
      obtain ⟨rfl, _⟩ := hr2
      clear rKind rN rName
      have z0 := lie1 0 (by simp)
      have y0 := lie3 0 (by simp)
      have z1 := lie1 1 (by simp)
      have y1 := lie3 1 (by simp)
      have z2 := lie1 2 (by simp)
      have y2 := lie3 2 (by simp)
      simp only [List.getElem?_cons_zero, List.getElem?_cons_succ, Nat.add_zero] at z0 y0 z1 y1 z2 y2
      have hbr : b < wr.heap.size := by have := hb.size; omega
      have hbr2 : b2 < wr.heap.size := by have := hb.size; omega
      have hlt' : (j : Int) < (xs.length : Int) := by omega
      have h0' : (0 : Int) ≤ (j : Int) := by omega
      clear lie lie2 lie1 lie3 hcl hcl2 hx' hx2' hc hc2
      go_wp2_with fail
      go_region_held3 (fun w' => w'.cell? ⟨b, off + j * 3, none⟩ = some (.int .i64 X.vKind) ∧ w'.cell? ⟨b, off + j * 3 + 1, none⟩ = some (.int .i64 X.vN) ∧ w'.cell? ⟨b, off + j * 3 + 2, none⟩ = some (.string X.vName) ∧ w'.cell? ⟨b2, off2 + j * 3, none⟩ = some (.int .i64 X.vKind) ∧ w'.cell? ⟨b2, off2 + j * 3 + 1, none⟩ = some (.int .i64 X.vN) ∧ w'.cell? ⟨b2, off2 + j * 3 + 2, none⟩ = some (.string X.vName)) (go_keep) (first | (go_at_call 23; refine (eqInstr_any (by exact hr'.out) (by exact hr2'.out)).mono ?_; rintro e w1 ⟨rfl, hb1⟩; have z0n := (hb1.cell (p := ⟨b, off + j * 3, none⟩) (by exact hbr)).trans z0; have z1n := (hb1.cell (p := ⟨b, off + j * 3 + 1, none⟩) (by exact hbr)).trans z1; have z2n := (hb1.cell (p := ⟨b, off + j * 3 + 2, none⟩) (by exact hbr)).trans z2; have y0n := (hb1.cell (p := ⟨b2, off2 + j * 3, none⟩) (by exact hbr2)).trans y0; have y1n := (hb1.cell (p := ⟨b2, off2 + j * 3 + 1, none⟩) (by exact hbr2)).trans y1; have y2n := (hb1.cell (p := ⟨b2, off2 + j * 3 + 2, none⟩) (by exact hbr2)).trans y2; have hb' : Below w.heap.size w w1 := hb.drew.trans (hb1.mono hb.size)))
      go_wp2_with fail
      go_roundw
      case rel => exact ⟨j + 1, by omega, by go_num, hb'⟩
      case measure => simp [intOf]; omega
    · go_wp2_with fail
      go_ret
      exact ⟨rfl, hb⟩
end Go.Proofs.YtdapgihghbmlfaaDoor
