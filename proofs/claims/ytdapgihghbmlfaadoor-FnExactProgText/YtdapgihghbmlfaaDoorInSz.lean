/- What the functions sz.. of the laws return: a number below nothing, or what was measured is small. -/
import Derived.Test.YtdapgihghbmlfaaDoorInRecs
import Derived.WalkKit
namespace Go.Proofs.YtdapgihghbmlfaaDoor
open Go.RowKit
set_option maxHeartbeats 800000 in
theorem szInstr_any {w : World} {lo : Nat} {cs : List Value} {x : InstrD} {left : Int} (hx : InstrAt w lo cs x) (h0 : 0 ≤ left) (h1 : left ≤ 1048576) :
    Calls Tryd.prog 14 #[.agg cs.toArray, .int .i64 left] w fun e w' => (∃ r : Int, e = .returned (.int .i64 r) ∧ r ≤ left ∧ -1 ≤ r ∧ (r < 0 ∨ x.small)) ∧ Below w.heap.size w w' := by
  obtain ⟨rfl, rKind, rN, rName, _⟩ := hx
  unfold maxLen at rName
  have hb0 : Below w.heap.size w (w.alloc (.cells (List.toArray [.int .i64 x.vKind, .int .i64 x.vN, .string x.vName]) 35)) := (Below.refl _ _).alloc (Nat.le_refl _) _
  have bx0 : Hid (Box (w.alloc (.cells (List.toArray [.int .i64 x.vKind, .int .i64 x.vN, .string x.vName]) 35)) w.heap.size [.int .i64 x.vKind, .int .i64 x.vN, .string x.vName] 35) := Box.new w _ _
  by_cases n0 : (left - (x.vName.size : Int)) < 0
  · go_enter Tryd.func14, Tryd.ntmps14
    go_wp2_with fail
    go_ret
    exact ⟨⟨-1, rfl, by omega, by omega, Or.inl (by omega)⟩, hb0⟩
  go_enter Tryd.func14, Tryd.ntmps14
  go_wp2_with fail
  go_ret
  exact ⟨⟨(left - (x.vName.size : Int)), rfl, by omega, by omega, Or.inr ⟨by omega, trivial⟩⟩, hb0⟩
set_option maxHeartbeats 800000 in
theorem szInstrS_any {w : World} {lo : Nat} {k : Value} {xs : List InstrD} {left : Int} (hk : SeqAt 3 InstrAt w lo k xs) (h0 : 0 ≤ left) (h1 : left ≤ 1048576) :
    Calls Tryd.prog 5 #[k, .int .i64 left] w fun e w' => (∃ r : Int, e = .returned (.int .i64 r) ∧ r ≤ left ∧ -1 ≤ r ∧ (r < 0 ∨ AllS InstrD.small xs)) ∧ Below w.heap.size w w' := by
  obtain ⟨a, cap, rfl, hm, hx⟩ := hk
  unfold maxLen at hm
  by_cases hneg : left - (xs.length : Int) < 0
  · clear hx
    go_enter Tryd.func5, Tryd.ntmps5
    go_wp2_with fail
    go_ret
    exact ⟨⟨-1, rfl, by omega, by omega, Or.inl (by omega)⟩, Below.refl _ _⟩
  · have hx' : Hid _ := hx
    clear hx
    go_enter Tryd.func5, Tryd.ntmps5
    go_wp2_with fail
    go_loopw [1, 5] (fun l i wr => ∃ (j : Nat) (r : Int), j ≤ xs.length ∧ i = .int .i64 j ∧ l = .int .i64 r ∧ 0 ≤ r ∧ r ≤ left ∧ Below w.heap.size w wr ∧ Hid (∀ i', (h : i' < xs.length) → i' < j → InstrD.small xs[i'])) (fun _ i _ => xs.length - (intOf i).toNat)
    case atStart => exact ⟨0, left - xs.length, by omega, rfl, rfl, by omega, by omega, Below.refl _ _, fun i' _ h => absurd h (by omega)⟩
    case round =>
      obtain ⟨j, r, hj, rfl, rfl, hr0, hr1, hb, hs⟩ := hrel
      by_cases hlt : j < xs.length
      · obtain ⟨b, off, rfl, hlo, hbw, hc⟩ := hx'.out (by omega)
        obtain ⟨cs, hcl, lie, hr⟩ := hc j hlt
        have lie1 := Lie.keep (lo := lo) (lo' := lo) lie (.of_below hb) hlo hbw
        have hr2 := InstrAt_stays _ _ _ lo _ _ (.of_below hb) hr
        generalize hX : xs[j] = X at hr2
        have hX' : Hid _ := hX
        have hr3 : Hid (InstrAt wr lo cs X) := hr2
        clear hX hr lie hc
        obtain ⟨rfl, rKind, rN, rName, _⟩ := hr2
        clear rKind rN rName
        have z0 := lie1 0 (by simp)
        have z1 := lie1 1 (by simp)
        have z2 := lie1 2 (by simp)
        simp only [List.getElem?_cons_zero, List.getElem?_cons_succ, Nat.add_zero] at z0 z1 z2
        clear lie1 hcl hx'
        go_wp2_with fail
        refine (szInstr_any hr3.out hr0 (by omega)).mono ?_
        rintro e w1 ⟨⟨r', rfl, hr', hr'', hsm⟩, hb1⟩
        have hb' : Below w.heap.size w w1 := hb.trans (hb1.mono hb.size)
        have hsm' : Hid (r' < 0 ∨ InstrD.small X) := hsm
        clear hsm z0 z1 z2
        by_cases hneg' : r' < 0
        · go_wp2_with fail
          go_ret
          exact ⟨⟨-1, rfl, by omega, by omega, Or.inl (by omega)⟩, hb'⟩
        · go_wp2_with fail
          go_roundw
          case rel => exact ⟨j + 1, r', by omega, by go_num, rfl, by omega, by omega, hb', fun i' h hi' => by
            by_cases e : i' < j
            · exact hs.out i' h e
            · have e' : i' = j := by omega
              subst e'
              rw [hX'.out]
              exact hsm'.out.resolve_left (by omega)⟩
          case measure => simp [intOf]; omega
      · go_wp2_with fail
        go_ret
        exact ⟨⟨r, rfl, by omega, by omega, Or.inr ⟨by omega, fun i h => hs.out i h (by omega)⟩⟩, hb⟩
end Go.Proofs.YtdapgihghbmlfaaDoor
