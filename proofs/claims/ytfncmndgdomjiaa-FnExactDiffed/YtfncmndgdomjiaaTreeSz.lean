/- How great a tree is by the laws' szTree: no list of it is too long, and it has few nodes. -/
import Derived.Test.YtfncmndgdomjiaaTreeO
import Derived.Test.YtfncmndgdomjiaaRows
import Derived.WalkKit
namespace Go.Proofs.Ytfncmndgdomjiaa
open Go.RowKit
/-- how many there are below it -/
def belowN : Nat → TD → Nat
  | 0, _ => 0
  | n + 1, x => cntL (cntTree n) (kidsOf x)
theorem cnt_below {n : Nat} {w : World} {lo : Nat} {cs : List Value} {x : TD} (h : TreeL n w lo cs x) : cntTree n x = 1 + belowN n x := by
  cases n with
  | zero => exact h.elim
  | succ n => rfl
def SzT (n : Nat) : Prop := ∀ (w : World) (lo : Nat) (cs : List Value) (x : TD) (left : Int), TreeL n w lo cs x → 0 ≤ left → left ≤ 1048576 →
    Calls Try.prog 8 #[.agg cs.toArray, .int .i64 left] w fun e w' => (∃ r : Int, e = .returned (.int .i64 r) ∧ r ≤ left ∧ -1 ≤ r ∧ (r < 0 ∨ (SmallO n x ∧ r + (belowN n x : Int) ≤ left))) ∧ Below w.heap.size w w'
def SzS (n : Nat) : Prop := ∀ (w : World) (lo : Nat) (k : Value) (xs : List TD) (left : Int), SeqAt 2 (TreeL n) w lo k xs → 0 ≤ left → left ≤ 1048576 →
    Calls Try.prog 33 #[k, .int .i64 left] w fun e w' => (∃ r : Int, e = .returned (.int .i64 r) ∧ r ≤ left ∧ -1 ≤ r ∧ (r < 0 ∨ (AllS (SmallO n) xs ∧ r + (cntL (cntTree n) xs : Int) ≤ left))) ∧ Below w.heap.size w w'
set_option maxHeartbeats 800000 in
theorem szS_of (n : Nat) (h7 : SzT n) : SzS n := by
  intro w lo k xs left hrow h0 h1
  obtain ⟨a, cap, rfl, hm, hx⟩ := hrow
  unfold maxLen at hm
  have h7' : Hid (SzT n) := h7
  clear h7
  by_cases hneg : left - (xs.length : Int) < 0
  · clear hx
    go_enter Try.func33, Try.ntmps33
    go_wp2_with fail
    go_ret
    exact ⟨⟨-1, rfl, by omega, by omega, Or.inl (by omega)⟩, Below.refl _ _⟩
  · have hx' : Hid (0 < xs.length → ∃ b off, a = some ⟨b, off, none⟩ ∧ lo ≤ b ∧ b < w.heap.size ∧ ∀ i, (h : i < xs.length) → ∃ cs, cs.length = 2 ∧ Lie w b (off + i * 2) cs ∧ TreeL n w lo cs xs[i]) := hx
    clear hx
    go_enter Try.func33, Try.ntmps33
    go_wp2_with fail
    go_loopw [1, 5] (fun l i wr => ∃ (j : Nat) (r : Int), j ≤ xs.length ∧ i = .int .i64 j ∧ l = .int .i64 r ∧ 0 ≤ r ∧ r ≤ left ∧ Below w.heap.size w wr ∧ Hid (r + (pos (cntTree n) xs j : Int) + (xs.length : Int) ≤ left + (j : Int)) ∧ Hid (∀ i', (h : i' < xs.length) → i' < j → SmallO n xs[i'])) (fun _ i _ => xs.length - (intOf i).toNat)
    case atStart => exact ⟨0, left - xs.length, by omega, rfl, rfl, by omega, by omega, Below.refl _ _, by show _ ≤ _; rw [pos_zero]; omega, fun i' _ h => absurd h (by omega)⟩
    case round =>
      obtain ⟨j, r, hj, rfl, rfl, hr0, hr1, hb, hcn, hs⟩ := hrel
      by_cases hlt : j < xs.length
      · obtain ⟨b, off, rfl, hlo, hbw, hc⟩ := hx'.out (by omega)
        obtain ⟨cs, hcl, lie, hr⟩ := hc j hlt
        have hr2 := hr.below hb
        have hr3 : Hid (TreeL n wr lo cs xs[j]) := hr2
        have lie1 := Lie.keep (lo := lo) (lo' := lo) lie (.of_below hb) hlo hbw
        have hp2 : Hid (pos (cntTree n) xs (j + 1) = pos (cntTree n) xs j + (1 + belowN n xs[j])) := by show _ = _; rw [pos_succ hlt, cnt_below hr]
        obtain ⟨k1, rfl, s1, _⟩ := hr2.opened
        obtain ⟨a1, cap1, rfl⟩ := s1.form
        have z0 := lie1 0 (by simp)
        have z1 := lie1 1 (by simp)
        simp only [List.getElem?_cons_zero, List.getElem?_cons_succ, Nat.add_zero] at z0 z1
        clear hc lie lie1 hr hr2 s1 hx' hcl
        go_wp2_with fail
        refine (h7'.out wr lo _ xs[j] r hr3.out hr0 (by omega)).mono ?_
        rintro e w1 ⟨⟨r', rfl, hr', hr'', hsm⟩, hb1⟩
        have hb' : Below w.heap.size w w1 := hb.trans (hb1.mono hb.size)
        have hsm' : Hid (r' < 0 ∨ (SmallO n xs[j] ∧ r' + (belowN n xs[j] : Int) ≤ r)) := hsm
        clear hsm z0 z1
        by_cases hneg' : r' < 0
        · go_wp2_with fail
          go_ret
          exact ⟨⟨-1, rfl, by omega, by omega, Or.inl (by omega)⟩, hb'⟩
        · go_wp2_with fail
          go_roundw
          case rel =>
            have hq := hsm'.out.resolve_left (by omega)
            refine ⟨j + 1, r', by omega, by go_num, rfl, by omega, by omega, hb', ?_, fun i' h hi' => ?_⟩
            · show _ ≤ _
              have q1 := hcn.out
              have q2 := hq.2
              rw [hp2.out]
              omega
            · by_cases e : i' < j
              · exact hs.out i' h e
              · have e' : i' = j := by omega
                subst e'
                exact hq.1
          case measure => simp [intOf]; omega
      · go_wp2_with fail
        go_ret
        refine ⟨⟨r, rfl, by omega, by omega, Or.inr ⟨⟨by omega, fun i hi => hs.out i hi (by omega)⟩, ?_⟩⟩, hb⟩
        have q1 := hcn.out
        have e : j = xs.length := by omega
        subst e
        unfold cntL
        omega
set_option maxHeartbeats 800000 in
theorem szT_of (n : Nat) (h20 : SzS n) : SzT (n + 1) := by
  intro w lo cs x left ht h0 h1
  obtain ⟨k1, rfl, hrow, hs, _⟩ := ht
  have hrow' : Hid (SeqAt 2 (TreeL n) w lo k1 (kidsOf x)) := hrow
  have h20' : Hid (SzS n) := h20
  obtain ⟨a, cap, rfl, hm, _⟩ := hrow
  unfold maxLen at hs
  clear h20
  by_cases hneg : left - ((strT x).size : Int) < 0
  · go_enter Try.func8, Try.ntmps8
    go_wp2_with fail
    go_ret
    exact ⟨⟨-1, rfl, by omega, by omega, Or.inl (by omega)⟩, (Below.refl _ _).alloc (Nat.le_refl _) _⟩
  · go_enter Try.func8, Try.ntmps8
    go_wp2_with fail
    have hb0 : Below w.heap.size w (w.alloc (.cells #[.string (strT x), .slice a (kidsOf x).length cap] 24)) := (Below.refl _ _).alloc (Nat.le_refl _) _
    refine (h20'.out _ lo _ (kidsOf x) _ (hrow'.out.below (TreeL_stays n) hb0) (by omega) (by omega)).mono ?_
    rintro e w1 ⟨⟨r', rfl, hr', hr'', hsm⟩, hb1⟩
    have hb' : Below w.heap.size w w1 := hb0.trans (hb1.mono hb0.size)
    have hsm' : Hid (r' < 0 ∨ (AllS (SmallO n) (kidsOf x) ∧ r' + (cntL (cntTree n) (kidsOf x) : Int) ≤ left - ((strT x).size : Int))) := hsm
    clear hsm
    by_cases hneg' : r' < 0
    · go_wp2_with fail
      go_ret
      exact ⟨⟨-1, rfl, by omega, by omega, Or.inl (by omega)⟩, hb'⟩
    · go_wp2_with fail
      go_ret
      have hq := hsm'.out.resolve_left (by omega)
      exact ⟨⟨r', rfl, by omega, by omega, Or.inr ⟨⟨by omega, hq.1⟩, by have := hq.2; show r' + ((cntL (cntTree n) (kidsOf x) : Nat) : Int) ≤ left; omega⟩⟩, hb'⟩
theorem szT_all : ∀ n, SzT n ∧ SzS n := by
  intro n
  induction n with
  | zero => exact ⟨fun _ _ _ _ _ h _ _ => h.elim, szS_of 0 (fun _ _ _ _ _ h _ _ => h.elim)⟩
  | succ n ih => exact ⟨szT_of n ih.2, szS_of (n + 1) (szT_of n ih.2)⟩
end Go.Proofs.Ytfncmndgdomjiaa
