/- What unused, slot, freeOk, rightPool and ArenaOk of the program return. -/
import Derived.Test.YtcbomaflfjdmjaaArPool
import Derived.Deep.RegionHeld3
namespace Go.Proofs.Ytcbomaflfjdmjaa
open Go.RowKit
theorem PoolAt.slot {w : World} {lo g : Nat} {xs : List SlotD} {fr : List Int} {k fk : Value} {fs ffs : List Nat} (h : PoolAt w lo g xs fr k fk fs ffs) {j : Nat} (hj : j < xs.length) :
    ∃ b off cap q, k = .slice (some ⟨b, off, none⟩) xs.length cap ∧ w.cell? ⟨b, off + j, none⟩ = some (.pointer (some ⟨q, 0, none⟩)) ∧ Box w q (slotC xs[j]) 63 ∧ InI xs[j].vGen ∧ xs[j].vData.size ≤ maxLen := by
  obtain ⟨_, _, hS, _⟩ := h
  obtain ⟨a, cap, rfl, hm, _⟩ := hS
  rename_i hS2
  obtain ⟨b, off, C, T, cs, fj, rfl, hrow, hcl, _, hr, _⟩ := SeqOwn.step pslot_stays pslot_lt ⟨a, cap, rfl, hm, hS2⟩ hj
  obtain ⟨q, rfl, hB, h1, h2, _⟩ := hr
  have z := hrow.cell 0 rfl
  simp only [Nat.mul_one, Nat.add_zero] at z
  exact ⟨b, off, cap, q, rfl, z, hB, h1, h2⟩
theorem PoolAt.form {w : World} {lo g : Nat} {xs : List SlotD} {fr : List Int} {k fk : Value} {fs ffs : List Nat} (h : PoolAt w lo g xs fr k fk fs ffs) : (∃ a cap, k = .slice a xs.length cap) ∧ ∃ a cap, fk = .slice a fr.length cap := ⟨h.2.2.1.form, h.2.2.2.1.form⟩
set_option maxHeartbeats 800000 in
theorem unused_any {w : World} {lo g : Nat} {xs : List SlotD} {fr : List Int} {k fk : Value} {fs ffs : List Nat} (h : PoolAt w lo g xs fr k fk fs ffs) (hl : xs.length ≤ 12) :
    Calls Try.prog 56 #[.pointer (some ⟨g, 0, none⟩)] w fun e w' => e = .returned (.int .i64 ((un xs 0).length : Nat)) ∧ w' = w := by
  have h' : Hid (PoolAt w lo g xs fr k fk fs ffs) := h
  obtain ⟨⟨a, cap, rfl⟩, _⟩ := h.form
  have y0 := h.1.cell 0 rfl
  clear h
  go_enter Try.func56, Try.ntmps56
  go_wp2_with fail
  go_loop [3, 11] (fun f i => ∃ (j : Nat), j ≤ xs.length ∧ i = .int .i64 j ∧ f = .int .i64 ((un (xs.take j) 0).length : Nat)) (fun _ i => xs.length - (intOf i).toNat)
  case atStart => exact ⟨0, by omega, rfl, rfl⟩
  case round =>
    obtain ⟨j, hj, rfl, rfl⟩ := hrel
    by_cases hlt : j < xs.length
    · obtain ⟨b, off, cap', q, e, z0, hB, _, _⟩ := h'.out.slot hlt
      injection e with e1 _ e3
      subst e1 e3
      have hut := un_take hlt
      have hcn : (un (xs.take j) 0).length ≤ 12 := by have h1 := un_le (xs.take j) 0; have h2 := List.length_take_le j xs; omega
      generalize (un (xs.take j) 0).length = CN at *
      generalize xs[j] = X at hB hut
      obtain ⟨G, U, D⟩ := X
      have z1 := hB.cell 1 rfl
      dsimp only at z1 hut
      clear hB h'
      cases U with
      | true =>
        go_wp2_with fail
        go_round
        case rel => exact ⟨j + 1, by omega, by go_num, by rw [hut]; simp⟩
        case measure => simp [intOf]; omega
      | false =>
        go_wp2_with fail
        go_round
        case rel => exact ⟨j + 1, by omega, by go_num, by rw [hut]; simp⟩
        case measure => simp [intOf]; omega
    · obtain rfl : j = xs.length := by omega
      rw [List.take_of_length_le (Nat.le_refl _)]
      go_wp2_with fail
      go_ret
      exact ⟨rfl, rfl⟩
set_option maxHeartbeats 800000 in
theorem slot_no {w : World} {lo g : Nat} {xs : List SlotD} {fr : List Int} {k fk : Value} {fs ffs : List Nat} {at_ : Int} (h : PoolAt w lo g xs fr k fk fs ffs) (_hl : xs.length ≤ 12) (hn : ¬ (0 ≤ at_ ∧ at_ < (xs.length : Int))) :
    Calls Try.prog 51 #[.pointer (some ⟨g, 0, none⟩), .int .i64 at_] w fun e w' => e = .returned (.tuple #[.pointer none, .bool false]) ∧ w' = w := by
  obtain ⟨⟨a, cap, rfl⟩, _⟩ := h.form
  have y0 := h.1.cell 0 rfl
  clear h
  by_cases h0 : at_ < 0
  · go_enter Try.func51, Try.ntmps51
    go_wp2_with fail
    go_ret2
    exact ⟨rfl, rfl⟩
  · have h1 : (xs.length : Int) ≤ at_ := by omega
    go_enter Try.func51, Try.ntmps51
    go_wp2_with fail
    go_ret2
    exact ⟨rfl, rfl⟩
set_option maxHeartbeats 800000 in
theorem slot_yes {w : World} {lo g : Nat} {xs : List SlotD} {fr : List Int} {k fk : Value} {fs ffs : List Nat} {at_ : Int} (h : PoolAt w lo g xs fr k fk fs ffs) (_hl : xs.length ≤ 12) (h0 : 0 ≤ at_) (h1 : at_.toNat < xs.length) :
    Calls Try.prog 51 #[.pointer (some ⟨g, 0, none⟩), .int .i64 at_] w fun e w' => (∃ b off cap q, k = .slice (some ⟨b, off, none⟩) xs.length cap ∧ w.cell? ⟨b, off + at_.toNat, none⟩ = some (.pointer (some ⟨q, 0, none⟩)) ∧ Box w q (slotC xs[at_.toNat]) 63 ∧ e = .returned (.tuple #[.pointer (some ⟨q, 0, none⟩), .bool true])) ∧ w' = w := by
  obtain ⟨b, off, cap, q, rfl, z0, hB, _, _⟩ := h.slot h1
  have hB' : Hid (Box w q (slotC xs[at_.toNat]) 63) := hB
  have z0' : Hid (w.cell? ⟨b, off + at_.toNat, none⟩ = some (.pointer (some ⟨q, 0, none⟩))) := z0
  have y0 := h.1.cell 0 rfl
  clear h hB
  obtain ⟨m, rfl⟩ : ∃ m : Nat, at_ = (m : Int) := ⟨at_.toNat, by omega⟩
  simp only [Int.toNat_natCast] at z0 h1 ⊢
  have h2 : (m : Int) < (xs.length : Int) := by omega
  go_enter Try.func51, Try.ntmps51
  go_wp2_with fail
  go_ret2
  exact ⟨⟨b, off, cap, q, rfl, z0, hB'.out, rfl⟩, rfl⟩
theorem FreeP.step {xs : List SlotD} {fr : List Int} {j : Nat} (h : FreeP xs fr j) (hj : j < fr.length) (h1 : 0 ≤ fr[j]) (h2 : ∃ q : fr[j].toNat < xs.length, xs[fr[j].toNat].vUsed = false) (h3 : hasB (fr.take j) fr[j] = false) : FreeP xs fr (j + 1) := fun i hi hlt => by
  by_cases e : i < j
  · exact h i hi e
  · obtain rfl : i = j := by omega
    exact ⟨h1, h2, h3⟩
/-- free as it must be, all told -/
def FreeAll (xs : List SlotD) (fr : List Int) : Prop := FreeP xs fr fr.length ∧ fr.length = (un xs 0).length
set_option maxRecDepth 100000 in
set_option maxHeartbeats 2000000 in
theorem freeOk_any {w : World} {lo g : Nat} {xs : List SlotD} {fr : List Int} {k fk : Value} {fs ffs : List Nat} (h : PoolAt w lo g xs fr k fk fs ffs) (hl : xs.length ≤ 12) (hf : fr.length ≤ 12) :
    Calls Try.prog 49 #[.pointer (some ⟨g, 0, none⟩)] w fun e w' => (∃ r : Bool, e = .returned (.bool r) ∧ (r = true ↔ FreeAll xs fr)) ∧ Below w.heap.size w w' := by
  have h' : Hid (PoolAt w lo g xs fr k fk fs ffs) := h
  obtain ⟨⟨a, cap, rfl⟩, a1, cap1, rfl⟩ := h.form
  have y0 := h.1.cell 0 rfl
  have y1 := h.1.cell 1 rfl
  have hF : Hid (SeqAt 1 IntAt w 0 (.slice a1 fr.length cap1) fr) := h.2.2.2.1.at intOwn_at (fun _ _ => Nat.zero_le _)
  obtain ⟨_, _, e1, hm1, hx1⟩ := hF.out
  injection e1 with e1 _ e3
  subst e1 e3
  have hx1' : Hid _ := hx1
  unfold maxLen at hm1
  clear h hx1
  go_enter Try.func49, Try.ntmps49
  go_wp2_with fail
  go_loop [12] (fun i => ∃ (j : Nat), j ≤ fr.length ∧ i = .int .i64 j ∧ Hid (FreeP xs fr j)) (fun i => fr.length - (intOf i).toNat)
  case atStart => exact ⟨0, by omega, rfl, fun i _ h => absurd h (by omega)⟩
  case round =>
    obtain ⟨j, hj, rfl, hfp⟩ := hrel
    by_cases hlt : j < fr.length
    · obtain ⟨b, off, rfl, hlo, hbw, hc⟩ := hx1'.out (by omega)
      obtain ⟨cs, hcl, lie, hr⟩ := hc j hlt
      have hstep : Hid (0 ≤ fr[j] → (∃ q : fr[j].toNat < xs.length, xs[fr[j].toNat].vUsed = false) → hasB (fr.take j) fr[j] = false → FreeP xs fr (j + 1)) := fun q1 q2 q3 => hfp.out.step hlt q1 q2 q3
      have hfall : Hid (¬ (0 ≤ fr[j] ∧ (∃ q : fr[j].toNat < xs.length, xs[fr[j].toNat].vUsed = false) ∧ hasB (fr.take j) fr[j] = false) → ¬ FreeAll xs fr) := fun q r => q (r.1 j hlt hlt)
      have htk : Hid (SeqAt 1 IntAt w 0 (.slice (some ⟨b, off, none⟩) j cap1) (fr.take j)) := hF.out.take j (by omega)
      generalize fr[j] = X at hr hstep hfall
      obtain ⟨rfl, hI⟩ := hr
      have z0 := lie 0 (by simp)
      simp only [List.getElem?_cons_zero, Nat.add_zero, Nat.mul_one] at z0
      have hlt' : (j : Int) < (fr.length : Int) := by omega
      have h0' : (0 : Int) ≤ (j : Int) := by omega
      have hjc : (j : Int) ≤ (cap1 : Int) := by omega
      clear lie hcl hx1' hc
      by_cases hin : 0 ≤ X ∧ X < (xs.length : Int)
      · obtain ⟨hin0, hin1⟩ := hin
        have hq : X.toNat < xs.length := by omega
        go_wp2_with fail
        refine (slot_yes h'.out hl hin0 hq).mono ?_
        rintro e w1 ⟨⟨b2, off2, cap2, q, e2, z2, hB, rfl⟩, rfl⟩
        clear e2 z2
        have hex : Hid ((∃ q : X.toNat < xs.length, xs[X.toNat].vUsed = false) ↔ xs[X.toNat].vUsed = false) := ⟨fun ⟨_, e⟩ => e, fun e => ⟨hq, e⟩⟩
        generalize xs[X.toNat] = Y at hB hex
        obtain ⟨G, U, D⟩ := Y
        dsimp only at hex
        have z3 := hB.cell 1 rfl
        dsimp only at z3
        clear hB
        cases U with
        | true =>
          have H : Hid (¬ FreeAll xs fr) := hfall.out fun q => by have := hex.out.1 q.2.1; cases this
          go_wp2_with fail
          go_ret
          exact ⟨⟨false, rfl, by simpa using H.out⟩, Below.refl _ _⟩
        | false =>
          go_wp2_with fail
          refine (slContains_any htk.out).mono ?_
          rintro e w1 ⟨rfl, rfl⟩
          cases hh : hasB (fr.take j) X with
          | true =>
            have H : Hid (¬ FreeAll xs fr) := hfall.out fun q => by have := q.2.2; rw [hh] at this; cases this
            go_wp2_with fail
            go_ret
            exact ⟨⟨false, rfl, by simpa using H.out⟩, Below.refl _ _⟩
          | false =>
            have H : Hid (FreeP xs fr (j + 1)) := hstep.out hin0 (hex.out.2 (by first | rfl | trivial)) hh
            go_wp2_with fail
            go_round
            case rel => exact ⟨j + 1, by omega, by go_num, H⟩
            case measure => simp [intOf]; omega
      · have H : Hid (¬ FreeAll xs fr) := hfall.out fun q => hin ⟨q.1, by obtain ⟨q1, _⟩ := q.2.1; omega⟩
        go_wp2_with fail
        refine (slot_no h'.out hl hin).mono ?_
        rintro e w1 ⟨rfl, rfl⟩
        go_wp2_with fail
        go_ret
        exact ⟨⟨false, rfl, by simpa using H.out⟩, Below.refl _ _⟩
    · obtain rfl : j = fr.length := by omega
      have hcn := un_le xs 0
      have HP : Hid (PoolAt w.drew lo g xs fr (.slice a xs.length cap) (.slice a1 fr.length cap1) fs ffs) := h'.out.below (Below.refl _ _).drew
      go_wp2_with fail
      go_region_held3 (fun w' => w'.cell? ⟨g, 1, none⟩ = some (.slice a1 fr.length cap1)) (go_keep) (first | (go_at_call 56; refine (unused_any (by exact HP.out) hl).mono ?_; rintro e w1 ⟨rfl, rfl⟩))
      go_wp2_with fail
      go_ret
      refine ⟨⟨_, rfl, ?_⟩, (Below.refl _ _).drew⟩
      rw [beq_iff_eq]
      exact ⟨fun e => ⟨hfp.out, by omega⟩, fun e => by have := e.2; omega⟩
end Go.Proofs.Ytcbomaflfjdmjaa
