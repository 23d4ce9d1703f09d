/- Handles that live: l11Live of the specification, living and Deref of the program, walked. -/
import Derived.Test.YtcbomaflfjdmjaaArSpec
import Derived.Test.YtcbomaflfjdmjaaArRightTwo
namespace Go.Proofs.Ytcbomaflfjdmjaa
open Go.RowKit
/-- a handle that lives -/
def Live (x : ArenaD) (hAt hGen : Int) : Prop := RightI x ∧ 0 ≤ hAt ∧ ∃ q : hAt.toNat < x.vSlots.length, x.vSlots[hAt.toNat].vUsed = true ∧ x.vSlots[hAt.toNat].vGen = hGen
open Classical in
noncomputable def liveB (x : ArenaD) (hAt hGen : Int) : Bool := decide (Live x hAt hGen)
theorem liveB_true {x : ArenaD} {a g : Int} (h : Live x a g) : liveB x a g = true := by simp [liveB, h]
theorem liveB_false {x : ArenaD} {a g : Int} (h : ¬ Live x a g) : liveB x a g = false := by simp [liveB, h]
def LivingAns (w w' : World) (x : ArenaD) (hAt hGen : Int) (e : Ending) : Prop :=
  (¬ Live x hAt hGen ∧ ∃ u v, e = .returned (.tuple #[.pointer u, .pointer v, .bool false])) ∨ (Live x hAt hGen ∧ ∃ g k fk fs ffs b off cap p, e = .returned (.tuple #[.pointer (some ⟨g, 0, none⟩), .pointer (some ⟨p, 0, none⟩), .bool true]) ∧ PoolAt w' w.heap.size g x.vSlots x.vFree k fk fs ffs ∧ k = .slice (some ⟨b, off, none⟩) x.vSlots.length cap ∧ w'.cell? ⟨b, off + hAt.toNat, none⟩ = some (.pointer (some ⟨p, 0, none⟩)))
set_option maxRecDepth 100000 in
set_option maxHeartbeats 2000000 in
theorem living_any {w : World} {lo : Nat} {cs : List Value} {x : ArenaD} {hAt hGen : Int} (hx : ArenaAt w lo cs x) :
    Calls Try.prog 37 #[.agg cs.toArray, .agg #[.int .i64 hAt, .int .i64 hGen]] w fun e w' => LivingAns w w' x hAt hGen e ∧ Below w.heap.size w w' := by
  have hx' : Hid (ArenaAt w lo cs x) := hx
  obtain ⟨k0, k1, rfl, s0, s1, _⟩ := hx
  obtain ⟨a0, c0, rfl, hm0, hx0⟩ := s0
  have hx0' : Hid _ := hx0
  obtain ⟨a1, c1, rfl⟩ := s1.form
  unfold maxLen at hm0
  clear hx0 s1
  have hb0 : Below w.heap.size w ((w.alloc (.cells (List.toArray [.slice a0 x.vSlots.length c0, .slice a1 x.vFree.length c1]) 27)).alloc (.cells (List.toArray [.int .i64 hAt, .int .i64 hGen]) 31)) := ((Below.refl _ _).alloc (Nat.le_refl _) _).alloc (by simp) _
  have bx0 : Hid (Box ((w.alloc (.cells (List.toArray [.slice a0 x.vSlots.length c0, .slice a1 x.vFree.length c1]) 27)).alloc (.cells (List.toArray [.int .i64 hAt, .int .i64 hGen]) 31)) w.heap.size [.slice a0 x.vSlots.length c0, .slice a1 x.vFree.length c1] 27) := (Box.new w _ _).alloc _
  have bh0 : Hid (Box ((w.alloc (.cells (List.toArray [.slice a0 x.vSlots.length c0, .slice a1 x.vFree.length c1]) 27)).alloc (.cells (List.toArray [.int .i64 hAt, .int .i64 hGen]) 31)) (w.heap.size + 1) [.int .i64 hAt, .int .i64 hGen] 31) := by have := Box.new (w.alloc (.cells (List.toArray [.slice a0 x.vSlots.length c0, .slice a1 x.vFree.length c1]) 27)) [.int .i64 hAt, .int .i64 hGen] 31; simpa [Hid] using this
  have hxA : Hid (ArenaAt ((w.alloc (.cells (List.toArray [.slice a0 x.vSlots.length c0, .slice a1 x.vFree.length c1]) 27)).alloc (.cells (List.toArray [.int .i64 hAt, .int .i64 hGen]) 31)) lo [.slice a0 x.vSlots.length c0, .slice a1 x.vFree.length c1] x) := ArenaAt_stays _ _ _ lo _ _ (.of_below hb0) hx'.out
  clear hx0' hm0
  go_enter Try.func37, Try.ntmps37
  go_wp2_with fail
  refine (rightPool_any hxA.out).mono ?_
  rintro e w1 ⟨hA, hb1⟩
  have hB1 : Below w.heap.size w w1 := hb0.trans (hb1.mono hb0.size)
  have bh1 : Hid (Box w1 (w.heap.size + 1) [.int .i64 hAt, .int .i64 hGen] 31) := bh0.out.below hb1 bh0.out.lt
  have c0_ := bh1.out.cell 0 rfl
  have c1_ := bh1.out.cell 1 rfl
  rcases hA with ⟨hn, v, rfl⟩ | ⟨hy, g, k, fk, fs, ffs, rfl, hP⟩
  · have H : Hid (¬ Live x hAt hGen) := fun r => hn r.1
    clear hn
    go_wp2_with fail
    go_ret3
    exact ⟨Or.inl ⟨H.out, _, _, rfl⟩, hB1⟩
  have hP' : Hid (PoolAt w1 w.heap.size g x.vSlots x.vFree k fk fs ffs) := by
    obtain ⟨h1, h2, h3, h4, h5, h6, h7⟩ := hP
    simp only [World.size_alloc] at h2 h5 h6
    exact ⟨h1, by omega, h3, h4, fun b r => by have := h5 b r; omega, fun b r => by have := h6 b r; omega, h7⟩
  have hn2 : x.vSlots.length ≤ 12 := hy.2.1
  have hy' : Hid (RightI x) := hy
  clear hP hy
  by_cases hin : 0 ≤ hAt ∧ hAt < (x.vSlots.length : Int)
  · obtain ⟨hi0, hi1⟩ := hin
    have hq : hAt.toNat < x.vSlots.length := by omega
    go_wp2_with fail
    refine (slot_yes hP'.out hn2 hi0 hq).mono ?_
    rintro e w2 ⟨⟨b, off, cap, p, ek, z2, hB, rfl⟩, rfl⟩
    have ek' : Hid (k = .slice (some ⟨b, off, none⟩) x.vSlots.length cap) := ek
    have z2' : Hid (w2.cell? ⟨b, off + hAt.toNat, none⟩ = some (.pointer (some ⟨p, 0, none⟩))) := z2
    have hlive : Hid (Live x hAt hGen ↔ x.vSlots[hAt.toNat].vUsed = true ∧ x.vSlots[hAt.toNat].vGen = hGen) := ⟨fun r => by obtain ⟨_, _, _, r⟩ := r; exact r, fun r => ⟨hy'.out, hi0, hq, r⟩⟩
    clear ek z2
    generalize x.vSlots[hAt.toNat] = Y at hB hlive
    obtain ⟨G, U, D⟩ := Y
    dsimp only at hlive
    have z3 := hB.cell 0 rfl
    have z4 := hB.cell 1 rfl
    dsimp only [slotC] at z3 z4
    clear hB
    cases U with
    | false =>
      have H : Hid (¬ Live x hAt hGen) := fun r => by have := (hlive.out.1 r).1; cases this
      go_wp2_with fail
      refine wp_region_held_drew (S := fun w' => w'.cell? ⟨p, 0, none⟩ = some (.int .i64 G) ∧ w'.cell? ⟨p, 1, none⟩ = some (.bool false) ∧ w'.cell? ⟨w.heap.size + 1, 1, none⟩ = some (.int .i64 hGen)) (by kernel_rfl) (by refine ⟨?_, ?_, ?_⟩ <;> assumption) (fun hHeld => ?_)
      refine tq (i := 0) (d := 24) ?_
      simp only [sz, ss]
      refine tq (i := 1) (d := 25) ?_
      simp only [sz, ss]
      refine tq (i := 2) (d := 26) ?_
      simp only [sz, ss]
      refine tq (i := 3) (d := 27) ?_
      simp only [sz, ss]
      refine tq (i := 4) (d := 28) ?_
      simp only [sz, ss]
      refine tq (i := 5) (d := 29) ?_
      simp only [sz, ss]
      refine tq (i := 6) (d := 30) ?_
      simp only [sz, ss]
      refine tq (i := 7) (d := 31) ?_
      simp only [sz, ss]
      refine tq (i := 8) (d := 32) ?_
      simp only [sz, ss]
      refine tq (i := 9) (d := 33) ?_
      simp only [sz, ss]
      refine tn (i := 10) (d := 34) ?_
      simp only [sz, ss]
      refine tn (i := 11) (d := 35) ?_
      simp only [sz, ss]
      refine tn (i := 12) (d := 36) ?_
      simp only [sz, ss]
      refine tn (i := 13) (d := 37) ?_
      simp only [sz, ss]
      refine tn (i := 14) (d := 38) ?_
      simp only [sz, ss]
      refine tn (i := 15) (d := 39) ?_
      simp only [sz, ss]
      refine tn (i := 16) (d := 40) ?_
      simp only [sz, ss]
      refine tq (i := 17) (d := 41) ?_
      simp only [sz, ss]
      refine wpAnyH_done (by kernel_rfl) ?_ _
      go_wp2_with fail
      go_ret3
      exact ⟨Or.inl ⟨H.out, _, _, rfl⟩, hB1.drew⟩
    | true =>
      by_cases hg : G = hGen
      · subst hg
        have H : Hid (Live x hAt G) := hlive.out.2 ⟨rfl, rfl⟩
        go_wp2_with fail
        refine wp_region_held_drew (S := fun w' => w'.cell? ⟨p, 0, none⟩ = some (.int .i64 G) ∧ w'.cell? ⟨p, 1, none⟩ = some (.bool true) ∧ w'.cell? ⟨w.heap.size + 1, 1, none⟩ = some (.int .i64 G)) (by kernel_rfl) (by refine ⟨?_, ?_, ?_⟩ <;> assumption) (fun hHeld => ?_)
        refine tq (i := 0) (d := 24) ?_
        simp only [sz, ss]
        refine tq (i := 1) (d := 25) ?_
        simp only [sz, ss]
        refine tq (i := 2) (d := 26) ?_
        simp only [sz, ss]
        refine tq (i := 3) (d := 27) ?_
        simp only [sz, ss]
        refine tq (i := 4) (d := 28) ?_
        simp only [sz, ss]
        refine tq (i := 5) (d := 29) ?_
        simp only [sz, ss]
        refine tq (i := 6) (d := 30) ?_
        simp only [sz, ss]
        refine tq (i := 7) (d := 31) ?_
        simp only [sz, ss]
        refine tq (i := 8) (d := 32) ?_
        simp only [sz, ss]
        refine tq (i := 9) (d := 33) ?_
        simp only [sz, ss]
        refine tq (i := 10) (d := 34) ?_
        simp only [sz, ss]
        refine tq (i := 11) (d := 35) ?_
        simp only [sz, ss]
        refine tq (i := 12) (d := 36) ?_
        simp only [sz, ss]
        refine tq (i := 13) (d := 37) ?_
        simp only [sz, ss]
        refine tq (i := 14) (d := 38) ?_
        simp only [sz, ss]
        refine tq (i := 15) (d := 39) ?_
        simp only [sz, ss]
        refine tq (i := 16) (d := 40) ?_
        simp only [sz, ss]
        refine tq (i := 17) (d := 41) ?_
        simp only [sz, ss]
        refine wpAnyH_done (by kernel_rfl) ?_ _
        go_wp2_with fail
        go_ret3
        exact ⟨Or.inr ⟨H.out, g, k, fk, fs, ffs, b, off, cap, p, rfl, hP'.out.below (Below.refl _ _).drew, ek'.out, z2'.out⟩, hB1.drew⟩
      · have H : Hid (¬ Live x hAt hGen) := fun r => hg (hlive.out.1 r).2
        have hg' : (G != hGen) = true := by simpa using hg
        go_wp2_with fail
        refine wp_region_held_drew (S := fun w' => w'.cell? ⟨p, 0, none⟩ = some (.int .i64 G) ∧ w'.cell? ⟨p, 1, none⟩ = some (.bool true) ∧ w'.cell? ⟨w.heap.size + 1, 1, none⟩ = some (.int .i64 hGen)) (by kernel_rfl) (by refine ⟨?_, ?_, ?_⟩ <;> assumption) (fun hHeld => ?_)
        refine tq (i := 0) (d := 24) ?_
        simp only [sz, ss]
        refine tq (i := 1) (d := 25) ?_
        simp only [sz, ss]
        refine tq (i := 2) (d := 26) ?_
        simp only [sz, ss]
        refine tq (i := 3) (d := 27) ?_
        simp only [sz, ss]
        refine tq (i := 4) (d := 28) ?_
        simp only [sz, ss]
        refine tq (i := 5) (d := 29) ?_
        simp only [sz, ss]
        refine tq (i := 6) (d := 30) ?_
        simp only [sz, ss]
        refine tq (i := 7) (d := 31) ?_
        simp only [sz, ss]
        refine tq (i := 8) (d := 32) ?_
        simp only [sz, ss]
        refine tq (i := 9) (d := 33) ?_
        simp only [sz, ss]
        refine tq (i := 10) (d := 34) ?_
        simp only [sz, ss]
        refine tq (i := 11) (d := 35) ?_
        simp only [sz, ss]
        refine tq (i := 12) (d := 36) ?_
        simp only [sz, ss]
        refine tq (i := 13) (d := 37) ?_
        simp only [sz, ss]
        refine tq (i := 14) (d := 38) ?_
        simp only [sz, ss]
        refine tq (i := 15) (d := 39) ?_
        simp only [sz, ss]
        refine tq (i := 16) (d := 40) ?_
        simp only [sz, ss]
        refine tq (i := 17) (d := 41) ?_
        simp only [sz, ss]
        refine wpAnyH_done (by kernel_rfl) ?_ _
        go_wp2_with fail
        go_ret3
        exact ⟨Or.inl ⟨H.out, _, _, rfl⟩, hB1.drew⟩
  · have H : Hid (¬ Live x hAt hGen) := fun r => hin ⟨r.2.1, by obtain ⟨_, _, r, _⟩ := r; omega⟩
    go_wp2_with fail
    refine (slot_no hP'.out hn2 hin).mono ?_
    rintro e w2 ⟨rfl, rfl⟩
    go_wp2_with fail
    refine wp_region_held_drew (S := fun w' => w'.cell? ⟨w.heap.size + 1, 1, none⟩ = some (.int .i64 hGen)) (by kernel_rfl) (by assumption) (fun hHeld => ?_)
    refine tq (i := 0) (d := 24) ?_
    simp only [sz, ss]
    refine tq (i := 1) (d := 25) ?_
    simp only [sz, ss]
    refine tq (i := 2) (d := 26) ?_
    simp only [sz, ss]
    refine tn (i := 3) (d := 27) ?_
    simp only [sz, ss]
    refine tn (i := 4) (d := 28) ?_
    simp only [sz, ss]
    refine tn (i := 5) (d := 29) ?_
    simp only [sz, ss]
    refine tn (i := 6) (d := 30) ?_
    simp only [sz, ss]
    refine tn (i := 7) (d := 31) ?_
    simp only [sz, ss]
    refine tq (i := 8) (d := 32) ?_
    simp only [sz, ss]
    refine tq (i := 9) (d := 33) ?_
    simp only [sz, ss]
    refine tn (i := 10) (d := 34) ?_
    simp only [sz, ss]
    refine tn (i := 11) (d := 35) ?_
    simp only [sz, ss]
    refine tn (i := 12) (d := 36) ?_
    simp only [sz, ss]
    refine tn (i := 13) (d := 37) ?_
    simp only [sz, ss]
    refine tn (i := 14) (d := 38) ?_
    simp only [sz, ss]
    refine tn (i := 15) (d := 39) ?_
    simp only [sz, ss]
    refine tn (i := 16) (d := 40) ?_
    simp only [sz, ss]
    refine tq (i := 17) (d := 41) ?_
    simp only [sz, ss]
    refine wpAnyH_done (by kernel_rfl) ?_ _
    go_wp2_with fail
    go_ret3
    exact ⟨Or.inl ⟨H.out, _, _, rfl⟩, hB1.drew⟩
set_option maxRecDepth 100000 in
set_option maxHeartbeats 2000000 in
theorem l11Live_any {w : World} {lo : Nat} {cs : List Value} {x : ArenaD} {hAt hGen : Int} (hx : ArenaAt w lo cs x) :
    Calls Try.prog 40 #[.agg cs.toArray, .agg #[.int .i64 hAt, .int .i64 hGen]] w fun e w' => e = .returned (.bool (liveB x hAt hGen)) ∧ Below w.heap.size w w' := by
  have hx' : Hid (ArenaAt w lo cs x) := hx
  obtain ⟨k0, k1, rfl, s0, s1, _⟩ := hx
  obtain ⟨a0, c0, rfl, hm0, hx0⟩ := s0
  have hx0' : Hid _ := hx0
  obtain ⟨a1, c1, rfl⟩ := s1.form
  unfold maxLen at hm0
  clear hx0 s1
  have hb0 : Below w.heap.size w ((w.alloc (.cells (List.toArray [.slice a0 x.vSlots.length c0, .slice a1 x.vFree.length c1]) 27)).alloc (.cells (List.toArray [.int .i64 hAt, .int .i64 hGen]) 31)) := ((Below.refl _ _).alloc (Nat.le_refl _) _).alloc (by simp) _
  have bx0 : Hid (Box ((w.alloc (.cells (List.toArray [.slice a0 x.vSlots.length c0, .slice a1 x.vFree.length c1]) 27)).alloc (.cells (List.toArray [.int .i64 hAt, .int .i64 hGen]) 31)) w.heap.size [.slice a0 x.vSlots.length c0, .slice a1 x.vFree.length c1] 27) := (Box.new w _ _).alloc _
  have bh0 : Hid (Box ((w.alloc (.cells (List.toArray [.slice a0 x.vSlots.length c0, .slice a1 x.vFree.length c1]) 27)).alloc (.cells (List.toArray [.int .i64 hAt, .int .i64 hGen]) 31)) (w.heap.size + 1) [.int .i64 hAt, .int .i64 hGen] 31) := by have := Box.new (w.alloc (.cells (List.toArray [.slice a0 x.vSlots.length c0, .slice a1 x.vFree.length c1]) 27)) [.int .i64 hAt, .int .i64 hGen] 31; simpa [Hid] using this
  have hxA : Hid (ArenaAt ((w.alloc (.cells (List.toArray [.slice a0 x.vSlots.length c0, .slice a1 x.vFree.length c1]) 27)).alloc (.cells (List.toArray [.int .i64 hAt, .int .i64 hGen]) 31)) lo [.slice a0 x.vSlots.length c0, .slice a1 x.vFree.length c1] x) := ArenaAt_stays _ _ _ lo _ _ (.of_below hb0) hx'.out
  have hxD : Hid (ArenaAt ((w.alloc (.cells (List.toArray [.slice a0 x.vSlots.length c0, .slice a1 x.vFree.length c1]) 27)).alloc (.cells (List.toArray [.int .i64 hAt, .int .i64 hGen]) 31)).drew lo [.slice a0 x.vSlots.length c0, .slice a1 x.vFree.length c1] x) := ArenaAt_stays _ _ _ lo _ _ (.of_below hb0.drew) hx'.out
  have c0_ := bx0.out.cell 0 rfl
  have c1_ := bx0.out.cell 1 rfl
  have d0_ := bh0.out.cell 0 rfl
  have d1_ := bh0.out.cell 1 rfl
  cases hR : rightB x with
  | false =>
    have H : Hid (liveB x hAt hGen = false) := liveB_false fun r => by have := rightB_true r.1; rw [hR] at this; cases this
    clear hx0'
    go_enter Try.func40, Try.ntmps40
    go_wp2_with fail
    refine wp_region_held_drew (S := fun w' => w'.cell? ⟨w.heap.size, 0, none⟩ = some (.slice a0 x.vSlots.length c0) ∧ w'.cell? ⟨w.heap.size, 1, none⟩ = some (.slice a1 x.vFree.length c1) ∧ w'.cell? ⟨w.heap.size + 1, 0, none⟩ = some (.int .i64 hAt) ∧ w'.cell? ⟨w.heap.size + 1, 1, none⟩ = some (.int .i64 hGen)) (by kernel_rfl) (by refine ⟨?_, ?_, ?_, ?_⟩ <;> assumption) (fun hHeld => ?_)
    refine tq (i := 0) (d := 5) ?_
    simp only [sz, ss]
    refine wpAnyH_ready (rs := [1]) (by kernel_rfl) (by simp) ?_
    refine AllReadyH.cons rfl (fun K hK => ?_) AllReadyH.nil
    go_simp
    refine (specArenaOk_any (by exact hxD.out)).mono ?_
    rintro e w1 ⟨rfl, hb1⟩
    rw [hR]
    have hB1 : Hid (Below w.heap.size w w1) := hb0.drew.trans (hb1.mono hb0.size)
    refine hK.out _ _ ⟨cell_on hb1 hHeld.1, cell_on hb1 hHeld.2.1, cell_on hb1 hHeld.2.2.1, cell_on hb1 hHeld.2.2.2⟩ (fun hHeld => ?_)
    clear hK K
    refine tq (i := 2) (d := 7) ?_
    simp only [sz, ss]
    refine tn (i := 3) (d := 8) ?_
    simp only [sz, ss]
    refine tn (i := 4) (d := 9) ?_
    simp only [sz, ss]
    refine tn (i := 5) (d := 10) ?_
    simp only [sz, ss]
    refine tn (i := 6) (d := 11) ?_
    simp only [sz, ss]
    refine tn (i := 7) (d := 12) ?_
    simp only [sz, ss]
    refine tn (i := 8) (d := 13) ?_
    simp only [sz, ss]
    refine tn (i := 9) (d := 14) ?_
    simp only [sz, ss]
    refine tq (i := 10) (d := 15) ?_
    simp only [sz, ss]
    refine tq (i := 11) (d := 16) ?_
    simp only [sz, ss]
    refine tn (i := 12) (d := 17) ?_
    simp only [sz, ss]
    refine tn (i := 13) (d := 18) ?_
    simp only [sz, ss]
    refine tn (i := 14) (d := 19) ?_
    simp only [sz, ss]
    refine tn (i := 15) (d := 20) ?_
    simp only [sz, ss]
    refine tn (i := 16) (d := 21) ?_
    simp only [sz, ss]
    refine tn (i := 17) (d := 22) ?_
    simp only [sz, ss]
    refine tn (i := 18) (d := 23) ?_
    simp only [sz, ss]
    refine tq (i := 19) (d := 24) ?_
    simp only [sz, ss]
    refine tq (i := 20) (d := 25) ?_
    simp only [sz, ss]
    refine tn (i := 21) (d := 26) ?_
    simp only [sz, ss]
    refine tn (i := 22) (d := 27) ?_
    simp only [sz, ss]
    refine tn (i := 23) (d := 28) ?_
    simp only [sz, ss]
    refine tn (i := 24) (d := 29) ?_
    simp only [sz, ss]
    refine tn (i := 25) (d := 30) ?_
    simp only [sz, ss]
    refine tn (i := 26) (d := 31) ?_
    simp only [sz, ss]
    refine tn (i := 27) (d := 32) ?_
    simp only [sz, ss]
    refine tn (i := 28) (d := 33) ?_
    simp only [sz, ss]
    refine tn (i := 29) (d := 34) ?_
    simp only [sz, ss]
    refine tn (i := 30) (d := 35) ?_
    simp only [sz, ss]
    refine tq (i := 31) (d := 36) ?_
    simp only [sz, ss]
    refine tq (i := 32) (d := 4) ?_
    simp only [sz, ss]
    refine wpAnyH_done (by kernel_rfl) ?_ _
    go_wp2_with fail
    go_ret
    exact ⟨ret_bool H.out.symm, hB1.out⟩
  | true =>
  have hy : Hid (RightI x) := rightB_iff.1 hR
  have hn2 : x.vSlots.length ≤ 12 := hy.out.2.1
  have hn1 : 1 ≤ x.vSlots.length := hy.out.1
  have hwr : IntKind.i64.wrap ((x.vSlots.length : Int) - 1) = (x.vSlots.length : Int) - 1 := by rw [IntKind.wrap_i64]; omega
  by_cases hin : 0 ≤ hAt ∧ hAt < (x.vSlots.length : Int)
  · obtain ⟨hi0, hi1⟩ := hin
    obtain ⟨m, rfl⟩ : ∃ m : Nat, hAt = (m : Int) := ⟨hAt.toNat, by omega⟩
    have hq : m < x.vSlots.length := by omega
    have hI : inB (m : Int) 0 ((x.vSlots.length : Int) - 1) = true := by simp [inB]; omega
    have hlive : Hid (Live x (m : Int) hGen ↔ x.vSlots[m].vUsed = true ∧ x.vSlots[m].vGen = hGen) := ⟨fun r => by obtain ⟨_, _, _, r⟩ := r; exact r, fun r => ⟨hy.out, hi0, hq, r⟩⟩
    obtain ⟨b, off, rfl, hlo, hbw, hc⟩ := hx0'.out (by omega)
    obtain ⟨cs, hcl, lie, hr⟩ := hc m hq
    have lie1 := Lie.keep (lo := lo) (lo' := lo) lie (.of_below hb0) hlo hbw
    generalize x.vSlots[m] = Y at hr hlive
    obtain ⟨rfl, _⟩ := hr
    obtain ⟨G, U, D⟩ := Y
    dsimp only at hlive lie1
    have z0 := lie1 0 (by simp)
    have z1 := lie1 1 (by simp)
    simp only [List.getElem?_cons_zero, List.getElem?_cons_succ, Nat.add_zero] at z0 z1
    clear lie lie1 hcl hx0' hc
    cases U with
    | false =>
      have H : Hid (liveB x (m : Int) hGen = false) := liveB_false fun r => by have := (hlive.out.1 r).1; cases this
      go_enter Try.func40, Try.ntmps40
      go_wp2_with fail
      refine wp_region_held_drew (S := fun w' => w'.cell? ⟨w.heap.size, 0, none⟩ = some (.slice (some ⟨b, off, none⟩) x.vSlots.length c0) ∧ w'.cell? ⟨w.heap.size, 1, none⟩ = some (.slice a1 x.vFree.length c1) ∧ w'.cell? ⟨w.heap.size + 1, 0, none⟩ = some (.int .i64 (m : Int)) ∧ w'.cell? ⟨w.heap.size + 1, 1, none⟩ = some (.int .i64 hGen) ∧ w'.cell? ⟨b, off + m * 3, none⟩ = some (.int .i64 G) ∧ w'.cell? ⟨b, off + m * 3 + 1, none⟩ = some (.bool false)) (by kernel_rfl) (by refine ⟨?_, ?_, ?_, ?_, ?_, ?_⟩ <;> assumption) (fun hHeld => ?_)
      refine tq (i := 0) (d := 5) ?_
      simp only [sz, ss]
      refine wpAnyH_ready (rs := [1]) (by kernel_rfl) (by simp) ?_
      refine AllReadyH.cons rfl (fun K hK => ?_) AllReadyH.nil
      go_simp
      refine (specArenaOk_any (by exact hxD.out)).mono ?_
      rintro e w1 ⟨rfl, hb1⟩
      rw [hR]
      have hB1 : Hid (Below w.heap.size w w1) := hb0.drew.trans (hb1.mono hb0.size)
      refine hK.out _ _ ⟨cell_on hb1 hHeld.1, cell_on hb1 hHeld.2.1, cell_on hb1 hHeld.2.2.1, cell_on hb1 hHeld.2.2.2.1, cell_on hb1 hHeld.2.2.2.2.1, cell_on hb1 hHeld.2.2.2.2.2⟩ (fun hHeld => ?_)
      clear hK K
      refine tq (i := 2) (d := 7) ?_
      simp only [sz, ss]
      refine tq (i := 3) (d := 8) ?_
      simp only [sz, ss]
      refine tq (i := 4) (d := 9) ?_
      simp only [sz, ss]
      refine tq (i := 5) (d := 10) ?_
      simp only [sz, ss]
      refine tq (i := 6) (d := 11) ?_
      simp only [sz, ss]
      refine tq (i := 7) (d := 12) ?_
      simp only [sz, ss]
      refine tq (i := 8) (d := 13) ?_
      simp only [sz, ss]
      refine wpAnyH_ready (rs := [9]) (by kernel_rfl) (by simp) ?_
      refine AllReadyH.cons rfl (fun K hK => ?_) AllReadyH.nil
      go_simp
      refine (l1In_any _ _ _ _).mono ?_
      rintro e w2 ⟨rfl, rfl⟩
      first | rw [hI] | (rw [hwr, hI])
      refine hK.out _ _ (by assumption) (fun hHeld => ?_)
      clear hK K
      refine tq (i := 10) (d := 15) ?_
      simp only [sz, ss]
      refine tq (i := 11) (d := 16) ?_
      simp only [sz, ss]
      refine tq (i := 12) (d := 17) ?_
      simp only [sz, ss]
      refine tq (i := 13) (d := 18) ?_
      simp only [sz, ss]
      refine tq (i := 14) (d := 19) ?_
      simp only [sz, ss]
      refine tq (i := 15) (d := 20) ?_
      simp only [sz, ss]
      refine tq (i := 16) (d := 21) ?_
      simp only [sz, ss]
      refine tq (i := 17) (d := 22) ?_
      simp only [sz, ss]
      refine tq (i := 18) (d := 23) ?_
      simp only [sz, ss]
      refine tq (i := 19) (d := 24) ?_
      simp only [sz, ss]
      refine tq (i := 20) (d := 25) ?_
      simp only [sz, ss]
      refine tn (i := 21) (d := 26) ?_
      simp only [sz, ss]
      refine tn (i := 22) (d := 27) ?_
      simp only [sz, ss]
      refine tn (i := 23) (d := 28) ?_
      simp only [sz, ss]
      refine tn (i := 24) (d := 29) ?_
      simp only [sz, ss]
      refine tn (i := 25) (d := 30) ?_
      simp only [sz, ss]
      refine tn (i := 26) (d := 31) ?_
      simp only [sz, ss]
      refine tn (i := 27) (d := 32) ?_
      simp only [sz, ss]
      refine tn (i := 28) (d := 33) ?_
      simp only [sz, ss]
      refine tn (i := 29) (d := 34) ?_
      simp only [sz, ss]
      refine tn (i := 30) (d := 35) ?_
      simp only [sz, ss]
      refine tq (i := 31) (d := 36) ?_
      simp only [sz, ss]
      refine tq (i := 32) (d := 4) ?_
      simp only [sz, ss]
      refine wpAnyH_done (by kernel_rfl) ?_ _
      go_wp2_with fail
      go_ret
      exact ⟨ret_bool H.out.symm, hB1.out⟩
    | true =>
      by_cases hg : G = hGen
      · subst hg
        have H : Hid (liveB x (m : Int) G = true) := liveB_true (hlive.out.2 ⟨rfl, rfl⟩)
        go_enter Try.func40, Try.ntmps40
        go_wp2_with fail
        refine wp_region_held_drew (S := fun w' => w'.cell? ⟨w.heap.size, 0, none⟩ = some (.slice (some ⟨b, off, none⟩) x.vSlots.length c0) ∧ w'.cell? ⟨w.heap.size, 1, none⟩ = some (.slice a1 x.vFree.length c1) ∧ w'.cell? ⟨w.heap.size + 1, 0, none⟩ = some (.int .i64 (m : Int)) ∧ w'.cell? ⟨w.heap.size + 1, 1, none⟩ = some (.int .i64 G) ∧ w'.cell? ⟨b, off + m * 3, none⟩ = some (.int .i64 G) ∧ w'.cell? ⟨b, off + m * 3 + 1, none⟩ = some (.bool true)) (by kernel_rfl) (by refine ⟨?_, ?_, ?_, ?_, ?_, ?_⟩ <;> assumption) (fun hHeld => ?_)
        refine tq (i := 0) (d := 5) ?_
        simp only [sz, ss]
        refine wpAnyH_ready (rs := [1]) (by kernel_rfl) (by simp) ?_
        refine AllReadyH.cons rfl (fun K hK => ?_) AllReadyH.nil
        go_simp
        refine (specArenaOk_any (by exact hxD.out)).mono ?_
        rintro e w1 ⟨rfl, hb1⟩
        rw [hR]
        have hB1 : Hid (Below w.heap.size w w1) := hb0.drew.trans (hb1.mono hb0.size)
        refine hK.out _ _ ⟨cell_on hb1 hHeld.1, cell_on hb1 hHeld.2.1, cell_on hb1 hHeld.2.2.1, cell_on hb1 hHeld.2.2.2.1, cell_on hb1 hHeld.2.2.2.2.1, cell_on hb1 hHeld.2.2.2.2.2⟩ (fun hHeld => ?_)
        clear hK K
        refine tq (i := 2) (d := 7) ?_
        simp only [sz, ss]
        refine tq (i := 3) (d := 8) ?_
        simp only [sz, ss]
        refine tq (i := 4) (d := 9) ?_
        simp only [sz, ss]
        refine tq (i := 5) (d := 10) ?_
        simp only [sz, ss]
        refine tq (i := 6) (d := 11) ?_
        simp only [sz, ss]
        refine tq (i := 7) (d := 12) ?_
        simp only [sz, ss]
        refine tq (i := 8) (d := 13) ?_
        simp only [sz, ss]
        refine wpAnyH_ready (rs := [9]) (by kernel_rfl) (by simp) ?_
        refine AllReadyH.cons rfl (fun K hK => ?_) AllReadyH.nil
        go_simp
        refine (l1In_any _ _ _ _).mono ?_
        rintro e w2 ⟨rfl, rfl⟩
        first | rw [hI] | (rw [hwr, hI])
        refine hK.out _ _ (by assumption) (fun hHeld => ?_)
        clear hK K
        refine tq (i := 10) (d := 15) ?_
        simp only [sz, ss]
        refine tq (i := 11) (d := 16) ?_
        simp only [sz, ss]
        refine tq (i := 12) (d := 17) ?_
        simp only [sz, ss]
        refine tq (i := 13) (d := 18) ?_
        simp only [sz, ss]
        refine tq (i := 14) (d := 19) ?_
        simp only [sz, ss]
        refine tq (i := 15) (d := 20) ?_
        simp only [sz, ss]
        refine tq (i := 16) (d := 21) ?_
        simp only [sz, ss]
        refine tq (i := 17) (d := 22) ?_
        simp only [sz, ss]
        refine tq (i := 18) (d := 23) ?_
        simp only [sz, ss]
        refine tq (i := 19) (d := 24) ?_
        simp only [sz, ss]
        refine tq (i := 20) (d := 25) ?_
        simp only [sz, ss]
        refine tq (i := 21) (d := 26) ?_
        simp only [sz, ss]
        refine tq (i := 22) (d := 27) ?_
        simp only [sz, ss]
        refine tq (i := 23) (d := 28) ?_
        simp only [sz, ss]
        refine tq (i := 24) (d := 29) ?_
        simp only [sz, ss]
        refine tq (i := 25) (d := 30) ?_
        simp only [sz, ss]
        refine tq (i := 26) (d := 31) ?_
        simp only [sz, ss]
        refine tq (i := 27) (d := 32) ?_
        simp only [sz, ss]
        refine tq (i := 28) (d := 33) ?_
        simp only [sz, ss]
        refine tq (i := 29) (d := 34) ?_
        simp only [sz, ss]
        refine tq (i := 30) (d := 35) ?_
        simp only [sz, ss]
        refine tq (i := 31) (d := 36) ?_
        simp only [sz, ss]
        refine tq (i := 32) (d := 4) ?_
        simp only [sz, ss]
        refine wpAnyH_done (by kernel_rfl) ?_ _
        go_wp2_with fail
        go_ret
        exact ⟨ret_bool H.out.symm, hB1.out⟩
      · have H : Hid (liveB x (m : Int) hGen = false) := liveB_false fun r => hg (hlive.out.1 r).2
        have hg' : (G == hGen) = false := by simpa using hg
        go_enter Try.func40, Try.ntmps40
        go_wp2_with fail
        refine wp_region_held_drew (S := fun w' => w'.cell? ⟨w.heap.size, 0, none⟩ = some (.slice (some ⟨b, off, none⟩) x.vSlots.length c0) ∧ w'.cell? ⟨w.heap.size, 1, none⟩ = some (.slice a1 x.vFree.length c1) ∧ w'.cell? ⟨w.heap.size + 1, 0, none⟩ = some (.int .i64 (m : Int)) ∧ w'.cell? ⟨w.heap.size + 1, 1, none⟩ = some (.int .i64 hGen) ∧ w'.cell? ⟨b, off + m * 3, none⟩ = some (.int .i64 G) ∧ w'.cell? ⟨b, off + m * 3 + 1, none⟩ = some (.bool true)) (by kernel_rfl) (by refine ⟨?_, ?_, ?_, ?_, ?_, ?_⟩ <;> assumption) (fun hHeld => ?_)
        refine tq (i := 0) (d := 5) ?_
        simp only [sz, ss]
        refine wpAnyH_ready (rs := [1]) (by kernel_rfl) (by simp) ?_
        refine AllReadyH.cons rfl (fun K hK => ?_) AllReadyH.nil
        go_simp
        refine (specArenaOk_any (by exact hxD.out)).mono ?_
        rintro e w1 ⟨rfl, hb1⟩
        rw [hR]
        have hB1 : Hid (Below w.heap.size w w1) := hb0.drew.trans (hb1.mono hb0.size)
        refine hK.out _ _ ⟨cell_on hb1 hHeld.1, cell_on hb1 hHeld.2.1, cell_on hb1 hHeld.2.2.1, cell_on hb1 hHeld.2.2.2.1, cell_on hb1 hHeld.2.2.2.2.1, cell_on hb1 hHeld.2.2.2.2.2⟩ (fun hHeld => ?_)
        clear hK K
        refine tq (i := 2) (d := 7) ?_
        simp only [sz, ss]
        refine tq (i := 3) (d := 8) ?_
        simp only [sz, ss]
        refine tq (i := 4) (d := 9) ?_
        simp only [sz, ss]
        refine tq (i := 5) (d := 10) ?_
        simp only [sz, ss]
        refine tq (i := 6) (d := 11) ?_
        simp only [sz, ss]
        refine tq (i := 7) (d := 12) ?_
        simp only [sz, ss]
        refine tq (i := 8) (d := 13) ?_
        simp only [sz, ss]
        refine wpAnyH_ready (rs := [9]) (by kernel_rfl) (by simp) ?_
        refine AllReadyH.cons rfl (fun K hK => ?_) AllReadyH.nil
        go_simp
        refine (l1In_any _ _ _ _).mono ?_
        rintro e w2 ⟨rfl, rfl⟩
        first | rw [hI] | (rw [hwr, hI])
        refine hK.out _ _ (by assumption) (fun hHeld => ?_)
        clear hK K
        refine tq (i := 10) (d := 15) ?_
        simp only [sz, ss]
        refine tq (i := 11) (d := 16) ?_
        simp only [sz, ss]
        refine tq (i := 12) (d := 17) ?_
        simp only [sz, ss]
        refine tq (i := 13) (d := 18) ?_
        simp only [sz, ss]
        refine tq (i := 14) (d := 19) ?_
        simp only [sz, ss]
        refine tq (i := 15) (d := 20) ?_
        simp only [sz, ss]
        refine tq (i := 16) (d := 21) ?_
        simp only [sz, ss]
        refine tq (i := 17) (d := 22) ?_
        simp only [sz, ss]
        refine tq (i := 18) (d := 23) ?_
        simp only [sz, ss]
        refine tq (i := 19) (d := 24) ?_
        simp only [sz, ss]
        refine tq (i := 20) (d := 25) ?_
        simp only [sz, ss]
        refine tq (i := 21) (d := 26) ?_
        simp only [sz, ss]
        refine tq (i := 22) (d := 27) ?_
        simp only [sz, ss]
        refine tq (i := 23) (d := 28) ?_
        simp only [sz, ss]
        refine tq (i := 24) (d := 29) ?_
        simp only [sz, ss]
        refine tq (i := 25) (d := 30) ?_
        simp only [sz, ss]
        refine tq (i := 26) (d := 31) ?_
        simp only [sz, ss]
        refine tq (i := 27) (d := 32) ?_
        simp only [sz, ss]
        refine tq (i := 28) (d := 33) ?_
        simp only [sz, ss]
        refine tq (i := 29) (d := 34) ?_
        simp only [sz, ss]
        refine tq (i := 30) (d := 35) ?_
        simp only [sz, ss]
        refine tq (i := 31) (d := 36) ?_
        simp only [sz, ss]
        refine tq (i := 32) (d := 4) ?_
        simp only [sz, ss]
        refine wpAnyH_done (by kernel_rfl) ?_ _
        go_wp2_with fail
        go_ret
        exact ⟨ret_bool H.out.symm, hB1.out⟩
  · have H : Hid (liveB x hAt hGen = false) := liveB_false fun r => hin ⟨r.2.1, by obtain ⟨_, _, r, _⟩ := r; omega⟩
    have hI : inB hAt 0 ((x.vSlots.length : Int) - 1) = false := by simp [inB]; omega
    clear hx0'
    go_enter Try.func40, Try.ntmps40
    go_wp2_with fail
    refine wp_region_held_drew (S := fun w' => w'.cell? ⟨w.heap.size, 0, none⟩ = some (.slice a0 x.vSlots.length c0) ∧ w'.cell? ⟨w.heap.size, 1, none⟩ = some (.slice a1 x.vFree.length c1) ∧ w'.cell? ⟨w.heap.size + 1, 0, none⟩ = some (.int .i64 hAt) ∧ w'.cell? ⟨w.heap.size + 1, 1, none⟩ = some (.int .i64 hGen)) (by kernel_rfl) (by refine ⟨?_, ?_, ?_, ?_⟩ <;> assumption) (fun hHeld => ?_)
    refine tq (i := 0) (d := 5) ?_
    simp only [sz, ss]
    refine wpAnyH_ready (rs := [1]) (by kernel_rfl) (by simp) ?_
    refine AllReadyH.cons rfl (fun K hK => ?_) AllReadyH.nil
    go_simp
    refine (specArenaOk_any (by exact hxD.out)).mono ?_
    rintro e w1 ⟨rfl, hb1⟩
    rw [hR]
    have hB1 : Hid (Below w.heap.size w w1) := hb0.drew.trans (hb1.mono hb0.size)
    refine hK.out _ _ ⟨cell_on hb1 hHeld.1, cell_on hb1 hHeld.2.1, cell_on hb1 hHeld.2.2.1, cell_on hb1 hHeld.2.2.2⟩ (fun hHeld => ?_)
    clear hK K
    refine tq (i := 2) (d := 7) ?_
    simp only [sz, ss]
    refine tq (i := 3) (d := 8) ?_
    simp only [sz, ss]
    refine tq (i := 4) (d := 9) ?_
    simp only [sz, ss]
    refine tq (i := 5) (d := 10) ?_
    simp only [sz, ss]
    refine tq (i := 6) (d := 11) ?_
    simp only [sz, ss]
    refine tq (i := 7) (d := 12) ?_
    simp only [sz, ss]
    refine tq (i := 8) (d := 13) ?_
    simp only [sz, ss]
    refine wpAnyH_ready (rs := [9]) (by kernel_rfl) (by simp) ?_
    refine AllReadyH.cons rfl (fun K hK => ?_) AllReadyH.nil
    go_simp
    refine (l1In_any _ _ _ _).mono ?_
    rintro e w2 ⟨rfl, rfl⟩
    first | rw [hI] | (rw [hwr, hI])
    refine hK.out _ _ (by assumption) (fun hHeld => ?_)
    clear hK K
    refine tq (i := 10) (d := 15) ?_
    simp only [sz, ss]
    refine tq (i := 11) (d := 16) ?_
    simp only [sz, ss]
    refine tn (i := 12) (d := 17) ?_
    simp only [sz, ss]
    refine tn (i := 13) (d := 18) ?_
    simp only [sz, ss]
    refine tn (i := 14) (d := 19) ?_
    simp only [sz, ss]
    refine tn (i := 15) (d := 20) ?_
    simp only [sz, ss]
    refine tn (i := 16) (d := 21) ?_
    simp only [sz, ss]
    refine tn (i := 17) (d := 22) ?_
    simp only [sz, ss]
    refine tn (i := 18) (d := 23) ?_
    simp only [sz, ss]
    refine tq (i := 19) (d := 24) ?_
    simp only [sz, ss]
    refine tq (i := 20) (d := 25) ?_
    simp only [sz, ss]
    refine tn (i := 21) (d := 26) ?_
    simp only [sz, ss]
    refine tn (i := 22) (d := 27) ?_
    simp only [sz, ss]
    refine tn (i := 23) (d := 28) ?_
    simp only [sz, ss]
    refine tn (i := 24) (d := 29) ?_
    simp only [sz, ss]
    refine tn (i := 25) (d := 30) ?_
    simp only [sz, ss]
    refine tn (i := 26) (d := 31) ?_
    simp only [sz, ss]
    refine tn (i := 27) (d := 32) ?_
    simp only [sz, ss]
    refine tn (i := 28) (d := 33) ?_
    simp only [sz, ss]
    refine tn (i := 29) (d := 34) ?_
    simp only [sz, ss]
    refine tn (i := 30) (d := 35) ?_
    simp only [sz, ss]
    refine tq (i := 31) (d := 36) ?_
    simp only [sz, ss]
    refine tq (i := 32) (d := 4) ?_
    simp only [sz, ss]
    refine wpAnyH_done (by kernel_rfl) ?_ _
    go_wp2_with fail
    go_ret
    exact ⟨ret_bool H.out.symm, hB1.out⟩
end Go.Proofs.Ytcbomaflfjdmjaa
