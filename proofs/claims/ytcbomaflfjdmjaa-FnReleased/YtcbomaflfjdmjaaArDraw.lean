/- (*l1Rd).arena: some arena is drawn; it owns its memory. -/
import Derived.Test.YtcbomaflfjdmjaaArEx
import Derived.Test.YtcbomaflfjdmjaaTakeLit
import Derived.Deep.RegionHeld3
import Derived.Deep.DeepCutAuto
namespace Go.Proofs.Ytcbomaflfjdmjaa
open Go.RowKit Go.Deep
theorem tabA_pick {w : World} {g i : Nat} (h : Box w g [.string ⟨#[]⟩, .string ⟨#[97]⟩, .string ⟨#[98, 99]⟩, .string ⟨#[120, 32, 121]⟩] 9) (hi : i < 4) : ∃ s : ByteArray, w.cell? ⟨g, i, none⟩ = some (.string s) ∧ s.size ≤ 4 := by
  match i, hi with
  | 0, _ => exact ⟨_, h.cell 0 rfl, by decide⟩
  | 1, _ => exact ⟨_, h.cell 1 rfl, by decide⟩
  | 2, _ => exact ⟨_, h.cell 2 rfl, by decide⟩
  | 3, _ => exact ⟨_, h.cell 3 rfl, by decide⟩
def ArenaDrawn (w : World) (g : Nat) (a : Option Addr) (n cap : Nat) (e : Ending) (w' : World) : Prop := ∃ (k0 k1 : Value) (x : ArenaD), e = .returned (.agg #[k0, k1]) ∧ OwA (fun b => w.heap.size < b) w' k0 k1 x ∧ RdAt w' g a n cap ∧ w.grownBy w' (some g)
set_option maxRecDepth 100000 in
set_option maxHeartbeats 16000000 in
theorem drawArena_any {w : World} {g : Nat} {a : Option Addr} {n cap : Nat} (h : RdAt w g a n cap) :
    Calls Try.prog 27 #[.pointer (some ⟨g, 0, none⟩)] w fun e w' => ArenaDrawn w g a n cap e w' := by
  have hrd : Hid (RdAt w g a n cap) := h
  have hgl0 : g < w.heap.size := h.lt
  clear h
  have hb0 : Hid (Below w.heap.size w (w.alloc (.cells #[.slice none 0 0, .slice none 0 0] 27))) := (Below.refl _ _).alloc (Nat.le_refl _) _
  have bR0 : Hid (Box (w.alloc (.cells #[.slice none 0 0, .slice none 0 0] 27)) w.heap.size resA 27) := Box.new w _ _
  go_enter Try.func27, Try.ntmps27
  go_wp2_with fail
  refine (below_any (RdAt.below hrd.out hb0.out) 5 (by omega) (by omega)).mono ?_
  rintro e w1 ⟨v, rfl, v0, v1, hr1, hg1⟩
  have hr1' : Hid (RdAt w1 g a n cap) := hr1
  have hg1' : Hid (w.grownBy w1 (some g)) := (grown_of_below hb0.out _).trans hg1
  have bR1 : Hid (Box w1 w.heap.size resA 27) := box_other bR0.out (by omega) hg1
  have hw1 : IntKind.i64.wrap (1 + v) = 1 + v := by rw [IntKind.wrap_i64]; omega
  clear hr1 hg1 hb0 bR0 hrd
  go_wp2_with fail
  refine (specArenaNewS (n := 1 + v)).mono ?_
  rintro e w2 ⟨⟨cs, rfl, hans⟩, hb2⟩
  obtain ⟨p0, d0, p1, d1, rfl, ho2⟩ := OwA.of hans
  have hg2 : Hid (w.grownBy w2 (some g)) := hg1'.out.trans (grown_of_below hb2 _)
  have hr2 : Hid (RdAt w2 g a n cap) := hr1'.out.below hb2
  have bR2 : Hid (Box w2 w.heap.size resA 27) := bR1.out.below hb2 bR1.out.lt
  have hgood : Hid (1 ≤ (newA (1 + v)).1.vSlots.length ∧ (newA (1 + v)).1.vFree.length ≤ 13) := goodNew (by omega) (by omega)
  have hlt1 := bR1.out.lt
  have hs2 := hb2.size
  generalize (newA (1 + v)).2 = bnew at *
  generalize (newA (1 + v)).1 = x at *
  have hAA0 : Hid (AA w g a n cap w2.heap.size (.slice p0 x.vSlots.length d0) (.slice p1 x.vFree.length d1) x (w2.alloc (.cells #[.slice p0 x.vSlots.length d0, .slice p1 x.vFree.length d1] 27))) := by
    have hbA : Below w2.heap.size w2 (w2.alloc (.cells #[.slice p0 x.vSlots.length d0, .slice p1 x.vFree.length d1] 27)) := (Below.refl _ _).alloc (Nat.le_refl _) _
    exact ⟨bR2.out.alloc _, hr2.out.below hbA, hg2.out.trans (grown_of_below hbA _), by omega, by simp, hgl0, (ho2.mono (fun b q1 q2 => ⟨by omega, by omega⟩)).keep (fun b _ q2 => hbA.block b q2), Box.new w2 _ _⟩
  clear hans hb2 ho2 hg2 hr2 bR2 hr1' hg1' bR1 hw1 hlt1 hs2
  go_wp2_with fail
  generalize w2.alloc (.cells #[.slice p0 x.vSlots.length d0, .slice p1 x.vFree.length d1] 27) = w3 at *
  generalize w2.heap.size = T at *
  refine (below_any hAA0.out.2.1 12 (by omega) (by omega)).mono ?_
  rintro e w4 ⟨u, rfl, u0, u1, hr4, hg4⟩
  have hAA4 : Hid (AA w g a n cap T (.slice p0 x.vSlots.length d0) (.slice p1 x.vFree.length d1) x w4) := hAA0.out.grown hg4 hr4
  have hT0 : w.heap.size < T := hAA4.out.2.2.2.1
  clear hr4 hg4 hAA0
  go_wp2_with fail
  go_loopw [5] (fun iv wr => ∃ (i : Int) (p0 : Option Addr) (d0 : Nat) (p1 : Option Addr) (d1 : Nat) (x : ArenaD), 0 ≤ i ∧ i ≤ 11 ∧ iv = .int .i64 i ∧ Hid (AA w g a n cap T (.slice p0 x.vSlots.length d0) (.slice p1 x.vFree.length d1) x wr) ∧ Hid (1 ≤ x.vSlots.length ∧ x.vFree.length ≤ 13)) (fun iv _ => (intOf iv).toNat)
  case atStart => exact ⟨u, p0, d0, p1, d1, x, u0, by omega, rfl, hAA4, hgood⟩
  case round =>
    clear hAA4 hgood
    obtain ⟨i, p0, d0, p1, d1, x, i0, i1, rfl, hAA5, hgood⟩ := hrel
    have t0 := hAA5.out.2.2.2.2.2.2.2.cell 0 rfl
    have t1 := hAA5.out.2.2.2.2.2.2.2.cell 1 rfl
    by_cases hi : ¬ 0 < i
    · skip
      have hi3 : i = 0 := by omega
      subst hi3
      clear hi t0 t1
      go_wp2_with fail
      refine (below_any hAA5.out.2.1 30 (by omega) (by omega)).mono ?_
      rintro e w7 ⟨v7, rfl, v70, v71, hr7, hg7⟩
      have hAA7 : Hid (AA w g a n cap T (.slice p0 x.vSlots.length d0) (.slice p1 x.vFree.length d1) x w7) := hAA5.out.grown hg7 hr7
      have hT7 : T < w7.heap.size := hAA7.out.2.2.2.2.1
      clear hr7 hg7 hAA5
      by_cases e27 : v7 = 27
      · subst e27
        have hpos0 : 0 < x.vSlots.length := hgood.out.1
        obtain ⟨b, o, s0, rfl, hbT, hbl, hbg, z0, z1, zu, _, hsetb0⟩ := AA.slot0 hAA7.out hgood.out.1
        clear z0 z1 zu hsetb0
        have hAA8 : Hid (AA w g a n cap T (.slice (some ⟨b, o, none⟩) x.vSlots.length d0) (.slice p1 x.vFree.length d1) x w7.drew) := hAA7.out.below (Below.drew (Below.refl _ _))
        go_wp2_with fail
        refine wp_region_held_drew (S := fun w' => w'.cell? ⟨T, 0, none⟩ = some (.slice (some ⟨b, o, none⟩) x.vSlots.length d0) ∧ w'.cell? ⟨T, 1, none⟩ = some (.slice p1 x.vFree.length d1)) (by kernel_rfl) ⟨hAA8.out.2.2.2.2.2.2.2.cell 0 rfl, hAA8.out.2.2.2.2.2.2.2.cell 1 rfl⟩ (fun hHeld => ?_)
        refine tq (i := 0) (d := 65) ?_
        simp only [sz, ss]
        refine tq (i := 1) (d := 66) ?_
        simp only [sz, ss]
        refine tq (i := 2) (d := 67) ?_
        simp only [sz, ss]
        refine wpAnyH_ready (rs := [3]) (by kernel_rfl) (by simp) ?_
        refine AllReadyH.cons rfl (fun K hK => ?_) AllReadyH.nil
        go_simp
        refine (off_any (by exact hAA8.out.2.1) 1 1000000 (by omega) (by omega) (by omega) (by omega)).mono ?_
        rintro e w8 ⟨v8, rfl, hv8, hr8, hg8⟩
        have hg8' : Hid (w7.drew.grownBy w8 (some g)) := hg8
        have hAA9 : Hid (AA w g a n cap T (.slice (some ⟨b, o, none⟩) x.vSlots.length d0) (.slice p1 x.vFree.length d1) x w8) := hAA8.out.grown hg8'.out hr8
        obtain ⟨b', o', s', eb, hbT, hbl, hbg, z0, z1, zu, hset, _⟩ := AA.slot0 hAA9.out hgood.out.1
        injection eb with eb
        injection eb with eb1 eb2
        subst eb1 eb2
        have hv8' : Hid (InI v8) := hv8
        have hset' : Hid _ := hset
        clear hset hr8 hg8 hv8
        refine hK.out _ _ ⟨hAA9.out.2.2.2.2.2.2.2.cell 0 rfl, hAA9.out.2.2.2.2.2.2.2.cell 1 rfl⟩ (fun hHeld => ?_)
        clear hK K
        refine tq (i := 4) (d := 69) ?_
        simp only [sz, ss]
        refine tq (i := 5) (d := 70) ?_
        simp only [sz, ss]
        refine wpAnyH_ready (rs := [6]) (by kernel_rfl) (by simp) ?_
        refine AllReadyH.cons rfl (fun K hK => ?_) AllReadyH.nil
        have zu0 := zu o
        go_simp
        refine hK.out _ _ ⟨cell_set hHeld.1 (by omega) _, cell_set hHeld.2 (by omega) _⟩ (fun hHeld => ?_)
        clear hK K
        refine wpAnyH_done (by kernel_rfl) ?_ _
        obtain ⟨y, hy⟩ := hset'.out v8 hv8'.out
        have hAAf := toHid hy
        clear hHeld z0 z1 zu zu0 hy hset'
        obtain ⟨y0, y1⟩ : _ ∧ _ := ⟨hAAf.out.2.2.2.2.2.2.2.cell 0 rfl, hAAf.out.2.2.2.2.2.2.2.cell 1 rfl⟩
        have r0 := hAAf.out.1.cell 0 rfl
        have r1 := hAAf.out.1.cell 1 rfl
        have fR := hAAf.out.1.unfrozen
        have hRT : ¬ T = w.heap.size := by omega
        go_wp2_with fail
        obtain ⟨d1_, d2_, d3_⟩ := AA.done hAAf.out
        exact bodyPost_ret (v := .agg (List.toArray [.slice (some ⟨b, o, none⟩) x.vSlots.length d0, .slice p1 x.vFree.length d1])) (by simp [results, Try.results27, go_sem, r0, r1]) rfl ⟨_, _, _, rfl, d1_, d2_, d3_⟩
      by_cases e28 : v7 = 28
      · subst e28
        have hAA8 : Hid (AA w g a n cap T (.slice p0 x.vSlots.length d0) (.slice p1 x.vFree.length d1) x w7.drew) := hAA7.out.below (Below.drew (Below.refl _ _))
        obtain ⟨f0_, f1_, ys, _, _, _, _, q5, q6⟩ := hAA7.out.2.2.2.2.2.2.1
        have hrow : Hid (w7.ownsRow (w.heap.size + 1) 2 1 (.slice p1 x.vFree.length d1) x.vFree.length ys) := row_hi q5 (fun c e => (q6 c e).1.1)
        have hkb : Hid (∀ c, Value.ownBlock (.slice p1 x.vFree.length d1) = some c → w.heap.size < c ∧ c < w7.heap.size) := fun c e => ⟨(q6 c e).1.1, row_lt q5 c e⟩
        have hkT : Hid (Value.ownBlock (.slice p1 x.vFree.length d1) = some T → False) := fun e => (q6 T e).1.2 rfl
        clear q5 q6
        obtain ⟨iI, hI0, hI1, hI2, hI3⟩ := infoI2
        have hiI : Hid (Try.prog.info? 2 = some iI) := hI0
        have heI : Hid (iI.zero = some (.int .i64 0) ∧ iI.size = 1 ∧ iI.bytes = 8) := ⟨hI1, hI2, hI3⟩
        clear hI0 hI1 hI2 hI3
        go_wp2_with fail
        refine wp_region_held_drew (S := fun w' => True) (by kernel_rfl) trivial (fun hHeld => ?_)
        refine tq (i := 0) (d := 73) ?_
        simp only [sz, ss]
        refine tq (i := 2) (d := 75) ?_
        simp only [sz, ss]
        refine wpAnyH_ready (rs := [1, 3]) (by kernel_rfl) (by simp) ?_
        refine (AllReadyH.cons rfl (fun K hK => ?_) (AllReadyH.cons rfl (fun K hK => ?_) AllReadyH.nil))
        · have cT : w7.drew.cell? ⟨T, 1, none⟩ = some (.slice p1 x.vFree.length d1) := hAA8.out.2.2.2.2.2.2.2.cell 1 rfl
          go_simp
          clear cT
          refine hK.out _ _ trivial (fun hHeld => ?_)
          clear hK K
          refine wpAnyH_ready (rs := [3]) (by kernel_rfl) (by simp) ?_
          refine AllReadyH.cons rfl (fun K hK => ?_) AllReadyH.nil
          go_simp
          refine (off_any (by exact hAA8.out.2.1) 0 3 (by omega) (by omega) (by omega) (by omega)).mono ?_
          rintro e w8 ⟨v8, rfl, hv8, hr8, hg8⟩
          have hg8' : Hid (w7.drew.grownBy w8 (some g)) := hg8
          have hr8' : Hid (RdAt w8 g a n cap) := hr8
          have hv8' : Hid (InI v8) := hv8
          have bT8 : Hid (Box w8 T [.slice p0 x.vSlots.length d0, .slice p1 x.vFree.length d1] 27) := box_other hAA8.out.2.2.2.2.2.2.2 (by omega) hg8'.out
          have hz8 : w7.heap.size ≤ w8.heap.size := hg8'.out.size
          clear hr8 hg8 hv8
          refine hK.out _ _ trivial (fun hHeld => ?_)
          clear hK K
          refine wpAnyH_ready (rs := [4]) (by kernel_rfl) (by simp) ?_
          refine AllReadyH.cons rfl (fun K hK => ?_) AllReadyH.nil
          go_simp
          refine hK.out _ _ trivial (fun hHeld => ?_)
          clear hK K
          refine wpAnyH_ready (rs := [5]) (by kernel_rfl) (by simp) ?_
          refine AllReadyH.cons rfl (fun K hK => ?_) AllReadyH.nil
          refine step_append_lies (w8.alloc (.cells #[.int .i64 v8] 2)) rfl _ _ 25 rfl _ 2 iI _ 1 8 Try.underlying25 hiI.out heI.out.1 heI.out.2.1 heI.out.2.2 rfl (by decide) (.slice p1 x.vFree.length d1) x.vFree.length ys rfl (row_keep (w := w7) hrow.out (fun c e => (Below.heap_alloc _ _ _ (by have := hkb.out c e; omega)).trans (hg8'.out.block c (hkb.out c e).2 (fun e2 => by injection e2 with e2; have := (hkb.out c e).1; omega)))) ⟨w8.heap.size, 0, none⟩ 1 1 [.int .i64 v8] rfl rfl (by intro i u hu; match i, hu with | 0, hu => (simp at hu; subst hu; simp [Addr.add]) | i + 1, hu => simp at hu) (by intro u hu; simp at hu; rw [hu]; rfl) (by omega) (by unfold maxLen; have := hgood.out.2; omega) (by have := hgood.out.2; omega) (by simp; omega) _ rfl ?_
          intro g3 capg w9 hown9 hgrow9 hat9 hlt9
          have bT9 : Hid (Box w9 T [.slice p0 x.vSlots.length d0, .slice p1 x.vFree.length d1] 27) := (hgrow9.block T (by simp; omega) (by intro e; have := (hkb.out T e.symm).1; exact (hkT.out e.symm))).trans (bT8.out.alloc _)
          go_simp
          refine hK.out _ _ trivial (fun hHeld => ?_)
          clear hK K
          refine tq (i := 6) (d := 79) ?_
          simp only [sz, ss]
          refine wpAnyH_ready (rs := [7]) (by kernel_rfl) (by simp) ?_
          refine AllReadyH.cons rfl (fun K hK => ?_) AllReadyH.nil
          have cT9 := bT9.out.cell 1 rfl
          have fT9 := bT9.out.unfrozen 1
          go_simp
          refine hK.out _ _ trivial (fun hHeld => ?_)
          clear hK K
          refine wpAnyH_done (by kernel_rfl) ?_ _
          obtain ⟨y, hy⟩ := AA.append hAA8.out (by exact row_lo hrow.out (Nat.zero_le _)) hg8'.out hr8'.out hv8'.out hown9 hgrow9 hat9
          have hAAf := toHid hy
          clear hHeld hown9 hgrow9 hat9 hlt9 cT9 fT9 hy
          obtain ⟨y0, y1⟩ : _ ∧ _ := ⟨hAAf.out.2.2.2.2.2.2.2.cell 0 rfl, hAAf.out.2.2.2.2.2.2.2.cell 1 rfl⟩
          have r0 := hAAf.out.1.cell 0 rfl
          have r1 := hAAf.out.1.cell 1 rfl
          have fR := hAAf.out.1.unfrozen
          have hRT : ¬ T = w.heap.size := by omega
          go_wp2_with fail
          obtain ⟨d1_, d2_, d3_⟩ := AA.done hAAf.out
          exact bodyPost_ret (v := .agg (List.toArray [.slice p0 x.vSlots.length d0, .slice (some ⟨g3, 0, none⟩) (x.vFree.length + 1) capg])) (by simp [results, Try.results27, go_sem, r0, r1]) rfl ⟨_, _, _, rfl, d1_, d2_, d3_⟩
        · go_simp
          refine (off_any (by exact hAA8.out.2.1) 0 3 (by omega) (by omega) (by omega) (by omega)).mono ?_
          rintro e w8 ⟨v8, rfl, hv8, hr8, hg8⟩
          have hg8' : Hid (w7.drew.grownBy w8 (some g)) := hg8
          have hr8' : Hid (RdAt w8 g a n cap) := hr8
          have hv8' : Hid (InI v8) := hv8
          have bT8 : Hid (Box w8 T [.slice p0 x.vSlots.length d0, .slice p1 x.vFree.length d1] 27) := box_other hAA8.out.2.2.2.2.2.2.2 (by omega) hg8'.out
          have hz8 : w7.heap.size ≤ w8.heap.size := hg8'.out.size
          clear hr8 hg8 hv8
          refine hK.out _ _ trivial (fun hHeld => ?_)
          clear hK K
          refine wpAnyH_ready (rs := [1, 4]) (by kernel_rfl) (by simp) ?_
          refine (AllReadyH.cons rfl (fun K hK => ?_) (AllReadyH.cons rfl (fun K hK => ?_) AllReadyH.nil))
          · have cT : w8.cell? ⟨T, 1, none⟩ = some (.slice p1 x.vFree.length d1) := bT8.out.cell 1 rfl
            go_simp
            clear cT
            refine hK.out _ _ trivial (fun hHeld => ?_)
            clear hK K
            refine wpAnyH_ready (rs := [4]) (by kernel_rfl) (by simp) ?_
            refine AllReadyH.cons rfl (fun K hK => ?_) AllReadyH.nil
            go_simp
            refine hK.out _ _ trivial (fun hHeld => ?_)
            clear hK K
            refine wpAnyH_ready (rs := [5]) (by kernel_rfl) (by simp) ?_
            refine AllReadyH.cons rfl (fun K hK => ?_) AllReadyH.nil
            refine step_append_lies (w8.alloc (.cells #[.int .i64 v8] 2)) rfl _ _ 25 rfl _ 2 iI _ 1 8 Try.underlying25 hiI.out heI.out.1 heI.out.2.1 heI.out.2.2 rfl (by decide) (.slice p1 x.vFree.length d1) x.vFree.length ys rfl (row_keep (w := w7) hrow.out (fun c e => (Below.heap_alloc _ _ _ (by have := hkb.out c e; omega)).trans (hg8'.out.block c (hkb.out c e).2 (fun e2 => by injection e2 with e2; have := (hkb.out c e).1; omega)))) ⟨w8.heap.size, 0, none⟩ 1 1 [.int .i64 v8] rfl rfl (by intro i u hu; match i, hu with | 0, hu => (simp at hu; subst hu; simp [Addr.add]) | i + 1, hu => simp at hu) (by intro u hu; simp at hu; rw [hu]; rfl) (by omega) (by unfold maxLen; have := hgood.out.2; omega) (by have := hgood.out.2; omega) (by simp; omega) _ rfl ?_
            intro g3 capg w9 hown9 hgrow9 hat9 hlt9
            have bT9 : Hid (Box w9 T [.slice p0 x.vSlots.length d0, .slice p1 x.vFree.length d1] 27) := (hgrow9.block T (by simp; omega) (by intro e; have := (hkb.out T e.symm).1; exact (hkT.out e.symm))).trans (bT8.out.alloc _)
            go_simp
            refine hK.out _ _ trivial (fun hHeld => ?_)
            clear hK K
            refine tq (i := 6) (d := 79) ?_
            simp only [sz, ss]
            refine wpAnyH_ready (rs := [7]) (by kernel_rfl) (by simp) ?_
            refine AllReadyH.cons rfl (fun K hK => ?_) AllReadyH.nil
            have cT9 := bT9.out.cell 1 rfl
            have fT9 := bT9.out.unfrozen 1
            go_simp
            refine hK.out _ _ trivial (fun hHeld => ?_)
            clear hK K
            refine wpAnyH_done (by kernel_rfl) ?_ _
            obtain ⟨y, hy⟩ := AA.append hAA8.out (by exact row_lo hrow.out (Nat.zero_le _)) hg8'.out hr8'.out hv8'.out hown9 hgrow9 hat9
            have hAAf := toHid hy
            clear hHeld hown9 hgrow9 hat9 hlt9 cT9 fT9 hy
            obtain ⟨y0, y1⟩ : _ ∧ _ := ⟨hAAf.out.2.2.2.2.2.2.2.cell 0 rfl, hAAf.out.2.2.2.2.2.2.2.cell 1 rfl⟩
            have r0 := hAAf.out.1.cell 0 rfl
            have r1 := hAAf.out.1.cell 1 rfl
            have fR := hAAf.out.1.unfrozen
            have hRT : ¬ T = w.heap.size := by omega
            go_wp2_with fail
            obtain ⟨d1_, d2_, d3_⟩ := AA.done hAAf.out
            exact bodyPost_ret (v := .agg (List.toArray [.slice p0 x.vSlots.length d0, .slice (some ⟨g3, 0, none⟩) (x.vFree.length + 1) capg])) (by simp [results, Try.results27, go_sem, r0, r1]) rfl ⟨_, _, _, rfl, d1_, d2_, d3_⟩
          · go_simp
            refine hK.out _ _ trivial (fun hHeld => ?_)
            clear hK K
            refine wpAnyH_ready (rs := [1]) (by kernel_rfl) (by simp) ?_
            refine AllReadyH.cons rfl (fun K hK => ?_) AllReadyH.nil
            have cT : (w8.alloc (.cells #[.int .i64 v8] 2)).cell? ⟨T, 1, none⟩ = some (.slice p1 x.vFree.length d1) := (bT8.out.alloc _).cell 1 rfl
            go_simp
            clear cT
            refine hK.out _ _ trivial (fun hHeld => ?_)
            clear hK K
            refine wpAnyH_ready (rs := [5]) (by kernel_rfl) (by simp) ?_
            refine AllReadyH.cons rfl (fun K hK => ?_) AllReadyH.nil
            refine step_append_lies (w8.alloc (.cells #[.int .i64 v8] 2)) rfl _ _ 25 rfl _ 2 iI _ 1 8 Try.underlying25 hiI.out heI.out.1 heI.out.2.1 heI.out.2.2 rfl (by decide) (.slice p1 x.vFree.length d1) x.vFree.length ys rfl (row_keep (w := w7) hrow.out (fun c e => (Below.heap_alloc _ _ _ (by have := hkb.out c e; omega)).trans (hg8'.out.block c (hkb.out c e).2 (fun e2 => by injection e2 with e2; have := (hkb.out c e).1; omega)))) ⟨w8.heap.size, 0, none⟩ 1 1 [.int .i64 v8] rfl rfl (by intro i u hu; match i, hu with | 0, hu => (simp at hu; subst hu; simp [Addr.add]) | i + 1, hu => simp at hu) (by intro u hu; simp at hu; rw [hu]; rfl) (by omega) (by unfold maxLen; have := hgood.out.2; omega) (by have := hgood.out.2; omega) (by simp; omega) _ rfl ?_
            intro g3 capg w9 hown9 hgrow9 hat9 hlt9
            have bT9 : Hid (Box w9 T [.slice p0 x.vSlots.length d0, .slice p1 x.vFree.length d1] 27) := (hgrow9.block T (by simp; omega) (by intro e; have := (hkb.out T e.symm).1; exact (hkT.out e.symm))).trans (bT8.out.alloc _)
            go_simp
            refine hK.out _ _ trivial (fun hHeld => ?_)
            clear hK K
            refine tq (i := 6) (d := 79) ?_
            simp only [sz, ss]
            refine wpAnyH_ready (rs := [7]) (by kernel_rfl) (by simp) ?_
            refine AllReadyH.cons rfl (fun K hK => ?_) AllReadyH.nil
            have cT9 := bT9.out.cell 1 rfl
            have fT9 := bT9.out.unfrozen 1
            go_simp
            refine hK.out _ _ trivial (fun hHeld => ?_)
            clear hK K
            refine wpAnyH_done (by kernel_rfl) ?_ _
            obtain ⟨y, hy⟩ := AA.append hAA8.out (by exact row_lo hrow.out (Nat.zero_le _)) hg8'.out hr8'.out hv8'.out hown9 hgrow9 hat9
            have hAAf := toHid hy
            clear hHeld hown9 hgrow9 hat9 hlt9 cT9 fT9 hy
            obtain ⟨y0, y1⟩ : _ ∧ _ := ⟨hAAf.out.2.2.2.2.2.2.2.cell 0 rfl, hAAf.out.2.2.2.2.2.2.2.cell 1 rfl⟩
            have r0 := hAAf.out.1.cell 0 rfl
            have r1 := hAAf.out.1.cell 1 rfl
            have fR := hAAf.out.1.unfrozen
            have hRT : ¬ T = w.heap.size := by omega
            go_wp2_with fail
            obtain ⟨d1_, d2_, d3_⟩ := AA.done hAAf.out
            exact bodyPost_ret (v := .agg (List.toArray [.slice p0 x.vSlots.length d0, .slice (some ⟨g3, 0, none⟩) (x.vFree.length + 1) capg])) (by simp [results, Try.results27, go_sem, r0, r1]) rfl ⟨_, _, _, rfl, d1_, d2_, d3_⟩
      by_cases e29 : v7 = 29
      · subst e29
        have hpos0 : 0 < x.vSlots.length := hgood.out.1
        obtain ⟨b, o, s0, rfl, hbT, hbl, hbg, z0, z1, zu, _, hsetb0⟩ := AA.slot0 hAA7.out hgood.out.1
        have hsetb := toHid hsetb0
        clear hsetb0
        have hAA8 : Hid (AA w g a n cap T (.slice (some ⟨b, o, none⟩) x.vSlots.length d0) (.slice p1 x.vFree.length d1) x w7.drew) := hAA7.out.below (Below.drew (Below.refl _ _))
        go_wp2_with fail
        refine wp_region_held_drew (S := fun w' => w'.cell? ⟨T, 0, none⟩ = some (.slice (some ⟨b, o, none⟩) x.vSlots.length d0) ∧ w'.cell? ⟨T, 1, none⟩ = some (.slice p1 x.vFree.length d1)) (by kernel_rfl) ⟨hAA8.out.2.2.2.2.2.2.2.cell 0 rfl, hAA8.out.2.2.2.2.2.2.2.cell 1 rfl⟩ (fun hHeld => ?_)
        refine tq (i := 0) (d := 82) ?_
        simp only [sz, ss]
        refine tq (i := 1) (d := 83) ?_
        simp only [sz, ss]
        refine tq (i := 2) (d := 84) ?_
        simp only [sz, ss]
        refine tq (i := 3) (d := 85) ?_
        simp only [sz, ss]
        refine tq (i := 4) (d := 86) ?_
        simp only [sz, ss]
        refine tq (i := 5) (d := 87) ?_
        simp only [sz, ss]
        refine wpAnyH_ready (rs := [6]) (by kernel_rfl) (by simp) ?_
        refine AllReadyH.cons rfl (fun K hK => ?_) AllReadyH.nil
        have z1d : w7.drew.cell? ⟨b, o + 1, none⟩ = some (.bool s0.vUsed) := z1
        go_simp
        clear z1d
        refine hK.out _ _ hHeld (fun hHeld => ?_)
        clear hK K
        refine tq (i := 7) (d := 89) ?_
        simp only [sz, ss]
        refine tq (i := 8) (d := 90) ?_
        simp only [sz, ss]
        refine tq (i := 9) (d := 91) ?_
        simp only [sz, ss]
        refine wpAnyH_ready (rs := [10]) (by kernel_rfl) (by simp) ?_
        refine AllReadyH.cons rfl (fun K hK => ?_) AllReadyH.nil
        have zu1 := zu (o + 1)
        go_simp
        refine hK.out _ _ ⟨cell_set hHeld.1 (by omega) _, cell_set hHeld.2 (by omega) _⟩ (fun hHeld => ?_)
        clear hK K
        refine wpAnyH_done (by kernel_rfl) ?_ _
        obtain ⟨y, hy⟩ := hsetb.out (!s0.vUsed)
        have hAAf := toHid hy
        clear hHeld z0 z1 zu zu1 hy hsetb
        obtain ⟨y0, y1⟩ : _ ∧ _ := ⟨hAAf.out.2.2.2.2.2.2.2.cell 0 rfl, hAAf.out.2.2.2.2.2.2.2.cell 1 rfl⟩
        have r0 := hAAf.out.1.cell 0 rfl
        have r1 := hAAf.out.1.cell 1 rfl
        have fR := hAAf.out.1.unfrozen
        have hRT : ¬ T = w.heap.size := by omega
        go_wp2_with fail
        obtain ⟨d1_, d2_, d3_⟩ := AA.done (AA.below hAAf.out (Below.drew (Below.refl _ _)))
        exact bodyPost_ret (v := .agg (List.toArray [.slice (some ⟨b, o, none⟩) x.vSlots.length d0, .slice p1 x.vFree.length d1])) (by simp [results, Try.results27, go_sem, r0, r1]) rfl ⟨_, _, _, rfl, d1_, d2_, d3_⟩
      obtain ⟨y0, y1⟩ : _ ∧ _ := ⟨hAA7.out.2.2.2.2.2.2.2.cell 0 rfl, hAA7.out.2.2.2.2.2.2.2.cell 1 rfl⟩
      have r0 := hAA7.out.1.cell 0 rfl
      have r1 := hAA7.out.1.cell 1 rfl
      have fR := hAA7.out.1.unfrozen
      have hRT : ¬ T = w.heap.size := by omega
      go_wp2_with fail
      obtain ⟨d1_, d2_, d3_⟩ := AA.done hAA7.out
      exact bodyPost_ret (v := .agg (List.toArray [.slice p0 x.vSlots.length d0, .slice p1 x.vFree.length d1])) (by simp [results, Try.results27, go_sem, r0, r1]) rfl ⟨_, _, _, rfl, d1_, d2_, d3_⟩
    have hi2 : 0 < i := by omega
    clear hi
    go_wp2_with fail
    refine (specHandlesOf_any hAA5.out.2.2.2.2.2.2.1.at).mono ?_
    rintro e w5 ⟨⟨kl, fl, rfl, ownL, _, loL⟩, hb5⟩
    have hAA6 : Hid (AA w g a n cap T (.slice p0 x.vSlots.length d0) (.slice p1 x.vFree.length d1) x w5) := hAA5.out.below hb5
    have hlT : T < wr.heap.size := hAA5.out.2.2.2.2.1
    have hH : Hid (SeqAt 2 HandleAt w5 (w.heap.size + 1) kl (handlesD x)) := ownL.at HandleOwn_at (fun b q => by have := loL b q; omega)
    have hfew : (handlesD x).length ≤ 12 := handlesD_few x
    obtain ⟨ah, ch, rfl⟩ := ownL.form
    generalize handlesD x = hl at hH hfew ⊢
    clear ownL loL hb5 hAA5 t0 t1 hlT
    go_upto_region 6 with fail
    go_cut [33] (fun v wx => ∃ bv : Bool, v = .bool bv ∧ (bv = true → 0 < hl.length) ∧ Hid (AA w g a n cap T (.slice p0 x.vSlots.length d0) (.slice p1 x.vFree.length d1) x wx) ∧ Hid (SeqAt 2 HandleAt wx (w.heap.size + 1) (.slice ah hl.length ch) hl))
    case first =>
      by_cases hz : hl.length = 0
      · have hz' : ¬ (0 : Int) < (hl.length : Int) := by omega
        clear hz
        go_wp2_with fail
        go_meet
        exact ⟨false, rfl, (fun h => by cases h), hAA6, hH⟩
      · have hz' : (0 : Int) < (hl.length : Int) := by omega
        go_wp2_with fail
        refine (once_any hAA6.out.2.1 2 (by omega) (by omega)).mono ?_
        rintro e w6 ⟨v6, rfl, hr6, hg6⟩
        have hAA7 : Hid (AA w g a n cap T (.slice p0 x.vSlots.length d0) (.slice p1 x.vFree.length d1) x w6) := hAA6.out.grown hg6 hr6
        have hH7 : Hid (SeqAt 2 HandleAt w6 (w.heap.size + 1) (.slice ah hl.length ch) hl) := seq_grown HandleAt_stays hH.out hg6 (by omega)
        clear hr6 hg6
        go_wp2_with fail
        go_meet
        exact ⟨v6, rfl, fun _ => by omega, hAA7, hH7⟩
    obtain ⟨bv, rfl, hpos, hAA7, hH7⟩ := hcut
    clear hAA6 hH
    have hAA6 : Hid (AA w g a n cap T (.slice p0 x.vSlots.length d0) (.slice p1 x.vFree.length d1) x wc) := hAA7
    clear hAA7
    generalize wc = w6 at *
    have hT6 : T < w6.heap.size := hAA6.out.2.2.2.2.1
    cases bv
    rotate_left
    · have hpos' := hpos rfl
      obtain ⟨ah', ch', e, _, hx⟩ := hH7.out
      injection e with e1 e2 e3
      subst e1 e3
      obtain ⟨bH, oH, rfl, hloH, hltH, hcH⟩ := hx hpos'
      have hcells : Hid (∀ i, (q : i < hl.length) → ∀ W, w6.grownBy W (some g) → W.cell? ⟨bH, oH + i * 2, none⟩ = some (.int .i64 hl[i].vAt) ∧ W.cell? ⟨bH, oH + i * 2 + 1, none⟩ = some (.int .i64 hl[i].vGen)) := fun i q W hg => by
        obtain ⟨cs, _, lie, e, _⟩ := hcH i q
        subst e
        have z0 := lie 0 (by simp)
        have z1 := lie 1 (by simp)
        simp only [List.getElem?_cons_zero, List.getElem?_cons_succ, Nat.add_zero] at z0 z1
        exact ⟨cell_grown z0 hg (by intro e; injection e; omega), cell_grown z1 hg (by intro e; injection e; omega)⟩
      clear hH7 hpos hx hcH hloH hltH
      go_upto_region 7 with fail
      go_cut [7, 8] (fun sP sB wx => ∃ (N : Nat) (pW : Option Addr) (dW : Nat) (qW : Option Addr) (eW : Nat) (y : ArenaD) (bb : Bool), sP = .pointer (some ⟨N, 0, none⟩) ∧ sB = .bool bb ∧ Hid (AA w g a n cap T (.slice p0 x.vSlots.length d0) (.slice p1 x.vFree.length d1) x wx) ∧ Hid (OwA (fun b => w.heap.size < b ∧ b ≠ T) wx (.slice pW y.vSlots.length dW) (.slice qW y.vFree.length eW) y) ∧ Hid (Box wx N [.slice pW y.vSlots.length dW, .slice qW y.vFree.length eW] 27) ∧ (bb = true → 1 ≤ y.vSlots.length ∧ y.vFree.length ≤ 13))
      case first =>
        have s0 := toHid (RS.start hAA6.out.2.1)
        have hgl : g < w6.heap.size := hAA6.out.2.1.lt
        have hKT : Hid (∀ W, w6.grownBy W (some g) → W.cell? ⟨T, 0, none⟩ = some (.slice p0 x.vSlots.length d0) ∧ W.cell? ⟨T, 1, none⟩ = some (.slice p1 x.vFree.length d1)) := fun W hg => ⟨cell_grown (hAA6.out.2.2.2.2.2.2.2.cell 0 rfl) hg (by intro e; injection e; omega), cell_grown (hAA6.out.2.2.2.2.2.2.2.cell 1 rfl) hg (by intro e; injection e; omega)⟩
        refine wp_region_held_drew (S := fun w' => w'.cell? ⟨T, 0, none⟩ = some (.slice p0 x.vSlots.length d0) ∧ w'.cell? ⟨T, 1, none⟩ = some (.slice p1 x.vFree.length d1)) (by kernel_rfl) (hKT.out _ s0.out.1) (fun hHeld => ?_)
        refine tq (i := 0) (d := 35) ?_
        simp only [sz, ss]
        refine tq (i := 1) (d := 36) ?_
        simp only [sz, ss]
        refine tq (i := 2) (d := 37) ?_
        simp only [sz, ss]
        refine tq (i := 3) (d := 38) ?_
        simp only [sz, ss]
        refine tq (i := 4) (d := 39) ?_
        simp only [sz, ss]
        refine wpAnyH_ready (rs := [5, 12]) (by kernel_rfl) (by simp) ?_
        refine (AllReadyH.cons rfl (fun K hK => ?_) (AllReadyH.cons rfl (fun K hK => ?_) AllReadyH.nil))
        · go_simp
          refine (below_any (by exact s0.out.2.1) (hl.length : Int) (by omega) (by omega)).mono ?_
          rintro e u5 ⟨v5, rfl, v50, v51, hr5, hg5⟩
          obtain ⟨k5, rfl⟩ := Int.eq_ofNat_of_zero_le v50
          have hk5 : k5 < hl.length := by omega
          have s1 := toHid (s0.out.grown hg5 hr5)
          clear hr5 hg5
          refine hK.out _ _ (hKT.out _ s1.out.1) (fun hHeld => ?_)
          clear hK K
          refine tq (i := 6) (d := 41) ?_
          simp only [sz, ss]
          refine wpAnyH_ready (rs := [7, 12]) (by kernel_rfl) (by simp) ?_
          refine (AllReadyH.cons rfl (fun K hK => ?_) (AllReadyH.cons rfl (fun K hK => ?_) AllReadyH.nil))
          · obtain ⟨c70, c71⟩ := hcells.out k5 hk5 _ s1.out.1
            generalize hl[k5].vAt = hA at c70
            generalize hl[k5].vGen = hX at c71
            go_simp
            clear c70 c71
            refine hK.out _ _ (hKT.out _ s1.out.1) (fun hHeld => ?_)
            clear hK K
            refine wpAnyH_ready (rs := [8, 12]) (by kernel_rfl) (by simp) ?_
            refine (AllReadyH.cons rfl (fun K hK => ?_) (AllReadyH.cons rfl (fun K hK => ?_) AllReadyH.nil))
            · go_simp
              refine (specReleasedS (by exact (AA.grown hAA6.out s1.out.1 s1.out.2.1).2.2.2.2.2.2.1.at)).mono ?_
              rintro e u8 ⟨⟨csW, rfl, hansW⟩, hb8⟩
              obtain ⟨pW, dW, qW, eW, rfl, hoW⟩ := RA.of s1.out hansW
              have r2 := toHid (hoW)
              have s2 := toHid (s1.out.below hb8)
              clear hb8 hoW hansW
              refine hK.out _ _ (hKT.out _ s2.out.1) (fun hHeld => ?_)
              clear hK K
              refine tq (i := 9) (d := 34) ?_
              simp only [sz, ss]
              refine tq (i := 10) (d := 44) ?_
              simp only [sz, ss]
              refine tq (i := 11) (d := 45) ?_
              simp only [sz, ss]
              refine wpAnyH_ready (rs := [12]) (by kernel_rfl) (by simp) ?_
              refine AllReadyH.cons rfl (fun K hK => ?_) AllReadyH.nil
              go_simp
              have s3 := toHid (RS.allocAt s2.out (u8.heap.size) (by simp) [.slice none 0 0, .slice none 0 0] 27)
              have r3 := toHid (RA.allocAt r2.out (u8.heap.size) (by simp) [.slice none 0 0, .slice none 0 0] 27)
              refine hK.out _ _ (hKT.out _ s3.out.1) (fun hHeld => ?_)
              clear hK K
              refine wpAnyH_ready (rs := [13]) (by kernel_rfl) (by simp) ?_
              refine AllReadyH.cons rfl (fun K hK => ?_) AllReadyH.nil
              go_simp
              have s4 := toHid (RS.allocAt s2.out (u8.heap.size) (by simp) [.slice pW (releasedD x hA hX).1.vSlots.length dW, .slice qW (releasedD x hA hX).1.vFree.length eW] 27)
              have r4 := toHid (RA.allocAt r2.out (u8.heap.size) (by simp) [.slice pW (releasedD x hA hX).1.vSlots.length dW, .slice qW (releasedD x hA hX).1.vFree.length eW] 27)
              refine hK.out _ _ (hKT.out _ s4.out.1) (fun hHeld => ?_)
              clear hK K
              refine tq (i := 14) (d := 8) ?_
              simp only [sz, ss]
              refine wpAnyH_done (by kernel_rfl) ?_ _
              have hoF : Hid (OwA (fun b => w.heap.size < b ∧ b ≠ T) _ _ _ (releasedD x hA hX).1) := OwA.mono r4.out (fun b _ qb => ⟨by have := qb.1; omega, by have := qb.1; omega⟩)
              have hAF := toHid (AA.grown hAA6.out s4.out.1 s4.out.2.1)
              have hNF := toHid (RS.box (l := []) s4.out)
              clear hHeld
              go_wp2_with fail
              go_meet
              exact ⟨_, _, _, _, _, (releasedD x hA hX).1, (releasedD x hA hX).2, rfl, rfl, hAF, hoF, hNF, fun hb => goodRel hgood.out hb⟩
            · go_simp
              have s2 := toHid (RS.allocAt s1.out (u5.heap.size) (by simp) [.slice none 0 0, .slice none 0 0] 27)
              refine hK.out _ _ (hKT.out _ s2.out.1) (fun hHeld => ?_)
              clear hK K
              refine wpAnyH_ready (rs := [8]) (by kernel_rfl) (by simp) ?_
              refine AllReadyH.cons rfl (fun K hK => ?_) AllReadyH.nil
              go_simp
              refine (specReleasedS (by exact (AA.grown hAA6.out s2.out.1 s2.out.2.1).2.2.2.2.2.2.1.at)).mono ?_
              rintro e u8 ⟨⟨csW, rfl, hansW⟩, hb8⟩
              obtain ⟨pW, dW, qW, eW, rfl, hoW⟩ := RA.of s2.out hansW
              have r3 := toHid (hoW)
              have s3 := toHid (s2.out.below hb8)
              clear hb8 hoW hansW
              refine hK.out _ _ (hKT.out _ s3.out.1) (fun hHeld => ?_)
              clear hK K
              refine tq (i := 9) (d := 34) ?_
              simp only [sz, ss]
              refine tq (i := 10) (d := 44) ?_
              simp only [sz, ss]
              refine tq (i := 11) (d := 45) ?_
              simp only [sz, ss]
              refine wpAnyH_ready (rs := [13]) (by kernel_rfl) (by simp) ?_
              refine AllReadyH.cons rfl (fun K hK => ?_) AllReadyH.nil
              have bq := RS.box (l := []) s3.out
              have n0 := bq.cell 0 rfl
              have n1 := bq.cell 1 rfl
              have nu := bq.unfrozen
              go_simp
              have s4 := toHid (RS.put (l := []) s3.out (.slice pW (releasedD x hA hX).1.vSlots.length dW) (.slice qW (releasedD x hA hX).1.vFree.length eW))
              have r4 := toHid (RA.put (l := []) r3.out [.slice pW (releasedD x hA hX).1.vSlots.length dW, .slice qW (releasedD x hA hX).1.vFree.length eW] (.slice pW (releasedD x hA hX).1.vSlots.length dW) (.slice qW (releasedD x hA hX).1.vFree.length eW))
              clear n0 n1 nu bq
              refine hK.out _ _ (hKT.out _ s4.out.1) (fun hHeld => ?_)
              clear hK K
              refine tq (i := 14) (d := 8) ?_
              simp only [sz, ss]
              refine wpAnyH_done (by kernel_rfl) ?_ _
              have hoF : Hid (OwA (fun b => w.heap.size < b ∧ b ≠ T) _ _ _ (releasedD x hA hX).1) := OwA.mono r4.out (fun b _ qb => ⟨by have := qb.1; omega, by have := qb.1; omega⟩)
              have hAF := toHid (AA.grown hAA6.out s4.out.1 s4.out.2.1)
              have hNF := toHid (RS.box (l := []) s4.out)
              clear hHeld
              go_wp2_with fail
              go_meet
              exact ⟨_, _, _, _, _, (releasedD x hA hX).1, (releasedD x hA hX).2, rfl, rfl, hAF, hoF, hNF, fun hb => goodRel hgood.out hb⟩
          · go_simp
            have s2 := toHid (RS.allocAt s1.out (u5.heap.size) (by simp) [.slice none 0 0, .slice none 0 0] 27)
            refine hK.out _ _ (hKT.out _ s2.out.1) (fun hHeld => ?_)
            clear hK K
            refine wpAnyH_ready (rs := [7]) (by kernel_rfl) (by simp) ?_
            refine AllReadyH.cons rfl (fun K hK => ?_) AllReadyH.nil
            obtain ⟨c70, c71⟩ := hcells.out k5 hk5 _ s2.out.1
            generalize hl[k5].vAt = hA at c70
            generalize hl[k5].vGen = hX at c71
            go_simp
            clear c70 c71
            refine hK.out _ _ (hKT.out _ s2.out.1) (fun hHeld => ?_)
            clear hK K
            refine wpAnyH_ready (rs := [8]) (by kernel_rfl) (by simp) ?_
            refine AllReadyH.cons rfl (fun K hK => ?_) AllReadyH.nil
            go_simp
            refine (specReleasedS (by exact (AA.grown hAA6.out s2.out.1 s2.out.2.1).2.2.2.2.2.2.1.at)).mono ?_
            rintro e u8 ⟨⟨csW, rfl, hansW⟩, hb8⟩
            obtain ⟨pW, dW, qW, eW, rfl, hoW⟩ := RA.of s2.out hansW
            have r3 := toHid (hoW)
            have s3 := toHid (s2.out.below hb8)
            clear hb8 hoW hansW
            refine hK.out _ _ (hKT.out _ s3.out.1) (fun hHeld => ?_)
            clear hK K
            refine tq (i := 9) (d := 34) ?_
            simp only [sz, ss]
            refine tq (i := 10) (d := 44) ?_
            simp only [sz, ss]
            refine tq (i := 11) (d := 45) ?_
            simp only [sz, ss]
            refine wpAnyH_ready (rs := [13]) (by kernel_rfl) (by simp) ?_
            refine AllReadyH.cons rfl (fun K hK => ?_) AllReadyH.nil
            have bq := RS.box (l := []) s3.out
            have n0 := bq.cell 0 rfl
            have n1 := bq.cell 1 rfl
            have nu := bq.unfrozen
            go_simp
            have s4 := toHid (RS.put (l := []) s3.out (.slice pW (releasedD x hA hX).1.vSlots.length dW) (.slice qW (releasedD x hA hX).1.vFree.length eW))
            have r4 := toHid (RA.put (l := []) r3.out [.slice pW (releasedD x hA hX).1.vSlots.length dW, .slice qW (releasedD x hA hX).1.vFree.length eW] (.slice pW (releasedD x hA hX).1.vSlots.length dW) (.slice qW (releasedD x hA hX).1.vFree.length eW))
            clear n0 n1 nu bq
            refine hK.out _ _ (hKT.out _ s4.out.1) (fun hHeld => ?_)
            clear hK K
            refine tq (i := 14) (d := 8) ?_
            simp only [sz, ss]
            refine wpAnyH_done (by kernel_rfl) ?_ _
            have hoF : Hid (OwA (fun b => w.heap.size < b ∧ b ≠ T) _ _ _ (releasedD x hA hX).1) := OwA.mono r4.out (fun b _ qb => ⟨by have := qb.1; omega, by have := qb.1; omega⟩)
            have hAF := toHid (AA.grown hAA6.out s4.out.1 s4.out.2.1)
            have hNF := toHid (RS.box (l := []) s4.out)
            clear hHeld
            go_wp2_with fail
            go_meet
            exact ⟨_, _, _, _, _, (releasedD x hA hX).1, (releasedD x hA hX).2, rfl, rfl, hAF, hoF, hNF, fun hb => goodRel hgood.out hb⟩
        · go_simp
          have s1 := toHid (RS.allocAt s0.out (w6.heap.size) (by simp) [.slice none 0 0, .slice none 0 0] 27)
          refine hK.out _ _ (hKT.out _ s1.out.1) (fun hHeld => ?_)
          clear hK K
          refine wpAnyH_ready (rs := [5]) (by kernel_rfl) (by simp) ?_
          refine AllReadyH.cons rfl (fun K hK => ?_) AllReadyH.nil
          go_simp
          refine (below_any (by exact s1.out.2.1) (hl.length : Int) (by omega) (by omega)).mono ?_
          rintro e u5 ⟨v5, rfl, v50, v51, hr5, hg5⟩
          obtain ⟨k5, rfl⟩ := Int.eq_ofNat_of_zero_le v50
          have hk5 : k5 < hl.length := by omega
          have s2 := toHid (s1.out.grown hg5 hr5)
          clear hr5 hg5
          refine hK.out _ _ (hKT.out _ s2.out.1) (fun hHeld => ?_)
          clear hK K
          refine tq (i := 6) (d := 41) ?_
          simp only [sz, ss]
          refine wpAnyH_ready (rs := [7]) (by kernel_rfl) (by simp) ?_
          refine AllReadyH.cons rfl (fun K hK => ?_) AllReadyH.nil
          obtain ⟨c70, c71⟩ := hcells.out k5 hk5 _ s2.out.1
          generalize hl[k5].vAt = hA at c70
          generalize hl[k5].vGen = hX at c71
          go_simp
          clear c70 c71
          refine hK.out _ _ (hKT.out _ s2.out.1) (fun hHeld => ?_)
          clear hK K
          refine wpAnyH_ready (rs := [8]) (by kernel_rfl) (by simp) ?_
          refine AllReadyH.cons rfl (fun K hK => ?_) AllReadyH.nil
          go_simp
          refine (specReleasedS (by exact (AA.grown hAA6.out s2.out.1 s2.out.2.1).2.2.2.2.2.2.1.at)).mono ?_
          rintro e u8 ⟨⟨csW, rfl, hansW⟩, hb8⟩
          obtain ⟨pW, dW, qW, eW, rfl, hoW⟩ := RA.of s2.out hansW
          have r3 := toHid (hoW)
          have s3 := toHid (s2.out.below hb8)
          clear hb8 hoW hansW
          refine hK.out _ _ (hKT.out _ s3.out.1) (fun hHeld => ?_)
          clear hK K
          refine tq (i := 9) (d := 34) ?_
          simp only [sz, ss]
          refine tq (i := 10) (d := 44) ?_
          simp only [sz, ss]
          refine tq (i := 11) (d := 45) ?_
          simp only [sz, ss]
          refine wpAnyH_ready (rs := [13]) (by kernel_rfl) (by simp) ?_
          refine AllReadyH.cons rfl (fun K hK => ?_) AllReadyH.nil
          have bq := RS.box (l := []) s3.out
          have n0 := bq.cell 0 rfl
          have n1 := bq.cell 1 rfl
          have nu := bq.unfrozen
          go_simp
          have s4 := toHid (RS.put (l := []) s3.out (.slice pW (releasedD x hA hX).1.vSlots.length dW) (.slice qW (releasedD x hA hX).1.vFree.length eW))
          have r4 := toHid (RA.put (l := []) r3.out [.slice pW (releasedD x hA hX).1.vSlots.length dW, .slice qW (releasedD x hA hX).1.vFree.length eW] (.slice pW (releasedD x hA hX).1.vSlots.length dW) (.slice qW (releasedD x hA hX).1.vFree.length eW))
          clear n0 n1 nu bq
          refine hK.out _ _ (hKT.out _ s4.out.1) (fun hHeld => ?_)
          clear hK K
          refine tq (i := 14) (d := 8) ?_
          simp only [sz, ss]
          refine wpAnyH_done (by kernel_rfl) ?_ _
          have hoF : Hid (OwA (fun b => w.heap.size < b ∧ b ≠ T) _ _ _ (releasedD x hA hX).1) := OwA.mono r4.out (fun b _ qb => ⟨by have := qb.1; omega, by have := qb.1; omega⟩)
          have hAF := toHid (AA.grown hAA6.out s4.out.1 s4.out.2.1)
          have hNF := toHid (RS.box (l := []) s4.out)
          clear hHeld
          go_wp2_with fail
          go_meet
          exact ⟨_, _, _, _, _, (releasedD x hA hX).1, (releasedD x hA hX).2, rfl, rfl, hAF, hoF, hNF, fun hb => goodRel hgood.out hb⟩
      obtain ⟨N, pW, dW, qW, eW, y, bb, rfl, rfl, hAA7, hoY, bN7, hgy⟩ := hcut
      clear hAA6
      have hgy' : Hid (bb = true → 1 ≤ y.vSlots.length ∧ y.vFree.length ≤ 13) := hgy
      clear hgy
      generalize wc = w7 at *
      cases bb
      · go_wp2_with fail
        go_roundw
        case rel => exact ⟨i - 1, p0, d0, p1, d1, x, by omega, by omega, by go_num, hAA7, hgood⟩
        case measure => simp [intOf]; omega
      · have n0 := bN7.out.cell 0 rfl
        have n1 := bN7.out.cell 1 rfl
        have t0 := hAA7.out.2.2.2.2.2.2.2.cell 0 rfl
        have t1 := hAA7.out.2.2.2.2.2.2.2.cell 1 rfl
        have tu := hAA7.out.2.2.2.2.2.2.2.unfrozen
        have hput : Hid (AA w g a n cap T (.slice pW y.vSlots.length dW) (.slice qW y.vFree.length eW) y _) := AA.put hAA7.out hoY.out
        go_wp2_with fail
        go_roundw
        case rel => exact ⟨i - 1, pW, dW, qW, eW, y, by omega, by omega, by go_num, hput, hgy'.out rfl⟩
        case measure => simp [intOf]; omega
    clear hH7 hpos
    go_upto_region 10 with fail
    go_cut [9, 11] (fun sP sB wx => ∃ (N : Nat) (pW : Option Addr) (dW : Nat) (qW : Option Addr) (eW : Nat) (y : ArenaD) (bb : Bool), sP = .pointer (some ⟨N, 0, none⟩) ∧ sB = .bool bb ∧ Hid (AA w g a n cap T (.slice p0 x.vSlots.length d0) (.slice p1 x.vFree.length d1) x wx) ∧ Hid (OwA (fun b => w.heap.size < b ∧ b ≠ T) wx (.slice pW y.vSlots.length dW) (.slice qW y.vFree.length eW) y) ∧ Hid (Box wx N [.slice pW y.vSlots.length dW, .slice qW y.vFree.length eW] 27) ∧ (bb = true → 1 ≤ y.vSlots.length ∧ y.vFree.length ≤ 13))
    case first =>
      have s0 := toHid (RS.start hAA6.out.2.1)
      have hgl : g < w6.heap.size := hAA6.out.2.1.lt
      have hKT : Hid (∀ W, w6.grownBy W (some g) → W.cell? ⟨T, 0, none⟩ = some (.slice p0 x.vSlots.length d0) ∧ W.cell? ⟨T, 1, none⟩ = some (.slice p1 x.vFree.length d1)) := fun W hg => ⟨cell_grown (hAA6.out.2.2.2.2.2.2.2.cell 0 rfl) hg (by intro e; injection e; omega), cell_grown (hAA6.out.2.2.2.2.2.2.2.cell 1 rfl) hg (by intro e; injection e; omega)⟩
      refine wp_region_held_drew (S := fun w' => w'.cell? ⟨T, 0, none⟩ = some (.slice p0 x.vSlots.length d0) ∧ w'.cell? ⟨T, 1, none⟩ = some (.slice p1 x.vFree.length d1)) (by kernel_rfl) (hKT.out _ s0.out.1) (fun hHeld => ?_)
      refine tq (i := 0) (d := 49) ?_
      simp only [sz, ss]
      refine tq (i := 2) (d := 51) ?_
      simp only [sz, ss]
      refine wpAnyH_ready (rs := [1, 3, 11, 12]) (by kernel_rfl) (by simp) ?_
      refine (AllReadyH.cons rfl (fun K hK => ?_) (AllReadyH.cons rfl (fun K hK => ?_) (AllReadyH.cons rfl (fun K hK => ?_) (AllReadyH.cons rfl (fun K hK => ?_) AllReadyH.nil))))
      · go_simp
        have s1 := toHid (RS.allocAt s0.out (w6.heap.size) (by simp) [.string ⟨#[]⟩, .string ⟨#[97]⟩, .string ⟨#[98, 99]⟩, .string ⟨#[120, 32, 121]⟩] 9)
        refine hK.out _ _ (hKT.out _ s1.out.1) (fun hHeld => ?_)
        clear hK K
        refine wpAnyH_ready (rs := [3, 11, 12]) (by kernel_rfl) (by simp) ?_
        refine (AllReadyH.cons rfl (fun K hK => ?_) (AllReadyH.cons rfl (fun K hK => ?_) (AllReadyH.cons rfl (fun K hK => ?_) AllReadyH.nil)))
        · go_simp
          refine (below_any (by exact s1.out.2.1) 4 (by omega) (by omega)).mono ?_
          rintro e u5 ⟨v5, rfl, v50, v51, hr5, hg5⟩
          obtain ⟨k5, rfl⟩ := Int.eq_ofNat_of_zero_le v50
          have hk5 : k5 < 4 := by omega
          have s2 := toHid (s1.out.grown hg5 hr5)
          clear hr5 hg5
          refine hK.out _ _ (hKT.out _ s2.out.1) (fun hHeld => ?_)
          clear hK K
          refine tq (i := 4) (d := 53) ?_
          simp only [sz, ss]
          refine wpAnyH_ready (rs := [5, 11, 12]) (by kernel_rfl) (by simp) ?_
          refine (AllReadyH.cons rfl (fun K hK => ?_) (AllReadyH.cons rfl (fun K hK => ?_) (AllReadyH.cons rfl (fun K hK => ?_) AllReadyH.nil)))
          · obtain ⟨tg, c6, htg0⟩ := tabA_pick (RS.box (l := []) s2.out) (i := k5) hk5
            have htg : Hid (tg.size ≤ maxLen) := by show _ ≤ _; unfold maxLen; omega
            go_simp
            clear c6 htg0
            refine hK.out _ _ (hKT.out _ s2.out.1) (fun hHeld => ?_)
            clear hK K
            refine wpAnyH_ready (rs := [6, 11, 12]) (by kernel_rfl) (by simp) ?_
            refine (AllReadyH.cons rfl (fun K hK => ?_) (AllReadyH.cons rfl (fun K hK => ?_) (AllReadyH.cons rfl (fun K hK => ?_) AllReadyH.nil)))
            · go_simp
              refine (specAllocatedS (by exact (AA.grown hAA6.out s2.out.1 s2.out.2.1).2.2.2.2.2.2.1.at) htg.out).mono ?_
              rintro e u8 ⟨⟨csW, rfl, hansW⟩, hb8⟩
              obtain ⟨pW, dW, qW, eW, rfl, hoW⟩ := RA.of s2.out hansW
              have r3 := toHid (hoW)
              have s3 := toHid (s2.out.below hb8)
              clear hb8 hoW hansW
              refine hK.out _ _ (hKT.out _ s3.out.1) (fun hHeld => ?_)
              clear hK K
              refine tq (i := 7) (d := 48) ?_
              simp only [sz, ss]
              refine tq (i := 8) (d := 56) ?_
              simp only [sz, ss]
              refine tq (i := 9) (d := 57) ?_
              simp only [sz, ss]
              refine tq (i := 10) (d := 58) ?_
              simp only [sz, ss]
              refine wpAnyH_ready (rs := [11, 12]) (by kernel_rfl) (by simp) ?_
              refine (AllReadyH.cons rfl (fun K hK => ?_) (AllReadyH.cons rfl (fun K hK => ?_) AllReadyH.nil))
              · go_simp
                have s4 := toHid (RS.allocAt s3.out (u8.heap.size) (by simp) [.slice none 0 0, .slice none 0 0] 27)
                have r4 := toHid (RA.allocAt r3.out (u8.heap.size) (by simp) [.slice none 0 0, .slice none 0 0] 27)
                refine hK.out _ _ (hKT.out _ s4.out.1) (fun hHeld => ?_)
                clear hK K
                refine wpAnyH_ready (rs := [12]) (by kernel_rfl) (by simp) ?_
                refine AllReadyH.cons rfl (fun K hK => ?_) AllReadyH.nil
                go_simp
                have s5 := toHid (RS.allocAt s4.out (u8.heap.size + 1) (by simp) [.int .i64 0, .int .i64 0] 31)
                have r5 := toHid (RA.allocAt r4.out (u8.heap.size + 1) (by simp) [.int .i64 0, .int .i64 0] 31)
                refine hK.out _ _ (hKT.out _ s5.out.1) (fun hHeld => ?_)
                clear hK K
                refine wpAnyH_ready (rs := [13]) (by kernel_rfl) (by simp) ?_
                refine AllReadyH.cons rfl (fun K hK => ?_) AllReadyH.nil
                go_simp
                have s6_0 := toHid (RS.allocAt s3.out (u8.heap.size) (by simp) [.slice pW (allocD x tg).1.vSlots.length dW, .slice qW (allocD x tg).1.vFree.length eW] 27)
                have r6_0 := toHid (RA.allocAt r3.out (u8.heap.size) (by simp) [.slice pW (allocD x tg).1.vSlots.length dW, .slice qW (allocD x tg).1.vFree.length eW] 27)
                have s6 := toHid (RS.allocAt s6_0.out (u8.heap.size + 1) (by simp) [.int .i64 0, .int .i64 0] 31)
                have r6 := toHid (RA.allocAt r6_0.out (u8.heap.size + 1) (by simp) [.int .i64 0, .int .i64 0] 31)
                refine hK.out _ _ (hKT.out _ s6.out.1) (fun hHeld => ?_)
                clear hK K
                refine wpAnyH_ready (rs := [14]) (by kernel_rfl) (by simp) ?_
                refine AllReadyH.cons rfl (fun K hK => ?_) AllReadyH.nil
                go_simp
                have s7_0 := toHid (RS.allocAt s3.out (u8.heap.size) (by simp) [.slice pW (allocD x tg).1.vSlots.length dW, .slice qW (allocD x tg).1.vFree.length eW] 27)
                have r7_0 := toHid (RA.allocAt r3.out (u8.heap.size) (by simp) [.slice pW (allocD x tg).1.vSlots.length dW, .slice qW (allocD x tg).1.vFree.length eW] 27)
                have s7 := toHid (RS.allocAt s7_0.out (u8.heap.size + 1) (by simp) [.int .i64 (allocD x tg).2.1, .int .i64 (allocD x tg).2.2.1] 31)
                have r7 := toHid (RA.allocAt r7_0.out (u8.heap.size + 1) (by simp) [.int .i64 (allocD x tg).2.1, .int .i64 (allocD x tg).2.2.1] 31)
                refine hK.out _ _ (hKT.out _ s7.out.1) (fun hHeld => ?_)
                clear hK K
                refine tq (i := 15) (d := 11) ?_
                simp only [sz, ss]
                refine wpAnyH_done (by kernel_rfl) ?_ _
                have hoF : Hid (OwA (fun b => w.heap.size < b ∧ b ≠ T) _ _ _ (allocD x tg).1) := OwA.mono r7.out (fun b _ qb => ⟨by have := qb.1; omega, by have := qb.1; omega⟩)
                have hAF := toHid (AA.grown hAA6.out s7.out.1 s7.out.2.1)
                have hNF := toHid (RS.box (l := [_]) s7.out)
                clear hHeld
                go_wp2_with fail
                go_meet
                exact ⟨_, _, _, _, _, (allocD x tg).1, (allocD x tg).2.2.2, rfl, rfl, hAF, hoF, hNF, fun hb => goodAlloc hgood.out hb⟩
              · go_simp
                have s4 := toHid (RS.allocAt s3.out (u8.heap.size) (by simp) [.int .i64 0, .int .i64 0] 31)
                have r4 := toHid (RA.allocAt r3.out (u8.heap.size) (by simp) [.int .i64 0, .int .i64 0] 31)
                refine hK.out _ _ (hKT.out _ s4.out.1) (fun hHeld => ?_)
                clear hK K
                refine wpAnyH_ready (rs := [11]) (by kernel_rfl) (by simp) ?_
                refine AllReadyH.cons rfl (fun K hK => ?_) AllReadyH.nil
                go_simp
                have s5 := toHid (RS.allocAt s4.out (u8.heap.size + 1) (by simp) [.slice none 0 0, .slice none 0 0] 27)
                have r5 := toHid (RA.allocAt r4.out (u8.heap.size + 1) (by simp) [.slice none 0 0, .slice none 0 0] 27)
                refine hK.out _ _ (hKT.out _ s5.out.1) (fun hHeld => ?_)
                clear hK K
                refine wpAnyH_ready (rs := [13]) (by kernel_rfl) (by simp) ?_
                refine AllReadyH.cons rfl (fun K hK => ?_) AllReadyH.nil
                go_simp
                have s6_0 := toHid (RS.allocAt s3.out (u8.heap.size) (by simp) [.int .i64 0, .int .i64 0] 31)
                have r6_0 := toHid (RA.allocAt r3.out (u8.heap.size) (by simp) [.int .i64 0, .int .i64 0] 31)
                have s6 := toHid (RS.allocAt s6_0.out (u8.heap.size + 1) (by simp) [.slice pW (allocD x tg).1.vSlots.length dW, .slice qW (allocD x tg).1.vFree.length eW] 27)
                have r6 := toHid (RA.allocAt r6_0.out (u8.heap.size + 1) (by simp) [.slice pW (allocD x tg).1.vSlots.length dW, .slice qW (allocD x tg).1.vFree.length eW] 27)
                refine hK.out _ _ (hKT.out _ s6.out.1) (fun hHeld => ?_)
                clear hK K
                refine wpAnyH_ready (rs := [14]) (by kernel_rfl) (by simp) ?_
                refine AllReadyH.cons rfl (fun K hK => ?_) AllReadyH.nil
                go_simp
                have s7_0 := toHid (RS.allocAt s3.out (u8.heap.size) (by simp) [.int .i64 (allocD x tg).2.1, .int .i64 (allocD x tg).2.2.1] 31)
                have r7_0 := toHid (RA.allocAt r3.out (u8.heap.size) (by simp) [.int .i64 (allocD x tg).2.1, .int .i64 (allocD x tg).2.2.1] 31)
                have s7 := toHid (RS.allocAt s7_0.out (u8.heap.size + 1) (by simp) [.slice pW (allocD x tg).1.vSlots.length dW, .slice qW (allocD x tg).1.vFree.length eW] 27)
                have r7 := toHid (RA.allocAt r7_0.out (u8.heap.size + 1) (by simp) [.slice pW (allocD x tg).1.vSlots.length dW, .slice qW (allocD x tg).1.vFree.length eW] 27)
                refine hK.out _ _ (hKT.out _ s7.out.1) (fun hHeld => ?_)
                clear hK K
                refine tq (i := 15) (d := 11) ?_
                simp only [sz, ss]
                refine wpAnyH_done (by kernel_rfl) ?_ _
                have hoF : Hid (OwA (fun b => w.heap.size < b ∧ b ≠ T) _ _ _ (allocD x tg).1) := OwA.mono r7.out (fun b _ qb => ⟨by have := qb.1; omega, by have := qb.1; omega⟩)
                have hAF := toHid (AA.grown hAA6.out s7.out.1 s7.out.2.1)
                have hNF := toHid (RS.box (l := []) s7.out)
                clear hHeld
                go_wp2_with fail
                go_meet
                exact ⟨_, _, _, _, _, (allocD x tg).1, (allocD x tg).2.2.2, rfl, rfl, hAF, hoF, hNF, fun hb => goodAlloc hgood.out hb⟩
            · go_simp
              have s3 := toHid (RS.allocAt s2.out (u5.heap.size) (by simp) [.slice none 0 0, .slice none 0 0] 27)
              refine hK.out _ _ (hKT.out _ s3.out.1) (fun hHeld => ?_)
              clear hK K
              refine wpAnyH_ready (rs := [6, 12]) (by kernel_rfl) (by simp) ?_
              refine (AllReadyH.cons rfl (fun K hK => ?_) (AllReadyH.cons rfl (fun K hK => ?_) AllReadyH.nil))
              · go_simp
                refine (specAllocatedS (by exact (AA.grown hAA6.out s3.out.1 s3.out.2.1).2.2.2.2.2.2.1.at) htg.out).mono ?_
                rintro e u8 ⟨⟨csW, rfl, hansW⟩, hb8⟩
                obtain ⟨pW, dW, qW, eW, rfl, hoW⟩ := RA.of s3.out hansW
                have r4 := toHid (hoW)
                have s4 := toHid (s3.out.below hb8)
                clear hb8 hoW hansW
                refine hK.out _ _ (hKT.out _ s4.out.1) (fun hHeld => ?_)
                clear hK K
                refine tq (i := 7) (d := 48) ?_
                simp only [sz, ss]
                refine tq (i := 8) (d := 56) ?_
                simp only [sz, ss]
                refine tq (i := 9) (d := 57) ?_
                simp only [sz, ss]
                refine tq (i := 10) (d := 58) ?_
                simp only [sz, ss]
                refine wpAnyH_ready (rs := [12]) (by kernel_rfl) (by simp) ?_
                refine AllReadyH.cons rfl (fun K hK => ?_) AllReadyH.nil
                go_simp
                have s5 := toHid (RS.allocAt s4.out (u8.heap.size) (by simp) [.int .i64 0, .int .i64 0] 31)
                have r5 := toHid (RA.allocAt r4.out (u8.heap.size) (by simp) [.int .i64 0, .int .i64 0] 31)
                refine hK.out _ _ (hKT.out _ s5.out.1) (fun hHeld => ?_)
                clear hK K
                refine wpAnyH_ready (rs := [13]) (by kernel_rfl) (by simp) ?_
                refine AllReadyH.cons rfl (fun K hK => ?_) AllReadyH.nil
                have bq := RS.box (l := [_]) s5.out
                have n0 := bq.cell 0 rfl
                have n1 := bq.cell 1 rfl
                have nu := bq.unfrozen
                go_simp
                have s6 := toHid (RS.put (l := [_]) s5.out (.slice pW (allocD x tg).1.vSlots.length dW) (.slice qW (allocD x tg).1.vFree.length eW))
                have r6 := toHid (RA.put (l := [_]) r5.out [.slice pW (allocD x tg).1.vSlots.length dW, .slice qW (allocD x tg).1.vFree.length eW] (.slice pW (allocD x tg).1.vSlots.length dW) (.slice qW (allocD x tg).1.vFree.length eW))
                clear n0 n1 nu bq
                refine hK.out _ _ (hKT.out _ s6.out.1) (fun hHeld => ?_)
                clear hK K
                refine wpAnyH_ready (rs := [14]) (by kernel_rfl) (by simp) ?_
                refine AllReadyH.cons rfl (fun K hK => ?_) AllReadyH.nil
                have bq := RS.box (l := []) s6.out
                have n0 := bq.cell 0 rfl
                have n1 := bq.cell 1 rfl
                have nu := bq.unfrozen
                go_simp
                have s7 := toHid (RS.put (l := []) s6.out (.int .i64 (allocD x tg).2.1) (.int .i64 (allocD x tg).2.2.1))
                have r7 := toHid (RA.put (l := []) r6.out [.int .i64 (allocD x tg).2.1, .int .i64 (allocD x tg).2.2.1] (.int .i64 (allocD x tg).2.1) (.int .i64 (allocD x tg).2.2.1))
                clear n0 n1 nu bq
                refine hK.out _ _ (hKT.out _ s7.out.1) (fun hHeld => ?_)
                clear hK K
                refine tq (i := 15) (d := 11) ?_
                simp only [sz, ss]
                refine wpAnyH_done (by kernel_rfl) ?_ _
                have hoF : Hid (OwA (fun b => w.heap.size < b ∧ b ≠ T) _ _ _ (allocD x tg).1) := OwA.mono r7.out (fun b _ qb => ⟨by have := qb.1; omega, by have := qb.1; omega⟩)
                have hAF := toHid (AA.grown hAA6.out s7.out.1 s7.out.2.1)
                have hNF := toHid (RS.box (l := [_]) s7.out)
                clear hHeld
                go_wp2_with fail
                go_meet
                exact ⟨_, _, _, _, _, (allocD x tg).1, (allocD x tg).2.2.2, rfl, rfl, hAF, hoF, hNF, fun hb => goodAlloc hgood.out hb⟩
              · go_simp
                have s4 := toHid (RS.allocAt s3.out (u5.heap.size + 1) (by simp) [.int .i64 0, .int .i64 0] 31)
                refine hK.out _ _ (hKT.out _ s4.out.1) (fun hHeld => ?_)
                clear hK K
                refine wpAnyH_ready (rs := [6]) (by kernel_rfl) (by simp) ?_
                refine AllReadyH.cons rfl (fun K hK => ?_) AllReadyH.nil
                go_simp
                refine (specAllocatedS (by exact (AA.grown hAA6.out s4.out.1 s4.out.2.1).2.2.2.2.2.2.1.at) htg.out).mono ?_
                rintro e u8 ⟨⟨csW, rfl, hansW⟩, hb8⟩
                obtain ⟨pW, dW, qW, eW, rfl, hoW⟩ := RA.of s4.out hansW
                have r5 := toHid (hoW)
                have s5 := toHid (s4.out.below hb8)
                clear hb8 hoW hansW
                refine hK.out _ _ (hKT.out _ s5.out.1) (fun hHeld => ?_)
                clear hK K
                refine tq (i := 7) (d := 48) ?_
                simp only [sz, ss]
                refine tq (i := 8) (d := 56) ?_
                simp only [sz, ss]
                refine tq (i := 9) (d := 57) ?_
                simp only [sz, ss]
                refine tq (i := 10) (d := 58) ?_
                simp only [sz, ss]
                refine wpAnyH_ready (rs := [13]) (by kernel_rfl) (by simp) ?_
                refine AllReadyH.cons rfl (fun K hK => ?_) AllReadyH.nil
                have bq := RS.box (l := [_]) s5.out
                have n0 := bq.cell 0 rfl
                have n1 := bq.cell 1 rfl
                have nu := bq.unfrozen
                go_simp
                have s6 := toHid (RS.put (l := [_]) s5.out (.slice pW (allocD x tg).1.vSlots.length dW) (.slice qW (allocD x tg).1.vFree.length eW))
                have r6 := toHid (RA.put (l := [_]) r5.out [.slice pW (allocD x tg).1.vSlots.length dW, .slice qW (allocD x tg).1.vFree.length eW] (.slice pW (allocD x tg).1.vSlots.length dW) (.slice qW (allocD x tg).1.vFree.length eW))
                clear n0 n1 nu bq
                refine hK.out _ _ (hKT.out _ s6.out.1) (fun hHeld => ?_)
                clear hK K
                refine wpAnyH_ready (rs := [14]) (by kernel_rfl) (by simp) ?_
                refine AllReadyH.cons rfl (fun K hK => ?_) AllReadyH.nil
                have bq := RS.box (l := []) s6.out
                have n0 := bq.cell 0 rfl
                have n1 := bq.cell 1 rfl
                have nu := bq.unfrozen
                go_simp
                have s7 := toHid (RS.put (l := []) s6.out (.int .i64 (allocD x tg).2.1) (.int .i64 (allocD x tg).2.2.1))
                have r7 := toHid (RA.put (l := []) r6.out [.int .i64 (allocD x tg).2.1, .int .i64 (allocD x tg).2.2.1] (.int .i64 (allocD x tg).2.1) (.int .i64 (allocD x tg).2.2.1))
                clear n0 n1 nu bq
                refine hK.out _ _ (hKT.out _ s7.out.1) (fun hHeld => ?_)
                clear hK K
                refine tq (i := 15) (d := 11) ?_
                simp only [sz, ss]
                refine wpAnyH_done (by kernel_rfl) ?_ _
                have hoF : Hid (OwA (fun b => w.heap.size < b ∧ b ≠ T) _ _ _ (allocD x tg).1) := OwA.mono r7.out (fun b _ qb => ⟨by have := qb.1; omega, by have := qb.1; omega⟩)
                have hAF := toHid (AA.grown hAA6.out s7.out.1 s7.out.2.1)
                have hNF := toHid (RS.box (l := [_]) s7.out)
                clear hHeld
                go_wp2_with fail
                go_meet
                exact ⟨_, _, _, _, _, (allocD x tg).1, (allocD x tg).2.2.2, rfl, rfl, hAF, hoF, hNF, fun hb => goodAlloc hgood.out hb⟩
            · go_simp
              have s3 := toHid (RS.allocAt s2.out (u5.heap.size) (by simp) [.int .i64 0, .int .i64 0] 31)
              refine hK.out _ _ (hKT.out _ s3.out.1) (fun hHeld => ?_)
              clear hK K
              refine wpAnyH_ready (rs := [6, 11]) (by kernel_rfl) (by simp) ?_
              refine (AllReadyH.cons rfl (fun K hK => ?_) (AllReadyH.cons rfl (fun K hK => ?_) AllReadyH.nil))
              · go_simp
                refine (specAllocatedS (by exact (AA.grown hAA6.out s3.out.1 s3.out.2.1).2.2.2.2.2.2.1.at) htg.out).mono ?_
                rintro e u8 ⟨⟨csW, rfl, hansW⟩, hb8⟩
                obtain ⟨pW, dW, qW, eW, rfl, hoW⟩ := RA.of s3.out hansW
                have r4 := toHid (hoW)
                have s4 := toHid (s3.out.below hb8)
                clear hb8 hoW hansW
                refine hK.out _ _ (hKT.out _ s4.out.1) (fun hHeld => ?_)
                clear hK K
                refine tq (i := 7) (d := 48) ?_
                simp only [sz, ss]
                refine tq (i := 8) (d := 56) ?_
                simp only [sz, ss]
                refine tq (i := 9) (d := 57) ?_
                simp only [sz, ss]
                refine tq (i := 10) (d := 58) ?_
                simp only [sz, ss]
                refine wpAnyH_ready (rs := [11]) (by kernel_rfl) (by simp) ?_
                refine AllReadyH.cons rfl (fun K hK => ?_) AllReadyH.nil
                go_simp
                have s5 := toHid (RS.allocAt s4.out (u8.heap.size) (by simp) [.slice none 0 0, .slice none 0 0] 27)
                have r5 := toHid (RA.allocAt r4.out (u8.heap.size) (by simp) [.slice none 0 0, .slice none 0 0] 27)
                refine hK.out _ _ (hKT.out _ s5.out.1) (fun hHeld => ?_)
                clear hK K
                refine wpAnyH_ready (rs := [13]) (by kernel_rfl) (by simp) ?_
                refine AllReadyH.cons rfl (fun K hK => ?_) AllReadyH.nil
                go_simp
                have s6 := toHid (RS.allocAt s4.out (u8.heap.size) (by simp) [.slice pW (allocD x tg).1.vSlots.length dW, .slice qW (allocD x tg).1.vFree.length eW] 27)
                have r6 := toHid (RA.allocAt r4.out (u8.heap.size) (by simp) [.slice pW (allocD x tg).1.vSlots.length dW, .slice qW (allocD x tg).1.vFree.length eW] 27)
                refine hK.out _ _ (hKT.out _ s6.out.1) (fun hHeld => ?_)
                clear hK K
                refine wpAnyH_ready (rs := [14]) (by kernel_rfl) (by simp) ?_
                refine AllReadyH.cons rfl (fun K hK => ?_) AllReadyH.nil
                have bq := RS.box (l := [_]) s6.out
                have n0 := bq.cell 0 rfl
                have n1 := bq.cell 1 rfl
                have nu := bq.unfrozen
                go_simp
                have s7 := toHid (RS.put (l := [_]) s6.out (.int .i64 (allocD x tg).2.1) (.int .i64 (allocD x tg).2.2.1))
                have r7 := toHid (RA.put (l := [_]) r6.out [.int .i64 (allocD x tg).2.1, .int .i64 (allocD x tg).2.2.1] (.int .i64 (allocD x tg).2.1) (.int .i64 (allocD x tg).2.2.1))
                clear n0 n1 nu bq
                refine hK.out _ _ (hKT.out _ s7.out.1) (fun hHeld => ?_)
                clear hK K
                refine tq (i := 15) (d := 11) ?_
                simp only [sz, ss]
                refine wpAnyH_done (by kernel_rfl) ?_ _
                have hoF : Hid (OwA (fun b => w.heap.size < b ∧ b ≠ T) _ _ _ (allocD x tg).1) := OwA.mono r7.out (fun b _ qb => ⟨by have := qb.1; omega, by have := qb.1; omega⟩)
                have hAF := toHid (AA.grown hAA6.out s7.out.1 s7.out.2.1)
                have hNF := toHid (RS.box (l := []) s7.out)
                clear hHeld
                go_wp2_with fail
                go_meet
                exact ⟨_, _, _, _, _, (allocD x tg).1, (allocD x tg).2.2.2, rfl, rfl, hAF, hoF, hNF, fun hb => goodAlloc hgood.out hb⟩
              · go_simp
                have s4 := toHid (RS.allocAt s3.out (u5.heap.size + 1) (by simp) [.slice none 0 0, .slice none 0 0] 27)
                refine hK.out _ _ (hKT.out _ s4.out.1) (fun hHeld => ?_)
                clear hK K
                refine wpAnyH_ready (rs := [6]) (by kernel_rfl) (by simp) ?_
                refine AllReadyH.cons rfl (fun K hK => ?_) AllReadyH.nil
                go_simp
                refine (specAllocatedS (by exact (AA.grown hAA6.out s4.out.1 s4.out.2.1).2.2.2.2.2.2.1.at) htg.out).mono ?_
                rintro e u8 ⟨⟨csW, rfl, hansW⟩, hb8⟩
                obtain ⟨pW, dW, qW, eW, rfl, hoW⟩ := RA.of s4.out hansW
                have r5 := toHid (hoW)
                have s5 := toHid (s4.out.below hb8)
                clear hb8 hoW hansW
                refine hK.out _ _ (hKT.out _ s5.out.1) (fun hHeld => ?_)
                clear hK K
                refine tq (i := 7) (d := 48) ?_
                simp only [sz, ss]
                refine tq (i := 8) (d := 56) ?_
                simp only [sz, ss]
                refine tq (i := 9) (d := 57) ?_
                simp only [sz, ss]
                refine tq (i := 10) (d := 58) ?_
                simp only [sz, ss]
                refine wpAnyH_ready (rs := [13]) (by kernel_rfl) (by simp) ?_
                refine AllReadyH.cons rfl (fun K hK => ?_) AllReadyH.nil
                have bq := RS.box (l := []) s5.out
                have n0 := bq.cell 0 rfl
                have n1 := bq.cell 1 rfl
                have nu := bq.unfrozen
                go_simp
                have s6 := toHid (RS.put (l := []) s5.out (.slice pW (allocD x tg).1.vSlots.length dW) (.slice qW (allocD x tg).1.vFree.length eW))
                have r6 := toHid (RA.put (l := []) r5.out [.slice pW (allocD x tg).1.vSlots.length dW, .slice qW (allocD x tg).1.vFree.length eW] (.slice pW (allocD x tg).1.vSlots.length dW) (.slice qW (allocD x tg).1.vFree.length eW))
                clear n0 n1 nu bq
                refine hK.out _ _ (hKT.out _ s6.out.1) (fun hHeld => ?_)
                clear hK K
                refine wpAnyH_ready (rs := [14]) (by kernel_rfl) (by simp) ?_
                refine AllReadyH.cons rfl (fun K hK => ?_) AllReadyH.nil
                have bq := RS.box (l := [_]) s6.out
                have n0 := bq.cell 0 rfl
                have n1 := bq.cell 1 rfl
                have nu := bq.unfrozen
                go_simp
                have s7 := toHid (RS.put (l := [_]) s6.out (.int .i64 (allocD x tg).2.1) (.int .i64 (allocD x tg).2.2.1))
                have r7 := toHid (RA.put (l := [_]) r6.out [.int .i64 (allocD x tg).2.1, .int .i64 (allocD x tg).2.2.1] (.int .i64 (allocD x tg).2.1) (.int .i64 (allocD x tg).2.2.1))
                clear n0 n1 nu bq
                refine hK.out _ _ (hKT.out _ s7.out.1) (fun hHeld => ?_)
                clear hK K
                refine tq (i := 15) (d := 11) ?_
                simp only [sz, ss]
                refine wpAnyH_done (by kernel_rfl) ?_ _
                have hoF : Hid (OwA (fun b => w.heap.size < b ∧ b ≠ T) _ _ _ (allocD x tg).1) := OwA.mono r7.out (fun b _ qb => ⟨by have := qb.1; omega, by have := qb.1; omega⟩)
                have hAF := toHid (AA.grown hAA6.out s7.out.1 s7.out.2.1)
                have hNF := toHid (RS.box (l := []) s7.out)
                clear hHeld
                go_wp2_with fail
                go_meet
                exact ⟨_, _, _, _, _, (allocD x tg).1, (allocD x tg).2.2.2, rfl, rfl, hAF, hoF, hNF, fun hb => goodAlloc hgood.out hb⟩
          · go_simp
            have s3 := toHid (RS.allocAt s2.out (u5.heap.size) (by simp) [.slice none 0 0, .slice none 0 0] 27)
            refine hK.out _ _ (hKT.out _ s3.out.1) (fun hHeld => ?_)
            clear hK K
            refine wpAnyH_ready (rs := [5, 12]) (by kernel_rfl) (by simp) ?_
            refine (AllReadyH.cons rfl (fun K hK => ?_) (AllReadyH.cons rfl (fun K hK => ?_) AllReadyH.nil))
            · obtain ⟨tg, c6, htg0⟩ := tabA_pick (RS.box (l := [_]) s3.out) (i := k5) hk5
              have htg : Hid (tg.size ≤ maxLen) := by show _ ≤ _; unfold maxLen; omega
              go_simp
              clear c6 htg0
              refine hK.out _ _ (hKT.out _ s3.out.1) (fun hHeld => ?_)
              clear hK K
              refine wpAnyH_ready (rs := [6, 12]) (by kernel_rfl) (by simp) ?_
              refine (AllReadyH.cons rfl (fun K hK => ?_) (AllReadyH.cons rfl (fun K hK => ?_) AllReadyH.nil))
              · go_simp
                refine (specAllocatedS (by exact (AA.grown hAA6.out s3.out.1 s3.out.2.1).2.2.2.2.2.2.1.at) htg.out).mono ?_
                rintro e u8 ⟨⟨csW, rfl, hansW⟩, hb8⟩
                obtain ⟨pW, dW, qW, eW, rfl, hoW⟩ := RA.of s3.out hansW
                have r4 := toHid (hoW)
                have s4 := toHid (s3.out.below hb8)
                clear hb8 hoW hansW
                refine hK.out _ _ (hKT.out _ s4.out.1) (fun hHeld => ?_)
                clear hK K
                refine tq (i := 7) (d := 48) ?_
                simp only [sz, ss]
                refine tq (i := 8) (d := 56) ?_
                simp only [sz, ss]
                refine tq (i := 9) (d := 57) ?_
                simp only [sz, ss]
                refine tq (i := 10) (d := 58) ?_
                simp only [sz, ss]
                refine wpAnyH_ready (rs := [12]) (by kernel_rfl) (by simp) ?_
                refine AllReadyH.cons rfl (fun K hK => ?_) AllReadyH.nil
                go_simp
                have s5 := toHid (RS.allocAt s4.out (u8.heap.size) (by simp) [.int .i64 0, .int .i64 0] 31)
                have r5 := toHid (RA.allocAt r4.out (u8.heap.size) (by simp) [.int .i64 0, .int .i64 0] 31)
                refine hK.out _ _ (hKT.out _ s5.out.1) (fun hHeld => ?_)
                clear hK K
                refine wpAnyH_ready (rs := [13]) (by kernel_rfl) (by simp) ?_
                refine AllReadyH.cons rfl (fun K hK => ?_) AllReadyH.nil
                have bq := RS.box (l := [_]) s5.out
                have n0 := bq.cell 0 rfl
                have n1 := bq.cell 1 rfl
                have nu := bq.unfrozen
                go_simp
                have s6 := toHid (RS.put (l := [_]) s5.out (.slice pW (allocD x tg).1.vSlots.length dW) (.slice qW (allocD x tg).1.vFree.length eW))
                have r6 := toHid (RA.put (l := [_]) r5.out [.slice pW (allocD x tg).1.vSlots.length dW, .slice qW (allocD x tg).1.vFree.length eW] (.slice pW (allocD x tg).1.vSlots.length dW) (.slice qW (allocD x tg).1.vFree.length eW))
                clear n0 n1 nu bq
                refine hK.out _ _ (hKT.out _ s6.out.1) (fun hHeld => ?_)
                clear hK K
                refine wpAnyH_ready (rs := [14]) (by kernel_rfl) (by simp) ?_
                refine AllReadyH.cons rfl (fun K hK => ?_) AllReadyH.nil
                have bq := RS.box (l := []) s6.out
                have n0 := bq.cell 0 rfl
                have n1 := bq.cell 1 rfl
                have nu := bq.unfrozen
                go_simp
                have s7 := toHid (RS.put (l := []) s6.out (.int .i64 (allocD x tg).2.1) (.int .i64 (allocD x tg).2.2.1))
                have r7 := toHid (RA.put (l := []) r6.out [.int .i64 (allocD x tg).2.1, .int .i64 (allocD x tg).2.2.1] (.int .i64 (allocD x tg).2.1) (.int .i64 (allocD x tg).2.2.1))
                clear n0 n1 nu bq
                refine hK.out _ _ (hKT.out _ s7.out.1) (fun hHeld => ?_)
                clear hK K
                refine tq (i := 15) (d := 11) ?_
                simp only [sz, ss]
                refine wpAnyH_done (by kernel_rfl) ?_ _
                have hoF : Hid (OwA (fun b => w.heap.size < b ∧ b ≠ T) _ _ _ (allocD x tg).1) := OwA.mono r7.out (fun b _ qb => ⟨by have := qb.1; omega, by have := qb.1; omega⟩)
                have hAF := toHid (AA.grown hAA6.out s7.out.1 s7.out.2.1)
                have hNF := toHid (RS.box (l := [_]) s7.out)
                clear hHeld
                go_wp2_with fail
                go_meet
                exact ⟨_, _, _, _, _, (allocD x tg).1, (allocD x tg).2.2.2, rfl, rfl, hAF, hoF, hNF, fun hb => goodAlloc hgood.out hb⟩
              · go_simp
                have s4 := toHid (RS.allocAt s3.out (u5.heap.size + 1) (by simp) [.int .i64 0, .int .i64 0] 31)
                refine hK.out _ _ (hKT.out _ s4.out.1) (fun hHeld => ?_)
                clear hK K
                refine wpAnyH_ready (rs := [6]) (by kernel_rfl) (by simp) ?_
                refine AllReadyH.cons rfl (fun K hK => ?_) AllReadyH.nil
                go_simp
                refine (specAllocatedS (by exact (AA.grown hAA6.out s4.out.1 s4.out.2.1).2.2.2.2.2.2.1.at) htg.out).mono ?_
                rintro e u8 ⟨⟨csW, rfl, hansW⟩, hb8⟩
                obtain ⟨pW, dW, qW, eW, rfl, hoW⟩ := RA.of s4.out hansW
                have r5 := toHid (hoW)
                have s5 := toHid (s4.out.below hb8)
                clear hb8 hoW hansW
                refine hK.out _ _ (hKT.out _ s5.out.1) (fun hHeld => ?_)
                clear hK K
                refine tq (i := 7) (d := 48) ?_
                simp only [sz, ss]
                refine tq (i := 8) (d := 56) ?_
                simp only [sz, ss]
                refine tq (i := 9) (d := 57) ?_
                simp only [sz, ss]
                refine tq (i := 10) (d := 58) ?_
                simp only [sz, ss]
                refine wpAnyH_ready (rs := [13]) (by kernel_rfl) (by simp) ?_
                refine AllReadyH.cons rfl (fun K hK => ?_) AllReadyH.nil
                have bq := RS.box (l := [_]) s5.out
                have n0 := bq.cell 0 rfl
                have n1 := bq.cell 1 rfl
                have nu := bq.unfrozen
                go_simp
                have s6 := toHid (RS.put (l := [_]) s5.out (.slice pW (allocD x tg).1.vSlots.length dW) (.slice qW (allocD x tg).1.vFree.length eW))
                have r6 := toHid (RA.put (l := [_]) r5.out [.slice pW (allocD x tg).1.vSlots.length dW, .slice qW (allocD x tg).1.vFree.length eW] (.slice pW (allocD x tg).1.vSlots.length dW) (.slice qW (allocD x tg).1.vFree.length eW))
                clear n0 n1 nu bq
                refine hK.out _ _ (hKT.out _ s6.out.1) (fun hHeld => ?_)
                clear hK K
                refine wpAnyH_ready (rs := [14]) (by kernel_rfl) (by simp) ?_
                refine AllReadyH.cons rfl (fun K hK => ?_) AllReadyH.nil
                have bq := RS.box (l := []) s6.out
                have n0 := bq.cell 0 rfl
                have n1 := bq.cell 1 rfl
                have nu := bq.unfrozen
                go_simp
                have s7 := toHid (RS.put (l := []) s6.out (.int .i64 (allocD x tg).2.1) (.int .i64 (allocD x tg).2.2.1))
                have r7 := toHid (RA.put (l := []) r6.out [.int .i64 (allocD x tg).2.1, .int .i64 (allocD x tg).2.2.1] (.int .i64 (allocD x tg).2.1) (.int .i64 (allocD x tg).2.2.1))
                clear n0 n1 nu bq
                refine hK.out _ _ (hKT.out _ s7.out.1) (fun hHeld => ?_)
                clear hK K
                refine tq (i := 15) (d := 11) ?_
                simp only [sz, ss]
                refine wpAnyH_done (by kernel_rfl) ?_ _
                have hoF : Hid (OwA (fun b => w.heap.size < b ∧ b ≠ T) _ _ _ (allocD x tg).1) := OwA.mono r7.out (fun b _ qb => ⟨by have := qb.1; omega, by have := qb.1; omega⟩)
                have hAF := toHid (AA.grown hAA6.out s7.out.1 s7.out.2.1)
                have hNF := toHid (RS.box (l := [_]) s7.out)
                clear hHeld
                go_wp2_with fail
                go_meet
                exact ⟨_, _, _, _, _, (allocD x tg).1, (allocD x tg).2.2.2, rfl, rfl, hAF, hoF, hNF, fun hb => goodAlloc hgood.out hb⟩
            · go_simp
              have s4 := toHid (RS.allocAt s3.out (u5.heap.size + 1) (by simp) [.int .i64 0, .int .i64 0] 31)
              refine hK.out _ _ (hKT.out _ s4.out.1) (fun hHeld => ?_)
              clear hK K
              refine wpAnyH_ready (rs := [5]) (by kernel_rfl) (by simp) ?_
              refine AllReadyH.cons rfl (fun K hK => ?_) AllReadyH.nil
              obtain ⟨tg, c6, htg0⟩ := tabA_pick (RS.box (l := [_, _]) s4.out) (i := k5) hk5
              have htg : Hid (tg.size ≤ maxLen) := by show _ ≤ _; unfold maxLen; omega
              go_simp
              clear c6 htg0
              refine hK.out _ _ (hKT.out _ s4.out.1) (fun hHeld => ?_)
              clear hK K
              refine wpAnyH_ready (rs := [6]) (by kernel_rfl) (by simp) ?_
              refine AllReadyH.cons rfl (fun K hK => ?_) AllReadyH.nil
              go_simp
              refine (specAllocatedS (by exact (AA.grown hAA6.out s4.out.1 s4.out.2.1).2.2.2.2.2.2.1.at) htg.out).mono ?_
              rintro e u8 ⟨⟨csW, rfl, hansW⟩, hb8⟩
              obtain ⟨pW, dW, qW, eW, rfl, hoW⟩ := RA.of s4.out hansW
              have r5 := toHid (hoW)
              have s5 := toHid (s4.out.below hb8)
              clear hb8 hoW hansW
              refine hK.out _ _ (hKT.out _ s5.out.1) (fun hHeld => ?_)
              clear hK K
              refine tq (i := 7) (d := 48) ?_
              simp only [sz, ss]
              refine tq (i := 8) (d := 56) ?_
              simp only [sz, ss]
              refine tq (i := 9) (d := 57) ?_
              simp only [sz, ss]
              refine tq (i := 10) (d := 58) ?_
              simp only [sz, ss]
              refine wpAnyH_ready (rs := [13]) (by kernel_rfl) (by simp) ?_
              refine AllReadyH.cons rfl (fun K hK => ?_) AllReadyH.nil
              have bq := RS.box (l := [_]) s5.out
              have n0 := bq.cell 0 rfl
              have n1 := bq.cell 1 rfl
              have nu := bq.unfrozen
              go_simp
              have s6 := toHid (RS.put (l := [_]) s5.out (.slice pW (allocD x tg).1.vSlots.length dW) (.slice qW (allocD x tg).1.vFree.length eW))
              have r6 := toHid (RA.put (l := [_]) r5.out [.slice pW (allocD x tg).1.vSlots.length dW, .slice qW (allocD x tg).1.vFree.length eW] (.slice pW (allocD x tg).1.vSlots.length dW) (.slice qW (allocD x tg).1.vFree.length eW))
              clear n0 n1 nu bq
              refine hK.out _ _ (hKT.out _ s6.out.1) (fun hHeld => ?_)
              clear hK K
              refine wpAnyH_ready (rs := [14]) (by kernel_rfl) (by simp) ?_
              refine AllReadyH.cons rfl (fun K hK => ?_) AllReadyH.nil
              have bq := RS.box (l := []) s6.out
              have n0 := bq.cell 0 rfl
              have n1 := bq.cell 1 rfl
              have nu := bq.unfrozen
              go_simp
              have s7 := toHid (RS.put (l := []) s6.out (.int .i64 (allocD x tg).2.1) (.int .i64 (allocD x tg).2.2.1))
              have r7 := toHid (RA.put (l := []) r6.out [.int .i64 (allocD x tg).2.1, .int .i64 (allocD x tg).2.2.1] (.int .i64 (allocD x tg).2.1) (.int .i64 (allocD x tg).2.2.1))
              clear n0 n1 nu bq
              refine hK.out _ _ (hKT.out _ s7.out.1) (fun hHeld => ?_)
              clear hK K
              refine tq (i := 15) (d := 11) ?_
              simp only [sz, ss]
              refine wpAnyH_done (by kernel_rfl) ?_ _
              have hoF : Hid (OwA (fun b => w.heap.size < b ∧ b ≠ T) _ _ _ (allocD x tg).1) := OwA.mono r7.out (fun b _ qb => ⟨by have := qb.1; omega, by have := qb.1; omega⟩)
              have hAF := toHid (AA.grown hAA6.out s7.out.1 s7.out.2.1)
              have hNF := toHid (RS.box (l := [_]) s7.out)
              clear hHeld
              go_wp2_with fail
              go_meet
              exact ⟨_, _, _, _, _, (allocD x tg).1, (allocD x tg).2.2.2, rfl, rfl, hAF, hoF, hNF, fun hb => goodAlloc hgood.out hb⟩
          · go_simp
            have s3 := toHid (RS.allocAt s2.out (u5.heap.size) (by simp) [.int .i64 0, .int .i64 0] 31)
            refine hK.out _ _ (hKT.out _ s3.out.1) (fun hHeld => ?_)
            clear hK K
            refine wpAnyH_ready (rs := [5, 11]) (by kernel_rfl) (by simp) ?_
            refine (AllReadyH.cons rfl (fun K hK => ?_) (AllReadyH.cons rfl (fun K hK => ?_) AllReadyH.nil))
            · obtain ⟨tg, c6, htg0⟩ := tabA_pick (RS.box (l := [_]) s3.out) (i := k5) hk5
              have htg : Hid (tg.size ≤ maxLen) := by show _ ≤ _; unfold maxLen; omega
              go_simp
              clear c6 htg0
              refine hK.out _ _ (hKT.out _ s3.out.1) (fun hHeld => ?_)
              clear hK K
              refine wpAnyH_ready (rs := [6, 11]) (by kernel_rfl) (by simp) ?_
              refine (AllReadyH.cons rfl (fun K hK => ?_) (AllReadyH.cons rfl (fun K hK => ?_) AllReadyH.nil))
              · go_simp
                refine (specAllocatedS (by exact (AA.grown hAA6.out s3.out.1 s3.out.2.1).2.2.2.2.2.2.1.at) htg.out).mono ?_
                rintro e u8 ⟨⟨csW, rfl, hansW⟩, hb8⟩
                obtain ⟨pW, dW, qW, eW, rfl, hoW⟩ := RA.of s3.out hansW
                have r4 := toHid (hoW)
                have s4 := toHid (s3.out.below hb8)
                clear hb8 hoW hansW
                refine hK.out _ _ (hKT.out _ s4.out.1) (fun hHeld => ?_)
                clear hK K
                refine tq (i := 7) (d := 48) ?_
                simp only [sz, ss]
                refine tq (i := 8) (d := 56) ?_
                simp only [sz, ss]
                refine tq (i := 9) (d := 57) ?_
                simp only [sz, ss]
                refine tq (i := 10) (d := 58) ?_
                simp only [sz, ss]
                refine wpAnyH_ready (rs := [11]) (by kernel_rfl) (by simp) ?_
                refine AllReadyH.cons rfl (fun K hK => ?_) AllReadyH.nil
                go_simp
                have s5 := toHid (RS.allocAt s4.out (u8.heap.size) (by simp) [.slice none 0 0, .slice none 0 0] 27)
                have r5 := toHid (RA.allocAt r4.out (u8.heap.size) (by simp) [.slice none 0 0, .slice none 0 0] 27)
                refine hK.out _ _ (hKT.out _ s5.out.1) (fun hHeld => ?_)
                clear hK K
                refine wpAnyH_ready (rs := [13]) (by kernel_rfl) (by simp) ?_
                refine AllReadyH.cons rfl (fun K hK => ?_) AllReadyH.nil
                go_simp
                have s6 := toHid (RS.allocAt s4.out (u8.heap.size) (by simp) [.slice pW (allocD x tg).1.vSlots.length dW, .slice qW (allocD x tg).1.vFree.length eW] 27)
                have r6 := toHid (RA.allocAt r4.out (u8.heap.size) (by simp) [.slice pW (allocD x tg).1.vSlots.length dW, .slice qW (allocD x tg).1.vFree.length eW] 27)
                refine hK.out _ _ (hKT.out _ s6.out.1) (fun hHeld => ?_)
                clear hK K
                refine wpAnyH_ready (rs := [14]) (by kernel_rfl) (by simp) ?_
                refine AllReadyH.cons rfl (fun K hK => ?_) AllReadyH.nil
                have bq := RS.box (l := [_]) s6.out
                have n0 := bq.cell 0 rfl
                have n1 := bq.cell 1 rfl
                have nu := bq.unfrozen
                go_simp
                have s7 := toHid (RS.put (l := [_]) s6.out (.int .i64 (allocD x tg).2.1) (.int .i64 (allocD x tg).2.2.1))
                have r7 := toHid (RA.put (l := [_]) r6.out [.int .i64 (allocD x tg).2.1, .int .i64 (allocD x tg).2.2.1] (.int .i64 (allocD x tg).2.1) (.int .i64 (allocD x tg).2.2.1))
                clear n0 n1 nu bq
                refine hK.out _ _ (hKT.out _ s7.out.1) (fun hHeld => ?_)
                clear hK K
                refine tq (i := 15) (d := 11) ?_
                simp only [sz, ss]
                refine wpAnyH_done (by kernel_rfl) ?_ _
                have hoF : Hid (OwA (fun b => w.heap.size < b ∧ b ≠ T) _ _ _ (allocD x tg).1) := OwA.mono r7.out (fun b _ qb => ⟨by have := qb.1; omega, by have := qb.1; omega⟩)
                have hAF := toHid (AA.grown hAA6.out s7.out.1 s7.out.2.1)
                have hNF := toHid (RS.box (l := []) s7.out)
                clear hHeld
                go_wp2_with fail
                go_meet
                exact ⟨_, _, _, _, _, (allocD x tg).1, (allocD x tg).2.2.2, rfl, rfl, hAF, hoF, hNF, fun hb => goodAlloc hgood.out hb⟩
              · go_simp
                have s4 := toHid (RS.allocAt s3.out (u5.heap.size + 1) (by simp) [.slice none 0 0, .slice none 0 0] 27)
                refine hK.out _ _ (hKT.out _ s4.out.1) (fun hHeld => ?_)
                clear hK K
                refine wpAnyH_ready (rs := [6]) (by kernel_rfl) (by simp) ?_
                refine AllReadyH.cons rfl (fun K hK => ?_) AllReadyH.nil
                go_simp
                refine (specAllocatedS (by exact (AA.grown hAA6.out s4.out.1 s4.out.2.1).2.2.2.2.2.2.1.at) htg.out).mono ?_
                rintro e u8 ⟨⟨csW, rfl, hansW⟩, hb8⟩
                obtain ⟨pW, dW, qW, eW, rfl, hoW⟩ := RA.of s4.out hansW
                have r5 := toHid (hoW)
                have s5 := toHid (s4.out.below hb8)
                clear hb8 hoW hansW
                refine hK.out _ _ (hKT.out _ s5.out.1) (fun hHeld => ?_)
                clear hK K
                refine tq (i := 7) (d := 48) ?_
                simp only [sz, ss]
                refine tq (i := 8) (d := 56) ?_
                simp only [sz, ss]
                refine tq (i := 9) (d := 57) ?_
                simp only [sz, ss]
                refine tq (i := 10) (d := 58) ?_
                simp only [sz, ss]
                refine wpAnyH_ready (rs := [13]) (by kernel_rfl) (by simp) ?_
                refine AllReadyH.cons rfl (fun K hK => ?_) AllReadyH.nil
                have bq := RS.box (l := []) s5.out
                have n0 := bq.cell 0 rfl
                have n1 := bq.cell 1 rfl
                have nu := bq.unfrozen
                go_simp
                have s6 := toHid (RS.put (l := []) s5.out (.slice pW (allocD x tg).1.vSlots.length dW) (.slice qW (allocD x tg).1.vFree.length eW))
                have r6 := toHid (RA.put (l := []) r5.out [.slice pW (allocD x tg).1.vSlots.length dW, .slice qW (allocD x tg).1.vFree.length eW] (.slice pW (allocD x tg).1.vSlots.length dW) (.slice qW (allocD x tg).1.vFree.length eW))
                clear n0 n1 nu bq
                refine hK.out _ _ (hKT.out _ s6.out.1) (fun hHeld => ?_)
                clear hK K
                refine wpAnyH_ready (rs := [14]) (by kernel_rfl) (by simp) ?_
                refine AllReadyH.cons rfl (fun K hK => ?_) AllReadyH.nil
                have bq := RS.box (l := [_]) s6.out
                have n0 := bq.cell 0 rfl
                have n1 := bq.cell 1 rfl
                have nu := bq.unfrozen
                go_simp
                have s7 := toHid (RS.put (l := [_]) s6.out (.int .i64 (allocD x tg).2.1) (.int .i64 (allocD x tg).2.2.1))
                have r7 := toHid (RA.put (l := [_]) r6.out [.int .i64 (allocD x tg).2.1, .int .i64 (allocD x tg).2.2.1] (.int .i64 (allocD x tg).2.1) (.int .i64 (allocD x tg).2.2.1))
                clear n0 n1 nu bq
                refine hK.out _ _ (hKT.out _ s7.out.1) (fun hHeld => ?_)
                clear hK K
                refine tq (i := 15) (d := 11) ?_
                simp only [sz, ss]
                refine wpAnyH_done (by kernel_rfl) ?_ _
                have hoF : Hid (OwA (fun b => w.heap.size < b ∧ b ≠ T) _ _ _ (allocD x tg).1) := OwA.mono r7.out (fun b _ qb => ⟨by have := qb.1; omega, by have := qb.1; omega⟩)
                have hAF := toHid (AA.grown hAA6.out s7.out.1 s7.out.2.1)
                have hNF := toHid (RS.box (l := []) s7.out)
                clear hHeld
                go_wp2_with fail
                go_meet
                exact ⟨_, _, _, _, _, (allocD x tg).1, (allocD x tg).2.2.2, rfl, rfl, hAF, hoF, hNF, fun hb => goodAlloc hgood.out hb⟩
            · go_simp
              have s4 := toHid (RS.allocAt s3.out (u5.heap.size + 1) (by simp) [.slice none 0 0, .slice none 0 0] 27)
              refine hK.out _ _ (hKT.out _ s4.out.1) (fun hHeld => ?_)
              clear hK K
              refine wpAnyH_ready (rs := [5]) (by kernel_rfl) (by simp) ?_
              refine AllReadyH.cons rfl (fun K hK => ?_) AllReadyH.nil
              obtain ⟨tg, c6, htg0⟩ := tabA_pick (RS.box (l := [_, _]) s4.out) (i := k5) hk5
              have htg : Hid (tg.size ≤ maxLen) := by show _ ≤ _; unfold maxLen; omega
              go_simp
              clear c6 htg0
              refine hK.out _ _ (hKT.out _ s4.out.1) (fun hHeld => ?_)
              clear hK K
              refine wpAnyH_ready (rs := [6]) (by kernel_rfl) (by simp) ?_
              refine AllReadyH.cons rfl (fun K hK => ?_) AllReadyH.nil
              go_simp
              refine (specAllocatedS (by exact (AA.grown hAA6.out s4.out.1 s4.out.2.1).2.2.2.2.2.2.1.at) htg.out).mono ?_
              rintro e u8 ⟨⟨csW, rfl, hansW⟩, hb8⟩
              obtain ⟨pW, dW, qW, eW, rfl, hoW⟩ := RA.of s4.out hansW
              have r5 := toHid (hoW)
              have s5 := toHid (s4.out.below hb8)
              clear hb8 hoW hansW
              refine hK.out _ _ (hKT.out _ s5.out.1) (fun hHeld => ?_)
              clear hK K
              refine tq (i := 7) (d := 48) ?_
              simp only [sz, ss]
              refine tq (i := 8) (d := 56) ?_
              simp only [sz, ss]
              refine tq (i := 9) (d := 57) ?_
              simp only [sz, ss]
              refine tq (i := 10) (d := 58) ?_
              simp only [sz, ss]
              refine wpAnyH_ready (rs := [13]) (by kernel_rfl) (by simp) ?_
              refine AllReadyH.cons rfl (fun K hK => ?_) AllReadyH.nil
              have bq := RS.box (l := []) s5.out
              have n0 := bq.cell 0 rfl
              have n1 := bq.cell 1 rfl
              have nu := bq.unfrozen
              go_simp
              have s6 := toHid (RS.put (l := []) s5.out (.slice pW (allocD x tg).1.vSlots.length dW) (.slice qW (allocD x tg).1.vFree.length eW))
              have r6 := toHid (RA.put (l := []) r5.out [.slice pW (allocD x tg).1.vSlots.length dW, .slice qW (allocD x tg).1.vFree.length eW] (.slice pW (allocD x tg).1.vSlots.length dW) (.slice qW (allocD x tg).1.vFree.length eW))
              clear n0 n1 nu bq
              refine hK.out _ _ (hKT.out _ s6.out.1) (fun hHeld => ?_)
              clear hK K
              refine wpAnyH_ready (rs := [14]) (by kernel_rfl) (by simp) ?_
              refine AllReadyH.cons rfl (fun K hK => ?_) AllReadyH.nil
              have bq := RS.box (l := [_]) s6.out
              have n0 := bq.cell 0 rfl
              have n1 := bq.cell 1 rfl
              have nu := bq.unfrozen
              go_simp
              have s7 := toHid (RS.put (l := [_]) s6.out (.int .i64 (allocD x tg).2.1) (.int .i64 (allocD x tg).2.2.1))
              have r7 := toHid (RA.put (l := [_]) r6.out [.int .i64 (allocD x tg).2.1, .int .i64 (allocD x tg).2.2.1] (.int .i64 (allocD x tg).2.1) (.int .i64 (allocD x tg).2.2.1))
              clear n0 n1 nu bq
              refine hK.out _ _ (hKT.out _ s7.out.1) (fun hHeld => ?_)
              clear hK K
              refine tq (i := 15) (d := 11) ?_
              simp only [sz, ss]
              refine wpAnyH_done (by kernel_rfl) ?_ _
              have hoF : Hid (OwA (fun b => w.heap.size < b ∧ b ≠ T) _ _ _ (allocD x tg).1) := OwA.mono r7.out (fun b _ qb => ⟨by have := qb.1; omega, by have := qb.1; omega⟩)
              have hAF := toHid (AA.grown hAA6.out s7.out.1 s7.out.2.1)
              have hNF := toHid (RS.box (l := []) s7.out)
              clear hHeld
              go_wp2_with fail
              go_meet
              exact ⟨_, _, _, _, _, (allocD x tg).1, (allocD x tg).2.2.2, rfl, rfl, hAF, hoF, hNF, fun hb => goodAlloc hgood.out hb⟩
        · go_simp
          have s2 := toHid (RS.allocAt s1.out (w6.heap.size + 1) (by simp) [.slice none 0 0, .slice none 0 0] 27)
          refine hK.out _ _ (hKT.out _ s2.out.1) (fun hHeld => ?_)
          clear hK K
          refine wpAnyH_ready (rs := [3, 12]) (by kernel_rfl) (by simp) ?_
          refine (AllReadyH.cons rfl (fun K hK => ?_) (AllReadyH.cons rfl (fun K hK => ?_) AllReadyH.nil))
          · go_simp
            refine (below_any (by exact s2.out.2.1) 4 (by omega) (by omega)).mono ?_
            rintro e u5 ⟨v5, rfl, v50, v51, hr5, hg5⟩
            obtain ⟨k5, rfl⟩ := Int.eq_ofNat_of_zero_le v50
            have hk5 : k5 < 4 := by omega
            have s3 := toHid (s2.out.grown hg5 hr5)
            clear hr5 hg5
            refine hK.out _ _ (hKT.out _ s3.out.1) (fun hHeld => ?_)
            clear hK K
            refine tq (i := 4) (d := 53) ?_
            simp only [sz, ss]
            refine wpAnyH_ready (rs := [5, 12]) (by kernel_rfl) (by simp) ?_
            refine (AllReadyH.cons rfl (fun K hK => ?_) (AllReadyH.cons rfl (fun K hK => ?_) AllReadyH.nil))
            · obtain ⟨tg, c6, htg0⟩ := tabA_pick (RS.box (l := [_]) s3.out) (i := k5) hk5
              have htg : Hid (tg.size ≤ maxLen) := by show _ ≤ _; unfold maxLen; omega
              go_simp
              clear c6 htg0
              refine hK.out _ _ (hKT.out _ s3.out.1) (fun hHeld => ?_)
              clear hK K
              refine wpAnyH_ready (rs := [6, 12]) (by kernel_rfl) (by simp) ?_
              refine (AllReadyH.cons rfl (fun K hK => ?_) (AllReadyH.cons rfl (fun K hK => ?_) AllReadyH.nil))
              · go_simp
                refine (specAllocatedS (by exact (AA.grown hAA6.out s3.out.1 s3.out.2.1).2.2.2.2.2.2.1.at) htg.out).mono ?_
                rintro e u8 ⟨⟨csW, rfl, hansW⟩, hb8⟩
                obtain ⟨pW, dW, qW, eW, rfl, hoW⟩ := RA.of s3.out hansW
                have r4 := toHid (hoW)
                have s4 := toHid (s3.out.below hb8)
                clear hb8 hoW hansW
                refine hK.out _ _ (hKT.out _ s4.out.1) (fun hHeld => ?_)
                clear hK K
                refine tq (i := 7) (d := 48) ?_
                simp only [sz, ss]
                refine tq (i := 8) (d := 56) ?_
                simp only [sz, ss]
                refine tq (i := 9) (d := 57) ?_
                simp only [sz, ss]
                refine tq (i := 10) (d := 58) ?_
                simp only [sz, ss]
                refine wpAnyH_ready (rs := [12]) (by kernel_rfl) (by simp) ?_
                refine AllReadyH.cons rfl (fun K hK => ?_) AllReadyH.nil
                go_simp
                have s5 := toHid (RS.allocAt s4.out (u8.heap.size) (by simp) [.int .i64 0, .int .i64 0] 31)
                have r5 := toHid (RA.allocAt r4.out (u8.heap.size) (by simp) [.int .i64 0, .int .i64 0] 31)
                refine hK.out _ _ (hKT.out _ s5.out.1) (fun hHeld => ?_)
                clear hK K
                refine wpAnyH_ready (rs := [13]) (by kernel_rfl) (by simp) ?_
                refine AllReadyH.cons rfl (fun K hK => ?_) AllReadyH.nil
                have bq := RS.box (l := [_]) s5.out
                have n0 := bq.cell 0 rfl
                have n1 := bq.cell 1 rfl
                have nu := bq.unfrozen
                go_simp
                have s6 := toHid (RS.put (l := [_]) s5.out (.slice pW (allocD x tg).1.vSlots.length dW) (.slice qW (allocD x tg).1.vFree.length eW))
                have r6 := toHid (RA.put (l := [_]) r5.out [.slice pW (allocD x tg).1.vSlots.length dW, .slice qW (allocD x tg).1.vFree.length eW] (.slice pW (allocD x tg).1.vSlots.length dW) (.slice qW (allocD x tg).1.vFree.length eW))
                clear n0 n1 nu bq
                refine hK.out _ _ (hKT.out _ s6.out.1) (fun hHeld => ?_)
                clear hK K
                refine wpAnyH_ready (rs := [14]) (by kernel_rfl) (by simp) ?_
                refine AllReadyH.cons rfl (fun K hK => ?_) AllReadyH.nil
                have bq := RS.box (l := []) s6.out
                have n0 := bq.cell 0 rfl
                have n1 := bq.cell 1 rfl
                have nu := bq.unfrozen
                go_simp
                have s7 := toHid (RS.put (l := []) s6.out (.int .i64 (allocD x tg).2.1) (.int .i64 (allocD x tg).2.2.1))
                have r7 := toHid (RA.put (l := []) r6.out [.int .i64 (allocD x tg).2.1, .int .i64 (allocD x tg).2.2.1] (.int .i64 (allocD x tg).2.1) (.int .i64 (allocD x tg).2.2.1))
                clear n0 n1 nu bq
                refine hK.out _ _ (hKT.out _ s7.out.1) (fun hHeld => ?_)
                clear hK K
                refine tq (i := 15) (d := 11) ?_
                simp only [sz, ss]
                refine wpAnyH_done (by kernel_rfl) ?_ _
                have hoF : Hid (OwA (fun b => w.heap.size < b ∧ b ≠ T) _ _ _ (allocD x tg).1) := OwA.mono r7.out (fun b _ qb => ⟨by have := qb.1; omega, by have := qb.1; omega⟩)
                have hAF := toHid (AA.grown hAA6.out s7.out.1 s7.out.2.1)
                have hNF := toHid (RS.box (l := [_]) s7.out)
                clear hHeld
                go_wp2_with fail
                go_meet
                exact ⟨_, _, _, _, _, (allocD x tg).1, (allocD x tg).2.2.2, rfl, rfl, hAF, hoF, hNF, fun hb => goodAlloc hgood.out hb⟩
              · go_simp
                have s4 := toHid (RS.allocAt s3.out (u5.heap.size) (by simp) [.int .i64 0, .int .i64 0] 31)
                refine hK.out _ _ (hKT.out _ s4.out.1) (fun hHeld => ?_)
                clear hK K
                refine wpAnyH_ready (rs := [6]) (by kernel_rfl) (by simp) ?_
                refine AllReadyH.cons rfl (fun K hK => ?_) AllReadyH.nil
                go_simp
                refine (specAllocatedS (by exact (AA.grown hAA6.out s4.out.1 s4.out.2.1).2.2.2.2.2.2.1.at) htg.out).mono ?_
                rintro e u8 ⟨⟨csW, rfl, hansW⟩, hb8⟩
                obtain ⟨pW, dW, qW, eW, rfl, hoW⟩ := RA.of s4.out hansW
                have r5 := toHid (hoW)
                have s5 := toHid (s4.out.below hb8)
                clear hb8 hoW hansW
                refine hK.out _ _ (hKT.out _ s5.out.1) (fun hHeld => ?_)
                clear hK K
                refine tq (i := 7) (d := 48) ?_
                simp only [sz, ss]
                refine tq (i := 8) (d := 56) ?_
                simp only [sz, ss]
                refine tq (i := 9) (d := 57) ?_
                simp only [sz, ss]
                refine tq (i := 10) (d := 58) ?_
                simp only [sz, ss]
                refine wpAnyH_ready (rs := [13]) (by kernel_rfl) (by simp) ?_
                refine AllReadyH.cons rfl (fun K hK => ?_) AllReadyH.nil
                have bq := RS.box (l := [_]) s5.out
                have n0 := bq.cell 0 rfl
                have n1 := bq.cell 1 rfl
                have nu := bq.unfrozen
                go_simp
                have s6 := toHid (RS.put (l := [_]) s5.out (.slice pW (allocD x tg).1.vSlots.length dW) (.slice qW (allocD x tg).1.vFree.length eW))
                have r6 := toHid (RA.put (l := [_]) r5.out [.slice pW (allocD x tg).1.vSlots.length dW, .slice qW (allocD x tg).1.vFree.length eW] (.slice pW (allocD x tg).1.vSlots.length dW) (.slice qW (allocD x tg).1.vFree.length eW))
                clear n0 n1 nu bq
                refine hK.out _ _ (hKT.out _ s6.out.1) (fun hHeld => ?_)
                clear hK K
                refine wpAnyH_ready (rs := [14]) (by kernel_rfl) (by simp) ?_
                refine AllReadyH.cons rfl (fun K hK => ?_) AllReadyH.nil
                have bq := RS.box (l := []) s6.out
                have n0 := bq.cell 0 rfl
                have n1 := bq.cell 1 rfl
                have nu := bq.unfrozen
                go_simp
                have s7 := toHid (RS.put (l := []) s6.out (.int .i64 (allocD x tg).2.1) (.int .i64 (allocD x tg).2.2.1))
                have r7 := toHid (RA.put (l := []) r6.out [.int .i64 (allocD x tg).2.1, .int .i64 (allocD x tg).2.2.1] (.int .i64 (allocD x tg).2.1) (.int .i64 (allocD x tg).2.2.1))
                clear n0 n1 nu bq
                refine hK.out _ _ (hKT.out _ s7.out.1) (fun hHeld => ?_)
                clear hK K
                refine tq (i := 15) (d := 11) ?_
                simp only [sz, ss]
                refine wpAnyH_done (by kernel_rfl) ?_ _
                have hoF : Hid (OwA (fun b => w.heap.size < b ∧ b ≠ T) _ _ _ (allocD x tg).1) := OwA.mono r7.out (fun b _ qb => ⟨by have := qb.1; omega, by have := qb.1; omega⟩)
                have hAF := toHid (AA.grown hAA6.out s7.out.1 s7.out.2.1)
                have hNF := toHid (RS.box (l := [_]) s7.out)
                clear hHeld
                go_wp2_with fail
                go_meet
                exact ⟨_, _, _, _, _, (allocD x tg).1, (allocD x tg).2.2.2, rfl, rfl, hAF, hoF, hNF, fun hb => goodAlloc hgood.out hb⟩
            · go_simp
              have s4 := toHid (RS.allocAt s3.out (u5.heap.size) (by simp) [.int .i64 0, .int .i64 0] 31)
              refine hK.out _ _ (hKT.out _ s4.out.1) (fun hHeld => ?_)
              clear hK K
              refine wpAnyH_ready (rs := [5]) (by kernel_rfl) (by simp) ?_
              refine AllReadyH.cons rfl (fun K hK => ?_) AllReadyH.nil
              obtain ⟨tg, c6, htg0⟩ := tabA_pick (RS.box (l := [_, _]) s4.out) (i := k5) hk5
              have htg : Hid (tg.size ≤ maxLen) := by show _ ≤ _; unfold maxLen; omega
              go_simp
              clear c6 htg0
              refine hK.out _ _ (hKT.out _ s4.out.1) (fun hHeld => ?_)
              clear hK K
              refine wpAnyH_ready (rs := [6]) (by kernel_rfl) (by simp) ?_
              refine AllReadyH.cons rfl (fun K hK => ?_) AllReadyH.nil
              go_simp
              refine (specAllocatedS (by exact (AA.grown hAA6.out s4.out.1 s4.out.2.1).2.2.2.2.2.2.1.at) htg.out).mono ?_
              rintro e u8 ⟨⟨csW, rfl, hansW⟩, hb8⟩
              obtain ⟨pW, dW, qW, eW, rfl, hoW⟩ := RA.of s4.out hansW
              have r5 := toHid (hoW)
              have s5 := toHid (s4.out.below hb8)
              clear hb8 hoW hansW
              refine hK.out _ _ (hKT.out _ s5.out.1) (fun hHeld => ?_)
              clear hK K
              refine tq (i := 7) (d := 48) ?_
              simp only [sz, ss]
              refine tq (i := 8) (d := 56) ?_
              simp only [sz, ss]
              refine tq (i := 9) (d := 57) ?_
              simp only [sz, ss]
              refine tq (i := 10) (d := 58) ?_
              simp only [sz, ss]
              refine wpAnyH_ready (rs := [13]) (by kernel_rfl) (by simp) ?_
              refine AllReadyH.cons rfl (fun K hK => ?_) AllReadyH.nil
              have bq := RS.box (l := [_]) s5.out
              have n0 := bq.cell 0 rfl
              have n1 := bq.cell 1 rfl
              have nu := bq.unfrozen
              go_simp
              have s6 := toHid (RS.put (l := [_]) s5.out (.slice pW (allocD x tg).1.vSlots.length dW) (.slice qW (allocD x tg).1.vFree.length eW))
              have r6 := toHid (RA.put (l := [_]) r5.out [.slice pW (allocD x tg).1.vSlots.length dW, .slice qW (allocD x tg).1.vFree.length eW] (.slice pW (allocD x tg).1.vSlots.length dW) (.slice qW (allocD x tg).1.vFree.length eW))
              clear n0 n1 nu bq
              refine hK.out _ _ (hKT.out _ s6.out.1) (fun hHeld => ?_)
              clear hK K
              refine wpAnyH_ready (rs := [14]) (by kernel_rfl) (by simp) ?_
              refine AllReadyH.cons rfl (fun K hK => ?_) AllReadyH.nil
              have bq := RS.box (l := []) s6.out
              have n0 := bq.cell 0 rfl
              have n1 := bq.cell 1 rfl
              have nu := bq.unfrozen
              go_simp
              have s7 := toHid (RS.put (l := []) s6.out (.int .i64 (allocD x tg).2.1) (.int .i64 (allocD x tg).2.2.1))
              have r7 := toHid (RA.put (l := []) r6.out [.int .i64 (allocD x tg).2.1, .int .i64 (allocD x tg).2.2.1] (.int .i64 (allocD x tg).2.1) (.int .i64 (allocD x tg).2.2.1))
              clear n0 n1 nu bq
              refine hK.out _ _ (hKT.out _ s7.out.1) (fun hHeld => ?_)
              clear hK K
              refine tq (i := 15) (d := 11) ?_
              simp only [sz, ss]
              refine wpAnyH_done (by kernel_rfl) ?_ _
              have hoF : Hid (OwA (fun b => w.heap.size < b ∧ b ≠ T) _ _ _ (allocD x tg).1) := OwA.mono r7.out (fun b _ qb => ⟨by have := qb.1; omega, by have := qb.1; omega⟩)
              have hAF := toHid (AA.grown hAA6.out s7.out.1 s7.out.2.1)
              have hNF := toHid (RS.box (l := [_]) s7.out)
              clear hHeld
              go_wp2_with fail
              go_meet
              exact ⟨_, _, _, _, _, (allocD x tg).1, (allocD x tg).2.2.2, rfl, rfl, hAF, hoF, hNF, fun hb => goodAlloc hgood.out hb⟩
          · go_simp
            have s3 := toHid (RS.allocAt s2.out (w6.heap.size + 1 + 1) (by simp) [.int .i64 0, .int .i64 0] 31)
            refine hK.out _ _ (hKT.out _ s3.out.1) (fun hHeld => ?_)
            clear hK K
            refine wpAnyH_ready (rs := [3]) (by kernel_rfl) (by simp) ?_
            refine AllReadyH.cons rfl (fun K hK => ?_) AllReadyH.nil
            go_simp
            refine (below_any (by exact s3.out.2.1) 4 (by omega) (by omega)).mono ?_
            rintro e u5 ⟨v5, rfl, v50, v51, hr5, hg5⟩
            obtain ⟨k5, rfl⟩ := Int.eq_ofNat_of_zero_le v50
            have hk5 : k5 < 4 := by omega
            have s4 := toHid (s3.out.grown hg5 hr5)
            clear hr5 hg5
            refine hK.out _ _ (hKT.out _ s4.out.1) (fun hHeld => ?_)
            clear hK K
            refine tq (i := 4) (d := 53) ?_
            simp only [sz, ss]
            refine wpAnyH_ready (rs := [5]) (by kernel_rfl) (by simp) ?_
            refine AllReadyH.cons rfl (fun K hK => ?_) AllReadyH.nil
            obtain ⟨tg, c6, htg0⟩ := tabA_pick (RS.box (l := [_, _]) s4.out) (i := k5) hk5
            have htg : Hid (tg.size ≤ maxLen) := by show _ ≤ _; unfold maxLen; omega
            go_simp
            clear c6 htg0
            refine hK.out _ _ (hKT.out _ s4.out.1) (fun hHeld => ?_)
            clear hK K
            refine wpAnyH_ready (rs := [6]) (by kernel_rfl) (by simp) ?_
            refine AllReadyH.cons rfl (fun K hK => ?_) AllReadyH.nil
            go_simp
            refine (specAllocatedS (by exact (AA.grown hAA6.out s4.out.1 s4.out.2.1).2.2.2.2.2.2.1.at) htg.out).mono ?_
            rintro e u8 ⟨⟨csW, rfl, hansW⟩, hb8⟩
            obtain ⟨pW, dW, qW, eW, rfl, hoW⟩ := RA.of s4.out hansW
            have r5 := toHid (hoW)
            have s5 := toHid (s4.out.below hb8)
            clear hb8 hoW hansW
            refine hK.out _ _ (hKT.out _ s5.out.1) (fun hHeld => ?_)
            clear hK K
            refine tq (i := 7) (d := 48) ?_
            simp only [sz, ss]
            refine tq (i := 8) (d := 56) ?_
            simp only [sz, ss]
            refine tq (i := 9) (d := 57) ?_
            simp only [sz, ss]
            refine tq (i := 10) (d := 58) ?_
            simp only [sz, ss]
            refine wpAnyH_ready (rs := [13]) (by kernel_rfl) (by simp) ?_
            refine AllReadyH.cons rfl (fun K hK => ?_) AllReadyH.nil
            have bq := RS.box (l := [_]) s5.out
            have n0 := bq.cell 0 rfl
            have n1 := bq.cell 1 rfl
            have nu := bq.unfrozen
            go_simp
            have s6 := toHid (RS.put (l := [_]) s5.out (.slice pW (allocD x tg).1.vSlots.length dW) (.slice qW (allocD x tg).1.vFree.length eW))
            have r6 := toHid (RA.put (l := [_]) r5.out [.slice pW (allocD x tg).1.vSlots.length dW, .slice qW (allocD x tg).1.vFree.length eW] (.slice pW (allocD x tg).1.vSlots.length dW) (.slice qW (allocD x tg).1.vFree.length eW))
            clear n0 n1 nu bq
            refine hK.out _ _ (hKT.out _ s6.out.1) (fun hHeld => ?_)
            clear hK K
            refine wpAnyH_ready (rs := [14]) (by kernel_rfl) (by simp) ?_
            refine AllReadyH.cons rfl (fun K hK => ?_) AllReadyH.nil
            have bq := RS.box (l := []) s6.out
            have n0 := bq.cell 0 rfl
            have n1 := bq.cell 1 rfl
            have nu := bq.unfrozen
            go_simp
            have s7 := toHid (RS.put (l := []) s6.out (.int .i64 (allocD x tg).2.1) (.int .i64 (allocD x tg).2.2.1))
            have r7 := toHid (RA.put (l := []) r6.out [.int .i64 (allocD x tg).2.1, .int .i64 (allocD x tg).2.2.1] (.int .i64 (allocD x tg).2.1) (.int .i64 (allocD x tg).2.2.1))
            clear n0 n1 nu bq
            refine hK.out _ _ (hKT.out _ s7.out.1) (fun hHeld => ?_)
            clear hK K
            refine tq (i := 15) (d := 11) ?_
            simp only [sz, ss]
            refine wpAnyH_done (by kernel_rfl) ?_ _
            have hoF : Hid (OwA (fun b => w.heap.size < b ∧ b ≠ T) _ _ _ (allocD x tg).1) := OwA.mono r7.out (fun b _ qb => ⟨by have := qb.1; omega, by have := qb.1; omega⟩)
            have hAF := toHid (AA.grown hAA6.out s7.out.1 s7.out.2.1)
            have hNF := toHid (RS.box (l := [_]) s7.out)
            clear hHeld
            go_wp2_with fail
            go_meet
            exact ⟨_, _, _, _, _, (allocD x tg).1, (allocD x tg).2.2.2, rfl, rfl, hAF, hoF, hNF, fun hb => goodAlloc hgood.out hb⟩
        · go_simp
          have s2 := toHid (RS.allocAt s1.out (w6.heap.size + 1) (by simp) [.int .i64 0, .int .i64 0] 31)
          refine hK.out _ _ (hKT.out _ s2.out.1) (fun hHeld => ?_)
          clear hK K
          refine wpAnyH_ready (rs := [3, 11]) (by kernel_rfl) (by simp) ?_
          refine (AllReadyH.cons rfl (fun K hK => ?_) (AllReadyH.cons rfl (fun K hK => ?_) AllReadyH.nil))
          · go_simp
            refine (below_any (by exact s2.out.2.1) 4 (by omega) (by omega)).mono ?_
            rintro e u5 ⟨v5, rfl, v50, v51, hr5, hg5⟩
            obtain ⟨k5, rfl⟩ := Int.eq_ofNat_of_zero_le v50
            have hk5 : k5 < 4 := by omega
            have s3 := toHid (s2.out.grown hg5 hr5)
            clear hr5 hg5
            refine hK.out _ _ (hKT.out _ s3.out.1) (fun hHeld => ?_)
            clear hK K
            refine tq (i := 4) (d := 53) ?_
            simp only [sz, ss]
            refine wpAnyH_ready (rs := [5, 11]) (by kernel_rfl) (by simp) ?_
            refine (AllReadyH.cons rfl (fun K hK => ?_) (AllReadyH.cons rfl (fun K hK => ?_) AllReadyH.nil))
            · obtain ⟨tg, c6, htg0⟩ := tabA_pick (RS.box (l := [_]) s3.out) (i := k5) hk5
              have htg : Hid (tg.size ≤ maxLen) := by show _ ≤ _; unfold maxLen; omega
              go_simp
              clear c6 htg0
              refine hK.out _ _ (hKT.out _ s3.out.1) (fun hHeld => ?_)
              clear hK K
              refine wpAnyH_ready (rs := [6, 11]) (by kernel_rfl) (by simp) ?_
              refine (AllReadyH.cons rfl (fun K hK => ?_) (AllReadyH.cons rfl (fun K hK => ?_) AllReadyH.nil))
              · go_simp
                refine (specAllocatedS (by exact (AA.grown hAA6.out s3.out.1 s3.out.2.1).2.2.2.2.2.2.1.at) htg.out).mono ?_
                rintro e u8 ⟨⟨csW, rfl, hansW⟩, hb8⟩
                obtain ⟨pW, dW, qW, eW, rfl, hoW⟩ := RA.of s3.out hansW
                have r4 := toHid (hoW)
                have s4 := toHid (s3.out.below hb8)
                clear hb8 hoW hansW
                refine hK.out _ _ (hKT.out _ s4.out.1) (fun hHeld => ?_)
                clear hK K
                refine tq (i := 7) (d := 48) ?_
                simp only [sz, ss]
                refine tq (i := 8) (d := 56) ?_
                simp only [sz, ss]
                refine tq (i := 9) (d := 57) ?_
                simp only [sz, ss]
                refine tq (i := 10) (d := 58) ?_
                simp only [sz, ss]
                refine wpAnyH_ready (rs := [11]) (by kernel_rfl) (by simp) ?_
                refine AllReadyH.cons rfl (fun K hK => ?_) AllReadyH.nil
                go_simp
                have s5 := toHid (RS.allocAt s4.out (u8.heap.size) (by simp) [.slice none 0 0, .slice none 0 0] 27)
                have r5 := toHid (RA.allocAt r4.out (u8.heap.size) (by simp) [.slice none 0 0, .slice none 0 0] 27)
                refine hK.out _ _ (hKT.out _ s5.out.1) (fun hHeld => ?_)
                clear hK K
                refine wpAnyH_ready (rs := [13]) (by kernel_rfl) (by simp) ?_
                refine AllReadyH.cons rfl (fun K hK => ?_) AllReadyH.nil
                go_simp
                have s6 := toHid (RS.allocAt s4.out (u8.heap.size) (by simp) [.slice pW (allocD x tg).1.vSlots.length dW, .slice qW (allocD x tg).1.vFree.length eW] 27)
                have r6 := toHid (RA.allocAt r4.out (u8.heap.size) (by simp) [.slice pW (allocD x tg).1.vSlots.length dW, .slice qW (allocD x tg).1.vFree.length eW] 27)
                refine hK.out _ _ (hKT.out _ s6.out.1) (fun hHeld => ?_)
                clear hK K
                refine wpAnyH_ready (rs := [14]) (by kernel_rfl) (by simp) ?_
                refine AllReadyH.cons rfl (fun K hK => ?_) AllReadyH.nil
                have bq := RS.box (l := [_]) s6.out
                have n0 := bq.cell 0 rfl
                have n1 := bq.cell 1 rfl
                have nu := bq.unfrozen
                go_simp
                have s7 := toHid (RS.put (l := [_]) s6.out (.int .i64 (allocD x tg).2.1) (.int .i64 (allocD x tg).2.2.1))
                have r7 := toHid (RA.put (l := [_]) r6.out [.int .i64 (allocD x tg).2.1, .int .i64 (allocD x tg).2.2.1] (.int .i64 (allocD x tg).2.1) (.int .i64 (allocD x tg).2.2.1))
                clear n0 n1 nu bq
                refine hK.out _ _ (hKT.out _ s7.out.1) (fun hHeld => ?_)
                clear hK K
                refine tq (i := 15) (d := 11) ?_
                simp only [sz, ss]
                refine wpAnyH_done (by kernel_rfl) ?_ _
                have hoF : Hid (OwA (fun b => w.heap.size < b ∧ b ≠ T) _ _ _ (allocD x tg).1) := OwA.mono r7.out (fun b _ qb => ⟨by have := qb.1; omega, by have := qb.1; omega⟩)
                have hAF := toHid (AA.grown hAA6.out s7.out.1 s7.out.2.1)
                have hNF := toHid (RS.box (l := []) s7.out)
                clear hHeld
                go_wp2_with fail
                go_meet
                exact ⟨_, _, _, _, _, (allocD x tg).1, (allocD x tg).2.2.2, rfl, rfl, hAF, hoF, hNF, fun hb => goodAlloc hgood.out hb⟩
              · go_simp
                have s4 := toHid (RS.allocAt s3.out (u5.heap.size) (by simp) [.slice none 0 0, .slice none 0 0] 27)
                refine hK.out _ _ (hKT.out _ s4.out.1) (fun hHeld => ?_)
                clear hK K
                refine wpAnyH_ready (rs := [6]) (by kernel_rfl) (by simp) ?_
                refine AllReadyH.cons rfl (fun K hK => ?_) AllReadyH.nil
                go_simp
                refine (specAllocatedS (by exact (AA.grown hAA6.out s4.out.1 s4.out.2.1).2.2.2.2.2.2.1.at) htg.out).mono ?_
                rintro e u8 ⟨⟨csW, rfl, hansW⟩, hb8⟩
                obtain ⟨pW, dW, qW, eW, rfl, hoW⟩ := RA.of s4.out hansW
                have r5 := toHid (hoW)
                have s5 := toHid (s4.out.below hb8)
                clear hb8 hoW hansW
                refine hK.out _ _ (hKT.out _ s5.out.1) (fun hHeld => ?_)
                clear hK K
                refine tq (i := 7) (d := 48) ?_
                simp only [sz, ss]
                refine tq (i := 8) (d := 56) ?_
                simp only [sz, ss]
                refine tq (i := 9) (d := 57) ?_
                simp only [sz, ss]
                refine tq (i := 10) (d := 58) ?_
                simp only [sz, ss]
                refine wpAnyH_ready (rs := [13]) (by kernel_rfl) (by simp) ?_
                refine AllReadyH.cons rfl (fun K hK => ?_) AllReadyH.nil
                have bq := RS.box (l := []) s5.out
                have n0 := bq.cell 0 rfl
                have n1 := bq.cell 1 rfl
                have nu := bq.unfrozen
                go_simp
                have s6 := toHid (RS.put (l := []) s5.out (.slice pW (allocD x tg).1.vSlots.length dW) (.slice qW (allocD x tg).1.vFree.length eW))
                have r6 := toHid (RA.put (l := []) r5.out [.slice pW (allocD x tg).1.vSlots.length dW, .slice qW (allocD x tg).1.vFree.length eW] (.slice pW (allocD x tg).1.vSlots.length dW) (.slice qW (allocD x tg).1.vFree.length eW))
                clear n0 n1 nu bq
                refine hK.out _ _ (hKT.out _ s6.out.1) (fun hHeld => ?_)
                clear hK K
                refine wpAnyH_ready (rs := [14]) (by kernel_rfl) (by simp) ?_
                refine AllReadyH.cons rfl (fun K hK => ?_) AllReadyH.nil
                have bq := RS.box (l := [_]) s6.out
                have n0 := bq.cell 0 rfl
                have n1 := bq.cell 1 rfl
                have nu := bq.unfrozen
                go_simp
                have s7 := toHid (RS.put (l := [_]) s6.out (.int .i64 (allocD x tg).2.1) (.int .i64 (allocD x tg).2.2.1))
                have r7 := toHid (RA.put (l := [_]) r6.out [.int .i64 (allocD x tg).2.1, .int .i64 (allocD x tg).2.2.1] (.int .i64 (allocD x tg).2.1) (.int .i64 (allocD x tg).2.2.1))
                clear n0 n1 nu bq
                refine hK.out _ _ (hKT.out _ s7.out.1) (fun hHeld => ?_)
                clear hK K
                refine tq (i := 15) (d := 11) ?_
                simp only [sz, ss]
                refine wpAnyH_done (by kernel_rfl) ?_ _
                have hoF : Hid (OwA (fun b => w.heap.size < b ∧ b ≠ T) _ _ _ (allocD x tg).1) := OwA.mono r7.out (fun b _ qb => ⟨by have := qb.1; omega, by have := qb.1; omega⟩)
                have hAF := toHid (AA.grown hAA6.out s7.out.1 s7.out.2.1)
                have hNF := toHid (RS.box (l := []) s7.out)
                clear hHeld
                go_wp2_with fail
                go_meet
                exact ⟨_, _, _, _, _, (allocD x tg).1, (allocD x tg).2.2.2, rfl, rfl, hAF, hoF, hNF, fun hb => goodAlloc hgood.out hb⟩
            · go_simp
              have s4 := toHid (RS.allocAt s3.out (u5.heap.size) (by simp) [.slice none 0 0, .slice none 0 0] 27)
              refine hK.out _ _ (hKT.out _ s4.out.1) (fun hHeld => ?_)
              clear hK K
              refine wpAnyH_ready (rs := [5]) (by kernel_rfl) (by simp) ?_
              refine AllReadyH.cons rfl (fun K hK => ?_) AllReadyH.nil
              obtain ⟨tg, c6, htg0⟩ := tabA_pick (RS.box (l := [_, _]) s4.out) (i := k5) hk5
              have htg : Hid (tg.size ≤ maxLen) := by show _ ≤ _; unfold maxLen; omega
              go_simp
              clear c6 htg0
              refine hK.out _ _ (hKT.out _ s4.out.1) (fun hHeld => ?_)
              clear hK K
              refine wpAnyH_ready (rs := [6]) (by kernel_rfl) (by simp) ?_
              refine AllReadyH.cons rfl (fun K hK => ?_) AllReadyH.nil
              go_simp
              refine (specAllocatedS (by exact (AA.grown hAA6.out s4.out.1 s4.out.2.1).2.2.2.2.2.2.1.at) htg.out).mono ?_
              rintro e u8 ⟨⟨csW, rfl, hansW⟩, hb8⟩
              obtain ⟨pW, dW, qW, eW, rfl, hoW⟩ := RA.of s4.out hansW
              have r5 := toHid (hoW)
              have s5 := toHid (s4.out.below hb8)
              clear hb8 hoW hansW
              refine hK.out _ _ (hKT.out _ s5.out.1) (fun hHeld => ?_)
              clear hK K
              refine tq (i := 7) (d := 48) ?_
              simp only [sz, ss]
              refine tq (i := 8) (d := 56) ?_
              simp only [sz, ss]
              refine tq (i := 9) (d := 57) ?_
              simp only [sz, ss]
              refine tq (i := 10) (d := 58) ?_
              simp only [sz, ss]
              refine wpAnyH_ready (rs := [13]) (by kernel_rfl) (by simp) ?_
              refine AllReadyH.cons rfl (fun K hK => ?_) AllReadyH.nil
              have bq := RS.box (l := []) s5.out
              have n0 := bq.cell 0 rfl
              have n1 := bq.cell 1 rfl
              have nu := bq.unfrozen
              go_simp
              have s6 := toHid (RS.put (l := []) s5.out (.slice pW (allocD x tg).1.vSlots.length dW) (.slice qW (allocD x tg).1.vFree.length eW))
              have r6 := toHid (RA.put (l := []) r5.out [.slice pW (allocD x tg).1.vSlots.length dW, .slice qW (allocD x tg).1.vFree.length eW] (.slice pW (allocD x tg).1.vSlots.length dW) (.slice qW (allocD x tg).1.vFree.length eW))
              clear n0 n1 nu bq
              refine hK.out _ _ (hKT.out _ s6.out.1) (fun hHeld => ?_)
              clear hK K
              refine wpAnyH_ready (rs := [14]) (by kernel_rfl) (by simp) ?_
              refine AllReadyH.cons rfl (fun K hK => ?_) AllReadyH.nil
              have bq := RS.box (l := [_]) s6.out
              have n0 := bq.cell 0 rfl
              have n1 := bq.cell 1 rfl
              have nu := bq.unfrozen
              go_simp
              have s7 := toHid (RS.put (l := [_]) s6.out (.int .i64 (allocD x tg).2.1) (.int .i64 (allocD x tg).2.2.1))
              have r7 := toHid (RA.put (l := [_]) r6.out [.int .i64 (allocD x tg).2.1, .int .i64 (allocD x tg).2.2.1] (.int .i64 (allocD x tg).2.1) (.int .i64 (allocD x tg).2.2.1))
              clear n0 n1 nu bq
              refine hK.out _ _ (hKT.out _ s7.out.1) (fun hHeld => ?_)
              clear hK K
              refine tq (i := 15) (d := 11) ?_
              simp only [sz, ss]
              refine wpAnyH_done (by kernel_rfl) ?_ _
              have hoF : Hid (OwA (fun b => w.heap.size < b ∧ b ≠ T) _ _ _ (allocD x tg).1) := OwA.mono r7.out (fun b _ qb => ⟨by have := qb.1; omega, by have := qb.1; omega⟩)
              have hAF := toHid (AA.grown hAA6.out s7.out.1 s7.out.2.1)
              have hNF := toHid (RS.box (l := []) s7.out)
              clear hHeld
              go_wp2_with fail
              go_meet
              exact ⟨_, _, _, _, _, (allocD x tg).1, (allocD x tg).2.2.2, rfl, rfl, hAF, hoF, hNF, fun hb => goodAlloc hgood.out hb⟩
          · go_simp
            have s3 := toHid (RS.allocAt s2.out (w6.heap.size + 1 + 1) (by simp) [.slice none 0 0, .slice none 0 0] 27)
            refine hK.out _ _ (hKT.out _ s3.out.1) (fun hHeld => ?_)
            clear hK K
            refine wpAnyH_ready (rs := [3]) (by kernel_rfl) (by simp) ?_
            refine AllReadyH.cons rfl (fun K hK => ?_) AllReadyH.nil
            go_simp
            refine (below_any (by exact s3.out.2.1) 4 (by omega) (by omega)).mono ?_
            rintro e u5 ⟨v5, rfl, v50, v51, hr5, hg5⟩
            obtain ⟨k5, rfl⟩ := Int.eq_ofNat_of_zero_le v50
            have hk5 : k5 < 4 := by omega
            have s4 := toHid (s3.out.grown hg5 hr5)
            clear hr5 hg5
            refine hK.out _ _ (hKT.out _ s4.out.1) (fun hHeld => ?_)
            clear hK K
            refine tq (i := 4) (d := 53) ?_
            simp only [sz, ss]
            refine wpAnyH_ready (rs := [5]) (by kernel_rfl) (by simp) ?_
            refine AllReadyH.cons rfl (fun K hK => ?_) AllReadyH.nil
            obtain ⟨tg, c6, htg0⟩ := tabA_pick (RS.box (l := [_, _]) s4.out) (i := k5) hk5
            have htg : Hid (tg.size ≤ maxLen) := by show _ ≤ _; unfold maxLen; omega
            go_simp
            clear c6 htg0
            refine hK.out _ _ (hKT.out _ s4.out.1) (fun hHeld => ?_)
            clear hK K
            refine wpAnyH_ready (rs := [6]) (by kernel_rfl) (by simp) ?_
            refine AllReadyH.cons rfl (fun K hK => ?_) AllReadyH.nil
            go_simp
            refine (specAllocatedS (by exact (AA.grown hAA6.out s4.out.1 s4.out.2.1).2.2.2.2.2.2.1.at) htg.out).mono ?_
            rintro e u8 ⟨⟨csW, rfl, hansW⟩, hb8⟩
            obtain ⟨pW, dW, qW, eW, rfl, hoW⟩ := RA.of s4.out hansW
            have r5 := toHid (hoW)
            have s5 := toHid (s4.out.below hb8)
            clear hb8 hoW hansW
            refine hK.out _ _ (hKT.out _ s5.out.1) (fun hHeld => ?_)
            clear hK K
            refine tq (i := 7) (d := 48) ?_
            simp only [sz, ss]
            refine tq (i := 8) (d := 56) ?_
            simp only [sz, ss]
            refine tq (i := 9) (d := 57) ?_
            simp only [sz, ss]
            refine tq (i := 10) (d := 58) ?_
            simp only [sz, ss]
            refine wpAnyH_ready (rs := [13]) (by kernel_rfl) (by simp) ?_
            refine AllReadyH.cons rfl (fun K hK => ?_) AllReadyH.nil
            have bq := RS.box (l := []) s5.out
            have n0 := bq.cell 0 rfl
            have n1 := bq.cell 1 rfl
            have nu := bq.unfrozen
            go_simp
            have s6 := toHid (RS.put (l := []) s5.out (.slice pW (allocD x tg).1.vSlots.length dW) (.slice qW (allocD x tg).1.vFree.length eW))
            have r6 := toHid (RA.put (l := []) r5.out [.slice pW (allocD x tg).1.vSlots.length dW, .slice qW (allocD x tg).1.vFree.length eW] (.slice pW (allocD x tg).1.vSlots.length dW) (.slice qW (allocD x tg).1.vFree.length eW))
            clear n0 n1 nu bq
            refine hK.out _ _ (hKT.out _ s6.out.1) (fun hHeld => ?_)
            clear hK K
            refine wpAnyH_ready (rs := [14]) (by kernel_rfl) (by simp) ?_
            refine AllReadyH.cons rfl (fun K hK => ?_) AllReadyH.nil
            have bq := RS.box (l := [_]) s6.out
            have n0 := bq.cell 0 rfl
            have n1 := bq.cell 1 rfl
            have nu := bq.unfrozen
            go_simp
            have s7 := toHid (RS.put (l := [_]) s6.out (.int .i64 (allocD x tg).2.1) (.int .i64 (allocD x tg).2.2.1))
            have r7 := toHid (RA.put (l := [_]) r6.out [.int .i64 (allocD x tg).2.1, .int .i64 (allocD x tg).2.2.1] (.int .i64 (allocD x tg).2.1) (.int .i64 (allocD x tg).2.2.1))
            clear n0 n1 nu bq
            refine hK.out _ _ (hKT.out _ s7.out.1) (fun hHeld => ?_)
            clear hK K
            refine tq (i := 15) (d := 11) ?_
            simp only [sz, ss]
            refine wpAnyH_done (by kernel_rfl) ?_ _
            have hoF : Hid (OwA (fun b => w.heap.size < b ∧ b ≠ T) _ _ _ (allocD x tg).1) := OwA.mono r7.out (fun b _ qb => ⟨by have := qb.1; omega, by have := qb.1; omega⟩)
            have hAF := toHid (AA.grown hAA6.out s7.out.1 s7.out.2.1)
            have hNF := toHid (RS.box (l := []) s7.out)
            clear hHeld
            go_wp2_with fail
            go_meet
            exact ⟨_, _, _, _, _, (allocD x tg).1, (allocD x tg).2.2.2, rfl, rfl, hAF, hoF, hNF, fun hb => goodAlloc hgood.out hb⟩
      · go_simp
        refine (below_any (by exact s0.out.2.1) 4 (by omega) (by omega)).mono ?_
        rintro e u5 ⟨v5, rfl, v50, v51, hr5, hg5⟩
        obtain ⟨k5, rfl⟩ := Int.eq_ofNat_of_zero_le v50
        have hk5 : k5 < 4 := by omega
        have s1 := toHid (s0.out.grown hg5 hr5)
        clear hr5 hg5
        refine hK.out _ _ (hKT.out _ s1.out.1) (fun hHeld => ?_)
        clear hK K
        refine wpAnyH_ready (rs := [1, 11, 12]) (by kernel_rfl) (by simp) ?_
        refine (AllReadyH.cons rfl (fun K hK => ?_) (AllReadyH.cons rfl (fun K hK => ?_) (AllReadyH.cons rfl (fun K hK => ?_) AllReadyH.nil)))
        · go_simp
          have s2 := toHid (RS.allocAt s1.out (u5.heap.size) (by simp) [.string ⟨#[]⟩, .string ⟨#[97]⟩, .string ⟨#[98, 99]⟩, .string ⟨#[120, 32, 121]⟩] 9)
          refine hK.out _ _ (hKT.out _ s2.out.1) (fun hHeld => ?_)
          clear hK K
          refine tq (i := 4) (d := 53) ?_
          simp only [sz, ss]
          refine wpAnyH_ready (rs := [5, 11, 12]) (by kernel_rfl) (by simp) ?_
          refine (AllReadyH.cons rfl (fun K hK => ?_) (AllReadyH.cons rfl (fun K hK => ?_) (AllReadyH.cons rfl (fun K hK => ?_) AllReadyH.nil)))
          · obtain ⟨tg, c6, htg0⟩ := tabA_pick (RS.box (l := []) s2.out) (i := k5) hk5
            have htg : Hid (tg.size ≤ maxLen) := by show _ ≤ _; unfold maxLen; omega
            go_simp
            clear c6 htg0
            refine hK.out _ _ (hKT.out _ s2.out.1) (fun hHeld => ?_)
            clear hK K
            refine wpAnyH_ready (rs := [6, 11, 12]) (by kernel_rfl) (by simp) ?_
            refine (AllReadyH.cons rfl (fun K hK => ?_) (AllReadyH.cons rfl (fun K hK => ?_) (AllReadyH.cons rfl (fun K hK => ?_) AllReadyH.nil)))
            · go_simp
              refine (specAllocatedS (by exact (AA.grown hAA6.out s2.out.1 s2.out.2.1).2.2.2.2.2.2.1.at) htg.out).mono ?_
              rintro e u8 ⟨⟨csW, rfl, hansW⟩, hb8⟩
              obtain ⟨pW, dW, qW, eW, rfl, hoW⟩ := RA.of s2.out hansW
              have r3 := toHid (hoW)
              have s3 := toHid (s2.out.below hb8)
              clear hb8 hoW hansW
              refine hK.out _ _ (hKT.out _ s3.out.1) (fun hHeld => ?_)
              clear hK K
              refine tq (i := 7) (d := 48) ?_
              simp only [sz, ss]
              refine tq (i := 8) (d := 56) ?_
              simp only [sz, ss]
              refine tq (i := 9) (d := 57) ?_
              simp only [sz, ss]
              refine tq (i := 10) (d := 58) ?_
              simp only [sz, ss]
              refine wpAnyH_ready (rs := [11, 12]) (by kernel_rfl) (by simp) ?_
              refine (AllReadyH.cons rfl (fun K hK => ?_) (AllReadyH.cons rfl (fun K hK => ?_) AllReadyH.nil))
              · go_simp
                have s4 := toHid (RS.allocAt s3.out (u8.heap.size) (by simp) [.slice none 0 0, .slice none 0 0] 27)
                have r4 := toHid (RA.allocAt r3.out (u8.heap.size) (by simp) [.slice none 0 0, .slice none 0 0] 27)
                refine hK.out _ _ (hKT.out _ s4.out.1) (fun hHeld => ?_)
                clear hK K
                refine wpAnyH_ready (rs := [12]) (by kernel_rfl) (by simp) ?_
                refine AllReadyH.cons rfl (fun K hK => ?_) AllReadyH.nil
                go_simp
                have s5 := toHid (RS.allocAt s4.out (u8.heap.size + 1) (by simp) [.int .i64 0, .int .i64 0] 31)
                have r5 := toHid (RA.allocAt r4.out (u8.heap.size + 1) (by simp) [.int .i64 0, .int .i64 0] 31)
                refine hK.out _ _ (hKT.out _ s5.out.1) (fun hHeld => ?_)
                clear hK K
                refine wpAnyH_ready (rs := [13]) (by kernel_rfl) (by simp) ?_
                refine AllReadyH.cons rfl (fun K hK => ?_) AllReadyH.nil
                go_simp
                have s6_0 := toHid (RS.allocAt s3.out (u8.heap.size) (by simp) [.slice pW (allocD x tg).1.vSlots.length dW, .slice qW (allocD x tg).1.vFree.length eW] 27)
                have r6_0 := toHid (RA.allocAt r3.out (u8.heap.size) (by simp) [.slice pW (allocD x tg).1.vSlots.length dW, .slice qW (allocD x tg).1.vFree.length eW] 27)
                have s6 := toHid (RS.allocAt s6_0.out (u8.heap.size + 1) (by simp) [.int .i64 0, .int .i64 0] 31)
                have r6 := toHid (RA.allocAt r6_0.out (u8.heap.size + 1) (by simp) [.int .i64 0, .int .i64 0] 31)
                refine hK.out _ _ (hKT.out _ s6.out.1) (fun hHeld => ?_)
                clear hK K
                refine wpAnyH_ready (rs := [14]) (by kernel_rfl) (by simp) ?_
                refine AllReadyH.cons rfl (fun K hK => ?_) AllReadyH.nil
                go_simp
                have s7_0 := toHid (RS.allocAt s3.out (u8.heap.size) (by simp) [.slice pW (allocD x tg).1.vSlots.length dW, .slice qW (allocD x tg).1.vFree.length eW] 27)
                have r7_0 := toHid (RA.allocAt r3.out (u8.heap.size) (by simp) [.slice pW (allocD x tg).1.vSlots.length dW, .slice qW (allocD x tg).1.vFree.length eW] 27)
                have s7 := toHid (RS.allocAt s7_0.out (u8.heap.size + 1) (by simp) [.int .i64 (allocD x tg).2.1, .int .i64 (allocD x tg).2.2.1] 31)
                have r7 := toHid (RA.allocAt r7_0.out (u8.heap.size + 1) (by simp) [.int .i64 (allocD x tg).2.1, .int .i64 (allocD x tg).2.2.1] 31)
                refine hK.out _ _ (hKT.out _ s7.out.1) (fun hHeld => ?_)
                clear hK K
                refine tq (i := 15) (d := 11) ?_
                simp only [sz, ss]
                refine wpAnyH_done (by kernel_rfl) ?_ _
                have hoF : Hid (OwA (fun b => w.heap.size < b ∧ b ≠ T) _ _ _ (allocD x tg).1) := OwA.mono r7.out (fun b _ qb => ⟨by have := qb.1; omega, by have := qb.1; omega⟩)
                have hAF := toHid (AA.grown hAA6.out s7.out.1 s7.out.2.1)
                have hNF := toHid (RS.box (l := [_]) s7.out)
                clear hHeld
                go_wp2_with fail
                go_meet
                exact ⟨_, _, _, _, _, (allocD x tg).1, (allocD x tg).2.2.2, rfl, rfl, hAF, hoF, hNF, fun hb => goodAlloc hgood.out hb⟩
              · go_simp
                have s4 := toHid (RS.allocAt s3.out (u8.heap.size) (by simp) [.int .i64 0, .int .i64 0] 31)
                have r4 := toHid (RA.allocAt r3.out (u8.heap.size) (by simp) [.int .i64 0, .int .i64 0] 31)
                refine hK.out _ _ (hKT.out _ s4.out.1) (fun hHeld => ?_)
                clear hK K
                refine wpAnyH_ready (rs := [11]) (by kernel_rfl) (by simp) ?_
                refine AllReadyH.cons rfl (fun K hK => ?_) AllReadyH.nil
                go_simp
                have s5 := toHid (RS.allocAt s4.out (u8.heap.size + 1) (by simp) [.slice none 0 0, .slice none 0 0] 27)
                have r5 := toHid (RA.allocAt r4.out (u8.heap.size + 1) (by simp) [.slice none 0 0, .slice none 0 0] 27)
                refine hK.out _ _ (hKT.out _ s5.out.1) (fun hHeld => ?_)
                clear hK K
                refine wpAnyH_ready (rs := [13]) (by kernel_rfl) (by simp) ?_
                refine AllReadyH.cons rfl (fun K hK => ?_) AllReadyH.nil
                go_simp
                have s6_0 := toHid (RS.allocAt s3.out (u8.heap.size) (by simp) [.int .i64 0, .int .i64 0] 31)
                have r6_0 := toHid (RA.allocAt r3.out (u8.heap.size) (by simp) [.int .i64 0, .int .i64 0] 31)
                have s6 := toHid (RS.allocAt s6_0.out (u8.heap.size + 1) (by simp) [.slice pW (allocD x tg).1.vSlots.length dW, .slice qW (allocD x tg).1.vFree.length eW] 27)
                have r6 := toHid (RA.allocAt r6_0.out (u8.heap.size + 1) (by simp) [.slice pW (allocD x tg).1.vSlots.length dW, .slice qW (allocD x tg).1.vFree.length eW] 27)
                refine hK.out _ _ (hKT.out _ s6.out.1) (fun hHeld => ?_)
                clear hK K
                refine wpAnyH_ready (rs := [14]) (by kernel_rfl) (by simp) ?_
                refine AllReadyH.cons rfl (fun K hK => ?_) AllReadyH.nil
                go_simp
                have s7_0 := toHid (RS.allocAt s3.out (u8.heap.size) (by simp) [.int .i64 (allocD x tg).2.1, .int .i64 (allocD x tg).2.2.1] 31)
                have r7_0 := toHid (RA.allocAt r3.out (u8.heap.size) (by simp) [.int .i64 (allocD x tg).2.1, .int .i64 (allocD x tg).2.2.1] 31)
                have s7 := toHid (RS.allocAt s7_0.out (u8.heap.size + 1) (by simp) [.slice pW (allocD x tg).1.vSlots.length dW, .slice qW (allocD x tg).1.vFree.length eW] 27)
                have r7 := toHid (RA.allocAt r7_0.out (u8.heap.size + 1) (by simp) [.slice pW (allocD x tg).1.vSlots.length dW, .slice qW (allocD x tg).1.vFree.length eW] 27)
                refine hK.out _ _ (hKT.out _ s7.out.1) (fun hHeld => ?_)
                clear hK K
                refine tq (i := 15) (d := 11) ?_
                simp only [sz, ss]
                refine wpAnyH_done (by kernel_rfl) ?_ _
                have hoF : Hid (OwA (fun b => w.heap.size < b ∧ b ≠ T) _ _ _ (allocD x tg).1) := OwA.mono r7.out (fun b _ qb => ⟨by have := qb.1; omega, by have := qb.1; omega⟩)
                have hAF := toHid (AA.grown hAA6.out s7.out.1 s7.out.2.1)
                have hNF := toHid (RS.box (l := []) s7.out)
                clear hHeld
                go_wp2_with fail
                go_meet
                exact ⟨_, _, _, _, _, (allocD x tg).1, (allocD x tg).2.2.2, rfl, rfl, hAF, hoF, hNF, fun hb => goodAlloc hgood.out hb⟩
            · go_simp
              have s3 := toHid (RS.allocAt s2.out (u5.heap.size + 1) (by simp) [.slice none 0 0, .slice none 0 0] 27)
              refine hK.out _ _ (hKT.out _ s3.out.1) (fun hHeld => ?_)
              clear hK K
              refine wpAnyH_ready (rs := [6, 12]) (by kernel_rfl) (by simp) ?_
              refine (AllReadyH.cons rfl (fun K hK => ?_) (AllReadyH.cons rfl (fun K hK => ?_) AllReadyH.nil))
              · go_simp
                refine (specAllocatedS (by exact (AA.grown hAA6.out s3.out.1 s3.out.2.1).2.2.2.2.2.2.1.at) htg.out).mono ?_
                rintro e u8 ⟨⟨csW, rfl, hansW⟩, hb8⟩
                obtain ⟨pW, dW, qW, eW, rfl, hoW⟩ := RA.of s3.out hansW
                have r4 := toHid (hoW)
                have s4 := toHid (s3.out.below hb8)
                clear hb8 hoW hansW
                refine hK.out _ _ (hKT.out _ s4.out.1) (fun hHeld => ?_)
                clear hK K
                refine tq (i := 7) (d := 48) ?_
                simp only [sz, ss]
                refine tq (i := 8) (d := 56) ?_
                simp only [sz, ss]
                refine tq (i := 9) (d := 57) ?_
                simp only [sz, ss]
                refine tq (i := 10) (d := 58) ?_
                simp only [sz, ss]
                refine wpAnyH_ready (rs := [12]) (by kernel_rfl) (by simp) ?_
                refine AllReadyH.cons rfl (fun K hK => ?_) AllReadyH.nil
                go_simp
                have s5 := toHid (RS.allocAt s4.out (u8.heap.size) (by simp) [.int .i64 0, .int .i64 0] 31)
                have r5 := toHid (RA.allocAt r4.out (u8.heap.size) (by simp) [.int .i64 0, .int .i64 0] 31)
                refine hK.out _ _ (hKT.out _ s5.out.1) (fun hHeld => ?_)
                clear hK K
                refine wpAnyH_ready (rs := [13]) (by kernel_rfl) (by simp) ?_
                refine AllReadyH.cons rfl (fun K hK => ?_) AllReadyH.nil
                have bq := RS.box (l := [_]) s5.out
                have n0 := bq.cell 0 rfl
                have n1 := bq.cell 1 rfl
                have nu := bq.unfrozen
                go_simp
                have s6 := toHid (RS.put (l := [_]) s5.out (.slice pW (allocD x tg).1.vSlots.length dW) (.slice qW (allocD x tg).1.vFree.length eW))
                have r6 := toHid (RA.put (l := [_]) r5.out [.slice pW (allocD x tg).1.vSlots.length dW, .slice qW (allocD x tg).1.vFree.length eW] (.slice pW (allocD x tg).1.vSlots.length dW) (.slice qW (allocD x tg).1.vFree.length eW))
                clear n0 n1 nu bq
                refine hK.out _ _ (hKT.out _ s6.out.1) (fun hHeld => ?_)
                clear hK K
                refine wpAnyH_ready (rs := [14]) (by kernel_rfl) (by simp) ?_
                refine AllReadyH.cons rfl (fun K hK => ?_) AllReadyH.nil
                have bq := RS.box (l := []) s6.out
                have n0 := bq.cell 0 rfl
                have n1 := bq.cell 1 rfl
                have nu := bq.unfrozen
                go_simp
                have s7 := toHid (RS.put (l := []) s6.out (.int .i64 (allocD x tg).2.1) (.int .i64 (allocD x tg).2.2.1))
                have r7 := toHid (RA.put (l := []) r6.out [.int .i64 (allocD x tg).2.1, .int .i64 (allocD x tg).2.2.1] (.int .i64 (allocD x tg).2.1) (.int .i64 (allocD x tg).2.2.1))
                clear n0 n1 nu bq
                refine hK.out _ _ (hKT.out _ s7.out.1) (fun hHeld => ?_)
                clear hK K
                refine tq (i := 15) (d := 11) ?_
                simp only [sz, ss]
                refine wpAnyH_done (by kernel_rfl) ?_ _
                have hoF : Hid (OwA (fun b => w.heap.size < b ∧ b ≠ T) _ _ _ (allocD x tg).1) := OwA.mono r7.out (fun b _ qb => ⟨by have := qb.1; omega, by have := qb.1; omega⟩)
                have hAF := toHid (AA.grown hAA6.out s7.out.1 s7.out.2.1)
                have hNF := toHid (RS.box (l := [_]) s7.out)
                clear hHeld
                go_wp2_with fail
                go_meet
                exact ⟨_, _, _, _, _, (allocD x tg).1, (allocD x tg).2.2.2, rfl, rfl, hAF, hoF, hNF, fun hb => goodAlloc hgood.out hb⟩
              · go_simp
                have s4 := toHid (RS.allocAt s3.out (u5.heap.size + 1 + 1) (by simp) [.int .i64 0, .int .i64 0] 31)
                refine hK.out _ _ (hKT.out _ s4.out.1) (fun hHeld => ?_)
                clear hK K
                refine wpAnyH_ready (rs := [6]) (by kernel_rfl) (by simp) ?_
                refine AllReadyH.cons rfl (fun K hK => ?_) AllReadyH.nil
                go_simp
                refine (specAllocatedS (by exact (AA.grown hAA6.out s4.out.1 s4.out.2.1).2.2.2.2.2.2.1.at) htg.out).mono ?_
                rintro e u8 ⟨⟨csW, rfl, hansW⟩, hb8⟩
                obtain ⟨pW, dW, qW, eW, rfl, hoW⟩ := RA.of s4.out hansW
                have r5 := toHid (hoW)
                have s5 := toHid (s4.out.below hb8)
                clear hb8 hoW hansW
                refine hK.out _ _ (hKT.out _ s5.out.1) (fun hHeld => ?_)
                clear hK K
                refine tq (i := 7) (d := 48) ?_
                simp only [sz, ss]
                refine tq (i := 8) (d := 56) ?_
                simp only [sz, ss]
                refine tq (i := 9) (d := 57) ?_
                simp only [sz, ss]
                refine tq (i := 10) (d := 58) ?_
                simp only [sz, ss]
                refine wpAnyH_ready (rs := [13]) (by kernel_rfl) (by simp) ?_
                refine AllReadyH.cons rfl (fun K hK => ?_) AllReadyH.nil
                have bq := RS.box (l := [_]) s5.out
                have n0 := bq.cell 0 rfl
                have n1 := bq.cell 1 rfl
                have nu := bq.unfrozen
                go_simp
                have s6 := toHid (RS.put (l := [_]) s5.out (.slice pW (allocD x tg).1.vSlots.length dW) (.slice qW (allocD x tg).1.vFree.length eW))
                have r6 := toHid (RA.put (l := [_]) r5.out [.slice pW (allocD x tg).1.vSlots.length dW, .slice qW (allocD x tg).1.vFree.length eW] (.slice pW (allocD x tg).1.vSlots.length dW) (.slice qW (allocD x tg).1.vFree.length eW))
                clear n0 n1 nu bq
                refine hK.out _ _ (hKT.out _ s6.out.1) (fun hHeld => ?_)
                clear hK K
                refine wpAnyH_ready (rs := [14]) (by kernel_rfl) (by simp) ?_
                refine AllReadyH.cons rfl (fun K hK => ?_) AllReadyH.nil
                have bq := RS.box (l := []) s6.out
                have n0 := bq.cell 0 rfl
                have n1 := bq.cell 1 rfl
                have nu := bq.unfrozen
                go_simp
                have s7 := toHid (RS.put (l := []) s6.out (.int .i64 (allocD x tg).2.1) (.int .i64 (allocD x tg).2.2.1))
                have r7 := toHid (RA.put (l := []) r6.out [.int .i64 (allocD x tg).2.1, .int .i64 (allocD x tg).2.2.1] (.int .i64 (allocD x tg).2.1) (.int .i64 (allocD x tg).2.2.1))
                clear n0 n1 nu bq
                refine hK.out _ _ (hKT.out _ s7.out.1) (fun hHeld => ?_)
                clear hK K
                refine tq (i := 15) (d := 11) ?_
                simp only [sz, ss]
                refine wpAnyH_done (by kernel_rfl) ?_ _
                have hoF : Hid (OwA (fun b => w.heap.size < b ∧ b ≠ T) _ _ _ (allocD x tg).1) := OwA.mono r7.out (fun b _ qb => ⟨by have := qb.1; omega, by have := qb.1; omega⟩)
                have hAF := toHid (AA.grown hAA6.out s7.out.1 s7.out.2.1)
                have hNF := toHid (RS.box (l := [_]) s7.out)
                clear hHeld
                go_wp2_with fail
                go_meet
                exact ⟨_, _, _, _, _, (allocD x tg).1, (allocD x tg).2.2.2, rfl, rfl, hAF, hoF, hNF, fun hb => goodAlloc hgood.out hb⟩
            · go_simp
              have s3 := toHid (RS.allocAt s2.out (u5.heap.size + 1) (by simp) [.int .i64 0, .int .i64 0] 31)
              refine hK.out _ _ (hKT.out _ s3.out.1) (fun hHeld => ?_)
              clear hK K
              refine wpAnyH_ready (rs := [6, 11]) (by kernel_rfl) (by simp) ?_
              refine (AllReadyH.cons rfl (fun K hK => ?_) (AllReadyH.cons rfl (fun K hK => ?_) AllReadyH.nil))
              · go_simp
                refine (specAllocatedS (by exact (AA.grown hAA6.out s3.out.1 s3.out.2.1).2.2.2.2.2.2.1.at) htg.out).mono ?_
                rintro e u8 ⟨⟨csW, rfl, hansW⟩, hb8⟩
                obtain ⟨pW, dW, qW, eW, rfl, hoW⟩ := RA.of s3.out hansW
                have r4 := toHid (hoW)
                have s4 := toHid (s3.out.below hb8)
                clear hb8 hoW hansW
                refine hK.out _ _ (hKT.out _ s4.out.1) (fun hHeld => ?_)
                clear hK K
                refine tq (i := 7) (d := 48) ?_
                simp only [sz, ss]
                refine tq (i := 8) (d := 56) ?_
                simp only [sz, ss]
                refine tq (i := 9) (d := 57) ?_
                simp only [sz, ss]
                refine tq (i := 10) (d := 58) ?_
                simp only [sz, ss]
                refine wpAnyH_ready (rs := [11]) (by kernel_rfl) (by simp) ?_
                refine AllReadyH.cons rfl (fun K hK => ?_) AllReadyH.nil
                go_simp
                have s5 := toHid (RS.allocAt s4.out (u8.heap.size) (by simp) [.slice none 0 0, .slice none 0 0] 27)
                have r5 := toHid (RA.allocAt r4.out (u8.heap.size) (by simp) [.slice none 0 0, .slice none 0 0] 27)
                refine hK.out _ _ (hKT.out _ s5.out.1) (fun hHeld => ?_)
                clear hK K
                refine wpAnyH_ready (rs := [13]) (by kernel_rfl) (by simp) ?_
                refine AllReadyH.cons rfl (fun K hK => ?_) AllReadyH.nil
                go_simp
                have s6 := toHid (RS.allocAt s4.out (u8.heap.size) (by simp) [.slice pW (allocD x tg).1.vSlots.length dW, .slice qW (allocD x tg).1.vFree.length eW] 27)
                have r6 := toHid (RA.allocAt r4.out (u8.heap.size) (by simp) [.slice pW (allocD x tg).1.vSlots.length dW, .slice qW (allocD x tg).1.vFree.length eW] 27)
                refine hK.out _ _ (hKT.out _ s6.out.1) (fun hHeld => ?_)
                clear hK K
                refine wpAnyH_ready (rs := [14]) (by kernel_rfl) (by simp) ?_
                refine AllReadyH.cons rfl (fun K hK => ?_) AllReadyH.nil
                have bq := RS.box (l := [_]) s6.out
                have n0 := bq.cell 0 rfl
                have n1 := bq.cell 1 rfl
                have nu := bq.unfrozen
                go_simp
                have s7 := toHid (RS.put (l := [_]) s6.out (.int .i64 (allocD x tg).2.1) (.int .i64 (allocD x tg).2.2.1))
                have r7 := toHid (RA.put (l := [_]) r6.out [.int .i64 (allocD x tg).2.1, .int .i64 (allocD x tg).2.2.1] (.int .i64 (allocD x tg).2.1) (.int .i64 (allocD x tg).2.2.1))
                clear n0 n1 nu bq
                refine hK.out _ _ (hKT.out _ s7.out.1) (fun hHeld => ?_)
                clear hK K
                refine tq (i := 15) (d := 11) ?_
                simp only [sz, ss]
                refine wpAnyH_done (by kernel_rfl) ?_ _
                have hoF : Hid (OwA (fun b => w.heap.size < b ∧ b ≠ T) _ _ _ (allocD x tg).1) := OwA.mono r7.out (fun b _ qb => ⟨by have := qb.1; omega, by have := qb.1; omega⟩)
                have hAF := toHid (AA.grown hAA6.out s7.out.1 s7.out.2.1)
                have hNF := toHid (RS.box (l := []) s7.out)
                clear hHeld
                go_wp2_with fail
                go_meet
                exact ⟨_, _, _, _, _, (allocD x tg).1, (allocD x tg).2.2.2, rfl, rfl, hAF, hoF, hNF, fun hb => goodAlloc hgood.out hb⟩
              · go_simp
                have s4 := toHid (RS.allocAt s3.out (u5.heap.size + 1 + 1) (by simp) [.slice none 0 0, .slice none 0 0] 27)
                refine hK.out _ _ (hKT.out _ s4.out.1) (fun hHeld => ?_)
                clear hK K
                refine wpAnyH_ready (rs := [6]) (by kernel_rfl) (by simp) ?_
                refine AllReadyH.cons rfl (fun K hK => ?_) AllReadyH.nil
                go_simp
                refine (specAllocatedS (by exact (AA.grown hAA6.out s4.out.1 s4.out.2.1).2.2.2.2.2.2.1.at) htg.out).mono ?_
                rintro e u8 ⟨⟨csW, rfl, hansW⟩, hb8⟩
                obtain ⟨pW, dW, qW, eW, rfl, hoW⟩ := RA.of s4.out hansW
                have r5 := toHid (hoW)
                have s5 := toHid (s4.out.below hb8)
                clear hb8 hoW hansW
                refine hK.out _ _ (hKT.out _ s5.out.1) (fun hHeld => ?_)
                clear hK K
                refine tq (i := 7) (d := 48) ?_
                simp only [sz, ss]
                refine tq (i := 8) (d := 56) ?_
                simp only [sz, ss]
                refine tq (i := 9) (d := 57) ?_
                simp only [sz, ss]
                refine tq (i := 10) (d := 58) ?_
                simp only [sz, ss]
                refine wpAnyH_ready (rs := [13]) (by kernel_rfl) (by simp) ?_
                refine AllReadyH.cons rfl (fun K hK => ?_) AllReadyH.nil
                have bq := RS.box (l := []) s5.out
                have n0 := bq.cell 0 rfl
                have n1 := bq.cell 1 rfl
                have nu := bq.unfrozen
                go_simp
                have s6 := toHid (RS.put (l := []) s5.out (.slice pW (allocD x tg).1.vSlots.length dW) (.slice qW (allocD x tg).1.vFree.length eW))
                have r6 := toHid (RA.put (l := []) r5.out [.slice pW (allocD x tg).1.vSlots.length dW, .slice qW (allocD x tg).1.vFree.length eW] (.slice pW (allocD x tg).1.vSlots.length dW) (.slice qW (allocD x tg).1.vFree.length eW))
                clear n0 n1 nu bq
                refine hK.out _ _ (hKT.out _ s6.out.1) (fun hHeld => ?_)
                clear hK K
                refine wpAnyH_ready (rs := [14]) (by kernel_rfl) (by simp) ?_
                refine AllReadyH.cons rfl (fun K hK => ?_) AllReadyH.nil
                have bq := RS.box (l := [_]) s6.out
                have n0 := bq.cell 0 rfl
                have n1 := bq.cell 1 rfl
                have nu := bq.unfrozen
                go_simp
                have s7 := toHid (RS.put (l := [_]) s6.out (.int .i64 (allocD x tg).2.1) (.int .i64 (allocD x tg).2.2.1))
                have r7 := toHid (RA.put (l := [_]) r6.out [.int .i64 (allocD x tg).2.1, .int .i64 (allocD x tg).2.2.1] (.int .i64 (allocD x tg).2.1) (.int .i64 (allocD x tg).2.2.1))
                clear n0 n1 nu bq
                refine hK.out _ _ (hKT.out _ s7.out.1) (fun hHeld => ?_)
                clear hK K
                refine tq (i := 15) (d := 11) ?_
                simp only [sz, ss]
                refine wpAnyH_done (by kernel_rfl) ?_ _
                have hoF : Hid (OwA (fun b => w.heap.size < b ∧ b ≠ T) _ _ _ (allocD x tg).1) := OwA.mono r7.out (fun b _ qb => ⟨by have := qb.1; omega, by have := qb.1; omega⟩)
                have hAF := toHid (AA.grown hAA6.out s7.out.1 s7.out.2.1)
                have hNF := toHid (RS.box (l := []) s7.out)
                clear hHeld
                go_wp2_with fail
                go_meet
                exact ⟨_, _, _, _, _, (allocD x tg).1, (allocD x tg).2.2.2, rfl, rfl, hAF, hoF, hNF, fun hb => goodAlloc hgood.out hb⟩
          · go_simp
            have s3 := toHid (RS.allocAt s2.out (u5.heap.size + 1) (by simp) [.slice none 0 0, .slice none 0 0] 27)
            refine hK.out _ _ (hKT.out _ s3.out.1) (fun hHeld => ?_)
            clear hK K
            refine wpAnyH_ready (rs := [5, 12]) (by kernel_rfl) (by simp) ?_
            refine (AllReadyH.cons rfl (fun K hK => ?_) (AllReadyH.cons rfl (fun K hK => ?_) AllReadyH.nil))
            · obtain ⟨tg, c6, htg0⟩ := tabA_pick (RS.box (l := [_]) s3.out) (i := k5) hk5
              have htg : Hid (tg.size ≤ maxLen) := by show _ ≤ _; unfold maxLen; omega
              go_simp
              clear c6 htg0
              refine hK.out _ _ (hKT.out _ s3.out.1) (fun hHeld => ?_)
              clear hK K
              refine wpAnyH_ready (rs := [6, 12]) (by kernel_rfl) (by simp) ?_
              refine (AllReadyH.cons rfl (fun K hK => ?_) (AllReadyH.cons rfl (fun K hK => ?_) AllReadyH.nil))
              · go_simp
                refine (specAllocatedS (by exact (AA.grown hAA6.out s3.out.1 s3.out.2.1).2.2.2.2.2.2.1.at) htg.out).mono ?_
                rintro e u8 ⟨⟨csW, rfl, hansW⟩, hb8⟩
                obtain ⟨pW, dW, qW, eW, rfl, hoW⟩ := RA.of s3.out hansW
                have r4 := toHid (hoW)
                have s4 := toHid (s3.out.below hb8)
                clear hb8 hoW hansW
                refine hK.out _ _ (hKT.out _ s4.out.1) (fun hHeld => ?_)
                clear hK K
                refine tq (i := 7) (d := 48) ?_
                simp only [sz, ss]
                refine tq (i := 8) (d := 56) ?_
                simp only [sz, ss]
                refine tq (i := 9) (d := 57) ?_
                simp only [sz, ss]
                refine tq (i := 10) (d := 58) ?_
                simp only [sz, ss]
                refine wpAnyH_ready (rs := [12]) (by kernel_rfl) (by simp) ?_
                refine AllReadyH.cons rfl (fun K hK => ?_) AllReadyH.nil
                go_simp
                have s5 := toHid (RS.allocAt s4.out (u8.heap.size) (by simp) [.int .i64 0, .int .i64 0] 31)
                have r5 := toHid (RA.allocAt r4.out (u8.heap.size) (by simp) [.int .i64 0, .int .i64 0] 31)
                refine hK.out _ _ (hKT.out _ s5.out.1) (fun hHeld => ?_)
                clear hK K
                refine wpAnyH_ready (rs := [13]) (by kernel_rfl) (by simp) ?_
                refine AllReadyH.cons rfl (fun K hK => ?_) AllReadyH.nil
                have bq := RS.box (l := [_]) s5.out
                have n0 := bq.cell 0 rfl
                have n1 := bq.cell 1 rfl
                have nu := bq.unfrozen
                go_simp
                have s6 := toHid (RS.put (l := [_]) s5.out (.slice pW (allocD x tg).1.vSlots.length dW) (.slice qW (allocD x tg).1.vFree.length eW))
                have r6 := toHid (RA.put (l := [_]) r5.out [.slice pW (allocD x tg).1.vSlots.length dW, .slice qW (allocD x tg).1.vFree.length eW] (.slice pW (allocD x tg).1.vSlots.length dW) (.slice qW (allocD x tg).1.vFree.length eW))
                clear n0 n1 nu bq
                refine hK.out _ _ (hKT.out _ s6.out.1) (fun hHeld => ?_)
                clear hK K
                refine wpAnyH_ready (rs := [14]) (by kernel_rfl) (by simp) ?_
                refine AllReadyH.cons rfl (fun K hK => ?_) AllReadyH.nil
                have bq := RS.box (l := []) s6.out
                have n0 := bq.cell 0 rfl
                have n1 := bq.cell 1 rfl
                have nu := bq.unfrozen
                go_simp
                have s7 := toHid (RS.put (l := []) s6.out (.int .i64 (allocD x tg).2.1) (.int .i64 (allocD x tg).2.2.1))
                have r7 := toHid (RA.put (l := []) r6.out [.int .i64 (allocD x tg).2.1, .int .i64 (allocD x tg).2.2.1] (.int .i64 (allocD x tg).2.1) (.int .i64 (allocD x tg).2.2.1))
                clear n0 n1 nu bq
                refine hK.out _ _ (hKT.out _ s7.out.1) (fun hHeld => ?_)
                clear hK K
                refine tq (i := 15) (d := 11) ?_
                simp only [sz, ss]
                refine wpAnyH_done (by kernel_rfl) ?_ _
                have hoF : Hid (OwA (fun b => w.heap.size < b ∧ b ≠ T) _ _ _ (allocD x tg).1) := OwA.mono r7.out (fun b _ qb => ⟨by have := qb.1; omega, by have := qb.1; omega⟩)
                have hAF := toHid (AA.grown hAA6.out s7.out.1 s7.out.2.1)
                have hNF := toHid (RS.box (l := [_]) s7.out)
                clear hHeld
                go_wp2_with fail
                go_meet
                exact ⟨_, _, _, _, _, (allocD x tg).1, (allocD x tg).2.2.2, rfl, rfl, hAF, hoF, hNF, fun hb => goodAlloc hgood.out hb⟩
              · go_simp
                have s4 := toHid (RS.allocAt s3.out (u5.heap.size + 1 + 1) (by simp) [.int .i64 0, .int .i64 0] 31)
                refine hK.out _ _ (hKT.out _ s4.out.1) (fun hHeld => ?_)
                clear hK K
                refine wpAnyH_ready (rs := [6]) (by kernel_rfl) (by simp) ?_
                refine AllReadyH.cons rfl (fun K hK => ?_) AllReadyH.nil
                go_simp
                refine (specAllocatedS (by exact (AA.grown hAA6.out s4.out.1 s4.out.2.1).2.2.2.2.2.2.1.at) htg.out).mono ?_
                rintro e u8 ⟨⟨csW, rfl, hansW⟩, hb8⟩
                obtain ⟨pW, dW, qW, eW, rfl, hoW⟩ := RA.of s4.out hansW
                have r5 := toHid (hoW)
                have s5 := toHid (s4.out.below hb8)
                clear hb8 hoW hansW
                refine hK.out _ _ (hKT.out _ s5.out.1) (fun hHeld => ?_)
                clear hK K
                refine tq (i := 7) (d := 48) ?_
                simp only [sz, ss]
                refine tq (i := 8) (d := 56) ?_
                simp only [sz, ss]
                refine tq (i := 9) (d := 57) ?_
                simp only [sz, ss]
                refine tq (i := 10) (d := 58) ?_
                simp only [sz, ss]
                refine wpAnyH_ready (rs := [13]) (by kernel_rfl) (by simp) ?_
                refine AllReadyH.cons rfl (fun K hK => ?_) AllReadyH.nil
                have bq := RS.box (l := [_]) s5.out
                have n0 := bq.cell 0 rfl
                have n1 := bq.cell 1 rfl
                have nu := bq.unfrozen
                go_simp
                have s6 := toHid (RS.put (l := [_]) s5.out (.slice pW (allocD x tg).1.vSlots.length dW) (.slice qW (allocD x tg).1.vFree.length eW))
                have r6 := toHid (RA.put (l := [_]) r5.out [.slice pW (allocD x tg).1.vSlots.length dW, .slice qW (allocD x tg).1.vFree.length eW] (.slice pW (allocD x tg).1.vSlots.length dW) (.slice qW (allocD x tg).1.vFree.length eW))
                clear n0 n1 nu bq
                refine hK.out _ _ (hKT.out _ s6.out.1) (fun hHeld => ?_)
                clear hK K
                refine wpAnyH_ready (rs := [14]) (by kernel_rfl) (by simp) ?_
                refine AllReadyH.cons rfl (fun K hK => ?_) AllReadyH.nil
                have bq := RS.box (l := []) s6.out
                have n0 := bq.cell 0 rfl
                have n1 := bq.cell 1 rfl
                have nu := bq.unfrozen
                go_simp
                have s7 := toHid (RS.put (l := []) s6.out (.int .i64 (allocD x tg).2.1) (.int .i64 (allocD x tg).2.2.1))
                have r7 := toHid (RA.put (l := []) r6.out [.int .i64 (allocD x tg).2.1, .int .i64 (allocD x tg).2.2.1] (.int .i64 (allocD x tg).2.1) (.int .i64 (allocD x tg).2.2.1))
                clear n0 n1 nu bq
                refine hK.out _ _ (hKT.out _ s7.out.1) (fun hHeld => ?_)
                clear hK K
                refine tq (i := 15) (d := 11) ?_
                simp only [sz, ss]
                refine wpAnyH_done (by kernel_rfl) ?_ _
                have hoF : Hid (OwA (fun b => w.heap.size < b ∧ b ≠ T) _ _ _ (allocD x tg).1) := OwA.mono r7.out (fun b _ qb => ⟨by have := qb.1; omega, by have := qb.1; omega⟩)
                have hAF := toHid (AA.grown hAA6.out s7.out.1 s7.out.2.1)
                have hNF := toHid (RS.box (l := [_]) s7.out)
                clear hHeld
                go_wp2_with fail
                go_meet
                exact ⟨_, _, _, _, _, (allocD x tg).1, (allocD x tg).2.2.2, rfl, rfl, hAF, hoF, hNF, fun hb => goodAlloc hgood.out hb⟩
            · go_simp
              have s4 := toHid (RS.allocAt s3.out (u5.heap.size + 1 + 1) (by simp) [.int .i64 0, .int .i64 0] 31)
              refine hK.out _ _ (hKT.out _ s4.out.1) (fun hHeld => ?_)
              clear hK K
              refine wpAnyH_ready (rs := [5]) (by kernel_rfl) (by simp) ?_
              refine AllReadyH.cons rfl (fun K hK => ?_) AllReadyH.nil
              obtain ⟨tg, c6, htg0⟩ := tabA_pick (RS.box (l := [_, _]) s4.out) (i := k5) hk5
              have htg : Hid (tg.size ≤ maxLen) := by show _ ≤ _; unfold maxLen; omega
              go_simp
              clear c6 htg0
              refine hK.out _ _ (hKT.out _ s4.out.1) (fun hHeld => ?_)
              clear hK K
              refine wpAnyH_ready (rs := [6]) (by kernel_rfl) (by simp) ?_
              refine AllReadyH.cons rfl (fun K hK => ?_) AllReadyH.nil
              go_simp
              refine (specAllocatedS (by exact (AA.grown hAA6.out s4.out.1 s4.out.2.1).2.2.2.2.2.2.1.at) htg.out).mono ?_
              rintro e u8 ⟨⟨csW, rfl, hansW⟩, hb8⟩
              obtain ⟨pW, dW, qW, eW, rfl, hoW⟩ := RA.of s4.out hansW
              have r5 := toHid (hoW)
              have s5 := toHid (s4.out.below hb8)
              clear hb8 hoW hansW
              refine hK.out _ _ (hKT.out _ s5.out.1) (fun hHeld => ?_)
              clear hK K
              refine tq (i := 7) (d := 48) ?_
              simp only [sz, ss]
              refine tq (i := 8) (d := 56) ?_
              simp only [sz, ss]
              refine tq (i := 9) (d := 57) ?_
              simp only [sz, ss]
              refine tq (i := 10) (d := 58) ?_
              simp only [sz, ss]
              refine wpAnyH_ready (rs := [13]) (by kernel_rfl) (by simp) ?_
              refine AllReadyH.cons rfl (fun K hK => ?_) AllReadyH.nil
              have bq := RS.box (l := [_]) s5.out
              have n0 := bq.cell 0 rfl
              have n1 := bq.cell 1 rfl
              have nu := bq.unfrozen
              go_simp
              have s6 := toHid (RS.put (l := [_]) s5.out (.slice pW (allocD x tg).1.vSlots.length dW) (.slice qW (allocD x tg).1.vFree.length eW))
              have r6 := toHid (RA.put (l := [_]) r5.out [.slice pW (allocD x tg).1.vSlots.length dW, .slice qW (allocD x tg).1.vFree.length eW] (.slice pW (allocD x tg).1.vSlots.length dW) (.slice qW (allocD x tg).1.vFree.length eW))
              clear n0 n1 nu bq
              refine hK.out _ _ (hKT.out _ s6.out.1) (fun hHeld => ?_)
              clear hK K
              refine wpAnyH_ready (rs := [14]) (by kernel_rfl) (by simp) ?_
              refine AllReadyH.cons rfl (fun K hK => ?_) AllReadyH.nil
              have bq := RS.box (l := []) s6.out
              have n0 := bq.cell 0 rfl
              have n1 := bq.cell 1 rfl
              have nu := bq.unfrozen
              go_simp
              have s7 := toHid (RS.put (l := []) s6.out (.int .i64 (allocD x tg).2.1) (.int .i64 (allocD x tg).2.2.1))
              have r7 := toHid (RA.put (l := []) r6.out [.int .i64 (allocD x tg).2.1, .int .i64 (allocD x tg).2.2.1] (.int .i64 (allocD x tg).2.1) (.int .i64 (allocD x tg).2.2.1))
              clear n0 n1 nu bq
              refine hK.out _ _ (hKT.out _ s7.out.1) (fun hHeld => ?_)
              clear hK K
              refine tq (i := 15) (d := 11) ?_
              simp only [sz, ss]
              refine wpAnyH_done (by kernel_rfl) ?_ _
              have hoF : Hid (OwA (fun b => w.heap.size < b ∧ b ≠ T) _ _ _ (allocD x tg).1) := OwA.mono r7.out (fun b _ qb => ⟨by have := qb.1; omega, by have := qb.1; omega⟩)
              have hAF := toHid (AA.grown hAA6.out s7.out.1 s7.out.2.1)
              have hNF := toHid (RS.box (l := [_]) s7.out)
              clear hHeld
              go_wp2_with fail
              go_meet
              exact ⟨_, _, _, _, _, (allocD x tg).1, (allocD x tg).2.2.2, rfl, rfl, hAF, hoF, hNF, fun hb => goodAlloc hgood.out hb⟩
          · go_simp
            have s3 := toHid (RS.allocAt s2.out (u5.heap.size + 1) (by simp) [.int .i64 0, .int .i64 0] 31)
            refine hK.out _ _ (hKT.out _ s3.out.1) (fun hHeld => ?_)
            clear hK K
            refine wpAnyH_ready (rs := [5, 11]) (by kernel_rfl) (by simp) ?_
            refine (AllReadyH.cons rfl (fun K hK => ?_) (AllReadyH.cons rfl (fun K hK => ?_) AllReadyH.nil))
            · obtain ⟨tg, c6, htg0⟩ := tabA_pick (RS.box (l := [_]) s3.out) (i := k5) hk5
              have htg : Hid (tg.size ≤ maxLen) := by show _ ≤ _; unfold maxLen; omega
              go_simp
              clear c6 htg0
              refine hK.out _ _ (hKT.out _ s3.out.1) (fun hHeld => ?_)
              clear hK K
              refine wpAnyH_ready (rs := [6, 11]) (by kernel_rfl) (by simp) ?_
              refine (AllReadyH.cons rfl (fun K hK => ?_) (AllReadyH.cons rfl (fun K hK => ?_) AllReadyH.nil))
              · go_simp
                refine (specAllocatedS (by exact (AA.grown hAA6.out s3.out.1 s3.out.2.1).2.2.2.2.2.2.1.at) htg.out).mono ?_
                rintro e u8 ⟨⟨csW, rfl, hansW⟩, hb8⟩
                obtain ⟨pW, dW, qW, eW, rfl, hoW⟩ := RA.of s3.out hansW
                have r4 := toHid (hoW)
                have s4 := toHid (s3.out.below hb8)
                clear hb8 hoW hansW
                refine hK.out _ _ (hKT.out _ s4.out.1) (fun hHeld => ?_)
                clear hK K
                refine tq (i := 7) (d := 48) ?_
                simp only [sz, ss]
                refine tq (i := 8) (d := 56) ?_
                simp only [sz, ss]
                refine tq (i := 9) (d := 57) ?_
                simp only [sz, ss]
                refine tq (i := 10) (d := 58) ?_
                simp only [sz, ss]
                refine wpAnyH_ready (rs := [11]) (by kernel_rfl) (by simp) ?_
                refine AllReadyH.cons rfl (fun K hK => ?_) AllReadyH.nil
                go_simp
                have s5 := toHid (RS.allocAt s4.out (u8.heap.size) (by simp) [.slice none 0 0, .slice none 0 0] 27)
                have r5 := toHid (RA.allocAt r4.out (u8.heap.size) (by simp) [.slice none 0 0, .slice none 0 0] 27)
                refine hK.out _ _ (hKT.out _ s5.out.1) (fun hHeld => ?_)
                clear hK K
                refine wpAnyH_ready (rs := [13]) (by kernel_rfl) (by simp) ?_
                refine AllReadyH.cons rfl (fun K hK => ?_) AllReadyH.nil
                go_simp
                have s6 := toHid (RS.allocAt s4.out (u8.heap.size) (by simp) [.slice pW (allocD x tg).1.vSlots.length dW, .slice qW (allocD x tg).1.vFree.length eW] 27)
                have r6 := toHid (RA.allocAt r4.out (u8.heap.size) (by simp) [.slice pW (allocD x tg).1.vSlots.length dW, .slice qW (allocD x tg).1.vFree.length eW] 27)
                refine hK.out _ _ (hKT.out _ s6.out.1) (fun hHeld => ?_)
                clear hK K
                refine wpAnyH_ready (rs := [14]) (by kernel_rfl) (by simp) ?_
                refine AllReadyH.cons rfl (fun K hK => ?_) AllReadyH.nil
                have bq := RS.box (l := [_]) s6.out
                have n0 := bq.cell 0 rfl
                have n1 := bq.cell 1 rfl
                have nu := bq.unfrozen
                go_simp
                have s7 := toHid (RS.put (l := [_]) s6.out (.int .i64 (allocD x tg).2.1) (.int .i64 (allocD x tg).2.2.1))
                have r7 := toHid (RA.put (l := [_]) r6.out [.int .i64 (allocD x tg).2.1, .int .i64 (allocD x tg).2.2.1] (.int .i64 (allocD x tg).2.1) (.int .i64 (allocD x tg).2.2.1))
                clear n0 n1 nu bq
                refine hK.out _ _ (hKT.out _ s7.out.1) (fun hHeld => ?_)
                clear hK K
                refine tq (i := 15) (d := 11) ?_
                simp only [sz, ss]
                refine wpAnyH_done (by kernel_rfl) ?_ _
                have hoF : Hid (OwA (fun b => w.heap.size < b ∧ b ≠ T) _ _ _ (allocD x tg).1) := OwA.mono r7.out (fun b _ qb => ⟨by have := qb.1; omega, by have := qb.1; omega⟩)
                have hAF := toHid (AA.grown hAA6.out s7.out.1 s7.out.2.1)
                have hNF := toHid (RS.box (l := []) s7.out)
                clear hHeld
                go_wp2_with fail
                go_meet
                exact ⟨_, _, _, _, _, (allocD x tg).1, (allocD x tg).2.2.2, rfl, rfl, hAF, hoF, hNF, fun hb => goodAlloc hgood.out hb⟩
              · go_simp
                have s4 := toHid (RS.allocAt s3.out (u5.heap.size + 1 + 1) (by simp) [.slice none 0 0, .slice none 0 0] 27)
                refine hK.out _ _ (hKT.out _ s4.out.1) (fun hHeld => ?_)
                clear hK K
                refine wpAnyH_ready (rs := [6]) (by kernel_rfl) (by simp) ?_
                refine AllReadyH.cons rfl (fun K hK => ?_) AllReadyH.nil
                go_simp
                refine (specAllocatedS (by exact (AA.grown hAA6.out s4.out.1 s4.out.2.1).2.2.2.2.2.2.1.at) htg.out).mono ?_
                rintro e u8 ⟨⟨csW, rfl, hansW⟩, hb8⟩
                obtain ⟨pW, dW, qW, eW, rfl, hoW⟩ := RA.of s4.out hansW
                have r5 := toHid (hoW)
                have s5 := toHid (s4.out.below hb8)
                clear hb8 hoW hansW
                refine hK.out _ _ (hKT.out _ s5.out.1) (fun hHeld => ?_)
                clear hK K
                refine tq (i := 7) (d := 48) ?_
                simp only [sz, ss]
                refine tq (i := 8) (d := 56) ?_
                simp only [sz, ss]
                refine tq (i := 9) (d := 57) ?_
                simp only [sz, ss]
                refine tq (i := 10) (d := 58) ?_
                simp only [sz, ss]
                refine wpAnyH_ready (rs := [13]) (by kernel_rfl) (by simp) ?_
                refine AllReadyH.cons rfl (fun K hK => ?_) AllReadyH.nil
                have bq := RS.box (l := []) s5.out
                have n0 := bq.cell 0 rfl
                have n1 := bq.cell 1 rfl
                have nu := bq.unfrozen
                go_simp
                have s6 := toHid (RS.put (l := []) s5.out (.slice pW (allocD x tg).1.vSlots.length dW) (.slice qW (allocD x tg).1.vFree.length eW))
                have r6 := toHid (RA.put (l := []) r5.out [.slice pW (allocD x tg).1.vSlots.length dW, .slice qW (allocD x tg).1.vFree.length eW] (.slice pW (allocD x tg).1.vSlots.length dW) (.slice qW (allocD x tg).1.vFree.length eW))
                clear n0 n1 nu bq
                refine hK.out _ _ (hKT.out _ s6.out.1) (fun hHeld => ?_)
                clear hK K
                refine wpAnyH_ready (rs := [14]) (by kernel_rfl) (by simp) ?_
                refine AllReadyH.cons rfl (fun K hK => ?_) AllReadyH.nil
                have bq := RS.box (l := [_]) s6.out
                have n0 := bq.cell 0 rfl
                have n1 := bq.cell 1 rfl
                have nu := bq.unfrozen
                go_simp
                have s7 := toHid (RS.put (l := [_]) s6.out (.int .i64 (allocD x tg).2.1) (.int .i64 (allocD x tg).2.2.1))
                have r7 := toHid (RA.put (l := [_]) r6.out [.int .i64 (allocD x tg).2.1, .int .i64 (allocD x tg).2.2.1] (.int .i64 (allocD x tg).2.1) (.int .i64 (allocD x tg).2.2.1))
                clear n0 n1 nu bq
                refine hK.out _ _ (hKT.out _ s7.out.1) (fun hHeld => ?_)
                clear hK K
                refine tq (i := 15) (d := 11) ?_
                simp only [sz, ss]
                refine wpAnyH_done (by kernel_rfl) ?_ _
                have hoF : Hid (OwA (fun b => w.heap.size < b ∧ b ≠ T) _ _ _ (allocD x tg).1) := OwA.mono r7.out (fun b _ qb => ⟨by have := qb.1; omega, by have := qb.1; omega⟩)
                have hAF := toHid (AA.grown hAA6.out s7.out.1 s7.out.2.1)
                have hNF := toHid (RS.box (l := []) s7.out)
                clear hHeld
                go_wp2_with fail
                go_meet
                exact ⟨_, _, _, _, _, (allocD x tg).1, (allocD x tg).2.2.2, rfl, rfl, hAF, hoF, hNF, fun hb => goodAlloc hgood.out hb⟩
            · go_simp
              have s4 := toHid (RS.allocAt s3.out (u5.heap.size + 1 + 1) (by simp) [.slice none 0 0, .slice none 0 0] 27)
              refine hK.out _ _ (hKT.out _ s4.out.1) (fun hHeld => ?_)
              clear hK K
              refine wpAnyH_ready (rs := [5]) (by kernel_rfl) (by simp) ?_
              refine AllReadyH.cons rfl (fun K hK => ?_) AllReadyH.nil
              obtain ⟨tg, c6, htg0⟩ := tabA_pick (RS.box (l := [_, _]) s4.out) (i := k5) hk5
              have htg : Hid (tg.size ≤ maxLen) := by show _ ≤ _; unfold maxLen; omega
              go_simp
              clear c6 htg0
              refine hK.out _ _ (hKT.out _ s4.out.1) (fun hHeld => ?_)
              clear hK K
              refine wpAnyH_ready (rs := [6]) (by kernel_rfl) (by simp) ?_
              refine AllReadyH.cons rfl (fun K hK => ?_) AllReadyH.nil
              go_simp
              refine (specAllocatedS (by exact (AA.grown hAA6.out s4.out.1 s4.out.2.1).2.2.2.2.2.2.1.at) htg.out).mono ?_
              rintro e u8 ⟨⟨csW, rfl, hansW⟩, hb8⟩
              obtain ⟨pW, dW, qW, eW, rfl, hoW⟩ := RA.of s4.out hansW
              have r5 := toHid (hoW)
              have s5 := toHid (s4.out.below hb8)
              clear hb8 hoW hansW
              refine hK.out _ _ (hKT.out _ s5.out.1) (fun hHeld => ?_)
              clear hK K
              refine tq (i := 7) (d := 48) ?_
              simp only [sz, ss]
              refine tq (i := 8) (d := 56) ?_
              simp only [sz, ss]
              refine tq (i := 9) (d := 57) ?_
              simp only [sz, ss]
              refine tq (i := 10) (d := 58) ?_
              simp only [sz, ss]
              refine wpAnyH_ready (rs := [13]) (by kernel_rfl) (by simp) ?_
              refine AllReadyH.cons rfl (fun K hK => ?_) AllReadyH.nil
              have bq := RS.box (l := []) s5.out
              have n0 := bq.cell 0 rfl
              have n1 := bq.cell 1 rfl
              have nu := bq.unfrozen
              go_simp
              have s6 := toHid (RS.put (l := []) s5.out (.slice pW (allocD x tg).1.vSlots.length dW) (.slice qW (allocD x tg).1.vFree.length eW))
              have r6 := toHid (RA.put (l := []) r5.out [.slice pW (allocD x tg).1.vSlots.length dW, .slice qW (allocD x tg).1.vFree.length eW] (.slice pW (allocD x tg).1.vSlots.length dW) (.slice qW (allocD x tg).1.vFree.length eW))
              clear n0 n1 nu bq
              refine hK.out _ _ (hKT.out _ s6.out.1) (fun hHeld => ?_)
              clear hK K
              refine wpAnyH_ready (rs := [14]) (by kernel_rfl) (by simp) ?_
              refine AllReadyH.cons rfl (fun K hK => ?_) AllReadyH.nil
              have bq := RS.box (l := [_]) s6.out
              have n0 := bq.cell 0 rfl
              have n1 := bq.cell 1 rfl
              have nu := bq.unfrozen
              go_simp
              have s7 := toHid (RS.put (l := [_]) s6.out (.int .i64 (allocD x tg).2.1) (.int .i64 (allocD x tg).2.2.1))
              have r7 := toHid (RA.put (l := [_]) r6.out [.int .i64 (allocD x tg).2.1, .int .i64 (allocD x tg).2.2.1] (.int .i64 (allocD x tg).2.1) (.int .i64 (allocD x tg).2.2.1))
              clear n0 n1 nu bq
              refine hK.out _ _ (hKT.out _ s7.out.1) (fun hHeld => ?_)
              clear hK K
              refine tq (i := 15) (d := 11) ?_
              simp only [sz, ss]
              refine wpAnyH_done (by kernel_rfl) ?_ _
              have hoF : Hid (OwA (fun b => w.heap.size < b ∧ b ≠ T) _ _ _ (allocD x tg).1) := OwA.mono r7.out (fun b _ qb => ⟨by have := qb.1; omega, by have := qb.1; omega⟩)
              have hAF := toHid (AA.grown hAA6.out s7.out.1 s7.out.2.1)
              have hNF := toHid (RS.box (l := []) s7.out)
              clear hHeld
              go_wp2_with fail
              go_meet
              exact ⟨_, _, _, _, _, (allocD x tg).1, (allocD x tg).2.2.2, rfl, rfl, hAF, hoF, hNF, fun hb => goodAlloc hgood.out hb⟩
        · go_simp
          have s2 := toHid (RS.allocAt s1.out (u5.heap.size) (by simp) [.slice none 0 0, .slice none 0 0] 27)
          refine hK.out _ _ (hKT.out _ s2.out.1) (fun hHeld => ?_)
          clear hK K
          refine wpAnyH_ready (rs := [1, 12]) (by kernel_rfl) (by simp) ?_
          refine (AllReadyH.cons rfl (fun K hK => ?_) (AllReadyH.cons rfl (fun K hK => ?_) AllReadyH.nil))
          · go_simp
            have s3 := toHid (RS.allocAt s2.out (u5.heap.size + 1) (by simp) [.string ⟨#[]⟩, .string ⟨#[97]⟩, .string ⟨#[98, 99]⟩, .string ⟨#[120, 32, 121]⟩] 9)
            refine hK.out _ _ (hKT.out _ s3.out.1) (fun hHeld => ?_)
            clear hK K
            refine tq (i := 4) (d := 53) ?_
            simp only [sz, ss]
            refine wpAnyH_ready (rs := [5, 12]) (by kernel_rfl) (by simp) ?_
            refine (AllReadyH.cons rfl (fun K hK => ?_) (AllReadyH.cons rfl (fun K hK => ?_) AllReadyH.nil))
            · obtain ⟨tg, c6, htg0⟩ := tabA_pick (RS.box (l := []) s3.out) (i := k5) hk5
              have htg : Hid (tg.size ≤ maxLen) := by show _ ≤ _; unfold maxLen; omega
              go_simp
              clear c6 htg0
              refine hK.out _ _ (hKT.out _ s3.out.1) (fun hHeld => ?_)
              clear hK K
              refine wpAnyH_ready (rs := [6, 12]) (by kernel_rfl) (by simp) ?_
              refine (AllReadyH.cons rfl (fun K hK => ?_) (AllReadyH.cons rfl (fun K hK => ?_) AllReadyH.nil))
              · go_simp
                refine (specAllocatedS (by exact (AA.grown hAA6.out s3.out.1 s3.out.2.1).2.2.2.2.2.2.1.at) htg.out).mono ?_
                rintro e u8 ⟨⟨csW, rfl, hansW⟩, hb8⟩
                obtain ⟨pW, dW, qW, eW, rfl, hoW⟩ := RA.of s3.out hansW
                have r4 := toHid (hoW)
                have s4 := toHid (s3.out.below hb8)
                clear hb8 hoW hansW
                refine hK.out _ _ (hKT.out _ s4.out.1) (fun hHeld => ?_)
                clear hK K
                refine tq (i := 7) (d := 48) ?_
                simp only [sz, ss]
                refine tq (i := 8) (d := 56) ?_
                simp only [sz, ss]
                refine tq (i := 9) (d := 57) ?_
                simp only [sz, ss]
                refine tq (i := 10) (d := 58) ?_
                simp only [sz, ss]
                refine wpAnyH_ready (rs := [12]) (by kernel_rfl) (by simp) ?_
                refine AllReadyH.cons rfl (fun K hK => ?_) AllReadyH.nil
                go_simp
                have s5 := toHid (RS.allocAt s4.out (u8.heap.size) (by simp) [.int .i64 0, .int .i64 0] 31)
                have r5 := toHid (RA.allocAt r4.out (u8.heap.size) (by simp) [.int .i64 0, .int .i64 0] 31)
                refine hK.out _ _ (hKT.out _ s5.out.1) (fun hHeld => ?_)
                clear hK K
                refine wpAnyH_ready (rs := [13]) (by kernel_rfl) (by simp) ?_
                refine AllReadyH.cons rfl (fun K hK => ?_) AllReadyH.nil
                have bq := RS.box (l := [_, _]) s5.out
                have n0 := bq.cell 0 rfl
                have n1 := bq.cell 1 rfl
                have nu := bq.unfrozen
                go_simp
                have s6 := toHid (RS.put (l := [_, _]) s5.out (.slice pW (allocD x tg).1.vSlots.length dW) (.slice qW (allocD x tg).1.vFree.length eW))
                have r6 := toHid (RA.put (l := [_, _]) r5.out [.slice pW (allocD x tg).1.vSlots.length dW, .slice qW (allocD x tg).1.vFree.length eW] (.slice pW (allocD x tg).1.vSlots.length dW) (.slice qW (allocD x tg).1.vFree.length eW))
                clear n0 n1 nu bq
                refine hK.out _ _ (hKT.out _ s6.out.1) (fun hHeld => ?_)
                clear hK K
                refine wpAnyH_ready (rs := [14]) (by kernel_rfl) (by simp) ?_
                refine AllReadyH.cons rfl (fun K hK => ?_) AllReadyH.nil
                have bq := RS.box (l := []) s6.out
                have n0 := bq.cell 0 rfl
                have n1 := bq.cell 1 rfl
                have nu := bq.unfrozen
                go_simp
                have s7 := toHid (RS.put (l := []) s6.out (.int .i64 (allocD x tg).2.1) (.int .i64 (allocD x tg).2.2.1))
                have r7 := toHid (RA.put (l := []) r6.out [.int .i64 (allocD x tg).2.1, .int .i64 (allocD x tg).2.2.1] (.int .i64 (allocD x tg).2.1) (.int .i64 (allocD x tg).2.2.1))
                clear n0 n1 nu bq
                refine hK.out _ _ (hKT.out _ s7.out.1) (fun hHeld => ?_)
                clear hK K
                refine tq (i := 15) (d := 11) ?_
                simp only [sz, ss]
                refine wpAnyH_done (by kernel_rfl) ?_ _
                have hoF : Hid (OwA (fun b => w.heap.size < b ∧ b ≠ T) _ _ _ (allocD x tg).1) := OwA.mono r7.out (fun b _ qb => ⟨by have := qb.1; omega, by have := qb.1; omega⟩)
                have hAF := toHid (AA.grown hAA6.out s7.out.1 s7.out.2.1)
                have hNF := toHid (RS.box (l := [_, _]) s7.out)
                clear hHeld
                go_wp2_with fail
                go_meet
                exact ⟨_, _, _, _, _, (allocD x tg).1, (allocD x tg).2.2.2, rfl, rfl, hAF, hoF, hNF, fun hb => goodAlloc hgood.out hb⟩
              · go_simp
                have s4 := toHid (RS.allocAt s3.out (u5.heap.size + 1 + 1) (by simp) [.int .i64 0, .int .i64 0] 31)
                refine hK.out _ _ (hKT.out _ s4.out.1) (fun hHeld => ?_)
                clear hK K
                refine wpAnyH_ready (rs := [6]) (by kernel_rfl) (by simp) ?_
                refine AllReadyH.cons rfl (fun K hK => ?_) AllReadyH.nil
                go_simp
                refine (specAllocatedS (by exact (AA.grown hAA6.out s4.out.1 s4.out.2.1).2.2.2.2.2.2.1.at) htg.out).mono ?_
                rintro e u8 ⟨⟨csW, rfl, hansW⟩, hb8⟩
                obtain ⟨pW, dW, qW, eW, rfl, hoW⟩ := RA.of s4.out hansW
                have r5 := toHid (hoW)
                have s5 := toHid (s4.out.below hb8)
                clear hb8 hoW hansW
                refine hK.out _ _ (hKT.out _ s5.out.1) (fun hHeld => ?_)
                clear hK K
                refine tq (i := 7) (d := 48) ?_
                simp only [sz, ss]
                refine tq (i := 8) (d := 56) ?_
                simp only [sz, ss]
                refine tq (i := 9) (d := 57) ?_
                simp only [sz, ss]
                refine tq (i := 10) (d := 58) ?_
                simp only [sz, ss]
                refine wpAnyH_ready (rs := [13]) (by kernel_rfl) (by simp) ?_
                refine AllReadyH.cons rfl (fun K hK => ?_) AllReadyH.nil
                have bq := RS.box (l := [_, _]) s5.out
                have n0 := bq.cell 0 rfl
                have n1 := bq.cell 1 rfl
                have nu := bq.unfrozen
                go_simp
                have s6 := toHid (RS.put (l := [_, _]) s5.out (.slice pW (allocD x tg).1.vSlots.length dW) (.slice qW (allocD x tg).1.vFree.length eW))
                have r6 := toHid (RA.put (l := [_, _]) r5.out [.slice pW (allocD x tg).1.vSlots.length dW, .slice qW (allocD x tg).1.vFree.length eW] (.slice pW (allocD x tg).1.vSlots.length dW) (.slice qW (allocD x tg).1.vFree.length eW))
                clear n0 n1 nu bq
                refine hK.out _ _ (hKT.out _ s6.out.1) (fun hHeld => ?_)
                clear hK K
                refine wpAnyH_ready (rs := [14]) (by kernel_rfl) (by simp) ?_
                refine AllReadyH.cons rfl (fun K hK => ?_) AllReadyH.nil
                have bq := RS.box (l := []) s6.out
                have n0 := bq.cell 0 rfl
                have n1 := bq.cell 1 rfl
                have nu := bq.unfrozen
                go_simp
                have s7 := toHid (RS.put (l := []) s6.out (.int .i64 (allocD x tg).2.1) (.int .i64 (allocD x tg).2.2.1))
                have r7 := toHid (RA.put (l := []) r6.out [.int .i64 (allocD x tg).2.1, .int .i64 (allocD x tg).2.2.1] (.int .i64 (allocD x tg).2.1) (.int .i64 (allocD x tg).2.2.1))
                clear n0 n1 nu bq
                refine hK.out _ _ (hKT.out _ s7.out.1) (fun hHeld => ?_)
                clear hK K
                refine tq (i := 15) (d := 11) ?_
                simp only [sz, ss]
                refine wpAnyH_done (by kernel_rfl) ?_ _
                have hoF : Hid (OwA (fun b => w.heap.size < b ∧ b ≠ T) _ _ _ (allocD x tg).1) := OwA.mono r7.out (fun b _ qb => ⟨by have := qb.1; omega, by have := qb.1; omega⟩)
                have hAF := toHid (AA.grown hAA6.out s7.out.1 s7.out.2.1)
                have hNF := toHid (RS.box (l := [_, _]) s7.out)
                clear hHeld
                go_wp2_with fail
                go_meet
                exact ⟨_, _, _, _, _, (allocD x tg).1, (allocD x tg).2.2.2, rfl, rfl, hAF, hoF, hNF, fun hb => goodAlloc hgood.out hb⟩
            · go_simp
              have s4 := toHid (RS.allocAt s3.out (u5.heap.size + 1 + 1) (by simp) [.int .i64 0, .int .i64 0] 31)
              refine hK.out _ _ (hKT.out _ s4.out.1) (fun hHeld => ?_)
              clear hK K
              refine wpAnyH_ready (rs := [5]) (by kernel_rfl) (by simp) ?_
              refine AllReadyH.cons rfl (fun K hK => ?_) AllReadyH.nil
              obtain ⟨tg, c6, htg0⟩ := tabA_pick (RS.box (l := [_]) s4.out) (i := k5) hk5
              have htg : Hid (tg.size ≤ maxLen) := by show _ ≤ _; unfold maxLen; omega
              go_simp
              clear c6 htg0
              refine hK.out _ _ (hKT.out _ s4.out.1) (fun hHeld => ?_)
              clear hK K
              refine wpAnyH_ready (rs := [6]) (by kernel_rfl) (by simp) ?_
              refine AllReadyH.cons rfl (fun K hK => ?_) AllReadyH.nil
              go_simp
              refine (specAllocatedS (by exact (AA.grown hAA6.out s4.out.1 s4.out.2.1).2.2.2.2.2.2.1.at) htg.out).mono ?_
              rintro e u8 ⟨⟨csW, rfl, hansW⟩, hb8⟩
              obtain ⟨pW, dW, qW, eW, rfl, hoW⟩ := RA.of s4.out hansW
              have r5 := toHid (hoW)
              have s5 := toHid (s4.out.below hb8)
              clear hb8 hoW hansW
              refine hK.out _ _ (hKT.out _ s5.out.1) (fun hHeld => ?_)
              clear hK K
              refine tq (i := 7) (d := 48) ?_
              simp only [sz, ss]
              refine tq (i := 8) (d := 56) ?_
              simp only [sz, ss]
              refine tq (i := 9) (d := 57) ?_
              simp only [sz, ss]
              refine tq (i := 10) (d := 58) ?_
              simp only [sz, ss]
              refine wpAnyH_ready (rs := [13]) (by kernel_rfl) (by simp) ?_
              refine AllReadyH.cons rfl (fun K hK => ?_) AllReadyH.nil
              have bq := RS.box (l := [_, _]) s5.out
              have n0 := bq.cell 0 rfl
              have n1 := bq.cell 1 rfl
              have nu := bq.unfrozen
              go_simp
              have s6 := toHid (RS.put (l := [_, _]) s5.out (.slice pW (allocD x tg).1.vSlots.length dW) (.slice qW (allocD x tg).1.vFree.length eW))
              have r6 := toHid (RA.put (l := [_, _]) r5.out [.slice pW (allocD x tg).1.vSlots.length dW, .slice qW (allocD x tg).1.vFree.length eW] (.slice pW (allocD x tg).1.vSlots.length dW) (.slice qW (allocD x tg).1.vFree.length eW))
              clear n0 n1 nu bq
              refine hK.out _ _ (hKT.out _ s6.out.1) (fun hHeld => ?_)
              clear hK K
              refine wpAnyH_ready (rs := [14]) (by kernel_rfl) (by simp) ?_
              refine AllReadyH.cons rfl (fun K hK => ?_) AllReadyH.nil
              have bq := RS.box (l := []) s6.out
              have n0 := bq.cell 0 rfl
              have n1 := bq.cell 1 rfl
              have nu := bq.unfrozen
              go_simp
              have s7 := toHid (RS.put (l := []) s6.out (.int .i64 (allocD x tg).2.1) (.int .i64 (allocD x tg).2.2.1))
              have r7 := toHid (RA.put (l := []) r6.out [.int .i64 (allocD x tg).2.1, .int .i64 (allocD x tg).2.2.1] (.int .i64 (allocD x tg).2.1) (.int .i64 (allocD x tg).2.2.1))
              clear n0 n1 nu bq
              refine hK.out _ _ (hKT.out _ s7.out.1) (fun hHeld => ?_)
              clear hK K
              refine tq (i := 15) (d := 11) ?_
              simp only [sz, ss]
              refine wpAnyH_done (by kernel_rfl) ?_ _
              have hoF : Hid (OwA (fun b => w.heap.size < b ∧ b ≠ T) _ _ _ (allocD x tg).1) := OwA.mono r7.out (fun b _ qb => ⟨by have := qb.1; omega, by have := qb.1; omega⟩)
              have hAF := toHid (AA.grown hAA6.out s7.out.1 s7.out.2.1)
              have hNF := toHid (RS.box (l := [_, _]) s7.out)
              clear hHeld
              go_wp2_with fail
              go_meet
              exact ⟨_, _, _, _, _, (allocD x tg).1, (allocD x tg).2.2.2, rfl, rfl, hAF, hoF, hNF, fun hb => goodAlloc hgood.out hb⟩
          · go_simp
            have s3 := toHid (RS.allocAt s2.out (u5.heap.size + 1) (by simp) [.int .i64 0, .int .i64 0] 31)
            refine hK.out _ _ (hKT.out _ s3.out.1) (fun hHeld => ?_)
            clear hK K
            refine wpAnyH_ready (rs := [1]) (by kernel_rfl) (by simp) ?_
            refine AllReadyH.cons rfl (fun K hK => ?_) AllReadyH.nil
            go_simp
            have s4 := toHid (RS.allocAt s3.out (u5.heap.size + 1 + 1) (by simp) [.string ⟨#[]⟩, .string ⟨#[97]⟩, .string ⟨#[98, 99]⟩, .string ⟨#[120, 32, 121]⟩] 9)
            refine hK.out _ _ (hKT.out _ s4.out.1) (fun hHeld => ?_)
            clear hK K
            refine tq (i := 4) (d := 53) ?_
            simp only [sz, ss]
            refine wpAnyH_ready (rs := [5]) (by kernel_rfl) (by simp) ?_
            refine AllReadyH.cons rfl (fun K hK => ?_) AllReadyH.nil
            obtain ⟨tg, c6, htg0⟩ := tabA_pick (RS.box (l := []) s4.out) (i := k5) hk5
            have htg : Hid (tg.size ≤ maxLen) := by show _ ≤ _; unfold maxLen; omega
            go_simp
            clear c6 htg0
            refine hK.out _ _ (hKT.out _ s4.out.1) (fun hHeld => ?_)
            clear hK K
            refine wpAnyH_ready (rs := [6]) (by kernel_rfl) (by simp) ?_
            refine AllReadyH.cons rfl (fun K hK => ?_) AllReadyH.nil
            go_simp
            refine (specAllocatedS (by exact (AA.grown hAA6.out s4.out.1 s4.out.2.1).2.2.2.2.2.2.1.at) htg.out).mono ?_
            rintro e u8 ⟨⟨csW, rfl, hansW⟩, hb8⟩
            obtain ⟨pW, dW, qW, eW, rfl, hoW⟩ := RA.of s4.out hansW
            have r5 := toHid (hoW)
            have s5 := toHid (s4.out.below hb8)
            clear hb8 hoW hansW
            refine hK.out _ _ (hKT.out _ s5.out.1) (fun hHeld => ?_)
            clear hK K
            refine tq (i := 7) (d := 48) ?_
            simp only [sz, ss]
            refine tq (i := 8) (d := 56) ?_
            simp only [sz, ss]
            refine tq (i := 9) (d := 57) ?_
            simp only [sz, ss]
            refine tq (i := 10) (d := 58) ?_
            simp only [sz, ss]
            refine wpAnyH_ready (rs := [13]) (by kernel_rfl) (by simp) ?_
            refine AllReadyH.cons rfl (fun K hK => ?_) AllReadyH.nil
            have bq := RS.box (l := [_, _]) s5.out
            have n0 := bq.cell 0 rfl
            have n1 := bq.cell 1 rfl
            have nu := bq.unfrozen
            go_simp
            have s6 := toHid (RS.put (l := [_, _]) s5.out (.slice pW (allocD x tg).1.vSlots.length dW) (.slice qW (allocD x tg).1.vFree.length eW))
            have r6 := toHid (RA.put (l := [_, _]) r5.out [.slice pW (allocD x tg).1.vSlots.length dW, .slice qW (allocD x tg).1.vFree.length eW] (.slice pW (allocD x tg).1.vSlots.length dW) (.slice qW (allocD x tg).1.vFree.length eW))
            clear n0 n1 nu bq
            refine hK.out _ _ (hKT.out _ s6.out.1) (fun hHeld => ?_)
            clear hK K
            refine wpAnyH_ready (rs := [14]) (by kernel_rfl) (by simp) ?_
            refine AllReadyH.cons rfl (fun K hK => ?_) AllReadyH.nil
            have bq := RS.box (l := [_]) s6.out
            have n0 := bq.cell 0 rfl
            have n1 := bq.cell 1 rfl
            have nu := bq.unfrozen
            go_simp
            have s7 := toHid (RS.put (l := [_]) s6.out (.int .i64 (allocD x tg).2.1) (.int .i64 (allocD x tg).2.2.1))
            have r7 := toHid (RA.put (l := [_]) r6.out [.int .i64 (allocD x tg).2.1, .int .i64 (allocD x tg).2.2.1] (.int .i64 (allocD x tg).2.1) (.int .i64 (allocD x tg).2.2.1))
            clear n0 n1 nu bq
            refine hK.out _ _ (hKT.out _ s7.out.1) (fun hHeld => ?_)
            clear hK K
            refine tq (i := 15) (d := 11) ?_
            simp only [sz, ss]
            refine wpAnyH_done (by kernel_rfl) ?_ _
            have hoF : Hid (OwA (fun b => w.heap.size < b ∧ b ≠ T) _ _ _ (allocD x tg).1) := OwA.mono r7.out (fun b _ qb => ⟨by have := qb.1; omega, by have := qb.1; omega⟩)
            have hAF := toHid (AA.grown hAA6.out s7.out.1 s7.out.2.1)
            have hNF := toHid (RS.box (l := [_, _]) s7.out)
            clear hHeld
            go_wp2_with fail
            go_meet
            exact ⟨_, _, _, _, _, (allocD x tg).1, (allocD x tg).2.2.2, rfl, rfl, hAF, hoF, hNF, fun hb => goodAlloc hgood.out hb⟩
        · go_simp
          have s2 := toHid (RS.allocAt s1.out (u5.heap.size) (by simp) [.int .i64 0, .int .i64 0] 31)
          refine hK.out _ _ (hKT.out _ s2.out.1) (fun hHeld => ?_)
          clear hK K
          refine wpAnyH_ready (rs := [1, 11]) (by kernel_rfl) (by simp) ?_
          refine (AllReadyH.cons rfl (fun K hK => ?_) (AllReadyH.cons rfl (fun K hK => ?_) AllReadyH.nil))
          · go_simp
            have s3 := toHid (RS.allocAt s2.out (u5.heap.size + 1) (by simp) [.string ⟨#[]⟩, .string ⟨#[97]⟩, .string ⟨#[98, 99]⟩, .string ⟨#[120, 32, 121]⟩] 9)
            refine hK.out _ _ (hKT.out _ s3.out.1) (fun hHeld => ?_)
            clear hK K
            refine tq (i := 4) (d := 53) ?_
            simp only [sz, ss]
            refine wpAnyH_ready (rs := [5, 11]) (by kernel_rfl) (by simp) ?_
            refine (AllReadyH.cons rfl (fun K hK => ?_) (AllReadyH.cons rfl (fun K hK => ?_) AllReadyH.nil))
            · obtain ⟨tg, c6, htg0⟩ := tabA_pick (RS.box (l := []) s3.out) (i := k5) hk5
              have htg : Hid (tg.size ≤ maxLen) := by show _ ≤ _; unfold maxLen; omega
              go_simp
              clear c6 htg0
              refine hK.out _ _ (hKT.out _ s3.out.1) (fun hHeld => ?_)
              clear hK K
              refine wpAnyH_ready (rs := [6, 11]) (by kernel_rfl) (by simp) ?_
              refine (AllReadyH.cons rfl (fun K hK => ?_) (AllReadyH.cons rfl (fun K hK => ?_) AllReadyH.nil))
              · go_simp
                refine (specAllocatedS (by exact (AA.grown hAA6.out s3.out.1 s3.out.2.1).2.2.2.2.2.2.1.at) htg.out).mono ?_
                rintro e u8 ⟨⟨csW, rfl, hansW⟩, hb8⟩
                obtain ⟨pW, dW, qW, eW, rfl, hoW⟩ := RA.of s3.out hansW
                have r4 := toHid (hoW)
                have s4 := toHid (s3.out.below hb8)
                clear hb8 hoW hansW
                refine hK.out _ _ (hKT.out _ s4.out.1) (fun hHeld => ?_)
                clear hK K
                refine tq (i := 7) (d := 48) ?_
                simp only [sz, ss]
                refine tq (i := 8) (d := 56) ?_
                simp only [sz, ss]
                refine tq (i := 9) (d := 57) ?_
                simp only [sz, ss]
                refine tq (i := 10) (d := 58) ?_
                simp only [sz, ss]
                refine wpAnyH_ready (rs := [11]) (by kernel_rfl) (by simp) ?_
                refine AllReadyH.cons rfl (fun K hK => ?_) AllReadyH.nil
                go_simp
                have s5 := toHid (RS.allocAt s4.out (u8.heap.size) (by simp) [.slice none 0 0, .slice none 0 0] 27)
                have r5 := toHid (RA.allocAt r4.out (u8.heap.size) (by simp) [.slice none 0 0, .slice none 0 0] 27)
                refine hK.out _ _ (hKT.out _ s5.out.1) (fun hHeld => ?_)
                clear hK K
                refine wpAnyH_ready (rs := [13]) (by kernel_rfl) (by simp) ?_
                refine AllReadyH.cons rfl (fun K hK => ?_) AllReadyH.nil
                go_simp
                have s6 := toHid (RS.allocAt s4.out (u8.heap.size) (by simp) [.slice pW (allocD x tg).1.vSlots.length dW, .slice qW (allocD x tg).1.vFree.length eW] 27)
                have r6 := toHid (RA.allocAt r4.out (u8.heap.size) (by simp) [.slice pW (allocD x tg).1.vSlots.length dW, .slice qW (allocD x tg).1.vFree.length eW] 27)
                refine hK.out _ _ (hKT.out _ s6.out.1) (fun hHeld => ?_)
                clear hK K
                refine wpAnyH_ready (rs := [14]) (by kernel_rfl) (by simp) ?_
                refine AllReadyH.cons rfl (fun K hK => ?_) AllReadyH.nil
                have bq := RS.box (l := [_, _]) s6.out
                have n0 := bq.cell 0 rfl
                have n1 := bq.cell 1 rfl
                have nu := bq.unfrozen
                go_simp
                have s7 := toHid (RS.put (l := [_, _]) s6.out (.int .i64 (allocD x tg).2.1) (.int .i64 (allocD x tg).2.2.1))
                have r7 := toHid (RA.put (l := [_, _]) r6.out [.int .i64 (allocD x tg).2.1, .int .i64 (allocD x tg).2.2.1] (.int .i64 (allocD x tg).2.1) (.int .i64 (allocD x tg).2.2.1))
                clear n0 n1 nu bq
                refine hK.out _ _ (hKT.out _ s7.out.1) (fun hHeld => ?_)
                clear hK K
                refine tq (i := 15) (d := 11) ?_
                simp only [sz, ss]
                refine wpAnyH_done (by kernel_rfl) ?_ _
                have hoF : Hid (OwA (fun b => w.heap.size < b ∧ b ≠ T) _ _ _ (allocD x tg).1) := OwA.mono r7.out (fun b _ qb => ⟨by have := qb.1; omega, by have := qb.1; omega⟩)
                have hAF := toHid (AA.grown hAA6.out s7.out.1 s7.out.2.1)
                have hNF := toHid (RS.box (l := []) s7.out)
                clear hHeld
                go_wp2_with fail
                go_meet
                exact ⟨_, _, _, _, _, (allocD x tg).1, (allocD x tg).2.2.2, rfl, rfl, hAF, hoF, hNF, fun hb => goodAlloc hgood.out hb⟩
              · go_simp
                have s4 := toHid (RS.allocAt s3.out (u5.heap.size + 1 + 1) (by simp) [.slice none 0 0, .slice none 0 0] 27)
                refine hK.out _ _ (hKT.out _ s4.out.1) (fun hHeld => ?_)
                clear hK K
                refine wpAnyH_ready (rs := [6]) (by kernel_rfl) (by simp) ?_
                refine AllReadyH.cons rfl (fun K hK => ?_) AllReadyH.nil
                go_simp
                refine (specAllocatedS (by exact (AA.grown hAA6.out s4.out.1 s4.out.2.1).2.2.2.2.2.2.1.at) htg.out).mono ?_
                rintro e u8 ⟨⟨csW, rfl, hansW⟩, hb8⟩
                obtain ⟨pW, dW, qW, eW, rfl, hoW⟩ := RA.of s4.out hansW
                have r5 := toHid (hoW)
                have s5 := toHid (s4.out.below hb8)
                clear hb8 hoW hansW
                refine hK.out _ _ (hKT.out _ s5.out.1) (fun hHeld => ?_)
                clear hK K
                refine tq (i := 7) (d := 48) ?_
                simp only [sz, ss]
                refine tq (i := 8) (d := 56) ?_
                simp only [sz, ss]
                refine tq (i := 9) (d := 57) ?_
                simp only [sz, ss]
                refine tq (i := 10) (d := 58) ?_
                simp only [sz, ss]
                refine wpAnyH_ready (rs := [13]) (by kernel_rfl) (by simp) ?_
                refine AllReadyH.cons rfl (fun K hK => ?_) AllReadyH.nil
                have bq := RS.box (l := []) s5.out
                have n0 := bq.cell 0 rfl
                have n1 := bq.cell 1 rfl
                have nu := bq.unfrozen
                go_simp
                have s6 := toHid (RS.put (l := []) s5.out (.slice pW (allocD x tg).1.vSlots.length dW) (.slice qW (allocD x tg).1.vFree.length eW))
                have r6 := toHid (RA.put (l := []) r5.out [.slice pW (allocD x tg).1.vSlots.length dW, .slice qW (allocD x tg).1.vFree.length eW] (.slice pW (allocD x tg).1.vSlots.length dW) (.slice qW (allocD x tg).1.vFree.length eW))
                clear n0 n1 nu bq
                refine hK.out _ _ (hKT.out _ s6.out.1) (fun hHeld => ?_)
                clear hK K
                refine wpAnyH_ready (rs := [14]) (by kernel_rfl) (by simp) ?_
                refine AllReadyH.cons rfl (fun K hK => ?_) AllReadyH.nil
                have bq := RS.box (l := [_, _]) s6.out
                have n0 := bq.cell 0 rfl
                have n1 := bq.cell 1 rfl
                have nu := bq.unfrozen
                go_simp
                have s7 := toHid (RS.put (l := [_, _]) s6.out (.int .i64 (allocD x tg).2.1) (.int .i64 (allocD x tg).2.2.1))
                have r7 := toHid (RA.put (l := [_, _]) r6.out [.int .i64 (allocD x tg).2.1, .int .i64 (allocD x tg).2.2.1] (.int .i64 (allocD x tg).2.1) (.int .i64 (allocD x tg).2.2.1))
                clear n0 n1 nu bq
                refine hK.out _ _ (hKT.out _ s7.out.1) (fun hHeld => ?_)
                clear hK K
                refine tq (i := 15) (d := 11) ?_
                simp only [sz, ss]
                refine wpAnyH_done (by kernel_rfl) ?_ _
                have hoF : Hid (OwA (fun b => w.heap.size < b ∧ b ≠ T) _ _ _ (allocD x tg).1) := OwA.mono r7.out (fun b _ qb => ⟨by have := qb.1; omega, by have := qb.1; omega⟩)
                have hAF := toHid (AA.grown hAA6.out s7.out.1 s7.out.2.1)
                have hNF := toHid (RS.box (l := []) s7.out)
                clear hHeld
                go_wp2_with fail
                go_meet
                exact ⟨_, _, _, _, _, (allocD x tg).1, (allocD x tg).2.2.2, rfl, rfl, hAF, hoF, hNF, fun hb => goodAlloc hgood.out hb⟩
            · go_simp
              have s4 := toHid (RS.allocAt s3.out (u5.heap.size + 1 + 1) (by simp) [.slice none 0 0, .slice none 0 0] 27)
              refine hK.out _ _ (hKT.out _ s4.out.1) (fun hHeld => ?_)
              clear hK K
              refine wpAnyH_ready (rs := [5]) (by kernel_rfl) (by simp) ?_
              refine AllReadyH.cons rfl (fun K hK => ?_) AllReadyH.nil
              obtain ⟨tg, c6, htg0⟩ := tabA_pick (RS.box (l := [_]) s4.out) (i := k5) hk5
              have htg : Hid (tg.size ≤ maxLen) := by show _ ≤ _; unfold maxLen; omega
              go_simp
              clear c6 htg0
              refine hK.out _ _ (hKT.out _ s4.out.1) (fun hHeld => ?_)
              clear hK K
              refine wpAnyH_ready (rs := [6]) (by kernel_rfl) (by simp) ?_
              refine AllReadyH.cons rfl (fun K hK => ?_) AllReadyH.nil
              go_simp
              refine (specAllocatedS (by exact (AA.grown hAA6.out s4.out.1 s4.out.2.1).2.2.2.2.2.2.1.at) htg.out).mono ?_
              rintro e u8 ⟨⟨csW, rfl, hansW⟩, hb8⟩
              obtain ⟨pW, dW, qW, eW, rfl, hoW⟩ := RA.of s4.out hansW
              have r5 := toHid (hoW)
              have s5 := toHid (s4.out.below hb8)
              clear hb8 hoW hansW
              refine hK.out _ _ (hKT.out _ s5.out.1) (fun hHeld => ?_)
              clear hK K
              refine tq (i := 7) (d := 48) ?_
              simp only [sz, ss]
              refine tq (i := 8) (d := 56) ?_
              simp only [sz, ss]
              refine tq (i := 9) (d := 57) ?_
              simp only [sz, ss]
              refine tq (i := 10) (d := 58) ?_
              simp only [sz, ss]
              refine wpAnyH_ready (rs := [13]) (by kernel_rfl) (by simp) ?_
              refine AllReadyH.cons rfl (fun K hK => ?_) AllReadyH.nil
              have bq := RS.box (l := []) s5.out
              have n0 := bq.cell 0 rfl
              have n1 := bq.cell 1 rfl
              have nu := bq.unfrozen
              go_simp
              have s6 := toHid (RS.put (l := []) s5.out (.slice pW (allocD x tg).1.vSlots.length dW) (.slice qW (allocD x tg).1.vFree.length eW))
              have r6 := toHid (RA.put (l := []) r5.out [.slice pW (allocD x tg).1.vSlots.length dW, .slice qW (allocD x tg).1.vFree.length eW] (.slice pW (allocD x tg).1.vSlots.length dW) (.slice qW (allocD x tg).1.vFree.length eW))
              clear n0 n1 nu bq
              refine hK.out _ _ (hKT.out _ s6.out.1) (fun hHeld => ?_)
              clear hK K
              refine wpAnyH_ready (rs := [14]) (by kernel_rfl) (by simp) ?_
              refine AllReadyH.cons rfl (fun K hK => ?_) AllReadyH.nil
              have bq := RS.box (l := [_, _]) s6.out
              have n0 := bq.cell 0 rfl
              have n1 := bq.cell 1 rfl
              have nu := bq.unfrozen
              go_simp
              have s7 := toHid (RS.put (l := [_, _]) s6.out (.int .i64 (allocD x tg).2.1) (.int .i64 (allocD x tg).2.2.1))
              have r7 := toHid (RA.put (l := [_, _]) r6.out [.int .i64 (allocD x tg).2.1, .int .i64 (allocD x tg).2.2.1] (.int .i64 (allocD x tg).2.1) (.int .i64 (allocD x tg).2.2.1))
              clear n0 n1 nu bq
              refine hK.out _ _ (hKT.out _ s7.out.1) (fun hHeld => ?_)
              clear hK K
              refine tq (i := 15) (d := 11) ?_
              simp only [sz, ss]
              refine wpAnyH_done (by kernel_rfl) ?_ _
              have hoF : Hid (OwA (fun b => w.heap.size < b ∧ b ≠ T) _ _ _ (allocD x tg).1) := OwA.mono r7.out (fun b _ qb => ⟨by have := qb.1; omega, by have := qb.1; omega⟩)
              have hAF := toHid (AA.grown hAA6.out s7.out.1 s7.out.2.1)
              have hNF := toHid (RS.box (l := []) s7.out)
              clear hHeld
              go_wp2_with fail
              go_meet
              exact ⟨_, _, _, _, _, (allocD x tg).1, (allocD x tg).2.2.2, rfl, rfl, hAF, hoF, hNF, fun hb => goodAlloc hgood.out hb⟩
          · go_simp
            have s3 := toHid (RS.allocAt s2.out (u5.heap.size + 1) (by simp) [.slice none 0 0, .slice none 0 0] 27)
            refine hK.out _ _ (hKT.out _ s3.out.1) (fun hHeld => ?_)
            clear hK K
            refine wpAnyH_ready (rs := [1]) (by kernel_rfl) (by simp) ?_
            refine AllReadyH.cons rfl (fun K hK => ?_) AllReadyH.nil
            go_simp
            have s4 := toHid (RS.allocAt s3.out (u5.heap.size + 1 + 1) (by simp) [.string ⟨#[]⟩, .string ⟨#[97]⟩, .string ⟨#[98, 99]⟩, .string ⟨#[120, 32, 121]⟩] 9)
            refine hK.out _ _ (hKT.out _ s4.out.1) (fun hHeld => ?_)
            clear hK K
            refine tq (i := 4) (d := 53) ?_
            simp only [sz, ss]
            refine wpAnyH_ready (rs := [5]) (by kernel_rfl) (by simp) ?_
            refine AllReadyH.cons rfl (fun K hK => ?_) AllReadyH.nil
            obtain ⟨tg, c6, htg0⟩ := tabA_pick (RS.box (l := []) s4.out) (i := k5) hk5
            have htg : Hid (tg.size ≤ maxLen) := by show _ ≤ _; unfold maxLen; omega
            go_simp
            clear c6 htg0
            refine hK.out _ _ (hKT.out _ s4.out.1) (fun hHeld => ?_)
            clear hK K
            refine wpAnyH_ready (rs := [6]) (by kernel_rfl) (by simp) ?_
            refine AllReadyH.cons rfl (fun K hK => ?_) AllReadyH.nil
            go_simp
            refine (specAllocatedS (by exact (AA.grown hAA6.out s4.out.1 s4.out.2.1).2.2.2.2.2.2.1.at) htg.out).mono ?_
            rintro e u8 ⟨⟨csW, rfl, hansW⟩, hb8⟩
            obtain ⟨pW, dW, qW, eW, rfl, hoW⟩ := RA.of s4.out hansW
            have r5 := toHid (hoW)
            have s5 := toHid (s4.out.below hb8)
            clear hb8 hoW hansW
            refine hK.out _ _ (hKT.out _ s5.out.1) (fun hHeld => ?_)
            clear hK K
            refine tq (i := 7) (d := 48) ?_
            simp only [sz, ss]
            refine tq (i := 8) (d := 56) ?_
            simp only [sz, ss]
            refine tq (i := 9) (d := 57) ?_
            simp only [sz, ss]
            refine tq (i := 10) (d := 58) ?_
            simp only [sz, ss]
            refine wpAnyH_ready (rs := [13]) (by kernel_rfl) (by simp) ?_
            refine AllReadyH.cons rfl (fun K hK => ?_) AllReadyH.nil
            have bq := RS.box (l := [_]) s5.out
            have n0 := bq.cell 0 rfl
            have n1 := bq.cell 1 rfl
            have nu := bq.unfrozen
            go_simp
            have s6 := toHid (RS.put (l := [_]) s5.out (.slice pW (allocD x tg).1.vSlots.length dW) (.slice qW (allocD x tg).1.vFree.length eW))
            have r6 := toHid (RA.put (l := [_]) r5.out [.slice pW (allocD x tg).1.vSlots.length dW, .slice qW (allocD x tg).1.vFree.length eW] (.slice pW (allocD x tg).1.vSlots.length dW) (.slice qW (allocD x tg).1.vFree.length eW))
            clear n0 n1 nu bq
            refine hK.out _ _ (hKT.out _ s6.out.1) (fun hHeld => ?_)
            clear hK K
            refine wpAnyH_ready (rs := [14]) (by kernel_rfl) (by simp) ?_
            refine AllReadyH.cons rfl (fun K hK => ?_) AllReadyH.nil
            have bq := RS.box (l := [_, _]) s6.out
            have n0 := bq.cell 0 rfl
            have n1 := bq.cell 1 rfl
            have nu := bq.unfrozen
            go_simp
            have s7 := toHid (RS.put (l := [_, _]) s6.out (.int .i64 (allocD x tg).2.1) (.int .i64 (allocD x tg).2.2.1))
            have r7 := toHid (RA.put (l := [_, _]) r6.out [.int .i64 (allocD x tg).2.1, .int .i64 (allocD x tg).2.2.1] (.int .i64 (allocD x tg).2.1) (.int .i64 (allocD x tg).2.2.1))
            clear n0 n1 nu bq
            refine hK.out _ _ (hKT.out _ s7.out.1) (fun hHeld => ?_)
            clear hK K
            refine tq (i := 15) (d := 11) ?_
            simp only [sz, ss]
            refine wpAnyH_done (by kernel_rfl) ?_ _
            have hoF : Hid (OwA (fun b => w.heap.size < b ∧ b ≠ T) _ _ _ (allocD x tg).1) := OwA.mono r7.out (fun b _ qb => ⟨by have := qb.1; omega, by have := qb.1; omega⟩)
            have hAF := toHid (AA.grown hAA6.out s7.out.1 s7.out.2.1)
            have hNF := toHid (RS.box (l := [_]) s7.out)
            clear hHeld
            go_wp2_with fail
            go_meet
            exact ⟨_, _, _, _, _, (allocD x tg).1, (allocD x tg).2.2.2, rfl, rfl, hAF, hoF, hNF, fun hb => goodAlloc hgood.out hb⟩
      · go_simp
        have s1 := toHid (RS.allocAt s0.out (w6.heap.size) (by simp) [.slice none 0 0, .slice none 0 0] 27)
        refine hK.out _ _ (hKT.out _ s1.out.1) (fun hHeld => ?_)
        clear hK K
        refine wpAnyH_ready (rs := [1, 3, 12]) (by kernel_rfl) (by simp) ?_
        refine (AllReadyH.cons rfl (fun K hK => ?_) (AllReadyH.cons rfl (fun K hK => ?_) (AllReadyH.cons rfl (fun K hK => ?_) AllReadyH.nil)))
        · go_simp
          have s2 := toHid (RS.allocAt s1.out (w6.heap.size + 1) (by simp) [.string ⟨#[]⟩, .string ⟨#[97]⟩, .string ⟨#[98, 99]⟩, .string ⟨#[120, 32, 121]⟩] 9)
          refine hK.out _ _ (hKT.out _ s2.out.1) (fun hHeld => ?_)
          clear hK K
          refine wpAnyH_ready (rs := [3, 12]) (by kernel_rfl) (by simp) ?_
          refine (AllReadyH.cons rfl (fun K hK => ?_) (AllReadyH.cons rfl (fun K hK => ?_) AllReadyH.nil))
          · go_simp
            refine (below_any (by exact s2.out.2.1) 4 (by omega) (by omega)).mono ?_
            rintro e u5 ⟨v5, rfl, v50, v51, hr5, hg5⟩
            obtain ⟨k5, rfl⟩ := Int.eq_ofNat_of_zero_le v50
            have hk5 : k5 < 4 := by omega
            have s3 := toHid (s2.out.grown hg5 hr5)
            clear hr5 hg5
            refine hK.out _ _ (hKT.out _ s3.out.1) (fun hHeld => ?_)
            clear hK K
            refine tq (i := 4) (d := 53) ?_
            simp only [sz, ss]
            refine wpAnyH_ready (rs := [5, 12]) (by kernel_rfl) (by simp) ?_
            refine (AllReadyH.cons rfl (fun K hK => ?_) (AllReadyH.cons rfl (fun K hK => ?_) AllReadyH.nil))
            · obtain ⟨tg, c6, htg0⟩ := tabA_pick (RS.box (l := []) s3.out) (i := k5) hk5
              have htg : Hid (tg.size ≤ maxLen) := by show _ ≤ _; unfold maxLen; omega
              go_simp
              clear c6 htg0
              refine hK.out _ _ (hKT.out _ s3.out.1) (fun hHeld => ?_)
              clear hK K
              refine wpAnyH_ready (rs := [6, 12]) (by kernel_rfl) (by simp) ?_
              refine (AllReadyH.cons rfl (fun K hK => ?_) (AllReadyH.cons rfl (fun K hK => ?_) AllReadyH.nil))
              · go_simp
                refine (specAllocatedS (by exact (AA.grown hAA6.out s3.out.1 s3.out.2.1).2.2.2.2.2.2.1.at) htg.out).mono ?_
                rintro e u8 ⟨⟨csW, rfl, hansW⟩, hb8⟩
                obtain ⟨pW, dW, qW, eW, rfl, hoW⟩ := RA.of s3.out hansW
                have r4 := toHid (hoW)
                have s4 := toHid (s3.out.below hb8)
                clear hb8 hoW hansW
                refine hK.out _ _ (hKT.out _ s4.out.1) (fun hHeld => ?_)
                clear hK K
                refine tq (i := 7) (d := 48) ?_
                simp only [sz, ss]
                refine tq (i := 8) (d := 56) ?_
                simp only [sz, ss]
                refine tq (i := 9) (d := 57) ?_
                simp only [sz, ss]
                refine tq (i := 10) (d := 58) ?_
                simp only [sz, ss]
                refine wpAnyH_ready (rs := [12]) (by kernel_rfl) (by simp) ?_
                refine AllReadyH.cons rfl (fun K hK => ?_) AllReadyH.nil
                go_simp
                have s5 := toHid (RS.allocAt s4.out (u8.heap.size) (by simp) [.int .i64 0, .int .i64 0] 31)
                have r5 := toHid (RA.allocAt r4.out (u8.heap.size) (by simp) [.int .i64 0, .int .i64 0] 31)
                refine hK.out _ _ (hKT.out _ s5.out.1) (fun hHeld => ?_)
                clear hK K
                refine wpAnyH_ready (rs := [13]) (by kernel_rfl) (by simp) ?_
                refine AllReadyH.cons rfl (fun K hK => ?_) AllReadyH.nil
                have bq := RS.box (l := [_, _]) s5.out
                have n0 := bq.cell 0 rfl
                have n1 := bq.cell 1 rfl
                have nu := bq.unfrozen
                go_simp
                have s6 := toHid (RS.put (l := [_, _]) s5.out (.slice pW (allocD x tg).1.vSlots.length dW) (.slice qW (allocD x tg).1.vFree.length eW))
                have r6 := toHid (RA.put (l := [_, _]) r5.out [.slice pW (allocD x tg).1.vSlots.length dW, .slice qW (allocD x tg).1.vFree.length eW] (.slice pW (allocD x tg).1.vSlots.length dW) (.slice qW (allocD x tg).1.vFree.length eW))
                clear n0 n1 nu bq
                refine hK.out _ _ (hKT.out _ s6.out.1) (fun hHeld => ?_)
                clear hK K
                refine wpAnyH_ready (rs := [14]) (by kernel_rfl) (by simp) ?_
                refine AllReadyH.cons rfl (fun K hK => ?_) AllReadyH.nil
                have bq := RS.box (l := []) s6.out
                have n0 := bq.cell 0 rfl
                have n1 := bq.cell 1 rfl
                have nu := bq.unfrozen
                go_simp
                have s7 := toHid (RS.put (l := []) s6.out (.int .i64 (allocD x tg).2.1) (.int .i64 (allocD x tg).2.2.1))
                have r7 := toHid (RA.put (l := []) r6.out [.int .i64 (allocD x tg).2.1, .int .i64 (allocD x tg).2.2.1] (.int .i64 (allocD x tg).2.1) (.int .i64 (allocD x tg).2.2.1))
                clear n0 n1 nu bq
                refine hK.out _ _ (hKT.out _ s7.out.1) (fun hHeld => ?_)
                clear hK K
                refine tq (i := 15) (d := 11) ?_
                simp only [sz, ss]
                refine wpAnyH_done (by kernel_rfl) ?_ _
                have hoF : Hid (OwA (fun b => w.heap.size < b ∧ b ≠ T) _ _ _ (allocD x tg).1) := OwA.mono r7.out (fun b _ qb => ⟨by have := qb.1; omega, by have := qb.1; omega⟩)
                have hAF := toHid (AA.grown hAA6.out s7.out.1 s7.out.2.1)
                have hNF := toHid (RS.box (l := [_, _]) s7.out)
                clear hHeld
                go_wp2_with fail
                go_meet
                exact ⟨_, _, _, _, _, (allocD x tg).1, (allocD x tg).2.2.2, rfl, rfl, hAF, hoF, hNF, fun hb => goodAlloc hgood.out hb⟩
              · go_simp
                have s4 := toHid (RS.allocAt s3.out (u5.heap.size) (by simp) [.int .i64 0, .int .i64 0] 31)
                refine hK.out _ _ (hKT.out _ s4.out.1) (fun hHeld => ?_)
                clear hK K
                refine wpAnyH_ready (rs := [6]) (by kernel_rfl) (by simp) ?_
                refine AllReadyH.cons rfl (fun K hK => ?_) AllReadyH.nil
                go_simp
                refine (specAllocatedS (by exact (AA.grown hAA6.out s4.out.1 s4.out.2.1).2.2.2.2.2.2.1.at) htg.out).mono ?_
                rintro e u8 ⟨⟨csW, rfl, hansW⟩, hb8⟩
                obtain ⟨pW, dW, qW, eW, rfl, hoW⟩ := RA.of s4.out hansW
                have r5 := toHid (hoW)
                have s5 := toHid (s4.out.below hb8)
                clear hb8 hoW hansW
                refine hK.out _ _ (hKT.out _ s5.out.1) (fun hHeld => ?_)
                clear hK K
                refine tq (i := 7) (d := 48) ?_
                simp only [sz, ss]
                refine tq (i := 8) (d := 56) ?_
                simp only [sz, ss]
                refine tq (i := 9) (d := 57) ?_
                simp only [sz, ss]
                refine tq (i := 10) (d := 58) ?_
                simp only [sz, ss]
                refine wpAnyH_ready (rs := [13]) (by kernel_rfl) (by simp) ?_
                refine AllReadyH.cons rfl (fun K hK => ?_) AllReadyH.nil
                have bq := RS.box (l := [_, _]) s5.out
                have n0 := bq.cell 0 rfl
                have n1 := bq.cell 1 rfl
                have nu := bq.unfrozen
                go_simp
                have s6 := toHid (RS.put (l := [_, _]) s5.out (.slice pW (allocD x tg).1.vSlots.length dW) (.slice qW (allocD x tg).1.vFree.length eW))
                have r6 := toHid (RA.put (l := [_, _]) r5.out [.slice pW (allocD x tg).1.vSlots.length dW, .slice qW (allocD x tg).1.vFree.length eW] (.slice pW (allocD x tg).1.vSlots.length dW) (.slice qW (allocD x tg).1.vFree.length eW))
                clear n0 n1 nu bq
                refine hK.out _ _ (hKT.out _ s6.out.1) (fun hHeld => ?_)
                clear hK K
                refine wpAnyH_ready (rs := [14]) (by kernel_rfl) (by simp) ?_
                refine AllReadyH.cons rfl (fun K hK => ?_) AllReadyH.nil
                have bq := RS.box (l := []) s6.out
                have n0 := bq.cell 0 rfl
                have n1 := bq.cell 1 rfl
                have nu := bq.unfrozen
                go_simp
                have s7 := toHid (RS.put (l := []) s6.out (.int .i64 (allocD x tg).2.1) (.int .i64 (allocD x tg).2.2.1))
                have r7 := toHid (RA.put (l := []) r6.out [.int .i64 (allocD x tg).2.1, .int .i64 (allocD x tg).2.2.1] (.int .i64 (allocD x tg).2.1) (.int .i64 (allocD x tg).2.2.1))
                clear n0 n1 nu bq
                refine hK.out _ _ (hKT.out _ s7.out.1) (fun hHeld => ?_)
                clear hK K
                refine tq (i := 15) (d := 11) ?_
                simp only [sz, ss]
                refine wpAnyH_done (by kernel_rfl) ?_ _
                have hoF : Hid (OwA (fun b => w.heap.size < b ∧ b ≠ T) _ _ _ (allocD x tg).1) := OwA.mono r7.out (fun b _ qb => ⟨by have := qb.1; omega, by have := qb.1; omega⟩)
                have hAF := toHid (AA.grown hAA6.out s7.out.1 s7.out.2.1)
                have hNF := toHid (RS.box (l := [_, _]) s7.out)
                clear hHeld
                go_wp2_with fail
                go_meet
                exact ⟨_, _, _, _, _, (allocD x tg).1, (allocD x tg).2.2.2, rfl, rfl, hAF, hoF, hNF, fun hb => goodAlloc hgood.out hb⟩
            · go_simp
              have s4 := toHid (RS.allocAt s3.out (u5.heap.size) (by simp) [.int .i64 0, .int .i64 0] 31)
              refine hK.out _ _ (hKT.out _ s4.out.1) (fun hHeld => ?_)
              clear hK K
              refine wpAnyH_ready (rs := [5]) (by kernel_rfl) (by simp) ?_
              refine AllReadyH.cons rfl (fun K hK => ?_) AllReadyH.nil
              obtain ⟨tg, c6, htg0⟩ := tabA_pick (RS.box (l := [_]) s4.out) (i := k5) hk5
              have htg : Hid (tg.size ≤ maxLen) := by show _ ≤ _; unfold maxLen; omega
              go_simp
              clear c6 htg0
              refine hK.out _ _ (hKT.out _ s4.out.1) (fun hHeld => ?_)
              clear hK K
              refine wpAnyH_ready (rs := [6]) (by kernel_rfl) (by simp) ?_
              refine AllReadyH.cons rfl (fun K hK => ?_) AllReadyH.nil
              go_simp
              refine (specAllocatedS (by exact (AA.grown hAA6.out s4.out.1 s4.out.2.1).2.2.2.2.2.2.1.at) htg.out).mono ?_
              rintro e u8 ⟨⟨csW, rfl, hansW⟩, hb8⟩
              obtain ⟨pW, dW, qW, eW, rfl, hoW⟩ := RA.of s4.out hansW
              have r5 := toHid (hoW)
              have s5 := toHid (s4.out.below hb8)
              clear hb8 hoW hansW
              refine hK.out _ _ (hKT.out _ s5.out.1) (fun hHeld => ?_)
              clear hK K
              refine tq (i := 7) (d := 48) ?_
              simp only [sz, ss]
              refine tq (i := 8) (d := 56) ?_
              simp only [sz, ss]
              refine tq (i := 9) (d := 57) ?_
              simp only [sz, ss]
              refine tq (i := 10) (d := 58) ?_
              simp only [sz, ss]
              refine wpAnyH_ready (rs := [13]) (by kernel_rfl) (by simp) ?_
              refine AllReadyH.cons rfl (fun K hK => ?_) AllReadyH.nil
              have bq := RS.box (l := [_, _]) s5.out
              have n0 := bq.cell 0 rfl
              have n1 := bq.cell 1 rfl
              have nu := bq.unfrozen
              go_simp
              have s6 := toHid (RS.put (l := [_, _]) s5.out (.slice pW (allocD x tg).1.vSlots.length dW) (.slice qW (allocD x tg).1.vFree.length eW))
              have r6 := toHid (RA.put (l := [_, _]) r5.out [.slice pW (allocD x tg).1.vSlots.length dW, .slice qW (allocD x tg).1.vFree.length eW] (.slice pW (allocD x tg).1.vSlots.length dW) (.slice qW (allocD x tg).1.vFree.length eW))
              clear n0 n1 nu bq
              refine hK.out _ _ (hKT.out _ s6.out.1) (fun hHeld => ?_)
              clear hK K
              refine wpAnyH_ready (rs := [14]) (by kernel_rfl) (by simp) ?_
              refine AllReadyH.cons rfl (fun K hK => ?_) AllReadyH.nil
              have bq := RS.box (l := []) s6.out
              have n0 := bq.cell 0 rfl
              have n1 := bq.cell 1 rfl
              have nu := bq.unfrozen
              go_simp
              have s7 := toHid (RS.put (l := []) s6.out (.int .i64 (allocD x tg).2.1) (.int .i64 (allocD x tg).2.2.1))
              have r7 := toHid (RA.put (l := []) r6.out [.int .i64 (allocD x tg).2.1, .int .i64 (allocD x tg).2.2.1] (.int .i64 (allocD x tg).2.1) (.int .i64 (allocD x tg).2.2.1))
              clear n0 n1 nu bq
              refine hK.out _ _ (hKT.out _ s7.out.1) (fun hHeld => ?_)
              clear hK K
              refine tq (i := 15) (d := 11) ?_
              simp only [sz, ss]
              refine wpAnyH_done (by kernel_rfl) ?_ _
              have hoF : Hid (OwA (fun b => w.heap.size < b ∧ b ≠ T) _ _ _ (allocD x tg).1) := OwA.mono r7.out (fun b _ qb => ⟨by have := qb.1; omega, by have := qb.1; omega⟩)
              have hAF := toHid (AA.grown hAA6.out s7.out.1 s7.out.2.1)
              have hNF := toHid (RS.box (l := [_, _]) s7.out)
              clear hHeld
              go_wp2_with fail
              go_meet
              exact ⟨_, _, _, _, _, (allocD x tg).1, (allocD x tg).2.2.2, rfl, rfl, hAF, hoF, hNF, fun hb => goodAlloc hgood.out hb⟩
          · go_simp
            have s3 := toHid (RS.allocAt s2.out (w6.heap.size + 1 + 1) (by simp) [.int .i64 0, .int .i64 0] 31)
            refine hK.out _ _ (hKT.out _ s3.out.1) (fun hHeld => ?_)
            clear hK K
            refine wpAnyH_ready (rs := [3]) (by kernel_rfl) (by simp) ?_
            refine AllReadyH.cons rfl (fun K hK => ?_) AllReadyH.nil
            go_simp
            refine (below_any (by exact s3.out.2.1) 4 (by omega) (by omega)).mono ?_
            rintro e u5 ⟨v5, rfl, v50, v51, hr5, hg5⟩
            obtain ⟨k5, rfl⟩ := Int.eq_ofNat_of_zero_le v50
            have hk5 : k5 < 4 := by omega
            have s4 := toHid (s3.out.grown hg5 hr5)
            clear hr5 hg5
            refine hK.out _ _ (hKT.out _ s4.out.1) (fun hHeld => ?_)
            clear hK K
            refine tq (i := 4) (d := 53) ?_
            simp only [sz, ss]
            refine wpAnyH_ready (rs := [5]) (by kernel_rfl) (by simp) ?_
            refine AllReadyH.cons rfl (fun K hK => ?_) AllReadyH.nil
            obtain ⟨tg, c6, htg0⟩ := tabA_pick (RS.box (l := [_]) s4.out) (i := k5) hk5
            have htg : Hid (tg.size ≤ maxLen) := by show _ ≤ _; unfold maxLen; omega
            go_simp
            clear c6 htg0
            refine hK.out _ _ (hKT.out _ s4.out.1) (fun hHeld => ?_)
            clear hK K
            refine wpAnyH_ready (rs := [6]) (by kernel_rfl) (by simp) ?_
            refine AllReadyH.cons rfl (fun K hK => ?_) AllReadyH.nil
            go_simp
            refine (specAllocatedS (by exact (AA.grown hAA6.out s4.out.1 s4.out.2.1).2.2.2.2.2.2.1.at) htg.out).mono ?_
            rintro e u8 ⟨⟨csW, rfl, hansW⟩, hb8⟩
            obtain ⟨pW, dW, qW, eW, rfl, hoW⟩ := RA.of s4.out hansW
            have r5 := toHid (hoW)
            have s5 := toHid (s4.out.below hb8)
            clear hb8 hoW hansW
            refine hK.out _ _ (hKT.out _ s5.out.1) (fun hHeld => ?_)
            clear hK K
            refine tq (i := 7) (d := 48) ?_
            simp only [sz, ss]
            refine tq (i := 8) (d := 56) ?_
            simp only [sz, ss]
            refine tq (i := 9) (d := 57) ?_
            simp only [sz, ss]
            refine tq (i := 10) (d := 58) ?_
            simp only [sz, ss]
            refine wpAnyH_ready (rs := [13]) (by kernel_rfl) (by simp) ?_
            refine AllReadyH.cons rfl (fun K hK => ?_) AllReadyH.nil
            have bq := RS.box (l := [_, _]) s5.out
            have n0 := bq.cell 0 rfl
            have n1 := bq.cell 1 rfl
            have nu := bq.unfrozen
            go_simp
            have s6 := toHid (RS.put (l := [_, _]) s5.out (.slice pW (allocD x tg).1.vSlots.length dW) (.slice qW (allocD x tg).1.vFree.length eW))
            have r6 := toHid (RA.put (l := [_, _]) r5.out [.slice pW (allocD x tg).1.vSlots.length dW, .slice qW (allocD x tg).1.vFree.length eW] (.slice pW (allocD x tg).1.vSlots.length dW) (.slice qW (allocD x tg).1.vFree.length eW))
            clear n0 n1 nu bq
            refine hK.out _ _ (hKT.out _ s6.out.1) (fun hHeld => ?_)
            clear hK K
            refine wpAnyH_ready (rs := [14]) (by kernel_rfl) (by simp) ?_
            refine AllReadyH.cons rfl (fun K hK => ?_) AllReadyH.nil
            have bq := RS.box (l := []) s6.out
            have n0 := bq.cell 0 rfl
            have n1 := bq.cell 1 rfl
            have nu := bq.unfrozen
            go_simp
            have s7 := toHid (RS.put (l := []) s6.out (.int .i64 (allocD x tg).2.1) (.int .i64 (allocD x tg).2.2.1))
            have r7 := toHid (RA.put (l := []) r6.out [.int .i64 (allocD x tg).2.1, .int .i64 (allocD x tg).2.2.1] (.int .i64 (allocD x tg).2.1) (.int .i64 (allocD x tg).2.2.1))
            clear n0 n1 nu bq
            refine hK.out _ _ (hKT.out _ s7.out.1) (fun hHeld => ?_)
            clear hK K
            refine tq (i := 15) (d := 11) ?_
            simp only [sz, ss]
            refine wpAnyH_done (by kernel_rfl) ?_ _
            have hoF : Hid (OwA (fun b => w.heap.size < b ∧ b ≠ T) _ _ _ (allocD x tg).1) := OwA.mono r7.out (fun b _ qb => ⟨by have := qb.1; omega, by have := qb.1; omega⟩)
            have hAF := toHid (AA.grown hAA6.out s7.out.1 s7.out.2.1)
            have hNF := toHid (RS.box (l := [_, _]) s7.out)
            clear hHeld
            go_wp2_with fail
            go_meet
            exact ⟨_, _, _, _, _, (allocD x tg).1, (allocD x tg).2.2.2, rfl, rfl, hAF, hoF, hNF, fun hb => goodAlloc hgood.out hb⟩
        · go_simp
          refine (below_any (by exact s1.out.2.1) 4 (by omega) (by omega)).mono ?_
          rintro e u5 ⟨v5, rfl, v50, v51, hr5, hg5⟩
          obtain ⟨k5, rfl⟩ := Int.eq_ofNat_of_zero_le v50
          have hk5 : k5 < 4 := by omega
          have s2 := toHid (s1.out.grown hg5 hr5)
          clear hr5 hg5
          refine hK.out _ _ (hKT.out _ s2.out.1) (fun hHeld => ?_)
          clear hK K
          refine wpAnyH_ready (rs := [1, 12]) (by kernel_rfl) (by simp) ?_
          refine (AllReadyH.cons rfl (fun K hK => ?_) (AllReadyH.cons rfl (fun K hK => ?_) AllReadyH.nil))
          · go_simp
            have s3 := toHid (RS.allocAt s2.out (u5.heap.size) (by simp) [.string ⟨#[]⟩, .string ⟨#[97]⟩, .string ⟨#[98, 99]⟩, .string ⟨#[120, 32, 121]⟩] 9)
            refine hK.out _ _ (hKT.out _ s3.out.1) (fun hHeld => ?_)
            clear hK K
            refine tq (i := 4) (d := 53) ?_
            simp only [sz, ss]
            refine wpAnyH_ready (rs := [5, 12]) (by kernel_rfl) (by simp) ?_
            refine (AllReadyH.cons rfl (fun K hK => ?_) (AllReadyH.cons rfl (fun K hK => ?_) AllReadyH.nil))
            · obtain ⟨tg, c6, htg0⟩ := tabA_pick (RS.box (l := []) s3.out) (i := k5) hk5
              have htg : Hid (tg.size ≤ maxLen) := by show _ ≤ _; unfold maxLen; omega
              go_simp
              clear c6 htg0
              refine hK.out _ _ (hKT.out _ s3.out.1) (fun hHeld => ?_)
              clear hK K
              refine wpAnyH_ready (rs := [6, 12]) (by kernel_rfl) (by simp) ?_
              refine (AllReadyH.cons rfl (fun K hK => ?_) (AllReadyH.cons rfl (fun K hK => ?_) AllReadyH.nil))
              · go_simp
                refine (specAllocatedS (by exact (AA.grown hAA6.out s3.out.1 s3.out.2.1).2.2.2.2.2.2.1.at) htg.out).mono ?_
                rintro e u8 ⟨⟨csW, rfl, hansW⟩, hb8⟩
                obtain ⟨pW, dW, qW, eW, rfl, hoW⟩ := RA.of s3.out hansW
                have r4 := toHid (hoW)
                have s4 := toHid (s3.out.below hb8)
                clear hb8 hoW hansW
                refine hK.out _ _ (hKT.out _ s4.out.1) (fun hHeld => ?_)
                clear hK K
                refine tq (i := 7) (d := 48) ?_
                simp only [sz, ss]
                refine tq (i := 8) (d := 56) ?_
                simp only [sz, ss]
                refine tq (i := 9) (d := 57) ?_
                simp only [sz, ss]
                refine tq (i := 10) (d := 58) ?_
                simp only [sz, ss]
                refine wpAnyH_ready (rs := [12]) (by kernel_rfl) (by simp) ?_
                refine AllReadyH.cons rfl (fun K hK => ?_) AllReadyH.nil
                go_simp
                have s5 := toHid (RS.allocAt s4.out (u8.heap.size) (by simp) [.int .i64 0, .int .i64 0] 31)
                have r5 := toHid (RA.allocAt r4.out (u8.heap.size) (by simp) [.int .i64 0, .int .i64 0] 31)
                refine hK.out _ _ (hKT.out _ s5.out.1) (fun hHeld => ?_)
                clear hK K
                refine wpAnyH_ready (rs := [13]) (by kernel_rfl) (by simp) ?_
                refine AllReadyH.cons rfl (fun K hK => ?_) AllReadyH.nil
                have bq := RS.box (l := [_, _]) s5.out
                have n0 := bq.cell 0 rfl
                have n1 := bq.cell 1 rfl
                have nu := bq.unfrozen
                go_simp
                have s6 := toHid (RS.put (l := [_, _]) s5.out (.slice pW (allocD x tg).1.vSlots.length dW) (.slice qW (allocD x tg).1.vFree.length eW))
                have r6 := toHid (RA.put (l := [_, _]) r5.out [.slice pW (allocD x tg).1.vSlots.length dW, .slice qW (allocD x tg).1.vFree.length eW] (.slice pW (allocD x tg).1.vSlots.length dW) (.slice qW (allocD x tg).1.vFree.length eW))
                clear n0 n1 nu bq
                refine hK.out _ _ (hKT.out _ s6.out.1) (fun hHeld => ?_)
                clear hK K
                refine wpAnyH_ready (rs := [14]) (by kernel_rfl) (by simp) ?_
                refine AllReadyH.cons rfl (fun K hK => ?_) AllReadyH.nil
                have bq := RS.box (l := []) s6.out
                have n0 := bq.cell 0 rfl
                have n1 := bq.cell 1 rfl
                have nu := bq.unfrozen
                go_simp
                have s7 := toHid (RS.put (l := []) s6.out (.int .i64 (allocD x tg).2.1) (.int .i64 (allocD x tg).2.2.1))
                have r7 := toHid (RA.put (l := []) r6.out [.int .i64 (allocD x tg).2.1, .int .i64 (allocD x tg).2.2.1] (.int .i64 (allocD x tg).2.1) (.int .i64 (allocD x tg).2.2.1))
                clear n0 n1 nu bq
                refine hK.out _ _ (hKT.out _ s7.out.1) (fun hHeld => ?_)
                clear hK K
                refine tq (i := 15) (d := 11) ?_
                simp only [sz, ss]
                refine wpAnyH_done (by kernel_rfl) ?_ _
                have hoF : Hid (OwA (fun b => w.heap.size < b ∧ b ≠ T) _ _ _ (allocD x tg).1) := OwA.mono r7.out (fun b _ qb => ⟨by have := qb.1; omega, by have := qb.1; omega⟩)
                have hAF := toHid (AA.grown hAA6.out s7.out.1 s7.out.2.1)
                have hNF := toHid (RS.box (l := [_, _]) s7.out)
                clear hHeld
                go_wp2_with fail
                go_meet
                exact ⟨_, _, _, _, _, (allocD x tg).1, (allocD x tg).2.2.2, rfl, rfl, hAF, hoF, hNF, fun hb => goodAlloc hgood.out hb⟩
              · go_simp
                have s4 := toHid (RS.allocAt s3.out (u5.heap.size + 1) (by simp) [.int .i64 0, .int .i64 0] 31)
                refine hK.out _ _ (hKT.out _ s4.out.1) (fun hHeld => ?_)
                clear hK K
                refine wpAnyH_ready (rs := [6]) (by kernel_rfl) (by simp) ?_
                refine AllReadyH.cons rfl (fun K hK => ?_) AllReadyH.nil
                go_simp
                refine (specAllocatedS (by exact (AA.grown hAA6.out s4.out.1 s4.out.2.1).2.2.2.2.2.2.1.at) htg.out).mono ?_
                rintro e u8 ⟨⟨csW, rfl, hansW⟩, hb8⟩
                obtain ⟨pW, dW, qW, eW, rfl, hoW⟩ := RA.of s4.out hansW
                have r5 := toHid (hoW)
                have s5 := toHid (s4.out.below hb8)
                clear hb8 hoW hansW
                refine hK.out _ _ (hKT.out _ s5.out.1) (fun hHeld => ?_)
                clear hK K
                refine tq (i := 7) (d := 48) ?_
                simp only [sz, ss]
                refine tq (i := 8) (d := 56) ?_
                simp only [sz, ss]
                refine tq (i := 9) (d := 57) ?_
                simp only [sz, ss]
                refine tq (i := 10) (d := 58) ?_
                simp only [sz, ss]
                refine wpAnyH_ready (rs := [13]) (by kernel_rfl) (by simp) ?_
                refine AllReadyH.cons rfl (fun K hK => ?_) AllReadyH.nil
                have bq := RS.box (l := [_, _]) s5.out
                have n0 := bq.cell 0 rfl
                have n1 := bq.cell 1 rfl
                have nu := bq.unfrozen
                go_simp
                have s6 := toHid (RS.put (l := [_, _]) s5.out (.slice pW (allocD x tg).1.vSlots.length dW) (.slice qW (allocD x tg).1.vFree.length eW))
                have r6 := toHid (RA.put (l := [_, _]) r5.out [.slice pW (allocD x tg).1.vSlots.length dW, .slice qW (allocD x tg).1.vFree.length eW] (.slice pW (allocD x tg).1.vSlots.length dW) (.slice qW (allocD x tg).1.vFree.length eW))
                clear n0 n1 nu bq
                refine hK.out _ _ (hKT.out _ s6.out.1) (fun hHeld => ?_)
                clear hK K
                refine wpAnyH_ready (rs := [14]) (by kernel_rfl) (by simp) ?_
                refine AllReadyH.cons rfl (fun K hK => ?_) AllReadyH.nil
                have bq := RS.box (l := []) s6.out
                have n0 := bq.cell 0 rfl
                have n1 := bq.cell 1 rfl
                have nu := bq.unfrozen
                go_simp
                have s7 := toHid (RS.put (l := []) s6.out (.int .i64 (allocD x tg).2.1) (.int .i64 (allocD x tg).2.2.1))
                have r7 := toHid (RA.put (l := []) r6.out [.int .i64 (allocD x tg).2.1, .int .i64 (allocD x tg).2.2.1] (.int .i64 (allocD x tg).2.1) (.int .i64 (allocD x tg).2.2.1))
                clear n0 n1 nu bq
                refine hK.out _ _ (hKT.out _ s7.out.1) (fun hHeld => ?_)
                clear hK K
                refine tq (i := 15) (d := 11) ?_
                simp only [sz, ss]
                refine wpAnyH_done (by kernel_rfl) ?_ _
                have hoF : Hid (OwA (fun b => w.heap.size < b ∧ b ≠ T) _ _ _ (allocD x tg).1) := OwA.mono r7.out (fun b _ qb => ⟨by have := qb.1; omega, by have := qb.1; omega⟩)
                have hAF := toHid (AA.grown hAA6.out s7.out.1 s7.out.2.1)
                have hNF := toHid (RS.box (l := [_, _]) s7.out)
                clear hHeld
                go_wp2_with fail
                go_meet
                exact ⟨_, _, _, _, _, (allocD x tg).1, (allocD x tg).2.2.2, rfl, rfl, hAF, hoF, hNF, fun hb => goodAlloc hgood.out hb⟩
            · go_simp
              have s4 := toHid (RS.allocAt s3.out (u5.heap.size + 1) (by simp) [.int .i64 0, .int .i64 0] 31)
              refine hK.out _ _ (hKT.out _ s4.out.1) (fun hHeld => ?_)
              clear hK K
              refine wpAnyH_ready (rs := [5]) (by kernel_rfl) (by simp) ?_
              refine AllReadyH.cons rfl (fun K hK => ?_) AllReadyH.nil
              obtain ⟨tg, c6, htg0⟩ := tabA_pick (RS.box (l := [_]) s4.out) (i := k5) hk5
              have htg : Hid (tg.size ≤ maxLen) := by show _ ≤ _; unfold maxLen; omega
              go_simp
              clear c6 htg0
              refine hK.out _ _ (hKT.out _ s4.out.1) (fun hHeld => ?_)
              clear hK K
              refine wpAnyH_ready (rs := [6]) (by kernel_rfl) (by simp) ?_
              refine AllReadyH.cons rfl (fun K hK => ?_) AllReadyH.nil
              go_simp
              refine (specAllocatedS (by exact (AA.grown hAA6.out s4.out.1 s4.out.2.1).2.2.2.2.2.2.1.at) htg.out).mono ?_
              rintro e u8 ⟨⟨csW, rfl, hansW⟩, hb8⟩
              obtain ⟨pW, dW, qW, eW, rfl, hoW⟩ := RA.of s4.out hansW
              have r5 := toHid (hoW)
              have s5 := toHid (s4.out.below hb8)
              clear hb8 hoW hansW
              refine hK.out _ _ (hKT.out _ s5.out.1) (fun hHeld => ?_)
              clear hK K
              refine tq (i := 7) (d := 48) ?_
              simp only [sz, ss]
              refine tq (i := 8) (d := 56) ?_
              simp only [sz, ss]
              refine tq (i := 9) (d := 57) ?_
              simp only [sz, ss]
              refine tq (i := 10) (d := 58) ?_
              simp only [sz, ss]
              refine wpAnyH_ready (rs := [13]) (by kernel_rfl) (by simp) ?_
              refine AllReadyH.cons rfl (fun K hK => ?_) AllReadyH.nil
              have bq := RS.box (l := [_, _]) s5.out
              have n0 := bq.cell 0 rfl
              have n1 := bq.cell 1 rfl
              have nu := bq.unfrozen
              go_simp
              have s6 := toHid (RS.put (l := [_, _]) s5.out (.slice pW (allocD x tg).1.vSlots.length dW) (.slice qW (allocD x tg).1.vFree.length eW))
              have r6 := toHid (RA.put (l := [_, _]) r5.out [.slice pW (allocD x tg).1.vSlots.length dW, .slice qW (allocD x tg).1.vFree.length eW] (.slice pW (allocD x tg).1.vSlots.length dW) (.slice qW (allocD x tg).1.vFree.length eW))
              clear n0 n1 nu bq
              refine hK.out _ _ (hKT.out _ s6.out.1) (fun hHeld => ?_)
              clear hK K
              refine wpAnyH_ready (rs := [14]) (by kernel_rfl) (by simp) ?_
              refine AllReadyH.cons rfl (fun K hK => ?_) AllReadyH.nil
              have bq := RS.box (l := []) s6.out
              have n0 := bq.cell 0 rfl
              have n1 := bq.cell 1 rfl
              have nu := bq.unfrozen
              go_simp
              have s7 := toHid (RS.put (l := []) s6.out (.int .i64 (allocD x tg).2.1) (.int .i64 (allocD x tg).2.2.1))
              have r7 := toHid (RA.put (l := []) r6.out [.int .i64 (allocD x tg).2.1, .int .i64 (allocD x tg).2.2.1] (.int .i64 (allocD x tg).2.1) (.int .i64 (allocD x tg).2.2.1))
              clear n0 n1 nu bq
              refine hK.out _ _ (hKT.out _ s7.out.1) (fun hHeld => ?_)
              clear hK K
              refine tq (i := 15) (d := 11) ?_
              simp only [sz, ss]
              refine wpAnyH_done (by kernel_rfl) ?_ _
              have hoF : Hid (OwA (fun b => w.heap.size < b ∧ b ≠ T) _ _ _ (allocD x tg).1) := OwA.mono r7.out (fun b _ qb => ⟨by have := qb.1; omega, by have := qb.1; omega⟩)
              have hAF := toHid (AA.grown hAA6.out s7.out.1 s7.out.2.1)
              have hNF := toHid (RS.box (l := [_, _]) s7.out)
              clear hHeld
              go_wp2_with fail
              go_meet
              exact ⟨_, _, _, _, _, (allocD x tg).1, (allocD x tg).2.2.2, rfl, rfl, hAF, hoF, hNF, fun hb => goodAlloc hgood.out hb⟩
          · go_simp
            have s3 := toHid (RS.allocAt s2.out (u5.heap.size) (by simp) [.int .i64 0, .int .i64 0] 31)
            refine hK.out _ _ (hKT.out _ s3.out.1) (fun hHeld => ?_)
            clear hK K
            refine wpAnyH_ready (rs := [1]) (by kernel_rfl) (by simp) ?_
            refine AllReadyH.cons rfl (fun K hK => ?_) AllReadyH.nil
            go_simp
            have s4 := toHid (RS.allocAt s3.out (u5.heap.size + 1) (by simp) [.string ⟨#[]⟩, .string ⟨#[97]⟩, .string ⟨#[98, 99]⟩, .string ⟨#[120, 32, 121]⟩] 9)
            refine hK.out _ _ (hKT.out _ s4.out.1) (fun hHeld => ?_)
            clear hK K
            refine tq (i := 4) (d := 53) ?_
            simp only [sz, ss]
            refine wpAnyH_ready (rs := [5]) (by kernel_rfl) (by simp) ?_
            refine AllReadyH.cons rfl (fun K hK => ?_) AllReadyH.nil
            obtain ⟨tg, c6, htg0⟩ := tabA_pick (RS.box (l := []) s4.out) (i := k5) hk5
            have htg : Hid (tg.size ≤ maxLen) := by show _ ≤ _; unfold maxLen; omega
            go_simp
            clear c6 htg0
            refine hK.out _ _ (hKT.out _ s4.out.1) (fun hHeld => ?_)
            clear hK K
            refine wpAnyH_ready (rs := [6]) (by kernel_rfl) (by simp) ?_
            refine AllReadyH.cons rfl (fun K hK => ?_) AllReadyH.nil
            go_simp
            refine (specAllocatedS (by exact (AA.grown hAA6.out s4.out.1 s4.out.2.1).2.2.2.2.2.2.1.at) htg.out).mono ?_
            rintro e u8 ⟨⟨csW, rfl, hansW⟩, hb8⟩
            obtain ⟨pW, dW, qW, eW, rfl, hoW⟩ := RA.of s4.out hansW
            have r5 := toHid (hoW)
            have s5 := toHid (s4.out.below hb8)
            clear hb8 hoW hansW
            refine hK.out _ _ (hKT.out _ s5.out.1) (fun hHeld => ?_)
            clear hK K
            refine tq (i := 7) (d := 48) ?_
            simp only [sz, ss]
            refine tq (i := 8) (d := 56) ?_
            simp only [sz, ss]
            refine tq (i := 9) (d := 57) ?_
            simp only [sz, ss]
            refine tq (i := 10) (d := 58) ?_
            simp only [sz, ss]
            refine wpAnyH_ready (rs := [13]) (by kernel_rfl) (by simp) ?_
            refine AllReadyH.cons rfl (fun K hK => ?_) AllReadyH.nil
            have bq := RS.box (l := [_, _]) s5.out
            have n0 := bq.cell 0 rfl
            have n1 := bq.cell 1 rfl
            have nu := bq.unfrozen
            go_simp
            have s6 := toHid (RS.put (l := [_, _]) s5.out (.slice pW (allocD x tg).1.vSlots.length dW) (.slice qW (allocD x tg).1.vFree.length eW))
            have r6 := toHid (RA.put (l := [_, _]) r5.out [.slice pW (allocD x tg).1.vSlots.length dW, .slice qW (allocD x tg).1.vFree.length eW] (.slice pW (allocD x tg).1.vSlots.length dW) (.slice qW (allocD x tg).1.vFree.length eW))
            clear n0 n1 nu bq
            refine hK.out _ _ (hKT.out _ s6.out.1) (fun hHeld => ?_)
            clear hK K
            refine wpAnyH_ready (rs := [14]) (by kernel_rfl) (by simp) ?_
            refine AllReadyH.cons rfl (fun K hK => ?_) AllReadyH.nil
            have bq := RS.box (l := [_]) s6.out
            have n0 := bq.cell 0 rfl
            have n1 := bq.cell 1 rfl
            have nu := bq.unfrozen
            go_simp
            have s7 := toHid (RS.put (l := [_]) s6.out (.int .i64 (allocD x tg).2.1) (.int .i64 (allocD x tg).2.2.1))
            have r7 := toHid (RA.put (l := [_]) r6.out [.int .i64 (allocD x tg).2.1, .int .i64 (allocD x tg).2.2.1] (.int .i64 (allocD x tg).2.1) (.int .i64 (allocD x tg).2.2.1))
            clear n0 n1 nu bq
            refine hK.out _ _ (hKT.out _ s7.out.1) (fun hHeld => ?_)
            clear hK K
            refine tq (i := 15) (d := 11) ?_
            simp only [sz, ss]
            refine wpAnyH_done (by kernel_rfl) ?_ _
            have hoF : Hid (OwA (fun b => w.heap.size < b ∧ b ≠ T) _ _ _ (allocD x tg).1) := OwA.mono r7.out (fun b _ qb => ⟨by have := qb.1; omega, by have := qb.1; omega⟩)
            have hAF := toHid (AA.grown hAA6.out s7.out.1 s7.out.2.1)
            have hNF := toHid (RS.box (l := [_, _]) s7.out)
            clear hHeld
            go_wp2_with fail
            go_meet
            exact ⟨_, _, _, _, _, (allocD x tg).1, (allocD x tg).2.2.2, rfl, rfl, hAF, hoF, hNF, fun hb => goodAlloc hgood.out hb⟩
        · go_simp
          have s2 := toHid (RS.allocAt s1.out (w6.heap.size + 1) (by simp) [.int .i64 0, .int .i64 0] 31)
          refine hK.out _ _ (hKT.out _ s2.out.1) (fun hHeld => ?_)
          clear hK K
          refine wpAnyH_ready (rs := [1, 3]) (by kernel_rfl) (by simp) ?_
          refine (AllReadyH.cons rfl (fun K hK => ?_) (AllReadyH.cons rfl (fun K hK => ?_) AllReadyH.nil))
          · go_simp
            have s3 := toHid (RS.allocAt s2.out (w6.heap.size + 1 + 1) (by simp) [.string ⟨#[]⟩, .string ⟨#[97]⟩, .string ⟨#[98, 99]⟩, .string ⟨#[120, 32, 121]⟩] 9)
            refine hK.out _ _ (hKT.out _ s3.out.1) (fun hHeld => ?_)
            clear hK K
            refine wpAnyH_ready (rs := [3]) (by kernel_rfl) (by simp) ?_
            refine AllReadyH.cons rfl (fun K hK => ?_) AllReadyH.nil
            go_simp
            refine (below_any (by exact s3.out.2.1) 4 (by omega) (by omega)).mono ?_
            rintro e u5 ⟨v5, rfl, v50, v51, hr5, hg5⟩
            obtain ⟨k5, rfl⟩ := Int.eq_ofNat_of_zero_le v50
            have hk5 : k5 < 4 := by omega
            have s4 := toHid (s3.out.grown hg5 hr5)
            clear hr5 hg5
            refine hK.out _ _ (hKT.out _ s4.out.1) (fun hHeld => ?_)
            clear hK K
            refine tq (i := 4) (d := 53) ?_
            simp only [sz, ss]
            refine wpAnyH_ready (rs := [5]) (by kernel_rfl) (by simp) ?_
            refine AllReadyH.cons rfl (fun K hK => ?_) AllReadyH.nil
            obtain ⟨tg, c6, htg0⟩ := tabA_pick (RS.box (l := []) s4.out) (i := k5) hk5
            have htg : Hid (tg.size ≤ maxLen) := by show _ ≤ _; unfold maxLen; omega
            go_simp
            clear c6 htg0
            refine hK.out _ _ (hKT.out _ s4.out.1) (fun hHeld => ?_)
            clear hK K
            refine wpAnyH_ready (rs := [6]) (by kernel_rfl) (by simp) ?_
            refine AllReadyH.cons rfl (fun K hK => ?_) AllReadyH.nil
            go_simp
            refine (specAllocatedS (by exact (AA.grown hAA6.out s4.out.1 s4.out.2.1).2.2.2.2.2.2.1.at) htg.out).mono ?_
            rintro e u8 ⟨⟨csW, rfl, hansW⟩, hb8⟩
            obtain ⟨pW, dW, qW, eW, rfl, hoW⟩ := RA.of s4.out hansW
            have r5 := toHid (hoW)
            have s5 := toHid (s4.out.below hb8)
            clear hb8 hoW hansW
            refine hK.out _ _ (hKT.out _ s5.out.1) (fun hHeld => ?_)
            clear hK K
            refine tq (i := 7) (d := 48) ?_
            simp only [sz, ss]
            refine tq (i := 8) (d := 56) ?_
            simp only [sz, ss]
            refine tq (i := 9) (d := 57) ?_
            simp only [sz, ss]
            refine tq (i := 10) (d := 58) ?_
            simp only [sz, ss]
            refine wpAnyH_ready (rs := [13]) (by kernel_rfl) (by simp) ?_
            refine AllReadyH.cons rfl (fun K hK => ?_) AllReadyH.nil
            have bq := RS.box (l := [_, _]) s5.out
            have n0 := bq.cell 0 rfl
            have n1 := bq.cell 1 rfl
            have nu := bq.unfrozen
            go_simp
            have s6 := toHid (RS.put (l := [_, _]) s5.out (.slice pW (allocD x tg).1.vSlots.length dW) (.slice qW (allocD x tg).1.vFree.length eW))
            have r6 := toHid (RA.put (l := [_, _]) r5.out [.slice pW (allocD x tg).1.vSlots.length dW, .slice qW (allocD x tg).1.vFree.length eW] (.slice pW (allocD x tg).1.vSlots.length dW) (.slice qW (allocD x tg).1.vFree.length eW))
            clear n0 n1 nu bq
            refine hK.out _ _ (hKT.out _ s6.out.1) (fun hHeld => ?_)
            clear hK K
            refine wpAnyH_ready (rs := [14]) (by kernel_rfl) (by simp) ?_
            refine AllReadyH.cons rfl (fun K hK => ?_) AllReadyH.nil
            have bq := RS.box (l := [_]) s6.out
            have n0 := bq.cell 0 rfl
            have n1 := bq.cell 1 rfl
            have nu := bq.unfrozen
            go_simp
            have s7 := toHid (RS.put (l := [_]) s6.out (.int .i64 (allocD x tg).2.1) (.int .i64 (allocD x tg).2.2.1))
            have r7 := toHid (RA.put (l := [_]) r6.out [.int .i64 (allocD x tg).2.1, .int .i64 (allocD x tg).2.2.1] (.int .i64 (allocD x tg).2.1) (.int .i64 (allocD x tg).2.2.1))
            clear n0 n1 nu bq
            refine hK.out _ _ (hKT.out _ s7.out.1) (fun hHeld => ?_)
            clear hK K
            refine tq (i := 15) (d := 11) ?_
            simp only [sz, ss]
            refine wpAnyH_done (by kernel_rfl) ?_ _
            have hoF : Hid (OwA (fun b => w.heap.size < b ∧ b ≠ T) _ _ _ (allocD x tg).1) := OwA.mono r7.out (fun b _ qb => ⟨by have := qb.1; omega, by have := qb.1; omega⟩)
            have hAF := toHid (AA.grown hAA6.out s7.out.1 s7.out.2.1)
            have hNF := toHid (RS.box (l := [_, _]) s7.out)
            clear hHeld
            go_wp2_with fail
            go_meet
            exact ⟨_, _, _, _, _, (allocD x tg).1, (allocD x tg).2.2.2, rfl, rfl, hAF, hoF, hNF, fun hb => goodAlloc hgood.out hb⟩
          · go_simp
            refine (below_any (by exact s2.out.2.1) 4 (by omega) (by omega)).mono ?_
            rintro e u5 ⟨v5, rfl, v50, v51, hr5, hg5⟩
            obtain ⟨k5, rfl⟩ := Int.eq_ofNat_of_zero_le v50
            have hk5 : k5 < 4 := by omega
            have s3 := toHid (s2.out.grown hg5 hr5)
            clear hr5 hg5
            refine hK.out _ _ (hKT.out _ s3.out.1) (fun hHeld => ?_)
            clear hK K
            refine wpAnyH_ready (rs := [1]) (by kernel_rfl) (by simp) ?_
            refine AllReadyH.cons rfl (fun K hK => ?_) AllReadyH.nil
            go_simp
            have s4 := toHid (RS.allocAt s3.out (u5.heap.size) (by simp) [.string ⟨#[]⟩, .string ⟨#[97]⟩, .string ⟨#[98, 99]⟩, .string ⟨#[120, 32, 121]⟩] 9)
            refine hK.out _ _ (hKT.out _ s4.out.1) (fun hHeld => ?_)
            clear hK K
            refine tq (i := 4) (d := 53) ?_
            simp only [sz, ss]
            refine wpAnyH_ready (rs := [5]) (by kernel_rfl) (by simp) ?_
            refine AllReadyH.cons rfl (fun K hK => ?_) AllReadyH.nil
            obtain ⟨tg, c6, htg0⟩ := tabA_pick (RS.box (l := []) s4.out) (i := k5) hk5
            have htg : Hid (tg.size ≤ maxLen) := by show _ ≤ _; unfold maxLen; omega
            go_simp
            clear c6 htg0
            refine hK.out _ _ (hKT.out _ s4.out.1) (fun hHeld => ?_)
            clear hK K
            refine wpAnyH_ready (rs := [6]) (by kernel_rfl) (by simp) ?_
            refine AllReadyH.cons rfl (fun K hK => ?_) AllReadyH.nil
            go_simp
            refine (specAllocatedS (by exact (AA.grown hAA6.out s4.out.1 s4.out.2.1).2.2.2.2.2.2.1.at) htg.out).mono ?_
            rintro e u8 ⟨⟨csW, rfl, hansW⟩, hb8⟩
            obtain ⟨pW, dW, qW, eW, rfl, hoW⟩ := RA.of s4.out hansW
            have r5 := toHid (hoW)
            have s5 := toHid (s4.out.below hb8)
            clear hb8 hoW hansW
            refine hK.out _ _ (hKT.out _ s5.out.1) (fun hHeld => ?_)
            clear hK K
            refine tq (i := 7) (d := 48) ?_
            simp only [sz, ss]
            refine tq (i := 8) (d := 56) ?_
            simp only [sz, ss]
            refine tq (i := 9) (d := 57) ?_
            simp only [sz, ss]
            refine tq (i := 10) (d := 58) ?_
            simp only [sz, ss]
            refine wpAnyH_ready (rs := [13]) (by kernel_rfl) (by simp) ?_
            refine AllReadyH.cons rfl (fun K hK => ?_) AllReadyH.nil
            have bq := RS.box (l := [_, _]) s5.out
            have n0 := bq.cell 0 rfl
            have n1 := bq.cell 1 rfl
            have nu := bq.unfrozen
            go_simp
            have s6 := toHid (RS.put (l := [_, _]) s5.out (.slice pW (allocD x tg).1.vSlots.length dW) (.slice qW (allocD x tg).1.vFree.length eW))
            have r6 := toHid (RA.put (l := [_, _]) r5.out [.slice pW (allocD x tg).1.vSlots.length dW, .slice qW (allocD x tg).1.vFree.length eW] (.slice pW (allocD x tg).1.vSlots.length dW) (.slice qW (allocD x tg).1.vFree.length eW))
            clear n0 n1 nu bq
            refine hK.out _ _ (hKT.out _ s6.out.1) (fun hHeld => ?_)
            clear hK K
            refine wpAnyH_ready (rs := [14]) (by kernel_rfl) (by simp) ?_
            refine AllReadyH.cons rfl (fun K hK => ?_) AllReadyH.nil
            have bq := RS.box (l := [_]) s6.out
            have n0 := bq.cell 0 rfl
            have n1 := bq.cell 1 rfl
            have nu := bq.unfrozen
            go_simp
            have s7 := toHid (RS.put (l := [_]) s6.out (.int .i64 (allocD x tg).2.1) (.int .i64 (allocD x tg).2.2.1))
            have r7 := toHid (RA.put (l := [_]) r6.out [.int .i64 (allocD x tg).2.1, .int .i64 (allocD x tg).2.2.1] (.int .i64 (allocD x tg).2.1) (.int .i64 (allocD x tg).2.2.1))
            clear n0 n1 nu bq
            refine hK.out _ _ (hKT.out _ s7.out.1) (fun hHeld => ?_)
            clear hK K
            refine tq (i := 15) (d := 11) ?_
            simp only [sz, ss]
            refine wpAnyH_done (by kernel_rfl) ?_ _
            have hoF : Hid (OwA (fun b => w.heap.size < b ∧ b ≠ T) _ _ _ (allocD x tg).1) := OwA.mono r7.out (fun b _ qb => ⟨by have := qb.1; omega, by have := qb.1; omega⟩)
            have hAF := toHid (AA.grown hAA6.out s7.out.1 s7.out.2.1)
            have hNF := toHid (RS.box (l := [_, _]) s7.out)
            clear hHeld
            go_wp2_with fail
            go_meet
            exact ⟨_, _, _, _, _, (allocD x tg).1, (allocD x tg).2.2.2, rfl, rfl, hAF, hoF, hNF, fun hb => goodAlloc hgood.out hb⟩
      · go_simp
        have s1 := toHid (RS.allocAt s0.out (w6.heap.size) (by simp) [.int .i64 0, .int .i64 0] 31)
        refine hK.out _ _ (hKT.out _ s1.out.1) (fun hHeld => ?_)
        clear hK K
        refine wpAnyH_ready (rs := [1, 3, 11]) (by kernel_rfl) (by simp) ?_
        refine (AllReadyH.cons rfl (fun K hK => ?_) (AllReadyH.cons rfl (fun K hK => ?_) (AllReadyH.cons rfl (fun K hK => ?_) AllReadyH.nil)))
        · go_simp
          have s2 := toHid (RS.allocAt s1.out (w6.heap.size + 1) (by simp) [.string ⟨#[]⟩, .string ⟨#[97]⟩, .string ⟨#[98, 99]⟩, .string ⟨#[120, 32, 121]⟩] 9)
          refine hK.out _ _ (hKT.out _ s2.out.1) (fun hHeld => ?_)
          clear hK K
          refine wpAnyH_ready (rs := [3, 11]) (by kernel_rfl) (by simp) ?_
          refine (AllReadyH.cons rfl (fun K hK => ?_) (AllReadyH.cons rfl (fun K hK => ?_) AllReadyH.nil))
          · go_simp
            refine (below_any (by exact s2.out.2.1) 4 (by omega) (by omega)).mono ?_
            rintro e u5 ⟨v5, rfl, v50, v51, hr5, hg5⟩
            obtain ⟨k5, rfl⟩ := Int.eq_ofNat_of_zero_le v50
            have hk5 : k5 < 4 := by omega
            have s3 := toHid (s2.out.grown hg5 hr5)
            clear hr5 hg5
            refine hK.out _ _ (hKT.out _ s3.out.1) (fun hHeld => ?_)
            clear hK K
            refine tq (i := 4) (d := 53) ?_
            simp only [sz, ss]
            refine wpAnyH_ready (rs := [5, 11]) (by kernel_rfl) (by simp) ?_
            refine (AllReadyH.cons rfl (fun K hK => ?_) (AllReadyH.cons rfl (fun K hK => ?_) AllReadyH.nil))
            · obtain ⟨tg, c6, htg0⟩ := tabA_pick (RS.box (l := []) s3.out) (i := k5) hk5
              have htg : Hid (tg.size ≤ maxLen) := by show _ ≤ _; unfold maxLen; omega
              go_simp
              clear c6 htg0
              refine hK.out _ _ (hKT.out _ s3.out.1) (fun hHeld => ?_)
              clear hK K
              refine wpAnyH_ready (rs := [6, 11]) (by kernel_rfl) (by simp) ?_
              refine (AllReadyH.cons rfl (fun K hK => ?_) (AllReadyH.cons rfl (fun K hK => ?_) AllReadyH.nil))
              · go_simp
                refine (specAllocatedS (by exact (AA.grown hAA6.out s3.out.1 s3.out.2.1).2.2.2.2.2.2.1.at) htg.out).mono ?_
                rintro e u8 ⟨⟨csW, rfl, hansW⟩, hb8⟩
                obtain ⟨pW, dW, qW, eW, rfl, hoW⟩ := RA.of s3.out hansW
                have r4 := toHid (hoW)
                have s4 := toHid (s3.out.below hb8)
                clear hb8 hoW hansW
                refine hK.out _ _ (hKT.out _ s4.out.1) (fun hHeld => ?_)
                clear hK K
                refine tq (i := 7) (d := 48) ?_
                simp only [sz, ss]
                refine tq (i := 8) (d := 56) ?_
                simp only [sz, ss]
                refine tq (i := 9) (d := 57) ?_
                simp only [sz, ss]
                refine tq (i := 10) (d := 58) ?_
                simp only [sz, ss]
                refine wpAnyH_ready (rs := [11]) (by kernel_rfl) (by simp) ?_
                refine AllReadyH.cons rfl (fun K hK => ?_) AllReadyH.nil
                go_simp
                have s5 := toHid (RS.allocAt s4.out (u8.heap.size) (by simp) [.slice none 0 0, .slice none 0 0] 27)
                have r5 := toHid (RA.allocAt r4.out (u8.heap.size) (by simp) [.slice none 0 0, .slice none 0 0] 27)
                refine hK.out _ _ (hKT.out _ s5.out.1) (fun hHeld => ?_)
                clear hK K
                refine wpAnyH_ready (rs := [13]) (by kernel_rfl) (by simp) ?_
                refine AllReadyH.cons rfl (fun K hK => ?_) AllReadyH.nil
                go_simp
                have s6 := toHid (RS.allocAt s4.out (u8.heap.size) (by simp) [.slice pW (allocD x tg).1.vSlots.length dW, .slice qW (allocD x tg).1.vFree.length eW] 27)
                have r6 := toHid (RA.allocAt r4.out (u8.heap.size) (by simp) [.slice pW (allocD x tg).1.vSlots.length dW, .slice qW (allocD x tg).1.vFree.length eW] 27)
                refine hK.out _ _ (hKT.out _ s6.out.1) (fun hHeld => ?_)
                clear hK K
                refine wpAnyH_ready (rs := [14]) (by kernel_rfl) (by simp) ?_
                refine AllReadyH.cons rfl (fun K hK => ?_) AllReadyH.nil
                have bq := RS.box (l := [_, _]) s6.out
                have n0 := bq.cell 0 rfl
                have n1 := bq.cell 1 rfl
                have nu := bq.unfrozen
                go_simp
                have s7 := toHid (RS.put (l := [_, _]) s6.out (.int .i64 (allocD x tg).2.1) (.int .i64 (allocD x tg).2.2.1))
                have r7 := toHid (RA.put (l := [_, _]) r6.out [.int .i64 (allocD x tg).2.1, .int .i64 (allocD x tg).2.2.1] (.int .i64 (allocD x tg).2.1) (.int .i64 (allocD x tg).2.2.1))
                clear n0 n1 nu bq
                refine hK.out _ _ (hKT.out _ s7.out.1) (fun hHeld => ?_)
                clear hK K
                refine tq (i := 15) (d := 11) ?_
                simp only [sz, ss]
                refine wpAnyH_done (by kernel_rfl) ?_ _
                have hoF : Hid (OwA (fun b => w.heap.size < b ∧ b ≠ T) _ _ _ (allocD x tg).1) := OwA.mono r7.out (fun b _ qb => ⟨by have := qb.1; omega, by have := qb.1; omega⟩)
                have hAF := toHid (AA.grown hAA6.out s7.out.1 s7.out.2.1)
                have hNF := toHid (RS.box (l := []) s7.out)
                clear hHeld
                go_wp2_with fail
                go_meet
                exact ⟨_, _, _, _, _, (allocD x tg).1, (allocD x tg).2.2.2, rfl, rfl, hAF, hoF, hNF, fun hb => goodAlloc hgood.out hb⟩
              · go_simp
                have s4 := toHid (RS.allocAt s3.out (u5.heap.size) (by simp) [.slice none 0 0, .slice none 0 0] 27)
                refine hK.out _ _ (hKT.out _ s4.out.1) (fun hHeld => ?_)
                clear hK K
                refine wpAnyH_ready (rs := [6]) (by kernel_rfl) (by simp) ?_
                refine AllReadyH.cons rfl (fun K hK => ?_) AllReadyH.nil
                go_simp
                refine (specAllocatedS (by exact (AA.grown hAA6.out s4.out.1 s4.out.2.1).2.2.2.2.2.2.1.at) htg.out).mono ?_
                rintro e u8 ⟨⟨csW, rfl, hansW⟩, hb8⟩
                obtain ⟨pW, dW, qW, eW, rfl, hoW⟩ := RA.of s4.out hansW
                have r5 := toHid (hoW)
                have s5 := toHid (s4.out.below hb8)
                clear hb8 hoW hansW
                refine hK.out _ _ (hKT.out _ s5.out.1) (fun hHeld => ?_)
                clear hK K
                refine tq (i := 7) (d := 48) ?_
                simp only [sz, ss]
                refine tq (i := 8) (d := 56) ?_
                simp only [sz, ss]
                refine tq (i := 9) (d := 57) ?_
                simp only [sz, ss]
                refine tq (i := 10) (d := 58) ?_
                simp only [sz, ss]
                refine wpAnyH_ready (rs := [13]) (by kernel_rfl) (by simp) ?_
                refine AllReadyH.cons rfl (fun K hK => ?_) AllReadyH.nil
                have bq := RS.box (l := []) s5.out
                have n0 := bq.cell 0 rfl
                have n1 := bq.cell 1 rfl
                have nu := bq.unfrozen
                go_simp
                have s6 := toHid (RS.put (l := []) s5.out (.slice pW (allocD x tg).1.vSlots.length dW) (.slice qW (allocD x tg).1.vFree.length eW))
                have r6 := toHid (RA.put (l := []) r5.out [.slice pW (allocD x tg).1.vSlots.length dW, .slice qW (allocD x tg).1.vFree.length eW] (.slice pW (allocD x tg).1.vSlots.length dW) (.slice qW (allocD x tg).1.vFree.length eW))
                clear n0 n1 nu bq
                refine hK.out _ _ (hKT.out _ s6.out.1) (fun hHeld => ?_)
                clear hK K
                refine wpAnyH_ready (rs := [14]) (by kernel_rfl) (by simp) ?_
                refine AllReadyH.cons rfl (fun K hK => ?_) AllReadyH.nil
                have bq := RS.box (l := [_, _]) s6.out
                have n0 := bq.cell 0 rfl
                have n1 := bq.cell 1 rfl
                have nu := bq.unfrozen
                go_simp
                have s7 := toHid (RS.put (l := [_, _]) s6.out (.int .i64 (allocD x tg).2.1) (.int .i64 (allocD x tg).2.2.1))
                have r7 := toHid (RA.put (l := [_, _]) r6.out [.int .i64 (allocD x tg).2.1, .int .i64 (allocD x tg).2.2.1] (.int .i64 (allocD x tg).2.1) (.int .i64 (allocD x tg).2.2.1))
                clear n0 n1 nu bq
                refine hK.out _ _ (hKT.out _ s7.out.1) (fun hHeld => ?_)
                clear hK K
                refine tq (i := 15) (d := 11) ?_
                simp only [sz, ss]
                refine wpAnyH_done (by kernel_rfl) ?_ _
                have hoF : Hid (OwA (fun b => w.heap.size < b ∧ b ≠ T) _ _ _ (allocD x tg).1) := OwA.mono r7.out (fun b _ qb => ⟨by have := qb.1; omega, by have := qb.1; omega⟩)
                have hAF := toHid (AA.grown hAA6.out s7.out.1 s7.out.2.1)
                have hNF := toHid (RS.box (l := []) s7.out)
                clear hHeld
                go_wp2_with fail
                go_meet
                exact ⟨_, _, _, _, _, (allocD x tg).1, (allocD x tg).2.2.2, rfl, rfl, hAF, hoF, hNF, fun hb => goodAlloc hgood.out hb⟩
            · go_simp
              have s4 := toHid (RS.allocAt s3.out (u5.heap.size) (by simp) [.slice none 0 0, .slice none 0 0] 27)
              refine hK.out _ _ (hKT.out _ s4.out.1) (fun hHeld => ?_)
              clear hK K
              refine wpAnyH_ready (rs := [5]) (by kernel_rfl) (by simp) ?_
              refine AllReadyH.cons rfl (fun K hK => ?_) AllReadyH.nil
              obtain ⟨tg, c6, htg0⟩ := tabA_pick (RS.box (l := [_]) s4.out) (i := k5) hk5
              have htg : Hid (tg.size ≤ maxLen) := by show _ ≤ _; unfold maxLen; omega
              go_simp
              clear c6 htg0
              refine hK.out _ _ (hKT.out _ s4.out.1) (fun hHeld => ?_)
              clear hK K
              refine wpAnyH_ready (rs := [6]) (by kernel_rfl) (by simp) ?_
              refine AllReadyH.cons rfl (fun K hK => ?_) AllReadyH.nil
              go_simp
              refine (specAllocatedS (by exact (AA.grown hAA6.out s4.out.1 s4.out.2.1).2.2.2.2.2.2.1.at) htg.out).mono ?_
              rintro e u8 ⟨⟨csW, rfl, hansW⟩, hb8⟩
              obtain ⟨pW, dW, qW, eW, rfl, hoW⟩ := RA.of s4.out hansW
              have r5 := toHid (hoW)
              have s5 := toHid (s4.out.below hb8)
              clear hb8 hoW hansW
              refine hK.out _ _ (hKT.out _ s5.out.1) (fun hHeld => ?_)
              clear hK K
              refine tq (i := 7) (d := 48) ?_
              simp only [sz, ss]
              refine tq (i := 8) (d := 56) ?_
              simp only [sz, ss]
              refine tq (i := 9) (d := 57) ?_
              simp only [sz, ss]
              refine tq (i := 10) (d := 58) ?_
              simp only [sz, ss]
              refine wpAnyH_ready (rs := [13]) (by kernel_rfl) (by simp) ?_
              refine AllReadyH.cons rfl (fun K hK => ?_) AllReadyH.nil
              have bq := RS.box (l := []) s5.out
              have n0 := bq.cell 0 rfl
              have n1 := bq.cell 1 rfl
              have nu := bq.unfrozen
              go_simp
              have s6 := toHid (RS.put (l := []) s5.out (.slice pW (allocD x tg).1.vSlots.length dW) (.slice qW (allocD x tg).1.vFree.length eW))
              have r6 := toHid (RA.put (l := []) r5.out [.slice pW (allocD x tg).1.vSlots.length dW, .slice qW (allocD x tg).1.vFree.length eW] (.slice pW (allocD x tg).1.vSlots.length dW) (.slice qW (allocD x tg).1.vFree.length eW))
              clear n0 n1 nu bq
              refine hK.out _ _ (hKT.out _ s6.out.1) (fun hHeld => ?_)
              clear hK K
              refine wpAnyH_ready (rs := [14]) (by kernel_rfl) (by simp) ?_
              refine AllReadyH.cons rfl (fun K hK => ?_) AllReadyH.nil
              have bq := RS.box (l := [_, _]) s6.out
              have n0 := bq.cell 0 rfl
              have n1 := bq.cell 1 rfl
              have nu := bq.unfrozen
              go_simp
              have s7 := toHid (RS.put (l := [_, _]) s6.out (.int .i64 (allocD x tg).2.1) (.int .i64 (allocD x tg).2.2.1))
              have r7 := toHid (RA.put (l := [_, _]) r6.out [.int .i64 (allocD x tg).2.1, .int .i64 (allocD x tg).2.2.1] (.int .i64 (allocD x tg).2.1) (.int .i64 (allocD x tg).2.2.1))
              clear n0 n1 nu bq
              refine hK.out _ _ (hKT.out _ s7.out.1) (fun hHeld => ?_)
              clear hK K
              refine tq (i := 15) (d := 11) ?_
              simp only [sz, ss]
              refine wpAnyH_done (by kernel_rfl) ?_ _
              have hoF : Hid (OwA (fun b => w.heap.size < b ∧ b ≠ T) _ _ _ (allocD x tg).1) := OwA.mono r7.out (fun b _ qb => ⟨by have := qb.1; omega, by have := qb.1; omega⟩)
              have hAF := toHid (AA.grown hAA6.out s7.out.1 s7.out.2.1)
              have hNF := toHid (RS.box (l := []) s7.out)
              clear hHeld
              go_wp2_with fail
              go_meet
              exact ⟨_, _, _, _, _, (allocD x tg).1, (allocD x tg).2.2.2, rfl, rfl, hAF, hoF, hNF, fun hb => goodAlloc hgood.out hb⟩
          · go_simp
            have s3 := toHid (RS.allocAt s2.out (w6.heap.size + 1 + 1) (by simp) [.slice none 0 0, .slice none 0 0] 27)
            refine hK.out _ _ (hKT.out _ s3.out.1) (fun hHeld => ?_)
            clear hK K
            refine wpAnyH_ready (rs := [3]) (by kernel_rfl) (by simp) ?_
            refine AllReadyH.cons rfl (fun K hK => ?_) AllReadyH.nil
            go_simp
            refine (below_any (by exact s3.out.2.1) 4 (by omega) (by omega)).mono ?_
            rintro e u5 ⟨v5, rfl, v50, v51, hr5, hg5⟩
            obtain ⟨k5, rfl⟩ := Int.eq_ofNat_of_zero_le v50
            have hk5 : k5 < 4 := by omega
            have s4 := toHid (s3.out.grown hg5 hr5)
            clear hr5 hg5
            refine hK.out _ _ (hKT.out _ s4.out.1) (fun hHeld => ?_)
            clear hK K
            refine tq (i := 4) (d := 53) ?_
            simp only [sz, ss]
            refine wpAnyH_ready (rs := [5]) (by kernel_rfl) (by simp) ?_
            refine AllReadyH.cons rfl (fun K hK => ?_) AllReadyH.nil
            obtain ⟨tg, c6, htg0⟩ := tabA_pick (RS.box (l := [_]) s4.out) (i := k5) hk5
            have htg : Hid (tg.size ≤ maxLen) := by show _ ≤ _; unfold maxLen; omega
            go_simp
            clear c6 htg0
            refine hK.out _ _ (hKT.out _ s4.out.1) (fun hHeld => ?_)
            clear hK K
            refine wpAnyH_ready (rs := [6]) (by kernel_rfl) (by simp) ?_
            refine AllReadyH.cons rfl (fun K hK => ?_) AllReadyH.nil
            go_simp
            refine (specAllocatedS (by exact (AA.grown hAA6.out s4.out.1 s4.out.2.1).2.2.2.2.2.2.1.at) htg.out).mono ?_
            rintro e u8 ⟨⟨csW, rfl, hansW⟩, hb8⟩
            obtain ⟨pW, dW, qW, eW, rfl, hoW⟩ := RA.of s4.out hansW
            have r5 := toHid (hoW)
            have s5 := toHid (s4.out.below hb8)
            clear hb8 hoW hansW
            refine hK.out _ _ (hKT.out _ s5.out.1) (fun hHeld => ?_)
            clear hK K
            refine tq (i := 7) (d := 48) ?_
            simp only [sz, ss]
            refine tq (i := 8) (d := 56) ?_
            simp only [sz, ss]
            refine tq (i := 9) (d := 57) ?_
            simp only [sz, ss]
            refine tq (i := 10) (d := 58) ?_
            simp only [sz, ss]
            refine wpAnyH_ready (rs := [13]) (by kernel_rfl) (by simp) ?_
            refine AllReadyH.cons rfl (fun K hK => ?_) AllReadyH.nil
            have bq := RS.box (l := []) s5.out
            have n0 := bq.cell 0 rfl
            have n1 := bq.cell 1 rfl
            have nu := bq.unfrozen
            go_simp
            have s6 := toHid (RS.put (l := []) s5.out (.slice pW (allocD x tg).1.vSlots.length dW) (.slice qW (allocD x tg).1.vFree.length eW))
            have r6 := toHid (RA.put (l := []) r5.out [.slice pW (allocD x tg).1.vSlots.length dW, .slice qW (allocD x tg).1.vFree.length eW] (.slice pW (allocD x tg).1.vSlots.length dW) (.slice qW (allocD x tg).1.vFree.length eW))
            clear n0 n1 nu bq
            refine hK.out _ _ (hKT.out _ s6.out.1) (fun hHeld => ?_)
            clear hK K
            refine wpAnyH_ready (rs := [14]) (by kernel_rfl) (by simp) ?_
            refine AllReadyH.cons rfl (fun K hK => ?_) AllReadyH.nil
            have bq := RS.box (l := [_, _]) s6.out
            have n0 := bq.cell 0 rfl
            have n1 := bq.cell 1 rfl
            have nu := bq.unfrozen
            go_simp
            have s7 := toHid (RS.put (l := [_, _]) s6.out (.int .i64 (allocD x tg).2.1) (.int .i64 (allocD x tg).2.2.1))
            have r7 := toHid (RA.put (l := [_, _]) r6.out [.int .i64 (allocD x tg).2.1, .int .i64 (allocD x tg).2.2.1] (.int .i64 (allocD x tg).2.1) (.int .i64 (allocD x tg).2.2.1))
            clear n0 n1 nu bq
            refine hK.out _ _ (hKT.out _ s7.out.1) (fun hHeld => ?_)
            clear hK K
            refine tq (i := 15) (d := 11) ?_
            simp only [sz, ss]
            refine wpAnyH_done (by kernel_rfl) ?_ _
            have hoF : Hid (OwA (fun b => w.heap.size < b ∧ b ≠ T) _ _ _ (allocD x tg).1) := OwA.mono r7.out (fun b _ qb => ⟨by have := qb.1; omega, by have := qb.1; omega⟩)
            have hAF := toHid (AA.grown hAA6.out s7.out.1 s7.out.2.1)
            have hNF := toHid (RS.box (l := []) s7.out)
            clear hHeld
            go_wp2_with fail
            go_meet
            exact ⟨_, _, _, _, _, (allocD x tg).1, (allocD x tg).2.2.2, rfl, rfl, hAF, hoF, hNF, fun hb => goodAlloc hgood.out hb⟩
        · go_simp
          refine (below_any (by exact s1.out.2.1) 4 (by omega) (by omega)).mono ?_
          rintro e u5 ⟨v5, rfl, v50, v51, hr5, hg5⟩
          obtain ⟨k5, rfl⟩ := Int.eq_ofNat_of_zero_le v50
          have hk5 : k5 < 4 := by omega
          have s2 := toHid (s1.out.grown hg5 hr5)
          clear hr5 hg5
          refine hK.out _ _ (hKT.out _ s2.out.1) (fun hHeld => ?_)
          clear hK K
          refine wpAnyH_ready (rs := [1, 11]) (by kernel_rfl) (by simp) ?_
          refine (AllReadyH.cons rfl (fun K hK => ?_) (AllReadyH.cons rfl (fun K hK => ?_) AllReadyH.nil))
          · go_simp
            have s3 := toHid (RS.allocAt s2.out (u5.heap.size) (by simp) [.string ⟨#[]⟩, .string ⟨#[97]⟩, .string ⟨#[98, 99]⟩, .string ⟨#[120, 32, 121]⟩] 9)
            refine hK.out _ _ (hKT.out _ s3.out.1) (fun hHeld => ?_)
            clear hK K
            refine tq (i := 4) (d := 53) ?_
            simp only [sz, ss]
            refine wpAnyH_ready (rs := [5, 11]) (by kernel_rfl) (by simp) ?_
            refine (AllReadyH.cons rfl (fun K hK => ?_) (AllReadyH.cons rfl (fun K hK => ?_) AllReadyH.nil))
            · obtain ⟨tg, c6, htg0⟩ := tabA_pick (RS.box (l := []) s3.out) (i := k5) hk5
              have htg : Hid (tg.size ≤ maxLen) := by show _ ≤ _; unfold maxLen; omega
              go_simp
              clear c6 htg0
              refine hK.out _ _ (hKT.out _ s3.out.1) (fun hHeld => ?_)
              clear hK K
              refine wpAnyH_ready (rs := [6, 11]) (by kernel_rfl) (by simp) ?_
              refine (AllReadyH.cons rfl (fun K hK => ?_) (AllReadyH.cons rfl (fun K hK => ?_) AllReadyH.nil))
              · go_simp
                refine (specAllocatedS (by exact (AA.grown hAA6.out s3.out.1 s3.out.2.1).2.2.2.2.2.2.1.at) htg.out).mono ?_
                rintro e u8 ⟨⟨csW, rfl, hansW⟩, hb8⟩
                obtain ⟨pW, dW, qW, eW, rfl, hoW⟩ := RA.of s3.out hansW
                have r4 := toHid (hoW)
                have s4 := toHid (s3.out.below hb8)
                clear hb8 hoW hansW
                refine hK.out _ _ (hKT.out _ s4.out.1) (fun hHeld => ?_)
                clear hK K
                refine tq (i := 7) (d := 48) ?_
                simp only [sz, ss]
                refine tq (i := 8) (d := 56) ?_
                simp only [sz, ss]
                refine tq (i := 9) (d := 57) ?_
                simp only [sz, ss]
                refine tq (i := 10) (d := 58) ?_
                simp only [sz, ss]
                refine wpAnyH_ready (rs := [11]) (by kernel_rfl) (by simp) ?_
                refine AllReadyH.cons rfl (fun K hK => ?_) AllReadyH.nil
                go_simp
                have s5 := toHid (RS.allocAt s4.out (u8.heap.size) (by simp) [.slice none 0 0, .slice none 0 0] 27)
                have r5 := toHid (RA.allocAt r4.out (u8.heap.size) (by simp) [.slice none 0 0, .slice none 0 0] 27)
                refine hK.out _ _ (hKT.out _ s5.out.1) (fun hHeld => ?_)
                clear hK K
                refine wpAnyH_ready (rs := [13]) (by kernel_rfl) (by simp) ?_
                refine AllReadyH.cons rfl (fun K hK => ?_) AllReadyH.nil
                go_simp
                have s6 := toHid (RS.allocAt s4.out (u8.heap.size) (by simp) [.slice pW (allocD x tg).1.vSlots.length dW, .slice qW (allocD x tg).1.vFree.length eW] 27)
                have r6 := toHid (RA.allocAt r4.out (u8.heap.size) (by simp) [.slice pW (allocD x tg).1.vSlots.length dW, .slice qW (allocD x tg).1.vFree.length eW] 27)
                refine hK.out _ _ (hKT.out _ s6.out.1) (fun hHeld => ?_)
                clear hK K
                refine wpAnyH_ready (rs := [14]) (by kernel_rfl) (by simp) ?_
                refine AllReadyH.cons rfl (fun K hK => ?_) AllReadyH.nil
                have bq := RS.box (l := [_, _]) s6.out
                have n0 := bq.cell 0 rfl
                have n1 := bq.cell 1 rfl
                have nu := bq.unfrozen
                go_simp
                have s7 := toHid (RS.put (l := [_, _]) s6.out (.int .i64 (allocD x tg).2.1) (.int .i64 (allocD x tg).2.2.1))
                have r7 := toHid (RA.put (l := [_, _]) r6.out [.int .i64 (allocD x tg).2.1, .int .i64 (allocD x tg).2.2.1] (.int .i64 (allocD x tg).2.1) (.int .i64 (allocD x tg).2.2.1))
                clear n0 n1 nu bq
                refine hK.out _ _ (hKT.out _ s7.out.1) (fun hHeld => ?_)
                clear hK K
                refine tq (i := 15) (d := 11) ?_
                simp only [sz, ss]
                refine wpAnyH_done (by kernel_rfl) ?_ _
                have hoF : Hid (OwA (fun b => w.heap.size < b ∧ b ≠ T) _ _ _ (allocD x tg).1) := OwA.mono r7.out (fun b _ qb => ⟨by have := qb.1; omega, by have := qb.1; omega⟩)
                have hAF := toHid (AA.grown hAA6.out s7.out.1 s7.out.2.1)
                have hNF := toHid (RS.box (l := []) s7.out)
                clear hHeld
                go_wp2_with fail
                go_meet
                exact ⟨_, _, _, _, _, (allocD x tg).1, (allocD x tg).2.2.2, rfl, rfl, hAF, hoF, hNF, fun hb => goodAlloc hgood.out hb⟩
              · go_simp
                have s4 := toHid (RS.allocAt s3.out (u5.heap.size + 1) (by simp) [.slice none 0 0, .slice none 0 0] 27)
                refine hK.out _ _ (hKT.out _ s4.out.1) (fun hHeld => ?_)
                clear hK K
                refine wpAnyH_ready (rs := [6]) (by kernel_rfl) (by simp) ?_
                refine AllReadyH.cons rfl (fun K hK => ?_) AllReadyH.nil
                go_simp
                refine (specAllocatedS (by exact (AA.grown hAA6.out s4.out.1 s4.out.2.1).2.2.2.2.2.2.1.at) htg.out).mono ?_
                rintro e u8 ⟨⟨csW, rfl, hansW⟩, hb8⟩
                obtain ⟨pW, dW, qW, eW, rfl, hoW⟩ := RA.of s4.out hansW
                have r5 := toHid (hoW)
                have s5 := toHid (s4.out.below hb8)
                clear hb8 hoW hansW
                refine hK.out _ _ (hKT.out _ s5.out.1) (fun hHeld => ?_)
                clear hK K
                refine tq (i := 7) (d := 48) ?_
                simp only [sz, ss]
                refine tq (i := 8) (d := 56) ?_
                simp only [sz, ss]
                refine tq (i := 9) (d := 57) ?_
                simp only [sz, ss]
                refine tq (i := 10) (d := 58) ?_
                simp only [sz, ss]
                refine wpAnyH_ready (rs := [13]) (by kernel_rfl) (by simp) ?_
                refine AllReadyH.cons rfl (fun K hK => ?_) AllReadyH.nil
                have bq := RS.box (l := []) s5.out
                have n0 := bq.cell 0 rfl
                have n1 := bq.cell 1 rfl
                have nu := bq.unfrozen
                go_simp
                have s6 := toHid (RS.put (l := []) s5.out (.slice pW (allocD x tg).1.vSlots.length dW) (.slice qW (allocD x tg).1.vFree.length eW))
                have r6 := toHid (RA.put (l := []) r5.out [.slice pW (allocD x tg).1.vSlots.length dW, .slice qW (allocD x tg).1.vFree.length eW] (.slice pW (allocD x tg).1.vSlots.length dW) (.slice qW (allocD x tg).1.vFree.length eW))
                clear n0 n1 nu bq
                refine hK.out _ _ (hKT.out _ s6.out.1) (fun hHeld => ?_)
                clear hK K
                refine wpAnyH_ready (rs := [14]) (by kernel_rfl) (by simp) ?_
                refine AllReadyH.cons rfl (fun K hK => ?_) AllReadyH.nil
                have bq := RS.box (l := [_, _]) s6.out
                have n0 := bq.cell 0 rfl
                have n1 := bq.cell 1 rfl
                have nu := bq.unfrozen
                go_simp
                have s7 := toHid (RS.put (l := [_, _]) s6.out (.int .i64 (allocD x tg).2.1) (.int .i64 (allocD x tg).2.2.1))
                have r7 := toHid (RA.put (l := [_, _]) r6.out [.int .i64 (allocD x tg).2.1, .int .i64 (allocD x tg).2.2.1] (.int .i64 (allocD x tg).2.1) (.int .i64 (allocD x tg).2.2.1))
                clear n0 n1 nu bq
                refine hK.out _ _ (hKT.out _ s7.out.1) (fun hHeld => ?_)
                clear hK K
                refine tq (i := 15) (d := 11) ?_
                simp only [sz, ss]
                refine wpAnyH_done (by kernel_rfl) ?_ _
                have hoF : Hid (OwA (fun b => w.heap.size < b ∧ b ≠ T) _ _ _ (allocD x tg).1) := OwA.mono r7.out (fun b _ qb => ⟨by have := qb.1; omega, by have := qb.1; omega⟩)
                have hAF := toHid (AA.grown hAA6.out s7.out.1 s7.out.2.1)
                have hNF := toHid (RS.box (l := []) s7.out)
                clear hHeld
                go_wp2_with fail
                go_meet
                exact ⟨_, _, _, _, _, (allocD x tg).1, (allocD x tg).2.2.2, rfl, rfl, hAF, hoF, hNF, fun hb => goodAlloc hgood.out hb⟩
            · go_simp
              have s4 := toHid (RS.allocAt s3.out (u5.heap.size + 1) (by simp) [.slice none 0 0, .slice none 0 0] 27)
              refine hK.out _ _ (hKT.out _ s4.out.1) (fun hHeld => ?_)
              clear hK K
              refine wpAnyH_ready (rs := [5]) (by kernel_rfl) (by simp) ?_
              refine AllReadyH.cons rfl (fun K hK => ?_) AllReadyH.nil
              obtain ⟨tg, c6, htg0⟩ := tabA_pick (RS.box (l := [_]) s4.out) (i := k5) hk5
              have htg : Hid (tg.size ≤ maxLen) := by show _ ≤ _; unfold maxLen; omega
              go_simp
              clear c6 htg0
              refine hK.out _ _ (hKT.out _ s4.out.1) (fun hHeld => ?_)
              clear hK K
              refine wpAnyH_ready (rs := [6]) (by kernel_rfl) (by simp) ?_
              refine AllReadyH.cons rfl (fun K hK => ?_) AllReadyH.nil
              go_simp
              refine (specAllocatedS (by exact (AA.grown hAA6.out s4.out.1 s4.out.2.1).2.2.2.2.2.2.1.at) htg.out).mono ?_
              rintro e u8 ⟨⟨csW, rfl, hansW⟩, hb8⟩
              obtain ⟨pW, dW, qW, eW, rfl, hoW⟩ := RA.of s4.out hansW
              have r5 := toHid (hoW)
              have s5 := toHid (s4.out.below hb8)
              clear hb8 hoW hansW
              refine hK.out _ _ (hKT.out _ s5.out.1) (fun hHeld => ?_)
              clear hK K
              refine tq (i := 7) (d := 48) ?_
              simp only [sz, ss]
              refine tq (i := 8) (d := 56) ?_
              simp only [sz, ss]
              refine tq (i := 9) (d := 57) ?_
              simp only [sz, ss]
              refine tq (i := 10) (d := 58) ?_
              simp only [sz, ss]
              refine wpAnyH_ready (rs := [13]) (by kernel_rfl) (by simp) ?_
              refine AllReadyH.cons rfl (fun K hK => ?_) AllReadyH.nil
              have bq := RS.box (l := []) s5.out
              have n0 := bq.cell 0 rfl
              have n1 := bq.cell 1 rfl
              have nu := bq.unfrozen
              go_simp
              have s6 := toHid (RS.put (l := []) s5.out (.slice pW (allocD x tg).1.vSlots.length dW) (.slice qW (allocD x tg).1.vFree.length eW))
              have r6 := toHid (RA.put (l := []) r5.out [.slice pW (allocD x tg).1.vSlots.length dW, .slice qW (allocD x tg).1.vFree.length eW] (.slice pW (allocD x tg).1.vSlots.length dW) (.slice qW (allocD x tg).1.vFree.length eW))
              clear n0 n1 nu bq
              refine hK.out _ _ (hKT.out _ s6.out.1) (fun hHeld => ?_)
              clear hK K
              refine wpAnyH_ready (rs := [14]) (by kernel_rfl) (by simp) ?_
              refine AllReadyH.cons rfl (fun K hK => ?_) AllReadyH.nil
              have bq := RS.box (l := [_, _]) s6.out
              have n0 := bq.cell 0 rfl
              have n1 := bq.cell 1 rfl
              have nu := bq.unfrozen
              go_simp
              have s7 := toHid (RS.put (l := [_, _]) s6.out (.int .i64 (allocD x tg).2.1) (.int .i64 (allocD x tg).2.2.1))
              have r7 := toHid (RA.put (l := [_, _]) r6.out [.int .i64 (allocD x tg).2.1, .int .i64 (allocD x tg).2.2.1] (.int .i64 (allocD x tg).2.1) (.int .i64 (allocD x tg).2.2.1))
              clear n0 n1 nu bq
              refine hK.out _ _ (hKT.out _ s7.out.1) (fun hHeld => ?_)
              clear hK K
              refine tq (i := 15) (d := 11) ?_
              simp only [sz, ss]
              refine wpAnyH_done (by kernel_rfl) ?_ _
              have hoF : Hid (OwA (fun b => w.heap.size < b ∧ b ≠ T) _ _ _ (allocD x tg).1) := OwA.mono r7.out (fun b _ qb => ⟨by have := qb.1; omega, by have := qb.1; omega⟩)
              have hAF := toHid (AA.grown hAA6.out s7.out.1 s7.out.2.1)
              have hNF := toHid (RS.box (l := []) s7.out)
              clear hHeld
              go_wp2_with fail
              go_meet
              exact ⟨_, _, _, _, _, (allocD x tg).1, (allocD x tg).2.2.2, rfl, rfl, hAF, hoF, hNF, fun hb => goodAlloc hgood.out hb⟩
          · go_simp
            have s3 := toHid (RS.allocAt s2.out (u5.heap.size) (by simp) [.slice none 0 0, .slice none 0 0] 27)
            refine hK.out _ _ (hKT.out _ s3.out.1) (fun hHeld => ?_)
            clear hK K
            refine wpAnyH_ready (rs := [1]) (by kernel_rfl) (by simp) ?_
            refine AllReadyH.cons rfl (fun K hK => ?_) AllReadyH.nil
            go_simp
            have s4 := toHid (RS.allocAt s3.out (u5.heap.size + 1) (by simp) [.string ⟨#[]⟩, .string ⟨#[97]⟩, .string ⟨#[98, 99]⟩, .string ⟨#[120, 32, 121]⟩] 9)
            refine hK.out _ _ (hKT.out _ s4.out.1) (fun hHeld => ?_)
            clear hK K
            refine tq (i := 4) (d := 53) ?_
            simp only [sz, ss]
            refine wpAnyH_ready (rs := [5]) (by kernel_rfl) (by simp) ?_
            refine AllReadyH.cons rfl (fun K hK => ?_) AllReadyH.nil
            obtain ⟨tg, c6, htg0⟩ := tabA_pick (RS.box (l := []) s4.out) (i := k5) hk5
            have htg : Hid (tg.size ≤ maxLen) := by show _ ≤ _; unfold maxLen; omega
            go_simp
            clear c6 htg0
            refine hK.out _ _ (hKT.out _ s4.out.1) (fun hHeld => ?_)
            clear hK K
            refine wpAnyH_ready (rs := [6]) (by kernel_rfl) (by simp) ?_
            refine AllReadyH.cons rfl (fun K hK => ?_) AllReadyH.nil
            go_simp
            refine (specAllocatedS (by exact (AA.grown hAA6.out s4.out.1 s4.out.2.1).2.2.2.2.2.2.1.at) htg.out).mono ?_
            rintro e u8 ⟨⟨csW, rfl, hansW⟩, hb8⟩
            obtain ⟨pW, dW, qW, eW, rfl, hoW⟩ := RA.of s4.out hansW
            have r5 := toHid (hoW)
            have s5 := toHid (s4.out.below hb8)
            clear hb8 hoW hansW
            refine hK.out _ _ (hKT.out _ s5.out.1) (fun hHeld => ?_)
            clear hK K
            refine tq (i := 7) (d := 48) ?_
            simp only [sz, ss]
            refine tq (i := 8) (d := 56) ?_
            simp only [sz, ss]
            refine tq (i := 9) (d := 57) ?_
            simp only [sz, ss]
            refine tq (i := 10) (d := 58) ?_
            simp only [sz, ss]
            refine wpAnyH_ready (rs := [13]) (by kernel_rfl) (by simp) ?_
            refine AllReadyH.cons rfl (fun K hK => ?_) AllReadyH.nil
            have bq := RS.box (l := [_]) s5.out
            have n0 := bq.cell 0 rfl
            have n1 := bq.cell 1 rfl
            have nu := bq.unfrozen
            go_simp
            have s6 := toHid (RS.put (l := [_]) s5.out (.slice pW (allocD x tg).1.vSlots.length dW) (.slice qW (allocD x tg).1.vFree.length eW))
            have r6 := toHid (RA.put (l := [_]) r5.out [.slice pW (allocD x tg).1.vSlots.length dW, .slice qW (allocD x tg).1.vFree.length eW] (.slice pW (allocD x tg).1.vSlots.length dW) (.slice qW (allocD x tg).1.vFree.length eW))
            clear n0 n1 nu bq
            refine hK.out _ _ (hKT.out _ s6.out.1) (fun hHeld => ?_)
            clear hK K
            refine wpAnyH_ready (rs := [14]) (by kernel_rfl) (by simp) ?_
            refine AllReadyH.cons rfl (fun K hK => ?_) AllReadyH.nil
            have bq := RS.box (l := [_, _]) s6.out
            have n0 := bq.cell 0 rfl
            have n1 := bq.cell 1 rfl
            have nu := bq.unfrozen
            go_simp
            have s7 := toHid (RS.put (l := [_, _]) s6.out (.int .i64 (allocD x tg).2.1) (.int .i64 (allocD x tg).2.2.1))
            have r7 := toHid (RA.put (l := [_, _]) r6.out [.int .i64 (allocD x tg).2.1, .int .i64 (allocD x tg).2.2.1] (.int .i64 (allocD x tg).2.1) (.int .i64 (allocD x tg).2.2.1))
            clear n0 n1 nu bq
            refine hK.out _ _ (hKT.out _ s7.out.1) (fun hHeld => ?_)
            clear hK K
            refine tq (i := 15) (d := 11) ?_
            simp only [sz, ss]
            refine wpAnyH_done (by kernel_rfl) ?_ _
            have hoF : Hid (OwA (fun b => w.heap.size < b ∧ b ≠ T) _ _ _ (allocD x tg).1) := OwA.mono r7.out (fun b _ qb => ⟨by have := qb.1; omega, by have := qb.1; omega⟩)
            have hAF := toHid (AA.grown hAA6.out s7.out.1 s7.out.2.1)
            have hNF := toHid (RS.box (l := [_]) s7.out)
            clear hHeld
            go_wp2_with fail
            go_meet
            exact ⟨_, _, _, _, _, (allocD x tg).1, (allocD x tg).2.2.2, rfl, rfl, hAF, hoF, hNF, fun hb => goodAlloc hgood.out hb⟩
        · go_simp
          have s2 := toHid (RS.allocAt s1.out (w6.heap.size + 1) (by simp) [.slice none 0 0, .slice none 0 0] 27)
          refine hK.out _ _ (hKT.out _ s2.out.1) (fun hHeld => ?_)
          clear hK K
          refine wpAnyH_ready (rs := [1, 3]) (by kernel_rfl) (by simp) ?_
          refine (AllReadyH.cons rfl (fun K hK => ?_) (AllReadyH.cons rfl (fun K hK => ?_) AllReadyH.nil))
          · go_simp
            have s3 := toHid (RS.allocAt s2.out (w6.heap.size + 1 + 1) (by simp) [.string ⟨#[]⟩, .string ⟨#[97]⟩, .string ⟨#[98, 99]⟩, .string ⟨#[120, 32, 121]⟩] 9)
            refine hK.out _ _ (hKT.out _ s3.out.1) (fun hHeld => ?_)
            clear hK K
            refine wpAnyH_ready (rs := [3]) (by kernel_rfl) (by simp) ?_
            refine AllReadyH.cons rfl (fun K hK => ?_) AllReadyH.nil
            go_simp
            refine (below_any (by exact s3.out.2.1) 4 (by omega) (by omega)).mono ?_
            rintro e u5 ⟨v5, rfl, v50, v51, hr5, hg5⟩
            obtain ⟨k5, rfl⟩ := Int.eq_ofNat_of_zero_le v50
            have hk5 : k5 < 4 := by omega
            have s4 := toHid (s3.out.grown hg5 hr5)
            clear hr5 hg5
            refine hK.out _ _ (hKT.out _ s4.out.1) (fun hHeld => ?_)
            clear hK K
            refine tq (i := 4) (d := 53) ?_
            simp only [sz, ss]
            refine wpAnyH_ready (rs := [5]) (by kernel_rfl) (by simp) ?_
            refine AllReadyH.cons rfl (fun K hK => ?_) AllReadyH.nil
            obtain ⟨tg, c6, htg0⟩ := tabA_pick (RS.box (l := []) s4.out) (i := k5) hk5
            have htg : Hid (tg.size ≤ maxLen) := by show _ ≤ _; unfold maxLen; omega
            go_simp
            clear c6 htg0
            refine hK.out _ _ (hKT.out _ s4.out.1) (fun hHeld => ?_)
            clear hK K
            refine wpAnyH_ready (rs := [6]) (by kernel_rfl) (by simp) ?_
            refine AllReadyH.cons rfl (fun K hK => ?_) AllReadyH.nil
            go_simp
            refine (specAllocatedS (by exact (AA.grown hAA6.out s4.out.1 s4.out.2.1).2.2.2.2.2.2.1.at) htg.out).mono ?_
            rintro e u8 ⟨⟨csW, rfl, hansW⟩, hb8⟩
            obtain ⟨pW, dW, qW, eW, rfl, hoW⟩ := RA.of s4.out hansW
            have r5 := toHid (hoW)
            have s5 := toHid (s4.out.below hb8)
            clear hb8 hoW hansW
            refine hK.out _ _ (hKT.out _ s5.out.1) (fun hHeld => ?_)
            clear hK K
            refine tq (i := 7) (d := 48) ?_
            simp only [sz, ss]
            refine tq (i := 8) (d := 56) ?_
            simp only [sz, ss]
            refine tq (i := 9) (d := 57) ?_
            simp only [sz, ss]
            refine tq (i := 10) (d := 58) ?_
            simp only [sz, ss]
            refine wpAnyH_ready (rs := [13]) (by kernel_rfl) (by simp) ?_
            refine AllReadyH.cons rfl (fun K hK => ?_) AllReadyH.nil
            have bq := RS.box (l := [_]) s5.out
            have n0 := bq.cell 0 rfl
            have n1 := bq.cell 1 rfl
            have nu := bq.unfrozen
            go_simp
            have s6 := toHid (RS.put (l := [_]) s5.out (.slice pW (allocD x tg).1.vSlots.length dW) (.slice qW (allocD x tg).1.vFree.length eW))
            have r6 := toHid (RA.put (l := [_]) r5.out [.slice pW (allocD x tg).1.vSlots.length dW, .slice qW (allocD x tg).1.vFree.length eW] (.slice pW (allocD x tg).1.vSlots.length dW) (.slice qW (allocD x tg).1.vFree.length eW))
            clear n0 n1 nu bq
            refine hK.out _ _ (hKT.out _ s6.out.1) (fun hHeld => ?_)
            clear hK K
            refine wpAnyH_ready (rs := [14]) (by kernel_rfl) (by simp) ?_
            refine AllReadyH.cons rfl (fun K hK => ?_) AllReadyH.nil
            have bq := RS.box (l := [_, _]) s6.out
            have n0 := bq.cell 0 rfl
            have n1 := bq.cell 1 rfl
            have nu := bq.unfrozen
            go_simp
            have s7 := toHid (RS.put (l := [_, _]) s6.out (.int .i64 (allocD x tg).2.1) (.int .i64 (allocD x tg).2.2.1))
            have r7 := toHid (RA.put (l := [_, _]) r6.out [.int .i64 (allocD x tg).2.1, .int .i64 (allocD x tg).2.2.1] (.int .i64 (allocD x tg).2.1) (.int .i64 (allocD x tg).2.2.1))
            clear n0 n1 nu bq
            refine hK.out _ _ (hKT.out _ s7.out.1) (fun hHeld => ?_)
            clear hK K
            refine tq (i := 15) (d := 11) ?_
            simp only [sz, ss]
            refine wpAnyH_done (by kernel_rfl) ?_ _
            have hoF : Hid (OwA (fun b => w.heap.size < b ∧ b ≠ T) _ _ _ (allocD x tg).1) := OwA.mono r7.out (fun b _ qb => ⟨by have := qb.1; omega, by have := qb.1; omega⟩)
            have hAF := toHid (AA.grown hAA6.out s7.out.1 s7.out.2.1)
            have hNF := toHid (RS.box (l := [_]) s7.out)
            clear hHeld
            go_wp2_with fail
            go_meet
            exact ⟨_, _, _, _, _, (allocD x tg).1, (allocD x tg).2.2.2, rfl, rfl, hAF, hoF, hNF, fun hb => goodAlloc hgood.out hb⟩
          · go_simp
            refine (below_any (by exact s2.out.2.1) 4 (by omega) (by omega)).mono ?_
            rintro e u5 ⟨v5, rfl, v50, v51, hr5, hg5⟩
            obtain ⟨k5, rfl⟩ := Int.eq_ofNat_of_zero_le v50
            have hk5 : k5 < 4 := by omega
            have s3 := toHid (s2.out.grown hg5 hr5)
            clear hr5 hg5
            refine hK.out _ _ (hKT.out _ s3.out.1) (fun hHeld => ?_)
            clear hK K
            refine wpAnyH_ready (rs := [1]) (by kernel_rfl) (by simp) ?_
            refine AllReadyH.cons rfl (fun K hK => ?_) AllReadyH.nil
            go_simp
            have s4 := toHid (RS.allocAt s3.out (u5.heap.size) (by simp) [.string ⟨#[]⟩, .string ⟨#[97]⟩, .string ⟨#[98, 99]⟩, .string ⟨#[120, 32, 121]⟩] 9)
            refine hK.out _ _ (hKT.out _ s4.out.1) (fun hHeld => ?_)
            clear hK K
            refine tq (i := 4) (d := 53) ?_
            simp only [sz, ss]
            refine wpAnyH_ready (rs := [5]) (by kernel_rfl) (by simp) ?_
            refine AllReadyH.cons rfl (fun K hK => ?_) AllReadyH.nil
            obtain ⟨tg, c6, htg0⟩ := tabA_pick (RS.box (l := []) s4.out) (i := k5) hk5
            have htg : Hid (tg.size ≤ maxLen) := by show _ ≤ _; unfold maxLen; omega
            go_simp
            clear c6 htg0
            refine hK.out _ _ (hKT.out _ s4.out.1) (fun hHeld => ?_)
            clear hK K
            refine wpAnyH_ready (rs := [6]) (by kernel_rfl) (by simp) ?_
            refine AllReadyH.cons rfl (fun K hK => ?_) AllReadyH.nil
            go_simp
            refine (specAllocatedS (by exact (AA.grown hAA6.out s4.out.1 s4.out.2.1).2.2.2.2.2.2.1.at) htg.out).mono ?_
            rintro e u8 ⟨⟨csW, rfl, hansW⟩, hb8⟩
            obtain ⟨pW, dW, qW, eW, rfl, hoW⟩ := RA.of s4.out hansW
            have r5 := toHid (hoW)
            have s5 := toHid (s4.out.below hb8)
            clear hb8 hoW hansW
            refine hK.out _ _ (hKT.out _ s5.out.1) (fun hHeld => ?_)
            clear hK K
            refine tq (i := 7) (d := 48) ?_
            simp only [sz, ss]
            refine tq (i := 8) (d := 56) ?_
            simp only [sz, ss]
            refine tq (i := 9) (d := 57) ?_
            simp only [sz, ss]
            refine tq (i := 10) (d := 58) ?_
            simp only [sz, ss]
            refine wpAnyH_ready (rs := [13]) (by kernel_rfl) (by simp) ?_
            refine AllReadyH.cons rfl (fun K hK => ?_) AllReadyH.nil
            have bq := RS.box (l := [_]) s5.out
            have n0 := bq.cell 0 rfl
            have n1 := bq.cell 1 rfl
            have nu := bq.unfrozen
            go_simp
            have s6 := toHid (RS.put (l := [_]) s5.out (.slice pW (allocD x tg).1.vSlots.length dW) (.slice qW (allocD x tg).1.vFree.length eW))
            have r6 := toHid (RA.put (l := [_]) r5.out [.slice pW (allocD x tg).1.vSlots.length dW, .slice qW (allocD x tg).1.vFree.length eW] (.slice pW (allocD x tg).1.vSlots.length dW) (.slice qW (allocD x tg).1.vFree.length eW))
            clear n0 n1 nu bq
            refine hK.out _ _ (hKT.out _ s6.out.1) (fun hHeld => ?_)
            clear hK K
            refine wpAnyH_ready (rs := [14]) (by kernel_rfl) (by simp) ?_
            refine AllReadyH.cons rfl (fun K hK => ?_) AllReadyH.nil
            have bq := RS.box (l := [_, _]) s6.out
            have n0 := bq.cell 0 rfl
            have n1 := bq.cell 1 rfl
            have nu := bq.unfrozen
            go_simp
            have s7 := toHid (RS.put (l := [_, _]) s6.out (.int .i64 (allocD x tg).2.1) (.int .i64 (allocD x tg).2.2.1))
            have r7 := toHid (RA.put (l := [_, _]) r6.out [.int .i64 (allocD x tg).2.1, .int .i64 (allocD x tg).2.2.1] (.int .i64 (allocD x tg).2.1) (.int .i64 (allocD x tg).2.2.1))
            clear n0 n1 nu bq
            refine hK.out _ _ (hKT.out _ s7.out.1) (fun hHeld => ?_)
            clear hK K
            refine tq (i := 15) (d := 11) ?_
            simp only [sz, ss]
            refine wpAnyH_done (by kernel_rfl) ?_ _
            have hoF : Hid (OwA (fun b => w.heap.size < b ∧ b ≠ T) _ _ _ (allocD x tg).1) := OwA.mono r7.out (fun b _ qb => ⟨by have := qb.1; omega, by have := qb.1; omega⟩)
            have hAF := toHid (AA.grown hAA6.out s7.out.1 s7.out.2.1)
            have hNF := toHid (RS.box (l := [_]) s7.out)
            clear hHeld
            go_wp2_with fail
            go_meet
            exact ⟨_, _, _, _, _, (allocD x tg).1, (allocD x tg).2.2.2, rfl, rfl, hAF, hoF, hNF, fun hb => goodAlloc hgood.out hb⟩
    obtain ⟨N, pW, dW, qW, eW, y, bb, rfl, rfl, hAA7, hoY, bN7, hgy⟩ := hcut
    clear hAA6
    have hgy' : Hid (bb = true → 1 ≤ y.vSlots.length ∧ y.vFree.length ≤ 13) := hgy
    clear hgy
    generalize wc = w7 at *
    cases bb
    · go_wp2_with fail
      go_roundw
      case rel => exact ⟨i - 1, p0, d0, p1, d1, x, by omega, by omega, by go_num, hAA7, hgood⟩
      case measure => simp [intOf]; omega
    · have n0 := bN7.out.cell 0 rfl
      have n1 := bN7.out.cell 1 rfl
      have t0 := hAA7.out.2.2.2.2.2.2.2.cell 0 rfl
      have t1 := hAA7.out.2.2.2.2.2.2.2.cell 1 rfl
      have tu := hAA7.out.2.2.2.2.2.2.2.unfrozen
      have hput : Hid (AA w g a n cap T (.slice pW y.vSlots.length dW) (.slice qW y.vFree.length eW) y _) := AA.put hAA7.out hoY.out
      go_wp2_with fail
      go_roundw
      case rel => exact ⟨i - 1, pW, dW, qW, eW, y, by omega, by omega, by go_num, hput, hgy'.out rfl⟩
      case measure => simp [intOf]; omega

end Go.Proofs.Ytcbomaflfjdmjaa
