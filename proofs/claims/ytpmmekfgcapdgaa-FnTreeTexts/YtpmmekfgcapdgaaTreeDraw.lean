/- What is drawn as a tree: some tree that owns its memory; only the reader's block turns. -/
import Derived.Test.YtpmmekfgcapdgaaTreeOwn
import Derived.Test.YtpmmekfgcapdgaaTakeLit
namespace Go.Proofs.Ytpmmekfgcapdgaa
open Go.RowKit
theorem infoTr : ((Try.prog.info? 26).map fun i => (i.zero, i.bytes, i.size)) = some (some (.agg #[.string ByteArray.empty, .slice none 0 0]), 40, 2) := by kernel_rfl
def tags4 : List ByteArray := [⟨#[97]⟩, ⟨#[100, 105, 118]⟩, ⟨#[112]⟩, ⟨#[97, 98, 99, 100, 101, 102]⟩]
def DrT (n : Nat) : Prop := 1 ≤ n → n ≤ 5 → ∀ (w : World) (g : Nat) (a : Option Addr) (nn cap : Nat) (deep : Int), RdAt w g a nn cap → deep = 5 - (n : Int) →
  Calls Try.prog 28 #[.pointer (some ⟨g, 0, none⟩), .int .i64 deep] w fun e w' => ∃ (cs : List Value) (x : TD) (fs : List Nat), e = .returned (.agg cs.toArray) ∧ TreeOwn n w' cs x fs ∧ fs.Nodup ∧ (∀ b ∈ fs, w.heap.size + 1 ≤ b) ∧ RdAt w' g a nn cap ∧ w.grownBy w' (some g)
set_option maxRecDepth 100000 in
set_option maxHeartbeats 4000000 in
theorem drT_of (n : Nat) (hS : Hid (DrT n)) : DrT (n + 1) := by
  intro _ hn4 w g a nn cap deep hrd hdeep
  have hlt := hrd.lt
  have hrd' : Hid (RdAt w g a nn cap) := hrd
  have hdeep' : Hid (deep = 4 - (n : Int)) := by show _ = _; rw [hdeep]; omega
  have hd0 : 0 ≤ deep := by omega
  have hd9 : deep ≤ 5 := by omega
  have hn4' : Hid (n + 1 ≤ 5) := hn4
  have hwd : IntKind.i64.wrap (deep + 1) = deep + 1 := by rw [IntKind.wrap_i64]; omega
  clear hrd hdeep hn4
  obtain ⟨iT, hiT0, heT0⟩ := Option.map_eq_some_iff.1 infoTr
  simp only [Prod.mk.injEq] at heT0
  have hiT : Hid (Try.prog.info? 26 = some iT) := hiT0
  have heT : Hid (iT.zero = some (.agg #[.string ByteArray.empty, .slice none 0 0]) ∧ iT.bytes = 40 ∧ iT.size = 2) := heT0
  clear hiT0 heT0
  have hb0 : Hid (Below w.heap.size w ((w.alloc (.cells #[.string ⟨#[]⟩, .slice none 0 0] 26)).alloc (.cells (tags4.map Value.string).toArray 9))) := ((Below.refl _ _).alloc (Nat.le_refl _) _).alloc (by simp) _
  have bx0 : Hid (Box ((w.alloc (.cells #[.string ⟨#[]⟩, .slice none 0 0] 26)).alloc (.cells (tags4.map Value.string).toArray 9)) (w.heap.size + 1) (tags4.map Value.string) 9) := by have := Box.new (w.alloc (.cells #[.string ⟨#[]⟩, .slice none 0 0] 26)) (tags4.map Value.string) 9; simpa [Hid] using this
  have br0 : Hid (Box ((w.alloc (.cells #[.string ⟨#[]⟩, .slice none 0 0] 26)).alloc (.cells (tags4.map Value.string).toArray 9)) w.heap.size resT 26) := (Box.new w _ _).alloc _
  go_enter Try.func28, Try.ntmps28
  go_wp2_with fail
  refine (below_any (RdAt.below hrd'.out hb0.out) 4 (by omega) (by omega)).mono ?_
  rintro e w1 ⟨v, rfl, v0, v1, hr1, hg1⟩
  have hr1' : Hid (RdAt w1 g a nn cap) := hr1
  have hg1' : Hid (w.grownBy w1 (some g)) := (grown_of_below hb0.out _).trans hg1
  have hz1 : w.heap.size + 2 ≤ w1.heap.size := by have := hg1.size; simpa using this
  have br1 : Hid (Box w1 w.heap.size resT 26) := box_other br0.out (by omega) hg1
  have bx1 : Hid (Box w1 (w.heap.size + 1) (tags4.map Value.string) 9) := box_other bx0.out (by omega) hg1
  obtain ⟨k, rfl⟩ := Int.eq_ofNat_of_zero_le v0
  have hk : k < tags4.length := by show k < 4; omega
  have hc := box_str bx1.out k hk
  have hsz : Hid (tags4[k].size ≤ 6) := mem_le (by decide) k hk
  generalize tags4[k] = tag at hc hsz
  have hk4 : (k : Int) < 4 := by omega
  clear hr1 hg1
  go_wp2_with fail
  have hbA : Below w1.heap.size w1 (w1.alloc (.cells #[.string tag, .slice none 0 0] 26)) := (Below.refl _ _).alloc (Nat.le_refl _) _
  have hk0 : Hid (KtSt n w g a nn cap w1.heap.size (w1.heap.size + 1) tag (.slice none 0 0) [] (w1.alloc (.cells #[.string tag, .slice none 0 0] 26))) := ⟨⟨[], [], GrowOwn.nil⟩, Box.new w1 _ _, br1.out.alloc _, RdAt.below hr1'.out hbA, hg1'.out.trans (grown_of_below hbA _), by simp, hlt, by omega, by omega⟩
  refine (below_any hk0.out.2.2.2.1 4 (by omega) (by omega)).mono ?_
  rintro e w7 ⟨u, rfl, u0, u1, hr7, hg7⟩
  have hk7 : Hid (KtSt n w g a nn cap w1.heap.size (w1.heap.size + 1) tag (.slice none 0 0) [] w7) := KtSt.grown hk0.out hg7 hr7
  generalize hbase : w1.heap.size + 1 = base at hk7
  clear hbase hr7 hg7 hk0 hbA hc
  go_wp2_with fail
  go_loopw [6] (fun iv wr => ∃ (i : Int) (vk : Value) (xs : List TD), 0 ≤ i ∧ i ≤ u ∧ iv = .int .i64 i ∧ Hid ((xs.length : Int) ≤ u - i) ∧ Hid (KtSt n w g a nn cap w1.heap.size base tag vk xs wr)) (fun iv _ => (intOf iv).toNat)
  case atStart => exact ⟨u, .slice none 0 0, [], u0, by omega, rfl, by show ((0 : Nat) : Int) ≤ u - u; omega, hk7⟩
  case round =>
    obtain ⟨i, vk, xs, i0, i1, rfl, hxl, hst⟩ := hrel
    by_cases hi : 0 < i
    · by_cases hd : deep < 4
      · have hst2 : Hid (KtSt n w g a nn cap w1.heap.size base tag vk xs wr) := hst
        have hrd2 : Hid (RdAt wr g a nn cap) := hst.out.2.2.2.1
        generalize wr = w2 at *
        obtain ⟨⟨bss, css, hgr⟩, bTr0, _, _, _, hbs, hgw, hwT, hTb⟩ := id hst2.out
        obtain ⟨av, capv, rfl⟩ := hgr.form
        have bTr : Hid (Box w2 w1.heap.size [.string tag, .slice av xs.length capv] 26) := bTr0
        have hvb := own_ge hgr
        clear bTr0
        go_wp2_with fail
        refine wp_region_held_drew (S := fun w' => True) (by kernel_rfl) trivial (fun hHeld => ?_)
        refine tq (i := 0) (d := 23) ?_
        simp only [sz, ss]
        refine tq (i := 2) (d := 25) ?_
        simp only [sz, ss]
        refine tq (i := 3) (d := 26) ?_
        simp only [sz, ss]
        refine tq (i := 4) (d := 27) ?_
        simp only [sz, ss]
        refine wpAnyH_ready (rs := [1, 5]) (by kernel_rfl) (by simp) ?_
        refine (AllReadyH.cons rfl (fun K hK => ?_) (AllReadyH.cons rfl (fun K hK => ?_) AllReadyH.nil))
        · have cT : w2.drew.cell? ⟨w1.heap.size, 1, none⟩ = some (.slice av xs.length capv) := bTr.out.cell 1 rfl
          go_simp
          clear cT
          refine hK.out _ _ trivial (fun hHeld => ?_)
          clear hK K
          refine wpAnyH_ready (rs := [5]) (by kernel_rfl) (by simp) ?_
          refine AllReadyH.cons rfl (fun K hK => ?_) AllReadyH.nil
          go_simp
          refine (hS.out (by have := hdeep'.out; omega) (by have := hn4'.out; omega) _ g a nn cap (deep + 1) (by exact hrd2.out) (by have := hdeep'.out; omega)).mono ?_
          rintro e w4 ⟨csk, xk, fsk, rfl, hok, hndk, hlok, hr4, hg4⟩
          obtain ⟨kt, b3, l3, c3, rfl⟩ : ∃ (kt : ByteArray) (b3 : Option Addr) (l3 c3 : Nat), csk = [.string kt, .slice b3 l3 c3] := by cases n with | zero => exact hok.elim | succ n => (obtain ⟨s, k, e, _, _, h3⟩ := hok; obtain ⟨y1, y2, y3⟩ := h3.form; exact ⟨s, y1, _, y2, by rw [e, y3]⟩)
          have hok' : Hid (TreeOwn n w4 _ xk fsk) := hok
          have hndk' : Hid (fsk.Nodup) := hndk
          have hlok' : Hid (∀ b ∈ fsk, w2.heap.size ≤ b) := fun b hb => Nat.le_of_succ_le (hlok b hb)
          clear hok hndk hlok
          have hg4' : Hid (w2.grownBy w4 (some g)) := ⟨hg4.os, hg4.tape, hg4.output, hg4.size, hg4.block⟩
          have hr4' : Hid (RdAt w4 g a nn cap) := hr4
          have bT4 : Hid (Box w4 (w1.heap.size) [.string tag, .slice av xs.length capv] 26) := box_other bTr.out (by omega) hg4'.out
          have hz4 := hg4'.out.size
          clear hg4 hr4
          refine hK.out _ _ trivial (fun hHeld => ?_)
          clear hK K
          refine wpAnyH_ready (rs := [6]) (by kernel_rfl) (by simp) ?_
          refine AllReadyH.cons rfl (fun K hK => ?_) AllReadyH.nil
          go_simp
          refine hK.out _ _ trivial (fun hHeld => ?_)
          clear hK K
          refine wpAnyH_ready (rs := [7]) (by kernel_rfl) (by simp) ?_
          refine AllReadyH.cons rfl (fun K hK => ?_) AllReadyH.nil
          refine step_append_lies (w4.alloc (.cells #[.string kt, .slice b3 l3 c3] 26)) rfl _ _ 24 rfl _ 26 iT _ 2 40 Try.underlying24 hiT.out heT.out.1 heT.out.2.2 heT.out.2.1 rfl (by decide) (.slice av xs.length capv) xs.length css.flatten rfl ((GrowOwn.stay (TreeOwn_stays n) hgr (w' := (w4.alloc (.cells #[.string kt, .slice b3 l3 c3] 26))) (by simp; omega) (fun b q1 q2 => by rw [Below.heap_alloc _ _ _ (by omega), hg4'.out.block b q2 (fun e => by injection e with e; omega)])).row) ⟨w4.heap.size, 0, none⟩ 1 1 [.string kt, .slice b3 l3 c3] rfl rfl (by intro i u hu; match i, hu with | 0, hu => (simp at hu; subst hu; simp [Addr.add]) | 1, hu => (simp at hu; subst hu; simp [Addr.add]) | i + 2, hu => simp at hu) (by intro u hu; simp at hu; rcases hu with rfl | rfl <;> rfl) (by omega) (by have := hxl.out; unfold maxLen; omega) (by have := hxl.out; omega) (by simp; omega) _ rfl ?_
          intro g3 capg w5 hown5 hgrow5 hat5 hlt5
          have bT5 : Hid (Box w5 (w1.heap.size) [.string tag, .slice av xs.length capv] 26) := (hgrow5.block (w1.heap.size) (by simp; omega) (by intro e; have := hvb _ e.symm; omega)).trans (bT4.out.alloc _)
          go_simp
          refine hK.out _ _ trivial (fun hHeld => ?_)
          clear hK K
          refine tq (i := 8) (d := 31) ?_
          simp only [sz, ss]
          refine wpAnyH_ready (rs := [9]) (by kernel_rfl) (by simp) ?_
          refine AllReadyH.cons rfl (fun K hK => ?_) AllReadyH.nil
          have cT5 := bT5.out.cell 1 rfl
          have fT5 := bT5.out.unfrozen 1
          go_simp
          refine hK.out _ _ trivial (fun hHeld => ?_)
          clear hK K
          refine wpAnyH_done (by kernel_rfl) ?_ _
          have hst4 : Hid (KtSt n w g a nn cap w1.heap.size base tag _ _ _) := KtSt.step hst2.out hgr hg4'.out hr4'.out hok'.out hndk'.out hlok'.out rfl rfl hown5 hgrow5 hat5
          go_wp2_with fail
          go_roundw
          case rel => exact ⟨i - 1, _, xs ++ [_], by omega, by omega, by go_num, by show _ ≤ _; have := hxl.out; simp; omega, hst4⟩
          case measure => simp [intOf]; omega
        · go_simp
          refine (hS.out (by have := hdeep'.out; omega) (by have := hn4'.out; omega) _ g a nn cap (deep + 1) (by exact hrd2.out) (by have := hdeep'.out; omega)).mono ?_
          rintro e w4 ⟨csk, xk, fsk, rfl, hok, hndk, hlok, hr4, hg4⟩
          obtain ⟨kt, b3, l3, c3, rfl⟩ : ∃ (kt : ByteArray) (b3 : Option Addr) (l3 c3 : Nat), csk = [.string kt, .slice b3 l3 c3] := by cases n with | zero => exact hok.elim | succ n => (obtain ⟨s, k, e, _, _, h3⟩ := hok; obtain ⟨y1, y2, y3⟩ := h3.form; exact ⟨s, y1, _, y2, by rw [e, y3]⟩)
          have hok' : Hid (TreeOwn n w4 _ xk fsk) := hok
          have hndk' : Hid (fsk.Nodup) := hndk
          have hlok' : Hid (∀ b ∈ fsk, w2.heap.size ≤ b) := fun b hb => Nat.le_of_succ_le (hlok b hb)
          clear hok hndk hlok
          have hg4' : Hid (w2.grownBy w4 (some g)) := ⟨hg4.os, hg4.tape, hg4.output, hg4.size, hg4.block⟩
          have hr4' : Hid (RdAt w4 g a nn cap) := hr4
          have bT4 : Hid (Box w4 (w1.heap.size) [.string tag, .slice av xs.length capv] 26) := box_other bTr.out (by omega) hg4'.out
          have hz4 := hg4'.out.size
          clear hg4 hr4
          refine hK.out _ _ trivial (fun hHeld => ?_)
          clear hK K
          refine wpAnyH_ready (rs := [1, 6]) (by kernel_rfl) (by simp) ?_
          refine (AllReadyH.cons rfl (fun K hK => ?_) (AllReadyH.cons rfl (fun K hK => ?_) AllReadyH.nil))
          · have cT : w4.cell? ⟨w1.heap.size, 1, none⟩ = some (.slice av xs.length capv) := bT4.out.cell 1 rfl
            go_simp
            clear cT
            refine hK.out _ _ trivial (fun hHeld => ?_)
            clear hK K
            refine wpAnyH_ready (rs := [6]) (by kernel_rfl) (by simp) ?_
            refine AllReadyH.cons rfl (fun K hK => ?_) AllReadyH.nil
            go_simp
            refine hK.out _ _ trivial (fun hHeld => ?_)
            clear hK K
            refine wpAnyH_ready (rs := [7]) (by kernel_rfl) (by simp) ?_
            refine AllReadyH.cons rfl (fun K hK => ?_) AllReadyH.nil
            refine step_append_lies (w4.alloc (.cells #[.string kt, .slice b3 l3 c3] 26)) rfl _ _ 24 rfl _ 26 iT _ 2 40 Try.underlying24 hiT.out heT.out.1 heT.out.2.2 heT.out.2.1 rfl (by decide) (.slice av xs.length capv) xs.length css.flatten rfl ((GrowOwn.stay (TreeOwn_stays n) hgr (w' := (w4.alloc (.cells #[.string kt, .slice b3 l3 c3] 26))) (by simp; omega) (fun b q1 q2 => by rw [Below.heap_alloc _ _ _ (by omega), hg4'.out.block b q2 (fun e => by injection e with e; omega)])).row) ⟨w4.heap.size, 0, none⟩ 1 1 [.string kt, .slice b3 l3 c3] rfl rfl (by intro i u hu; match i, hu with | 0, hu => (simp at hu; subst hu; simp [Addr.add]) | 1, hu => (simp at hu; subst hu; simp [Addr.add]) | i + 2, hu => simp at hu) (by intro u hu; simp at hu; rcases hu with rfl | rfl <;> rfl) (by omega) (by have := hxl.out; unfold maxLen; omega) (by have := hxl.out; omega) (by simp; omega) _ rfl ?_
            intro g3 capg w5 hown5 hgrow5 hat5 hlt5
            have bT5 : Hid (Box w5 (w1.heap.size) [.string tag, .slice av xs.length capv] 26) := (hgrow5.block (w1.heap.size) (by simp; omega) (by intro e; have := hvb _ e.symm; omega)).trans (bT4.out.alloc _)
            go_simp
            refine hK.out _ _ trivial (fun hHeld => ?_)
            clear hK K
            refine tq (i := 8) (d := 31) ?_
            simp only [sz, ss]
            refine wpAnyH_ready (rs := [9]) (by kernel_rfl) (by simp) ?_
            refine AllReadyH.cons rfl (fun K hK => ?_) AllReadyH.nil
            have cT5 := bT5.out.cell 1 rfl
            have fT5 := bT5.out.unfrozen 1
            go_simp
            refine hK.out _ _ trivial (fun hHeld => ?_)
            clear hK K
            refine wpAnyH_done (by kernel_rfl) ?_ _
            have hst4 : Hid (KtSt n w g a nn cap w1.heap.size base tag _ _ _) := KtSt.step hst2.out hgr hg4'.out hr4'.out hok'.out hndk'.out hlok'.out rfl rfl hown5 hgrow5 hat5
            go_wp2_with fail
            go_roundw
            case rel => exact ⟨i - 1, _, xs ++ [_], by omega, by omega, by go_num, by show _ ≤ _; have := hxl.out; simp; omega, hst4⟩
            case measure => simp [intOf]; omega
          · go_simp
            refine hK.out _ _ trivial (fun hHeld => ?_)
            clear hK K
            refine wpAnyH_ready (rs := [1]) (by kernel_rfl) (by simp) ?_
            refine AllReadyH.cons rfl (fun K hK => ?_) AllReadyH.nil
            have cT : (w4.alloc (.cells #[.string kt, .slice b3 l3 c3] 26)).cell? ⟨w1.heap.size, 1, none⟩ = some (.slice av xs.length capv) := (bT4.out.alloc _).cell 1 rfl
            go_simp
            clear cT
            refine hK.out _ _ trivial (fun hHeld => ?_)
            clear hK K
            refine wpAnyH_ready (rs := [7]) (by kernel_rfl) (by simp) ?_
            refine AllReadyH.cons rfl (fun K hK => ?_) AllReadyH.nil
            refine step_append_lies (w4.alloc (.cells #[.string kt, .slice b3 l3 c3] 26)) rfl _ _ 24 rfl _ 26 iT _ 2 40 Try.underlying24 hiT.out heT.out.1 heT.out.2.2 heT.out.2.1 rfl (by decide) (.slice av xs.length capv) xs.length css.flatten rfl ((GrowOwn.stay (TreeOwn_stays n) hgr (w' := (w4.alloc (.cells #[.string kt, .slice b3 l3 c3] 26))) (by simp; omega) (fun b q1 q2 => by rw [Below.heap_alloc _ _ _ (by omega), hg4'.out.block b q2 (fun e => by injection e with e; omega)])).row) ⟨w4.heap.size, 0, none⟩ 1 1 [.string kt, .slice b3 l3 c3] rfl rfl (by intro i u hu; match i, hu with | 0, hu => (simp at hu; subst hu; simp [Addr.add]) | 1, hu => (simp at hu; subst hu; simp [Addr.add]) | i + 2, hu => simp at hu) (by intro u hu; simp at hu; rcases hu with rfl | rfl <;> rfl) (by omega) (by have := hxl.out; unfold maxLen; omega) (by have := hxl.out; omega) (by simp; omega) _ rfl ?_
            intro g3 capg w5 hown5 hgrow5 hat5 hlt5
            have bT5 : Hid (Box w5 (w1.heap.size) [.string tag, .slice av xs.length capv] 26) := (hgrow5.block (w1.heap.size) (by simp; omega) (by intro e; have := hvb _ e.symm; omega)).trans (bT4.out.alloc _)
            go_simp
            refine hK.out _ _ trivial (fun hHeld => ?_)
            clear hK K
            refine tq (i := 8) (d := 31) ?_
            simp only [sz, ss]
            refine wpAnyH_ready (rs := [9]) (by kernel_rfl) (by simp) ?_
            refine AllReadyH.cons rfl (fun K hK => ?_) AllReadyH.nil
            have cT5 := bT5.out.cell 1 rfl
            have fT5 := bT5.out.unfrozen 1
            go_simp
            refine hK.out _ _ trivial (fun hHeld => ?_)
            clear hK K
            refine wpAnyH_done (by kernel_rfl) ?_ _
            have hst4 : Hid (KtSt n w g a nn cap w1.heap.size base tag _ _ _) := KtSt.step hst2.out hgr hg4'.out hr4'.out hok'.out hndk'.out hlok'.out rfl rfl hown5 hgrow5 hat5
            go_wp2_with fail
            go_roundw
            case rel => exact ⟨i - 1, _, xs ++ [_], by omega, by omega, by go_num, by show _ ≤ _; have := hxl.out; simp; omega, hst4⟩
            case measure => simp [intOf]; omega
      · obtain ⟨⟨bss, css, hgr⟩, bT8, br8, _, _, hbs, hgw, hwT, hTb⟩ := id hst.out
        obtain ⟨av, capv, rfl⟩ := hgr.form
        have r0 := br8.cell 0 rfl
        have r1 := br8.cell 1 rfl
        have fR := br8.unfrozen
        have c0 := bT8.cell 0 rfl
        have c1 := bT8.cell 1 rfl
        have hne : ¬ w1.heap.size = w.heap.size := by omega
        have htm : Hid (tag.size ≤ maxLen) := by show _ ≤ _; have := hsz.out; unfold maxLen; omega
        clear bT8 br8 hgr
        go_wp2_with fail
        obtain ⟨x, fs, q1, q2, q3, q4, q5⟩ := KtSt.done (w' := putCells wr w.heap.size 0 [.string tag, .slice av xs.length capv]) hst.out htm.out (fun b h2 => putCells_other _ _ _ _ _ h2) (by rw [putCells_size]; exact Nat.le_refl _) ⟨rfl, rfl, rfl⟩
        exact bodyPost_ret (v := .agg (List.toArray [.string tag, .slice av xs.length capv])) (by simp [results, Try.results28, go_sem, r0, r1]) rfl ⟨_, rfl, x, fs, q1, q2, q3, q4, q5⟩
    · obtain ⟨⟨bss, css, hgr⟩, bT8, br8, _, _, hbs, hgw, hwT, hTb⟩ := id hst.out
      obtain ⟨av, capv, rfl⟩ := hgr.form
      have r0 := br8.cell 0 rfl
      have r1 := br8.cell 1 rfl
      have fR := br8.unfrozen
      have c0 := bT8.cell 0 rfl
      have c1 := bT8.cell 1 rfl
      have hne : ¬ w1.heap.size = w.heap.size := by omega
      have htm : Hid (tag.size ≤ maxLen) := by show _ ≤ _; have := hsz.out; unfold maxLen; omega
      clear bT8 br8 hgr
      go_wp2_with fail
      obtain ⟨x, fs, q1, q2, q3, q4, q5⟩ := KtSt.done (w' := putCells wr w.heap.size 0 [.string tag, .slice av xs.length capv]) hst.out htm.out (fun b h2 => putCells_other _ _ _ _ _ h2) (by rw [putCells_size]; exact Nat.le_refl _) ⟨rfl, rfl, rfl⟩
      exact bodyPost_ret (v := .agg (List.toArray [.string tag, .slice av xs.length capv])) (by simp [results, Try.results28, go_sem, r0, r1]) rfl ⟨_, rfl, x, fs, q1, q2, q3, q4, q5⟩
theorem drT_all : ∀ n, DrT n := by
  intro n
  induction n with
  | zero => intro h; omega
  | succ n ih => exact drT_of n ih
end Go.Proofs.Ytpmmekfgcapdgaa
