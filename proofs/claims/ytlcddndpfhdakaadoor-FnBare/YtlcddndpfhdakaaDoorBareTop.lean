/- bareTree: walked. -/
import Derived.Test.YtlcddndpfhdakaaDoorBareSt
import Derived.Test.YtlcddndpfhdakaaDoorMarkWithin
import Derived.Test.YtlcddndpfhdakaaDoorTakeLit
import Derived.Test.YtlcddndpfhdakaaDoorMarkSpec
namespace Go.Proofs.YtlcddndpfhdakaaDoor
open Go.RowKit Go.Deep
theorem infoBrI : ((Tryd.prog.info? 36).map fun i => (i.zero, i.bytes, i.size)) = some (some (.agg #[.string ByteArray.empty, .slice none 0 0]), 40, 2) := by kernel_rfl
def BrI (n : Nat) : Prop := ∀ (w : World) (lo : Nat) (cs : List Value) (x : MarkD), MarkAt n w lo cs x → kidsB n x →
  Calls Tryd.prog 38 #[.agg cs.toArray] w fun e w' => ∃ (cs' : List Value) (fs : List Nat), e = .returned (.agg cs'.toArray) ∧ TreeO n w' cs' (bareD n x) fs ∧ fs.Nodup ∧ (∀ b ∈ fs, w.heap.size ≤ b) ∧ Below w.heap.size w w'
set_option maxRecDepth 100000 in
set_option maxHeartbeats 4000000 in
theorem brI_of (n : Nat) (hS : Hid (BrI n)) : BrI (n + 1) := by
  intro w lo cs x hx hkb
  obtain ⟨k2, k3, rfl, s2, s3, rTag, rText, _⟩ := hx
  obtain ⟨a2, cap2, rfl⟩ := s2.form
  obtain ⟨a3, cap3, rfl, hm, hk⟩ := s3
  have hk' : Hid _ := hk
  have rTag' : Hid (x.vTag.size ≤ maxLen) := rTag
  have hkb' : Hid (∀ k ∈ x.vKids, kidsB n k) := hkb.2
  have hml := hkb.1
  unfold maxLen at hm
  clear hk s2 rTag rText hkb
  obtain ⟨iT, hiT0, heT0⟩ := Option.map_eq_some_iff.1 infoBrI
  simp only [Prod.mk.injEq] at heT0
  have hiT : Hid (Tryd.prog.info? 36 = some iT) := hiT0
  have heT : Hid (iT.zero = some (.agg #[.string ByteArray.empty, .slice none 0 0]) ∧ iT.bytes = 40 ∧ iT.size = 2) := heT0
  clear hiT0 heT0
  have hb0 : Below w.heap.size w (((w.alloc (.cells #[.string x.vTag, .string x.vText, .slice a2 x.vAttrs.length cap2, .slice a3 x.vKids.length cap3] 27)).alloc (.cells #[.string ⟨#[]⟩, .slice none 0 0] 36)).alloc (.cells #[.string x.vTag, .slice none 0 0] 36)) := (((Below.refl _ _).alloc (Nat.le_refl _) _).alloc (by simp) _).alloc (by simp; omega) _
  have bx0 : Hid (Box (((w.alloc (.cells #[.string x.vTag, .string x.vText, .slice a2 x.vAttrs.length cap2, .slice a3 x.vKids.length cap3] 27)).alloc (.cells #[.string ⟨#[]⟩, .slice none 0 0] 36)).alloc (.cells #[.string x.vTag, .slice none 0 0] 36)) w.heap.size [.string x.vTag, .string x.vText, .slice a2 x.vAttrs.length cap2, .slice a3 x.vKids.length cap3] 27) := ((Box.new w _ _).alloc _).alloc _
  have hk0 : Hid (KbSt n w [.string x.vTag, .string x.vText, .slice a2 x.vAttrs.length cap2, .slice a3 x.vKids.length cap3] x.vTag (.slice none 0 0) (bareK n x.vKids 0) (((w.alloc (.cells #[.string x.vTag, .string x.vText, .slice a2 x.vAttrs.length cap2, .slice a3 x.vKids.length cap3] 27)).alloc (.cells #[.string ⟨#[]⟩, .slice none 0 0] 36)).alloc (.cells #[.string x.vTag, .slice none 0 0] 36))) := ⟨⟨[], [], GrowOwn.nil⟩, by have := Box.new ((w.alloc (.cells #[.string x.vTag, .string x.vText, .slice a2 x.vAttrs.length cap2, .slice a3 x.vKids.length cap3] 27)).alloc (.cells #[.string ⟨#[]⟩, .slice none 0 0] 36)) [.string x.vTag, .slice none 0 0] 36; simpa using this, by have := (Box.new (w.alloc (.cells #[.string x.vTag, .string x.vText, .slice a2 x.vAttrs.length cap2, .slice a3 x.vKids.length cap3] 27)) resB 36).alloc (.cells #[.string x.vTag, .slice none 0 0] 36); simpa using this, bx0.out, hb0, by simp⟩
  have c3 := bx0.out.cell 3 rfl
  clear hb0
  go_enter Tryd.func38, Tryd.ntmps38
  go_wp2_with fail
  go_loopw [12] (fun i wr => ∃ (j : Nat) (vk : Value), j ≤ x.vKids.length ∧ i = .int .i64 j ∧ Hid (KbSt n w [.string x.vTag, .string x.vText, .slice a2 x.vAttrs.length cap2, .slice a3 x.vKids.length cap3] x.vTag vk (bareK n x.vKids j) wr)) (fun i _ => x.vKids.length - (intOf i).toNat)
  case atStart => exact ⟨0, _, by omega, rfl, hk0⟩
  case round =>
    obtain ⟨j, vk, hj, rfl, hst⟩ := hrel
    clear c3
    have c3 := hst.out.2.2.2.1.cell 3 rfl
    by_cases hlt : j < x.vKids.length
    · obtain ⟨b, off, rfl, hlo, hbb, hc⟩ := hk'.out (by omega)
      obtain ⟨cs, hcl, lie, hr⟩ := hc j hlt
      have hbw : Below w.heap.size w wr := hst.out.2.2.2.2.1
      have lie1 := Lie.keep (lo := lo) (lo' := lo) lie (.of_below hbw) hlo hbb
      have hr2 := MarkAt.below hr hbw
      have hxl : Hid ((bareK n x.vKids j).length ≤ j) := bareK_len n x.vKids j
      have hnt := bareK_text (n := n) hlt
      have hng := bareK_tag (n := n) hlt
      have hkX := hkb'.out x.vKids[j] (List.getElem_mem hlt)
      generalize x.vKids[j] = X at hr2 hnt hng hkX
      have hkX' : Hid (kidsB n X) := hkX
      clear hkX
      have hnt' : Hid (isT X = true → bareK n x.vKids (j + 1) = bareK n x.vKids j) := hnt
      have hng' : Hid (isT X = false → bareK n x.vKids (j + 1) = bareK n x.vKids j ++ [bareD n X]) := hng
      have hX : Hid (MarkAt n wr lo cs X) := hr2
      obtain ⟨p2, p3, rfl, t2, t3, qTag, qText, _⟩ := MarkAt.opened hr2
      obtain ⟨b2, d2, rfl⟩ := t2.form
      obtain ⟨b3, d3, rfl⟩ := t3.form
      have z0 := lie1 0 (by simp)
      have z1 := lie1 1 (by simp)
      have z2 := lie1 2 (by simp)
      have z3 := lie1 3 (by simp)
      simp only [List.getElem?_cons_zero, List.getElem?_cons_succ, Nat.add_zero] at z0 z1 z2 z3
      clear lie1 hcl t2 t3 qTag qText hk' hc hr2 hr lie hnt hng hbw
      have bK : Hid (Box (wr.alloc (.cells #[.string X.vTag, .string X.vText, .slice b2 X.vAttrs.length d2, .slice b3 X.vKids.length d3] 27)) wr.heap.size [.string X.vTag, .string X.vText, .slice b2 X.vAttrs.length d2, .slice b3 X.vKids.length d3] 27) := Box.new wr _ _
      have hbA : Below wr.heap.size wr (wr.alloc (.cells #[.string X.vTag, .string X.vText, .slice b2 X.vAttrs.length d2, .slice b3 X.vKids.length d3] 27)) := (Below.refl _ _).alloc (Nat.le_refl _) _
      have hst2 : Hid (KbSt n w [.string x.vTag, .string x.vText, .slice a2 x.vAttrs.length cap2, .slice (some ⟨b, off, none⟩) x.vKids.length cap3] x.vTag vk (bareK n x.vKids j) (wr.alloc (.cells #[.string X.vTag, .string X.vText, .slice b2 X.vAttrs.length d2, .slice b3 X.vKids.length d3] 27))) := hst.out.below hbA
      have hX1 : Hid (MarkAt n (wr.alloc (.cells #[.string X.vTag, .string X.vText, .slice b2 X.vAttrs.length d2, .slice b3 X.vKids.length d3] 27)) lo [.string X.vTag, .string X.vText, .slice b2 X.vAttrs.length d2, .slice b3 X.vKids.length d3] X) := MarkAt.below hX.out hbA
      have hvt0 : Hid (∀ k, vk.ownBlock = some k → k < wr.heap.size) := by obtain ⟨_, _, g9⟩ := hst.out.1; exact row_lt g9.row
      have hw3' : w.heap.size + 3 ≤ wr.heap.size := hst.out.2.2.2.2.2
      clear hbA hX
      go_wp2_with fail
      generalize wr.alloc (.cells #[.string X.vTag, .string X.vText, .slice b2 X.vAttrs.length d2, .slice b3 X.vKids.length d3] 27) = w2 at *
      generalize hKB : wr.heap.size = KB at *
      have kc0 := bK.out.cell 0 rfl
      have kc1 := bK.out.cell 1 rfl
      have kc2 := bK.out.cell 2 rfl
      have kc3 := bK.out.cell 3 rfl
      clear z0 z1 z2 z3 hst bx0 hk0
      refine (isText_any _ _ _ _ _).mono ?_
      rintro e w9 ⟨rfl, hb9⟩
      replace hst2 : Hid (KbSt n w _ x.vTag vk (bareK n x.vKids j) w9) := hst2.out.below hb9
      replace hX1 : Hid (MarkAt n w9 lo _ X) := MarkAt.below hX1.out hb9
      replace bK : Hid (Box w9 KB _ 27) := bK.out.below hb9 bK.out.lt
      clear kc0 kc1 kc2 kc3 hb9
      generalize w9 = w2 at *
      have kc0 := bK.out.cell 0 rfl
      have kc1 := bK.out.cell 1 rfl
      have kc2 := bK.out.cell 2 rfl
      have kc3 := bK.out.cell 3 rfl
      cases hT : isT X
      · have hnext : Hid (bareK n x.vKids (j + 1) = bareK n x.vKids j ++ [bareD n X]) := hng'.out hT
        have hdec : decide (X.vTag.size = 0) = false := hT
        clear hT hnt' hng'
        generalize bareK n x.vKids j = xs at *
        obtain ⟨⟨bss, css, hgr⟩, bTr0, _, bB0, hbw2, hw3⟩ := id hst2.out
        obtain ⟨av, capv, rfl⟩ := hgr.form
        have bTr : Hid (Box w2 (w.heap.size + 2) _ 36) := bTr0
        have hvb := own_ge hgr
        have hvt := hvt0.out
        have hX2 : Hid (MarkAt n w2.drew lo [.string X.vTag, .string X.vText, .slice b2 X.vAttrs.length d2, .slice b3 X.vKids.length d3] X) := MarkAt.below hX1.out (Below.drew (Below.refl _ _))
        clear bTr0 bB0 hvt0 hX1
        try rw [hdec]
        go_wp2_with fail
        refine wp_region_held_drew (S := fun w' => w'.cell? ⟨KB, 0, none⟩ = some (.string X.vTag) ∧ w'.cell? ⟨KB, 1, none⟩ = some (.string X.vText) ∧ w'.cell? ⟨KB, 2, none⟩ = some (.slice b2 X.vAttrs.length d2) ∧ w'.cell? ⟨KB, 3, none⟩ = some (.slice b3 X.vKids.length d3)) (by kernel_rfl) ⟨kc0, kc1, kc2, kc3⟩ (fun hHeld => ?_)
        refine tq (i := 0) (d := 19) ?_
        simp only [sz, ss]
        refine tq (i := 2) (d := 21) ?_
        simp only [sz, ss]
        refine wpAnyH_ready (rs := [1, 3]) (by kernel_rfl) (by simp) ?_
        refine (AllReadyH.cons rfl (fun K hK => ?_) (AllReadyH.cons rfl (fun K hK => ?_) AllReadyH.nil))
        · have cT : w2.drew.cell? ⟨w.heap.size + 2, 1, none⟩ = some (.slice av xs.length capv) := bTr.out.cell 1 rfl
          go_simp
          clear cT
          refine hK.out _ _ hHeld (fun hHeld => ?_)
          clear hK K
          refine wpAnyH_ready (rs := [3]) (by kernel_rfl) (by simp) ?_
          refine AllReadyH.cons rfl (fun K hK => ?_) AllReadyH.nil
          go_simp
          refine (hS.out _ lo _ X (by exact hX2.out) hkX'.out).mono ?_
          rintro e w4 ⟨csk, fsk, rfl, hok, hndk, hlok, hb4⟩
          obtain ⟨kt, kb, kl, kc, rfl⟩ : ∃ (kt : ByteArray) (kb : Option Addr) (kl kc : Nat), csk = [.string kt, .slice kb kl kc] := by obtain ⟨k, e, h3, _⟩ := hok.opened; obtain ⟨y1, y2, y3⟩ := h3.form; exact ⟨_, y1, _, y2, by rw [e, y3]⟩
          have hok' : Hid (TreeO n w4 _ (bareD n X) fsk) := hok
          have hndk' : Hid (fsk.Nodup) := hndk
          have hlok' : Hid (∀ b ∈ fsk, w2.heap.size ≤ b) := hlok
          clear hok hndk hlok
          have hb4' : Hid (Below w2.heap.size w2 w4) := (Below.drew (Below.refl w2.heap.size w2)).trans hb4
          have bT4 : Hid (Box w4 (w.heap.size + 2) [.string x.vTag, .slice av xs.length capv] 36) := bTr.out.below hb4'.out bTr.out.lt
          have hz4 := hb4'.out.size
          refine hK.out _ _ ⟨cell_on hb4 hHeld.1, cell_on hb4 hHeld.2.1, cell_on hb4 hHeld.2.2.1, cell_on hb4 hHeld.2.2.2⟩ (fun hHeld => ?_)
          clear hK K
          refine wpAnyH_ready (rs := [4]) (by kernel_rfl) (by simp) ?_
          refine AllReadyH.cons rfl (fun K hK => ?_) AllReadyH.nil
          go_simp
          refine hK.out _ _ ⟨cell_alloc hHeld.1 _, cell_alloc hHeld.2.1 _, cell_alloc hHeld.2.2.1 _, cell_alloc hHeld.2.2.2 _⟩ (fun hHeld => ?_)
          clear hK K
          refine wpAnyH_ready (rs := [5]) (by kernel_rfl) (by simp) ?_
          refine AllReadyH.cons rfl (fun K hK => ?_) AllReadyH.nil
          refine step_append_lies (w4.alloc (.cells #[.string kt, .slice kb kl kc] 36)) rfl _ _ 34 rfl _ 36 iT _ 2 40 Tryd.underlying34 hiT.out heT.out.1 heT.out.2.2 heT.out.2.1 rfl (by decide) (.slice av xs.length capv) xs.length css.flatten rfl ((GrowOwn.stay (TreeO_stays n) hgr (w' := (w4.alloc (.cells #[.string kt, .slice kb kl kc] 36))) (by simp; omega) (fun b q1 q2 => by rw [Below.heap_alloc _ _ _ (by omega), hb4'.out.block b q2])).row) ⟨w4.heap.size, 0, none⟩ 1 1 [.string kt, .slice kb kl kc] rfl rfl (by intro i u hu; match i, hu with | 0, hu => (simp at hu; subst hu; simp [Addr.add]) | 1, hu => (simp at hu; subst hu; simp [Addr.add]) | i + 2, hu => simp at hu) (by intro u hu; simp at hu; rcases hu with rfl | rfl <;> rfl) (by omega) (by have := hxl.out; unfold maxLen; omega) (by have := hxl.out; omega) (by simp; omega) _ rfl ?_
          intro g3 capg w5 hown5 hgrow5 hat5 hlt5
          have bT5 : Hid (Box w5 (w.heap.size + 2) [.string x.vTag, .slice av xs.length capv] 36) := (hgrow5.block (w.heap.size + 2) (by simp; omega) (by intro e; have := hvb _ e.symm; omega)).trans (bT4.out.alloc _)
          go_simp
          refine hK.out _ _ ⟨cell_grown hHeld.1 hgrow5 (by intro e; have := hvb _ e; have := hvt _ e; omega), cell_grown hHeld.2.1 hgrow5 (by intro e; have := hvb _ e; have := hvt _ e; omega), cell_grown hHeld.2.2.1 hgrow5 (by intro e; have := hvb _ e; have := hvt _ e; omega), cell_grown hHeld.2.2.2 hgrow5 (by intro e; have := hvb _ e; have := hvt _ e; omega)⟩ (fun hHeld => ?_)
          clear hK K
          refine tq (i := 6) (d := 25) ?_
          simp only [sz, ss]
          refine wpAnyH_ready (rs := [7]) (by kernel_rfl) (by simp) ?_
          refine AllReadyH.cons rfl (fun K hK => ?_) AllReadyH.nil
          have cT5 := bT5.out.cell 1 rfl
          have fT5 := bT5.out.unfrozen 1
          go_simp
          refine hK.out _ _ ⟨cell_set hHeld.1 (by omega) _, cell_set hHeld.2.1 (by omega) _, cell_set hHeld.2.2.1 (by omega) _, cell_set hHeld.2.2.2 (by omega) _⟩ (fun hHeld => ?_)
          clear hK K
          refine wpAnyH_done (by kernel_rfl) ?_ _
          have hst4 : Hid (KbSt n w _ x.vTag _ (xs ++ [bareD n X]) _) := KbSt.step hst2.out hgr hb4'.out hok'.out hndk'.out hlok'.out rfl rfl hown5 hgrow5 hat5
          clear hb4 hHeld
          go_wp2_with fail
          go_roundw
          case rel => exact ⟨j + 1, _, by omega, by go_num, by show KbSt _ _ _ _ _ _ _; rw [hnext.out]; exact hst4.out⟩
          case measure => simp [intOf]; omega
        · go_simp
          refine (hS.out _ lo _ X (by exact hX2.out) hkX'.out).mono ?_
          rintro e w4 ⟨csk, fsk, rfl, hok, hndk, hlok, hb4⟩
          obtain ⟨kt, kb, kl, kc, rfl⟩ : ∃ (kt : ByteArray) (kb : Option Addr) (kl kc : Nat), csk = [.string kt, .slice kb kl kc] := by obtain ⟨k, e, h3, _⟩ := hok.opened; obtain ⟨y1, y2, y3⟩ := h3.form; exact ⟨_, y1, _, y2, by rw [e, y3]⟩
          have hok' : Hid (TreeO n w4 _ (bareD n X) fsk) := hok
          have hndk' : Hid (fsk.Nodup) := hndk
          have hlok' : Hid (∀ b ∈ fsk, w2.heap.size ≤ b) := hlok
          clear hok hndk hlok
          have hb4' : Hid (Below w2.heap.size w2 w4) := (Below.drew (Below.refl w2.heap.size w2)).trans hb4
          have bT4 : Hid (Box w4 (w.heap.size + 2) [.string x.vTag, .slice av xs.length capv] 36) := bTr.out.below hb4'.out bTr.out.lt
          have hz4 := hb4'.out.size
          refine hK.out _ _ ⟨cell_on hb4 hHeld.1, cell_on hb4 hHeld.2.1, cell_on hb4 hHeld.2.2.1, cell_on hb4 hHeld.2.2.2⟩ (fun hHeld => ?_)
          clear hK K
          refine wpAnyH_ready (rs := [1, 4]) (by kernel_rfl) (by simp) ?_
          refine (AllReadyH.cons rfl (fun K hK => ?_) (AllReadyH.cons rfl (fun K hK => ?_) AllReadyH.nil))
          · have cT : w4.cell? ⟨w.heap.size + 2, 1, none⟩ = some (.slice av xs.length capv) := bT4.out.cell 1 rfl
            go_simp
            clear cT
            refine hK.out _ _ hHeld (fun hHeld => ?_)
            clear hK K
            refine wpAnyH_ready (rs := [4]) (by kernel_rfl) (by simp) ?_
            refine AllReadyH.cons rfl (fun K hK => ?_) AllReadyH.nil
            go_simp
            refine hK.out _ _ ⟨cell_alloc hHeld.1 _, cell_alloc hHeld.2.1 _, cell_alloc hHeld.2.2.1 _, cell_alloc hHeld.2.2.2 _⟩ (fun hHeld => ?_)
            clear hK K
            refine wpAnyH_ready (rs := [5]) (by kernel_rfl) (by simp) ?_
            refine AllReadyH.cons rfl (fun K hK => ?_) AllReadyH.nil
            refine step_append_lies (w4.alloc (.cells #[.string kt, .slice kb kl kc] 36)) rfl _ _ 34 rfl _ 36 iT _ 2 40 Tryd.underlying34 hiT.out heT.out.1 heT.out.2.2 heT.out.2.1 rfl (by decide) (.slice av xs.length capv) xs.length css.flatten rfl ((GrowOwn.stay (TreeO_stays n) hgr (w' := (w4.alloc (.cells #[.string kt, .slice kb kl kc] 36))) (by simp; omega) (fun b q1 q2 => by rw [Below.heap_alloc _ _ _ (by omega), hb4'.out.block b q2])).row) ⟨w4.heap.size, 0, none⟩ 1 1 [.string kt, .slice kb kl kc] rfl rfl (by intro i u hu; match i, hu with | 0, hu => (simp at hu; subst hu; simp [Addr.add]) | 1, hu => (simp at hu; subst hu; simp [Addr.add]) | i + 2, hu => simp at hu) (by intro u hu; simp at hu; rcases hu with rfl | rfl <;> rfl) (by omega) (by have := hxl.out; unfold maxLen; omega) (by have := hxl.out; omega) (by simp; omega) _ rfl ?_
            intro g3 capg w5 hown5 hgrow5 hat5 hlt5
            have bT5 : Hid (Box w5 (w.heap.size + 2) [.string x.vTag, .slice av xs.length capv] 36) := (hgrow5.block (w.heap.size + 2) (by simp; omega) (by intro e; have := hvb _ e.symm; omega)).trans (bT4.out.alloc _)
            go_simp
            refine hK.out _ _ ⟨cell_grown hHeld.1 hgrow5 (by intro e; have := hvb _ e; have := hvt _ e; omega), cell_grown hHeld.2.1 hgrow5 (by intro e; have := hvb _ e; have := hvt _ e; omega), cell_grown hHeld.2.2.1 hgrow5 (by intro e; have := hvb _ e; have := hvt _ e; omega), cell_grown hHeld.2.2.2 hgrow5 (by intro e; have := hvb _ e; have := hvt _ e; omega)⟩ (fun hHeld => ?_)
            clear hK K
            refine tq (i := 6) (d := 25) ?_
            simp only [sz, ss]
            refine wpAnyH_ready (rs := [7]) (by kernel_rfl) (by simp) ?_
            refine AllReadyH.cons rfl (fun K hK => ?_) AllReadyH.nil
            have cT5 := bT5.out.cell 1 rfl
            have fT5 := bT5.out.unfrozen 1
            go_simp
            refine hK.out _ _ ⟨cell_set hHeld.1 (by omega) _, cell_set hHeld.2.1 (by omega) _, cell_set hHeld.2.2.1 (by omega) _, cell_set hHeld.2.2.2 (by omega) _⟩ (fun hHeld => ?_)
            clear hK K
            refine wpAnyH_done (by kernel_rfl) ?_ _
            have hst4 : Hid (KbSt n w _ x.vTag _ (xs ++ [bareD n X]) _) := KbSt.step hst2.out hgr hb4'.out hok'.out hndk'.out hlok'.out rfl rfl hown5 hgrow5 hat5
            clear hb4 hHeld
            go_wp2_with fail
            go_roundw
            case rel => exact ⟨j + 1, _, by omega, by go_num, by show KbSt _ _ _ _ _ _ _; rw [hnext.out]; exact hst4.out⟩
            case measure => simp [intOf]; omega
          · go_simp
            refine hK.out _ _ ⟨cell_alloc hHeld.1 _, cell_alloc hHeld.2.1 _, cell_alloc hHeld.2.2.1 _, cell_alloc hHeld.2.2.2 _⟩ (fun hHeld => ?_)
            clear hK K
            refine wpAnyH_ready (rs := [1]) (by kernel_rfl) (by simp) ?_
            refine AllReadyH.cons rfl (fun K hK => ?_) AllReadyH.nil
            have cT : (w4.alloc (.cells #[.string kt, .slice kb kl kc] 36)).cell? ⟨w.heap.size + 2, 1, none⟩ = some (.slice av xs.length capv) := (bT4.out.alloc _).cell 1 rfl
            go_simp
            clear cT
            refine hK.out _ _ hHeld (fun hHeld => ?_)
            clear hK K
            refine wpAnyH_ready (rs := [5]) (by kernel_rfl) (by simp) ?_
            refine AllReadyH.cons rfl (fun K hK => ?_) AllReadyH.nil
            refine step_append_lies (w4.alloc (.cells #[.string kt, .slice kb kl kc] 36)) rfl _ _ 34 rfl _ 36 iT _ 2 40 Tryd.underlying34 hiT.out heT.out.1 heT.out.2.2 heT.out.2.1 rfl (by decide) (.slice av xs.length capv) xs.length css.flatten rfl ((GrowOwn.stay (TreeO_stays n) hgr (w' := (w4.alloc (.cells #[.string kt, .slice kb kl kc] 36))) (by simp; omega) (fun b q1 q2 => by rw [Below.heap_alloc _ _ _ (by omega), hb4'.out.block b q2])).row) ⟨w4.heap.size, 0, none⟩ 1 1 [.string kt, .slice kb kl kc] rfl rfl (by intro i u hu; match i, hu with | 0, hu => (simp at hu; subst hu; simp [Addr.add]) | 1, hu => (simp at hu; subst hu; simp [Addr.add]) | i + 2, hu => simp at hu) (by intro u hu; simp at hu; rcases hu with rfl | rfl <;> rfl) (by omega) (by have := hxl.out; unfold maxLen; omega) (by have := hxl.out; omega) (by simp; omega) _ rfl ?_
            intro g3 capg w5 hown5 hgrow5 hat5 hlt5
            have bT5 : Hid (Box w5 (w.heap.size + 2) [.string x.vTag, .slice av xs.length capv] 36) := (hgrow5.block (w.heap.size + 2) (by simp; omega) (by intro e; have := hvb _ e.symm; omega)).trans (bT4.out.alloc _)
            go_simp
            refine hK.out _ _ ⟨cell_grown hHeld.1 hgrow5 (by intro e; have := hvb _ e; have := hvt _ e; omega), cell_grown hHeld.2.1 hgrow5 (by intro e; have := hvb _ e; have := hvt _ e; omega), cell_grown hHeld.2.2.1 hgrow5 (by intro e; have := hvb _ e; have := hvt _ e; omega), cell_grown hHeld.2.2.2 hgrow5 (by intro e; have := hvb _ e; have := hvt _ e; omega)⟩ (fun hHeld => ?_)
            clear hK K
            refine tq (i := 6) (d := 25) ?_
            simp only [sz, ss]
            refine wpAnyH_ready (rs := [7]) (by kernel_rfl) (by simp) ?_
            refine AllReadyH.cons rfl (fun K hK => ?_) AllReadyH.nil
            have cT5 := bT5.out.cell 1 rfl
            have fT5 := bT5.out.unfrozen 1
            go_simp
            refine hK.out _ _ ⟨cell_set hHeld.1 (by omega) _, cell_set hHeld.2.1 (by omega) _, cell_set hHeld.2.2.1 (by omega) _, cell_set hHeld.2.2.2 (by omega) _⟩ (fun hHeld => ?_)
            clear hK K
            refine wpAnyH_done (by kernel_rfl) ?_ _
            have hst4 : Hid (KbSt n w _ x.vTag _ (xs ++ [bareD n X]) _) := KbSt.step hst2.out hgr hb4'.out hok'.out hndk'.out hlok'.out rfl rfl hown5 hgrow5 hat5
            clear hb4 hHeld
            go_wp2_with fail
            go_roundw
            case rel => exact ⟨j + 1, _, by omega, by go_num, by show KbSt _ _ _ _ _ _ _; rw [hnext.out]; exact hst4.out⟩
            case measure => simp [intOf]; omega
      · have hnext : Hid (bareK n x.vKids (j + 1) = bareK n x.vKids j) := hnt'.out hT
        have hdec : decide (X.vTag.size = 0) = true := hT
        clear hT hnt' hng' kc0 kc1 kc2 kc3
        try rw [hdec]
        go_wp2_with fail
        go_roundw
        case rel => exact ⟨j + 1, _, by omega, by go_num, by show KbSt _ _ _ _ _ _ _; rw [hnext.out]; exact hst2.out⟩
        case measure => simp [intOf]; omega
    · obtain ⟨_, bT8, br8, _⟩ := id hst.out
      have c0 := bT8.cell 0 rfl
      have c1 := bT8.cell 1 rfl
      have r0 := br8.cell 0 rfl
      have r1 := br8.cell 1 rfl
      have fR := br8.unfrozen
      have hne : ¬ w.heap.size + 2 = w.heap.size + 1 := by omega
      have hall := bareK_all (n := n) hlt
      have hall' : Hid (mkT x.vTag (bareK n x.vKids j) = bareD (n + 1) x) := hall
      clear bT8 br8 hall
      obtain ⟨_, _, hgr8⟩ := hst.out.1
      obtain ⟨av, capv, rfl⟩ := hgr8.form
      clear hgr8
      go_wp2_with fail
      obtain ⟨fs, q1, q2, q3, q5⟩ := KbSt.done hst.out rTag'.out
      rw [hall'.out] at q1
      exact bodyPost_ret (v := .agg (List.toArray [.string x.vTag, .slice av (bareK n x.vKids j).length capv])) (by simp [results, Tryd.results38, go_sem, r0, r1]) rfl ⟨_, fs, rfl, q1, q2, fun b q => Nat.le_of_succ_le (q3 b q), q5⟩
theorem brI_all : ∀ n, BrI n := by
  intro n
  induction n with
  | zero => exact fun _ _ _ _ h _ => h.elim
  | succ n ih => exact brI_of n ih
end Go.Proofs.YtlcddndpfhdakaaDoor
namespace Go.Proofs.YtlcddndpfhdakaaDoor
open Go.RowKit Go.Deep
theorem infoBrS : ((Tryd.prog.info? 36).map fun i => (i.zero, i.bytes, i.size)) = some (some (.agg #[.string ByteArray.empty, .slice none 0 0]), 40, 2) := by kernel_rfl
def BrS (n : Nat) : Prop := ∀ (w : World) (lo : Nat) (cs : List Value) (x : MarkD), MarkAt n w lo cs x → kidsB n x →
  Calls Tryd.prog 39 #[.agg cs.toArray] w fun e w' => ∃ (cs' : List Value) (fs : List Nat), e = .returned (.agg cs'.toArray) ∧ TreeO n w' cs' (bareD n x) fs ∧ fs.Nodup ∧ (∀ b ∈ fs, w.heap.size ≤ b) ∧ Below w.heap.size w w'
set_option maxRecDepth 100000 in
set_option maxHeartbeats 4000000 in
theorem brS_of (n : Nat) (hS : Hid (BrS n)) : BrS (n + 1) := by
  intro w lo cs x hx hkb
  obtain ⟨k2, k3, rfl, s2, s3, rTag, rText, _⟩ := hx
  obtain ⟨a2, cap2, rfl⟩ := s2.form
  obtain ⟨a3, cap3, rfl, hm, hk⟩ := s3
  have hk' : Hid _ := hk
  have rTag' : Hid (x.vTag.size ≤ maxLen) := rTag
  have hkb' : Hid (∀ k ∈ x.vKids, kidsB n k) := hkb.2
  have hml := hkb.1
  unfold maxLen at hm
  clear hk s2 rTag rText hkb
  obtain ⟨iT, hiT0, heT0⟩ := Option.map_eq_some_iff.1 infoBrS
  simp only [Prod.mk.injEq] at heT0
  have hiT : Hid (Tryd.prog.info? 36 = some iT) := hiT0
  have heT : Hid (iT.zero = some (.agg #[.string ByteArray.empty, .slice none 0 0]) ∧ iT.bytes = 40 ∧ iT.size = 2) := heT0
  clear hiT0 heT0
  have hb0 : Below w.heap.size w (((w.alloc (.cells #[.string x.vTag, .string x.vText, .slice a2 x.vAttrs.length cap2, .slice a3 x.vKids.length cap3] 27)).alloc (.cells #[.string ⟨#[]⟩, .slice none 0 0] 36)).alloc (.cells #[.string x.vTag, .slice none 0 0] 36)) := (((Below.refl _ _).alloc (Nat.le_refl _) _).alloc (by simp) _).alloc (by simp; omega) _
  have bx0 : Hid (Box (((w.alloc (.cells #[.string x.vTag, .string x.vText, .slice a2 x.vAttrs.length cap2, .slice a3 x.vKids.length cap3] 27)).alloc (.cells #[.string ⟨#[]⟩, .slice none 0 0] 36)).alloc (.cells #[.string x.vTag, .slice none 0 0] 36)) w.heap.size [.string x.vTag, .string x.vText, .slice a2 x.vAttrs.length cap2, .slice a3 x.vKids.length cap3] 27) := ((Box.new w _ _).alloc _).alloc _
  have hk0 : Hid (KbSt n w [.string x.vTag, .string x.vText, .slice a2 x.vAttrs.length cap2, .slice a3 x.vKids.length cap3] x.vTag (.slice none 0 0) (bareK n x.vKids 0) (((w.alloc (.cells #[.string x.vTag, .string x.vText, .slice a2 x.vAttrs.length cap2, .slice a3 x.vKids.length cap3] 27)).alloc (.cells #[.string ⟨#[]⟩, .slice none 0 0] 36)).alloc (.cells #[.string x.vTag, .slice none 0 0] 36))) := ⟨⟨[], [], GrowOwn.nil⟩, by have := Box.new ((w.alloc (.cells #[.string x.vTag, .string x.vText, .slice a2 x.vAttrs.length cap2, .slice a3 x.vKids.length cap3] 27)).alloc (.cells #[.string ⟨#[]⟩, .slice none 0 0] 36)) [.string x.vTag, .slice none 0 0] 36; simpa using this, by have := (Box.new (w.alloc (.cells #[.string x.vTag, .string x.vText, .slice a2 x.vAttrs.length cap2, .slice a3 x.vKids.length cap3] 27)) resB 36).alloc (.cells #[.string x.vTag, .slice none 0 0] 36); simpa using this, bx0.out, hb0, by simp⟩
  have c3 := bx0.out.cell 3 rfl
  clear hb0
  go_enter Tryd.func39, Tryd.ntmps39
  go_wp2_with fail
  go_loopw [4] (fun i wr => ∃ (j : Nat) (vk : Value), j ≤ x.vKids.length ∧ i = .int .i64 j ∧ Hid (KbSt n w [.string x.vTag, .string x.vText, .slice a2 x.vAttrs.length cap2, .slice a3 x.vKids.length cap3] x.vTag vk (bareK n x.vKids j) wr)) (fun i _ => x.vKids.length - (intOf i).toNat)
  case atStart => exact ⟨0, _, by omega, rfl, hk0⟩
  case round =>
    obtain ⟨j, vk, hj, rfl, hst⟩ := hrel
    clear c3
    have c3 := hst.out.2.2.2.1.cell 3 rfl
    by_cases hlt : j < x.vKids.length
    · obtain ⟨b, off, rfl, hlo, hbb, hc⟩ := hk'.out (by omega)
      obtain ⟨cs, hcl, lie, hr⟩ := hc j hlt
      have hbw : Below w.heap.size w wr := hst.out.2.2.2.2.1
      have lie1 := Lie.keep (lo := lo) (lo' := lo) lie (.of_below hbw) hlo hbb
      have hr2 := MarkAt.below hr hbw
      have hxl : Hid ((bareK n x.vKids j).length ≤ j) := bareK_len n x.vKids j
      have hnt := bareK_text (n := n) hlt
      have hng := bareK_tag (n := n) hlt
      have hkX := hkb'.out x.vKids[j] (List.getElem_mem hlt)
      generalize x.vKids[j] = X at hr2 hnt hng hkX
      have hkX' : Hid (kidsB n X) := hkX
      clear hkX
      have hnt' : Hid (isT X = true → bareK n x.vKids (j + 1) = bareK n x.vKids j) := hnt
      have hng' : Hid (isT X = false → bareK n x.vKids (j + 1) = bareK n x.vKids j ++ [bareD n X]) := hng
      have hX : Hid (MarkAt n wr lo cs X) := hr2
      obtain ⟨p2, p3, rfl, t2, t3, qTag, qText, _⟩ := MarkAt.opened hr2
      obtain ⟨b2, d2, rfl⟩ := t2.form
      obtain ⟨b3, d3, rfl⟩ := t3.form
      have z0 := lie1 0 (by simp)
      have z1 := lie1 1 (by simp)
      have z2 := lie1 2 (by simp)
      have z3 := lie1 3 (by simp)
      simp only [List.getElem?_cons_zero, List.getElem?_cons_succ, Nat.add_zero] at z0 z1 z2 z3
      clear lie1 hcl t2 t3 qTag qText hk' hc hr2 hr lie hnt hng hbw
      have hst2 : Hid (KbSt n w [.string x.vTag, .string x.vText, .slice a2 x.vAttrs.length cap2, .slice (some ⟨b, off, none⟩) x.vKids.length cap3] x.vTag vk (bareK n x.vKids j) wr) := hst
      have bB3 : wr.cell? ⟨w.heap.size, 3, none⟩ = some (.slice (some ⟨b, off, none⟩) x.vKids.length cap3) := hst.out.2.2.2.1.cell 3 rfl
      clear hst bx0 hk0
      generalize wr = w2 at *
      cases hT : isT X
      · have hnext : Hid (bareK n x.vKids (j + 1) = bareK n x.vKids j ++ [bareD n X]) := hng'.out hT
        have hne1 : X.vTag.toList.isEmpty = false := by have e1 := em_list (of_decide_eq_false hT); cases e2 : X.vTag.toList with | nil => exact absurd e2 e1 | cons _ _ => rfl
        clear hT hnt' hng'
        generalize bareK n x.vKids j = xs at *
        obtain ⟨⟨bss, css, hgr⟩, bTr0, _, bB0, hbw2, hw3⟩ := id hst2.out
        obtain ⟨av, capv, rfl⟩ := hgr.form
        have bTr : Hid (Box w2 (w.heap.size + 2) _ 36) := bTr0
        have hvb := own_ge hgr
        have hvt : ∀ k, (Value.slice av xs.length capv).ownBlock = some k → k < w2.heap.size := row_lt hgr.row
        have hX2 : Hid (MarkAt n w2.drew lo [.string X.vTag, .string X.vText, .slice b2 X.vAttrs.length d2, .slice b3 X.vKids.length d3] X) := MarkAt.below hX.out (Below.drew (Below.refl _ _))
        clear bTr0 bB0 hX
        go_wp2_with fail
        refine wp_region_held_drew (S := fun w' => w'.cell? ⟨w.heap.size, 3, none⟩ = some (.slice (some ⟨b, off, none⟩) x.vKids.length cap3) ∧ w'.cell? ⟨b, off + j * 4, none⟩ = some (.string X.vTag) ∧ w'.cell? ⟨b, off + j * 4 + 1, none⟩ = some (.string X.vText) ∧ w'.cell? ⟨b, off + j * 4 + 2, none⟩ = some (.slice b2 X.vAttrs.length d2) ∧ w'.cell? ⟨b, off + j * 4 + 3, none⟩ = some (.slice b3 X.vKids.length d3)) (by kernel_rfl) ⟨bB3, z0, z1, z2, z3⟩ (fun hHeld => ?_)
        refine tq (i := 0) (d := 22) ?_
        simp only [sz, ss]
        refine tq (i := 2) (d := 24) ?_
        simp only [sz, ss]
        refine tq (i := 3) (d := 25) ?_
        simp only [sz, ss]
        refine tq (i := 4) (d := 26) ?_
        simp only [sz, ss]
        refine tq (i := 5) (d := 27) ?_
        simp only [sz, ss]
        refine tq (i := 6) (d := 28) ?_
        simp only [sz, ss]
        refine wpAnyH_ready (rs := [1, 7]) (by kernel_rfl) (by simp) ?_
        refine (AllReadyH.cons rfl (fun K hK => ?_) (AllReadyH.cons rfl (fun K hK => ?_) AllReadyH.nil))
        · have cT : w2.drew.cell? ⟨w.heap.size + 2, 1, none⟩ = some (.slice av xs.length capv) := bTr.out.cell 1 rfl
          go_simp
          clear cT
          refine hK.out _ _ hHeld (fun hHeld => ?_)
          clear hK K
          refine wpAnyH_ready (rs := [7]) (by kernel_rfl) (by simp) ?_
          refine AllReadyH.cons rfl (fun K hK => ?_) AllReadyH.nil
          go_simp
          refine (hS.out _ lo _ X (by exact hX2.out) hkX'.out).mono ?_
          rintro e w4 ⟨csk, fsk, rfl, hok, hndk, hlok, hb4⟩
          obtain ⟨kt, kb, kl, kc, rfl⟩ : ∃ (kt : ByteArray) (kb : Option Addr) (kl kc : Nat), csk = [.string kt, .slice kb kl kc] := by obtain ⟨k, e, h3, _⟩ := hok.opened; obtain ⟨y1, y2, y3⟩ := h3.form; exact ⟨_, y1, _, y2, by rw [e, y3]⟩
          have hok' : Hid (TreeO n w4 _ (bareD n X) fsk) := hok
          have hndk' : Hid (fsk.Nodup) := hndk
          have hlok' : Hid (∀ b ∈ fsk, w2.heap.size ≤ b) := hlok
          clear hok hndk hlok
          have hb4' : Hid (Below w2.heap.size w2 w4) := (Below.drew (Below.refl w2.heap.size w2)).trans hb4
          have bT4 : Hid (Box w4 (w.heap.size + 2) [.string x.vTag, .slice av xs.length capv] 36) := bTr.out.below hb4'.out bTr.out.lt
          have hz4 := hb4'.out.size
          refine hK.out _ _ ⟨cell_on hb4 hHeld.1, cell_on hb4 hHeld.2.1, cell_on hb4 hHeld.2.2.1, cell_on hb4 hHeld.2.2.2.1, cell_on hb4 hHeld.2.2.2.2⟩ (fun hHeld => ?_)
          clear hK K
          refine wpAnyH_ready (rs := [8]) (by kernel_rfl) (by simp) ?_
          refine AllReadyH.cons rfl (fun K hK => ?_) AllReadyH.nil
          go_simp
          refine hK.out _ _ ⟨cell_alloc hHeld.1 _, cell_alloc hHeld.2.1 _, cell_alloc hHeld.2.2.1 _, cell_alloc hHeld.2.2.2.1 _, cell_alloc hHeld.2.2.2.2 _⟩ (fun hHeld => ?_)
          clear hK K
          refine wpAnyH_ready (rs := [9]) (by kernel_rfl) (by simp) ?_
          refine AllReadyH.cons rfl (fun K hK => ?_) AllReadyH.nil
          refine step_append_lies (w4.alloc (.cells #[.string kt, .slice kb kl kc] 36)) rfl _ _ 34 rfl _ 36 iT _ 2 40 Tryd.underlying34 hiT.out heT.out.1 heT.out.2.2 heT.out.2.1 rfl (by decide) (.slice av xs.length capv) xs.length css.flatten rfl ((GrowOwn.stay (TreeO_stays n) hgr (w' := (w4.alloc (.cells #[.string kt, .slice kb kl kc] 36))) (by simp; omega) (fun b q1 q2 => by rw [Below.heap_alloc _ _ _ (by omega), hb4'.out.block b q2])).row) ⟨w4.heap.size, 0, none⟩ 1 1 [.string kt, .slice kb kl kc] rfl rfl (by intro i u hu; match i, hu with | 0, hu => (simp at hu; subst hu; simp [Addr.add]) | 1, hu => (simp at hu; subst hu; simp [Addr.add]) | i + 2, hu => simp at hu) (by intro u hu; simp at hu; rcases hu with rfl | rfl <;> rfl) (by omega) (by have := hxl.out; unfold maxLen; omega) (by have := hxl.out; omega) (by simp; omega) _ rfl ?_
          intro g3 capg w5 hown5 hgrow5 hat5 hlt5
          have bT5 : Hid (Box w5 (w.heap.size + 2) [.string x.vTag, .slice av xs.length capv] 36) := (hgrow5.block (w.heap.size + 2) (by simp; omega) (by intro e; have := hvb _ e.symm; omega)).trans (bT4.out.alloc _)
          go_simp
          refine hK.out _ _ ⟨cell_grown hHeld.1 hgrow5 (by intro e; have := hvb _ e; have := hvt _ e; omega), cell_grown hHeld.2.1 hgrow5 (by intro e; have := hvb _ e; have := hvt _ e; omega), cell_grown hHeld.2.2.1 hgrow5 (by intro e; have := hvb _ e; have := hvt _ e; omega), cell_grown hHeld.2.2.2.1 hgrow5 (by intro e; have := hvb _ e; have := hvt _ e; omega), cell_grown hHeld.2.2.2.2 hgrow5 (by intro e; have := hvb _ e; have := hvt _ e; omega)⟩ (fun hHeld => ?_)
          clear hK K
          refine tq (i := 10) (d := 32) ?_
          simp only [sz, ss]
          refine wpAnyH_ready (rs := [11]) (by kernel_rfl) (by simp) ?_
          refine AllReadyH.cons rfl (fun K hK => ?_) AllReadyH.nil
          have cT5 := bT5.out.cell 1 rfl
          have fT5 := bT5.out.unfrozen 1
          go_simp
          refine hK.out _ _ ⟨cell_set hHeld.1 (by omega) _, cell_set hHeld.2.1 (by omega) _, cell_set hHeld.2.2.1 (by omega) _, cell_set hHeld.2.2.2.1 (by omega) _, cell_set hHeld.2.2.2.2 (by omega) _⟩ (fun hHeld => ?_)
          clear hK K
          refine wpAnyH_done (by kernel_rfl) ?_ _
          have hst4 : Hid (KbSt n w _ x.vTag _ (xs ++ [bareD n X]) _) := KbSt.step hst2.out hgr hb4'.out hok'.out hndk'.out hlok'.out rfl rfl hown5 hgrow5 hat5
          clear hb4 hHeld
          go_wp2_with fail
          go_roundw
          case rel => exact ⟨j + 1, _, by omega, by go_num, by show KbSt _ _ _ _ _ _ _; rw [hnext.out]; exact hst4.out⟩
          case measure => simp [intOf]; omega
        · go_simp
          refine (hS.out _ lo _ X (by exact hX2.out) hkX'.out).mono ?_
          rintro e w4 ⟨csk, fsk, rfl, hok, hndk, hlok, hb4⟩
          obtain ⟨kt, kb, kl, kc, rfl⟩ : ∃ (kt : ByteArray) (kb : Option Addr) (kl kc : Nat), csk = [.string kt, .slice kb kl kc] := by obtain ⟨k, e, h3, _⟩ := hok.opened; obtain ⟨y1, y2, y3⟩ := h3.form; exact ⟨_, y1, _, y2, by rw [e, y3]⟩
          have hok' : Hid (TreeO n w4 _ (bareD n X) fsk) := hok
          have hndk' : Hid (fsk.Nodup) := hndk
          have hlok' : Hid (∀ b ∈ fsk, w2.heap.size ≤ b) := hlok
          clear hok hndk hlok
          have hb4' : Hid (Below w2.heap.size w2 w4) := (Below.drew (Below.refl w2.heap.size w2)).trans hb4
          have bT4 : Hid (Box w4 (w.heap.size + 2) [.string x.vTag, .slice av xs.length capv] 36) := bTr.out.below hb4'.out bTr.out.lt
          have hz4 := hb4'.out.size
          refine hK.out _ _ ⟨cell_on hb4 hHeld.1, cell_on hb4 hHeld.2.1, cell_on hb4 hHeld.2.2.1, cell_on hb4 hHeld.2.2.2.1, cell_on hb4 hHeld.2.2.2.2⟩ (fun hHeld => ?_)
          clear hK K
          refine wpAnyH_ready (rs := [1, 8]) (by kernel_rfl) (by simp) ?_
          refine (AllReadyH.cons rfl (fun K hK => ?_) (AllReadyH.cons rfl (fun K hK => ?_) AllReadyH.nil))
          · have cT : w4.cell? ⟨w.heap.size + 2, 1, none⟩ = some (.slice av xs.length capv) := bT4.out.cell 1 rfl
            go_simp
            clear cT
            refine hK.out _ _ hHeld (fun hHeld => ?_)
            clear hK K
            refine wpAnyH_ready (rs := [8]) (by kernel_rfl) (by simp) ?_
            refine AllReadyH.cons rfl (fun K hK => ?_) AllReadyH.nil
            go_simp
            refine hK.out _ _ ⟨cell_alloc hHeld.1 _, cell_alloc hHeld.2.1 _, cell_alloc hHeld.2.2.1 _, cell_alloc hHeld.2.2.2.1 _, cell_alloc hHeld.2.2.2.2 _⟩ (fun hHeld => ?_)
            clear hK K
            refine wpAnyH_ready (rs := [9]) (by kernel_rfl) (by simp) ?_
            refine AllReadyH.cons rfl (fun K hK => ?_) AllReadyH.nil
            refine step_append_lies (w4.alloc (.cells #[.string kt, .slice kb kl kc] 36)) rfl _ _ 34 rfl _ 36 iT _ 2 40 Tryd.underlying34 hiT.out heT.out.1 heT.out.2.2 heT.out.2.1 rfl (by decide) (.slice av xs.length capv) xs.length css.flatten rfl ((GrowOwn.stay (TreeO_stays n) hgr (w' := (w4.alloc (.cells #[.string kt, .slice kb kl kc] 36))) (by simp; omega) (fun b q1 q2 => by rw [Below.heap_alloc _ _ _ (by omega), hb4'.out.block b q2])).row) ⟨w4.heap.size, 0, none⟩ 1 1 [.string kt, .slice kb kl kc] rfl rfl (by intro i u hu; match i, hu with | 0, hu => (simp at hu; subst hu; simp [Addr.add]) | 1, hu => (simp at hu; subst hu; simp [Addr.add]) | i + 2, hu => simp at hu) (by intro u hu; simp at hu; rcases hu with rfl | rfl <;> rfl) (by omega) (by have := hxl.out; unfold maxLen; omega) (by have := hxl.out; omega) (by simp; omega) _ rfl ?_
            intro g3 capg w5 hown5 hgrow5 hat5 hlt5
            have bT5 : Hid (Box w5 (w.heap.size + 2) [.string x.vTag, .slice av xs.length capv] 36) := (hgrow5.block (w.heap.size + 2) (by simp; omega) (by intro e; have := hvb _ e.symm; omega)).trans (bT4.out.alloc _)
            go_simp
            refine hK.out _ _ ⟨cell_grown hHeld.1 hgrow5 (by intro e; have := hvb _ e; have := hvt _ e; omega), cell_grown hHeld.2.1 hgrow5 (by intro e; have := hvb _ e; have := hvt _ e; omega), cell_grown hHeld.2.2.1 hgrow5 (by intro e; have := hvb _ e; have := hvt _ e; omega), cell_grown hHeld.2.2.2.1 hgrow5 (by intro e; have := hvb _ e; have := hvt _ e; omega), cell_grown hHeld.2.2.2.2 hgrow5 (by intro e; have := hvb _ e; have := hvt _ e; omega)⟩ (fun hHeld => ?_)
            clear hK K
            refine tq (i := 10) (d := 32) ?_
            simp only [sz, ss]
            refine wpAnyH_ready (rs := [11]) (by kernel_rfl) (by simp) ?_
            refine AllReadyH.cons rfl (fun K hK => ?_) AllReadyH.nil
            have cT5 := bT5.out.cell 1 rfl
            have fT5 := bT5.out.unfrozen 1
            go_simp
            refine hK.out _ _ ⟨cell_set hHeld.1 (by omega) _, cell_set hHeld.2.1 (by omega) _, cell_set hHeld.2.2.1 (by omega) _, cell_set hHeld.2.2.2.1 (by omega) _, cell_set hHeld.2.2.2.2 (by omega) _⟩ (fun hHeld => ?_)
            clear hK K
            refine wpAnyH_done (by kernel_rfl) ?_ _
            have hst4 : Hid (KbSt n w _ x.vTag _ (xs ++ [bareD n X]) _) := KbSt.step hst2.out hgr hb4'.out hok'.out hndk'.out hlok'.out rfl rfl hown5 hgrow5 hat5
            clear hb4 hHeld
            go_wp2_with fail
            go_roundw
            case rel => exact ⟨j + 1, _, by omega, by go_num, by show KbSt _ _ _ _ _ _ _; rw [hnext.out]; exact hst4.out⟩
            case measure => simp [intOf]; omega
          · go_simp
            refine hK.out _ _ ⟨cell_alloc hHeld.1 _, cell_alloc hHeld.2.1 _, cell_alloc hHeld.2.2.1 _, cell_alloc hHeld.2.2.2.1 _, cell_alloc hHeld.2.2.2.2 _⟩ (fun hHeld => ?_)
            clear hK K
            refine wpAnyH_ready (rs := [1]) (by kernel_rfl) (by simp) ?_
            refine AllReadyH.cons rfl (fun K hK => ?_) AllReadyH.nil
            have cT : (w4.alloc (.cells #[.string kt, .slice kb kl kc] 36)).cell? ⟨w.heap.size + 2, 1, none⟩ = some (.slice av xs.length capv) := (bT4.out.alloc _).cell 1 rfl
            go_simp
            clear cT
            refine hK.out _ _ hHeld (fun hHeld => ?_)
            clear hK K
            refine wpAnyH_ready (rs := [9]) (by kernel_rfl) (by simp) ?_
            refine AllReadyH.cons rfl (fun K hK => ?_) AllReadyH.nil
            refine step_append_lies (w4.alloc (.cells #[.string kt, .slice kb kl kc] 36)) rfl _ _ 34 rfl _ 36 iT _ 2 40 Tryd.underlying34 hiT.out heT.out.1 heT.out.2.2 heT.out.2.1 rfl (by decide) (.slice av xs.length capv) xs.length css.flatten rfl ((GrowOwn.stay (TreeO_stays n) hgr (w' := (w4.alloc (.cells #[.string kt, .slice kb kl kc] 36))) (by simp; omega) (fun b q1 q2 => by rw [Below.heap_alloc _ _ _ (by omega), hb4'.out.block b q2])).row) ⟨w4.heap.size, 0, none⟩ 1 1 [.string kt, .slice kb kl kc] rfl rfl (by intro i u hu; match i, hu with | 0, hu => (simp at hu; subst hu; simp [Addr.add]) | 1, hu => (simp at hu; subst hu; simp [Addr.add]) | i + 2, hu => simp at hu) (by intro u hu; simp at hu; rcases hu with rfl | rfl <;> rfl) (by omega) (by have := hxl.out; unfold maxLen; omega) (by have := hxl.out; omega) (by simp; omega) _ rfl ?_
            intro g3 capg w5 hown5 hgrow5 hat5 hlt5
            have bT5 : Hid (Box w5 (w.heap.size + 2) [.string x.vTag, .slice av xs.length capv] 36) := (hgrow5.block (w.heap.size + 2) (by simp; omega) (by intro e; have := hvb _ e.symm; omega)).trans (bT4.out.alloc _)
            go_simp
            refine hK.out _ _ ⟨cell_grown hHeld.1 hgrow5 (by intro e; have := hvb _ e; have := hvt _ e; omega), cell_grown hHeld.2.1 hgrow5 (by intro e; have := hvb _ e; have := hvt _ e; omega), cell_grown hHeld.2.2.1 hgrow5 (by intro e; have := hvb _ e; have := hvt _ e; omega), cell_grown hHeld.2.2.2.1 hgrow5 (by intro e; have := hvb _ e; have := hvt _ e; omega), cell_grown hHeld.2.2.2.2 hgrow5 (by intro e; have := hvb _ e; have := hvt _ e; omega)⟩ (fun hHeld => ?_)
            clear hK K
            refine tq (i := 10) (d := 32) ?_
            simp only [sz, ss]
            refine wpAnyH_ready (rs := [11]) (by kernel_rfl) (by simp) ?_
            refine AllReadyH.cons rfl (fun K hK => ?_) AllReadyH.nil
            have cT5 := bT5.out.cell 1 rfl
            have fT5 := bT5.out.unfrozen 1
            go_simp
            refine hK.out _ _ ⟨cell_set hHeld.1 (by omega) _, cell_set hHeld.2.1 (by omega) _, cell_set hHeld.2.2.1 (by omega) _, cell_set hHeld.2.2.2.1 (by omega) _, cell_set hHeld.2.2.2.2 (by omega) _⟩ (fun hHeld => ?_)
            clear hK K
            refine wpAnyH_done (by kernel_rfl) ?_ _
            have hst4 : Hid (KbSt n w _ x.vTag _ (xs ++ [bareD n X]) _) := KbSt.step hst2.out hgr hb4'.out hok'.out hndk'.out hlok'.out rfl rfl hown5 hgrow5 hat5
            clear hb4 hHeld
            go_wp2_with fail
            go_roundw
            case rel => exact ⟨j + 1, _, by omega, by go_num, by show KbSt _ _ _ _ _ _ _; rw [hnext.out]; exact hst4.out⟩
            case measure => simp [intOf]; omega
      · have hnext : Hid (bareK n x.vKids (j + 1) = bareK n x.vKids j) := hnt'.out hT
        have hem : X.vTag = ⟨#[]⟩ := em_eq (of_decide_eq_true hT)
        rw [hem] at z0
        clear hT hnt' hng'
        go_wp2_with fail
        go_roundw
        case rel => exact ⟨j + 1, _, by omega, by go_num, by show KbSt _ _ _ _ _ _ _; rw [hnext.out]; exact hst2.out⟩
        case measure => simp [intOf]; omega
    · obtain ⟨_, bT8, br8, _⟩ := id hst.out
      have c0 := bT8.cell 0 rfl
      have c1 := bT8.cell 1 rfl
      have r0 := br8.cell 0 rfl
      have r1 := br8.cell 1 rfl
      have fR := br8.unfrozen
      have hne : ¬ w.heap.size + 2 = w.heap.size + 1 := by omega
      have hall := bareK_all (n := n) hlt
      have hall' : Hid (mkT x.vTag (bareK n x.vKids j) = bareD (n + 1) x) := hall
      clear bT8 br8 hall
      obtain ⟨_, _, hgr8⟩ := hst.out.1
      obtain ⟨av, capv, rfl⟩ := hgr8.form
      clear hgr8
      go_wp2_with fail
      obtain ⟨fs, q1, q2, q3, q5⟩ := KbSt.done hst.out rTag'.out
      rw [hall'.out] at q1
      exact bodyPost_ret (v := .agg (List.toArray [.string x.vTag, .slice av (bareK n x.vKids j).length capv])) (by simp [results, Tryd.results39, go_sem, r0, r1]) rfl ⟨_, fs, rfl, q1, q2, fun b q => Nat.le_of_succ_le (q3 b q), q5⟩
theorem brS_all : ∀ n, BrS n := by
  intro n
  induction n with
  | zero => exact fun _ _ _ _ h _ => h.elim
  | succ n ih => exact brS_of n ih
end Go.Proofs.YtlcddndpfhdakaaDoor
namespace Go.Proofs.YtlcddndpfhdakaaDoor
open Go.RowKit Go.Deep
/-- what Bare tells -/
def bareR (n : Nat) (x : MarkD) : TD × Bool := if okM (mzD n x 30) = true ∧ isT x = false then (bareD n x, true) else (mkT ⟨#[]⟩ [], false)
theorem bareR_yes {n : Nat} {x : MarkD} (h : okM (mzD n x 30) = true ∧ isT x = false) : bareR n x = (bareD n x, true) := by unfold bareR; rw [if_pos h]
theorem bareR_no {n : Nat} {x : MarkD} (h : ¬ (okM (mzD n x 30) = true ∧ isT x = false)) : bareR n x = (mkT ⟨#[]⟩ [], false) := by unfold bareR; rw [if_neg h]
theorem treeO_zero {n : Nat} (h : n ≠ 0) (w : World) : TreeO n w [.string ⟨#[]⟩, .slice none 0 0] (mkT ⟨#[]⟩ []) [] := by
  cases n with
  | zero => exact absurd rfl h
  | succ n => exact ⟨.slice none 0 0, [], rfl, ⟨none, 0, rfl, ⟨Nat.zero_le _, Nat.le_refl _⟩, Or.inl ⟨rfl, rfl⟩⟩, Nat.zero_le _, rfl⟩
set_option maxRecDepth 100000 in
set_option maxHeartbeats 2000000 in
theorem implBare_any {n : Nat} {w : World} {lo : Nat} {cs : List Value} {x : MarkD} (hx : MarkAt n w lo cs x) :
    Calls Tryd.prog 16 #[.agg cs.toArray] w fun e w' => (∃ (cs' : List Value) (fs : List Nat), e = .returned (.tuple #[.agg cs'.toArray, .bool (bareR n x).2]) ∧ TreeO n w' cs' (bareR n x).1 fs ∧ fs.Nodup ∧ ∀ b ∈ fs, w.heap.size ≤ b) ∧ Below w.heap.size w w' := by
  have hn : Hid (n ≠ 0) := fun e => by subst e; exact hx.elim
  obtain ⟨k2, k3, rfl, s2, s3, _⟩ := MarkAt.opened hx
  obtain ⟨a2, cap2, rfl⟩ := s2.form
  obtain ⟨a3, cap3, rfl⟩ := s3.form
  have hb0 : Hid (Below w.heap.size w ((w.alloc (.cells #[.string x.vTag, .string x.vText, .slice a2 x.vAttrs.length cap2, .slice a3 x.vKids.length cap3] 27)).alloc (.cells #[.string ⟨#[]⟩, .slice none 0 0] 36))) := ((Below.refl _ _).alloc (Nat.le_refl _) _).alloc (by simp) _
  have hx0 : Hid (MarkAt n ((w.alloc (.cells #[.string x.vTag, .string x.vText, .slice a2 x.vAttrs.length cap2, .slice a3 x.vKids.length cap3] 27)).alloc (.cells #[.string ⟨#[]⟩, .slice none 0 0] 36)) lo [.string x.vTag, .string x.vText, .slice a2 x.vAttrs.length cap2, .slice a3 x.vKids.length cap3] x) := MarkAt_stays n _ _ lo _ _ _ (.of_below hb0.out) hx
  have bM : Hid (Box ((w.alloc (.cells #[.string x.vTag, .string x.vText, .slice a2 x.vAttrs.length cap2, .slice a3 x.vKids.length cap3] 27)).alloc (.cells #[.string ⟨#[]⟩, .slice none 0 0] 36)) w.heap.size [.string x.vTag, .string x.vText, .slice a2 x.vAttrs.length cap2, .slice a3 x.vKids.length cap3] 27) := (Box.new w _ _).alloc _
  have bR : Hid (Box ((w.alloc (.cells #[.string x.vTag, .string x.vText, .slice a2 x.vAttrs.length cap2, .slice a3 x.vKids.length cap3] 27)).alloc (.cells #[.string ⟨#[]⟩, .slice none 0 0] 36)) (w.heap.size + 1) resB 36) := by have := Box.new (w.alloc (.cells #[.string x.vTag, .string x.vText, .slice a2 x.vAttrs.length cap2, .slice a3 x.vKids.length cap3] 27)) resB 36; simpa [Hid] using this
  clear hx s2 s3
  go_enter Tryd.func16, Tryd.ntmps16
  go_wp2_with fail
  generalize ((w.alloc (.cells #[.string x.vTag, .string x.vText, .slice a2 x.vAttrs.length cap2, .slice a3 x.vKids.length cap3] 27)).alloc (.cells #[.string ⟨#[]⟩, .slice none 0 0] 36)) = w0 at *
  refine (implMarkOk_any hx0.out).mono ?_
  rintro e w1 ⟨rfl, hb1⟩
  have hx1 : Hid (MarkAt n w1 lo [.string x.vTag, .string x.vText, .slice a2 x.vAttrs.length cap2, .slice a3 x.vKids.length cap3] x) := MarkAt.below hx0.out hb1
  have bM1 : Hid (Box w1 w.heap.size [.string x.vTag, .string x.vText, .slice a2 x.vAttrs.length cap2, .slice a3 x.vKids.length cap3] 27) := bM.out.below hb1 bM.out.lt
  have bR1 : Hid (Box w1 (w.heap.size + 1) resB 36) := bR.out.below hb1 bR.out.lt
  have hB1 : Hid (Below w.heap.size w w1) := hb0.out.trans (hb1.mono hb0.out.size)
  clear hx0 bM bR hb0 hb1
  cases hok : okM (mzD n x 30)
  · have hno : Hid (¬ (okM (mzD n x 30) = true ∧ isT x = false)) := fun h => by rw [hok] at h; cases h.1
    clear hok
    have r0 := bR1.out.cell 0 rfl
    have r1 := bR1.out.cell 1 rfl
    have fR := bR1.out.unfrozen
    go_wp2_with fail
    have z1 := Box.set (i := 1) (Box.set (i := 0) bR1.out (.string ⟨#[]⟩)) (.slice none 0 0)
    have z10 := z1.cell 0 rfl
    have z11 := z1.cell 1 rfl
    refine bodyPost_ret (v := .tuple #[.agg #[.string ⟨#[]⟩, .slice none 0 0], .bool false]) (by simp [results, Tryd.results16, go_sem, z10, z11]) rfl ⟨⟨[.string ⟨#[]⟩, .slice none 0 0], [], by rw [bareR_no hno.out], by rw [bareR_no hno.out]; exact treeO_zero hn.out _, List.nodup_nil, fun b hb => by cases hb⟩, ?_⟩
    exact (hB1.out.setCell (p := ⟨w.heap.size + 1, 0, none⟩) (by show w.heap.size ≤ w.heap.size + 1; omega) _).setCell (p := ⟨w.heap.size + 1, 1, none⟩) (by show w.heap.size ≤ w.heap.size + 1; omega) _
  have hkb : Hid (kidsB n x) := by
    cases hq : mzD n x 30 with
    | none => rw [hq] at hok; cases hok
    | some m => exact kidsB_of n x 30 m (Int.le_refl _) hq
  have c0 := bM1.out.cell 0 rfl
  have c1 := bM1.out.cell 1 rfl
  have c2 := bM1.out.cell 2 rfl
  have c3 := bM1.out.cell 3 rfl
  go_wp2_with fail
  refine (isText_any _ _ _ _ _).mono ?_
  rintro e w2 ⟨rfl, hb2⟩
  have hx2 : Hid (MarkAt n w2 lo [.string x.vTag, .string x.vText, .slice a2 x.vAttrs.length cap2, .slice a3 x.vKids.length cap3] x) := MarkAt.below hx1.out hb2
  have bM2 : Hid (Box w2 w.heap.size [.string x.vTag, .string x.vText, .slice a2 x.vAttrs.length cap2, .slice a3 x.vKids.length cap3] 27) := bM1.out.below hb2 bM1.out.lt
  have bR2 : Hid (Box w2 (w.heap.size + 1) resB 36) := bR1.out.below hb2 bR1.out.lt
  have hB2 : Hid (Below w.heap.size w w2) := hB1.out.trans (hb2.mono hB1.out.size)
  clear hx1 bM1 bR1 hB1 hb2 c0 c1 c2 c3
  have c0 := bM2.out.cell 0 rfl
  have c1 := bM2.out.cell 1 rfl
  have c2 := bM2.out.cell 2 rfl
  have c3 := bM2.out.cell 3 rfl
  cases hT : isT x
  rotate_left
  · have hno : Hid (¬ (okM (mzD n x 30) = true ∧ isT x = false)) := fun h => by rw [hT] at h; cases h.2
    have hdec : decide (x.vTag.size = 0) = true := hT
    clear hok hT
    rw [hdec]
    have r0 := bR2.out.cell 0 rfl
    have r1 := bR2.out.cell 1 rfl
    have fR := bR2.out.unfrozen
    go_wp2_with fail
    have z1 := Box.set (i := 1) (Box.set (i := 0) bR2.out (.string ⟨#[]⟩)) (.slice none 0 0)
    have z10 := z1.cell 0 rfl
    have z11 := z1.cell 1 rfl
    refine bodyPost_ret (v := .tuple #[.agg #[.string ⟨#[]⟩, .slice none 0 0], .bool false]) (by simp [results, Tryd.results16, go_sem, z10, z11]) rfl ⟨⟨[.string ⟨#[]⟩, .slice none 0 0], [], by rw [bareR_no hno.out], by rw [bareR_no hno.out]; exact treeO_zero hn.out _, List.nodup_nil, fun b hb => by cases hb⟩, ?_⟩
    exact (hB2.out.setCell (p := ⟨w.heap.size + 1, 0, none⟩) (by show w.heap.size ≤ w.heap.size + 1; omega) _).setCell (p := ⟨w.heap.size + 1, 1, none⟩) (by show w.heap.size ≤ w.heap.size + 1; omega) _
  have hdec : decide (x.vTag.size = 0) = false := hT
  rw [hdec]
  have hyes : Hid (okM (mzD n x 30) = true ∧ isT x = false) := ⟨hok, hT⟩
  clear hok hT
  go_wp2_with fail
  refine (brI_all n _ lo _ x hx2.out hkb.out).mono ?_
  rintro e w3 ⟨cs3, fs3, rfl, ho3, hnd3, hlo3, hb3⟩
  have ho3' : Hid (TreeO n w3 cs3 (bareD n x) fs3) := ho3
  have hnd3' : Hid fs3.Nodup := hnd3
  have hlo3' : Hid (∀ b ∈ fs3, w2.heap.size ≤ b) := hlo3
  have bR3 : Hid (Box w3 (w.heap.size + 1) resB 36) := bR2.out.below hb3 bR2.out.lt
  have hlt3 : Hid (w.heap.size + 2 ≤ w2.heap.size) := bR2.out.lt
  have hB3 : Hid (Below w.heap.size w w3) := hB2.out.trans (hb3.mono hB2.out.size)
  obtain ⟨kt, kb, kl, kc, rfl⟩ : ∃ (kt : ByteArray) (kb : Option Addr) (kl kc : Nat), cs3 = [.string kt, .slice kb kl kc] := by obtain ⟨k, e, h3, _⟩ := ho3.opened; obtain ⟨y1, y2, y3⟩ := h3.form; exact ⟨_, y1, _, y2, by rw [e, y3]⟩
  have r0 := bR3.out.cell 0 rfl
  have r1 := bR3.out.cell 1 rfl
  have fR := bR3.out.unfrozen
  clear hb3 c0 c1 c2 c3 ho3 hnd3 hlo3 
  go_wp2_with fail
  have z1 := Box.set (i := 1) (Box.set (i := 0) bR3.out (.string kt)) (.slice kb kl kc)
  have z10 := z1.cell 0 rfl
  have z11 := z1.cell 1 rfl
  refine bodyPost_ret (v := .tuple #[.agg #[.string kt, .slice kb kl kc], .bool true]) (by simp [results, Tryd.results16, go_sem, z10, z11]) rfl ⟨⟨[.string kt, .slice kb kl kc], fs3, by rw [bareR_yes hyes.out], ?_, hnd3'.out, fun b hb => by have := hlo3'.out b hb; have := hlt3.out; omega⟩, ?_⟩
  · rw [bareR_yes hyes.out]
    exact TreeO_stays n _ _ _ _ _ (fun b hb => by have h1 := hlo3'.out b hb; have h2 := hlt3.out; rw [set_other (by omega), set_other (by omega)]) ho3'.out
  · exact (hB3.out.setCell (p := ⟨w.heap.size + 1, 0, none⟩) (by show w.heap.size ≤ w.heap.size + 1; omega) _).setCell (p := ⟨w.heap.size + 1, 1, none⟩) (by show w.heap.size ≤ w.heap.size + 1; omega) _
set_option maxRecDepth 100000 in
set_option maxHeartbeats 2000000 in
theorem specBare_any {n : Nat} {w : World} {lo : Nat} {cs : List Value} {x : MarkD} (hx : MarkAt n w lo cs x) :
    Calls Tryd.prog 17 #[.agg cs.toArray] w fun e w' => (∃ (cs' : List Value) (fs : List Nat), e = .returned (.tuple #[.agg cs'.toArray, .bool (bareR n x).2]) ∧ TreeO n w' cs' (bareR n x).1 fs ∧ fs.Nodup ∧ ∀ b ∈ fs, w.heap.size ≤ b) ∧ Below w.heap.size w w' := by
  have hn : Hid (n ≠ 0) := fun e => by subst e; exact hx.elim
  obtain ⟨k2, k3, rfl, s2, s3, _⟩ := MarkAt.opened hx
  obtain ⟨a2, cap2, rfl⟩ := s2.form
  obtain ⟨a3, cap3, rfl⟩ := s3.form
  have hb0 : Hid (Below w.heap.size w ((w.alloc (.cells #[.string x.vTag, .string x.vText, .slice a2 x.vAttrs.length cap2, .slice a3 x.vKids.length cap3] 27)).alloc (.cells #[.string ⟨#[]⟩, .slice none 0 0] 36))) := ((Below.refl _ _).alloc (Nat.le_refl _) _).alloc (by simp) _
  have hx0 : Hid (MarkAt n ((w.alloc (.cells #[.string x.vTag, .string x.vText, .slice a2 x.vAttrs.length cap2, .slice a3 x.vKids.length cap3] 27)).alloc (.cells #[.string ⟨#[]⟩, .slice none 0 0] 36)) lo [.string x.vTag, .string x.vText, .slice a2 x.vAttrs.length cap2, .slice a3 x.vKids.length cap3] x) := MarkAt_stays n _ _ lo _ _ _ (.of_below hb0.out) hx
  have bM : Hid (Box ((w.alloc (.cells #[.string x.vTag, .string x.vText, .slice a2 x.vAttrs.length cap2, .slice a3 x.vKids.length cap3] 27)).alloc (.cells #[.string ⟨#[]⟩, .slice none 0 0] 36)) w.heap.size [.string x.vTag, .string x.vText, .slice a2 x.vAttrs.length cap2, .slice a3 x.vKids.length cap3] 27) := (Box.new w _ _).alloc _
  have bR : Hid (Box ((w.alloc (.cells #[.string x.vTag, .string x.vText, .slice a2 x.vAttrs.length cap2, .slice a3 x.vKids.length cap3] 27)).alloc (.cells #[.string ⟨#[]⟩, .slice none 0 0] 36)) (w.heap.size + 1) resB 36) := by have := Box.new (w.alloc (.cells #[.string x.vTag, .string x.vText, .slice a2 x.vAttrs.length cap2, .slice a3 x.vKids.length cap3] 27)) resB 36; simpa [Hid] using this
  clear hx s2 s3
  go_enter Tryd.func17, Tryd.ntmps17
  go_wp2_with fail
  generalize ((w.alloc (.cells #[.string x.vTag, .string x.vText, .slice a2 x.vAttrs.length cap2, .slice a3 x.vKids.length cap3] 27)).alloc (.cells #[.string ⟨#[]⟩, .slice none 0 0] 36)) = w0 at *
  refine (specMarkOk_any hx0.out).mono ?_
  rintro e w1 ⟨rfl, hb1⟩
  have hx1 : Hid (MarkAt n w1 lo [.string x.vTag, .string x.vText, .slice a2 x.vAttrs.length cap2, .slice a3 x.vKids.length cap3] x) := MarkAt.below hx0.out hb1
  have bM1 : Hid (Box w1 w.heap.size [.string x.vTag, .string x.vText, .slice a2 x.vAttrs.length cap2, .slice a3 x.vKids.length cap3] 27) := bM.out.below hb1 bM.out.lt
  have bR1 : Hid (Box w1 (w.heap.size + 1) resB 36) := bR.out.below hb1 bR.out.lt
  have hB1 : Hid (Below w.heap.size w w1) := hb0.out.trans (hb1.mono hb0.out.size)
  clear hx0 bM bR hb0 hb1
  cases hok : okM (mzD n x 30)
  · have hno : Hid (¬ (okM (mzD n x 30) = true ∧ isT x = false)) := fun h => by rw [hok] at h; cases h.1
    clear hok
    have r0 := bR1.out.cell 0 rfl
    have r1 := bR1.out.cell 1 rfl
    have fR := bR1.out.unfrozen
    go_wp2_with fail
    have z1 := Box.set (i := 1) (Box.set (i := 0) bR1.out (.string ⟨#[]⟩)) (.slice none 0 0)
    have z10 := z1.cell 0 rfl
    have z11 := z1.cell 1 rfl
    refine bodyPost_ret (v := .tuple #[.agg #[.string ⟨#[]⟩, .slice none 0 0], .bool false]) (by simp [results, Tryd.results17, go_sem, z10, z11]) rfl ⟨⟨[.string ⟨#[]⟩, .slice none 0 0], [], by rw [bareR_no hno.out], by rw [bareR_no hno.out]; exact treeO_zero hn.out _, List.nodup_nil, fun b hb => by cases hb⟩, ?_⟩
    exact (hB1.out.setCell (p := ⟨w.heap.size + 1, 0, none⟩) (by show w.heap.size ≤ w.heap.size + 1; omega) _).setCell (p := ⟨w.heap.size + 1, 1, none⟩) (by show w.heap.size ≤ w.heap.size + 1; omega) _
  have hkb : Hid (kidsB n x) := by
    cases hq : mzD n x 30 with
    | none => rw [hq] at hok; cases hok
    | some m => exact kidsB_of n x 30 m (Int.le_refl _) hq
  have c0 := bM1.out.cell 0 rfl
  have c1 := bM1.out.cell 1 rfl
  have c2 := bM1.out.cell 2 rfl
  have c3 := bM1.out.cell 3 rfl
  cases hT : isT x
  rotate_left
  · have hno : Hid (¬ (okM (mzD n x 30) = true ∧ isT x = false)) := fun h => by rw [hT] at h; cases h.2
    have hem := em_eq (of_decide_eq_true hT)
    rw [hem] at c0
    clear hok hT
    have r0 := bR1.out.cell 0 rfl
    have r1 := bR1.out.cell 1 rfl
    have fR := bR1.out.unfrozen
    go_wp2_with fail
    have z1 := Box.set (i := 1) (Box.set (i := 0) bR1.out (.string ⟨#[]⟩)) (.slice none 0 0)
    have z10 := z1.cell 0 rfl
    have z11 := z1.cell 1 rfl
    refine bodyPost_ret (v := .tuple #[.agg #[.string ⟨#[]⟩, .slice none 0 0], .bool false]) (by simp [results, Tryd.results17, go_sem, z10, z11]) rfl ⟨⟨[.string ⟨#[]⟩, .slice none 0 0], [], by rw [bareR_no hno.out], by rw [bareR_no hno.out]; exact treeO_zero hn.out _, List.nodup_nil, fun b hb => by cases hb⟩, ?_⟩
    exact (hB1.out.setCell (p := ⟨w.heap.size + 1, 0, none⟩) (by show w.heap.size ≤ w.heap.size + 1; omega) _).setCell (p := ⟨w.heap.size + 1, 1, none⟩) (by show w.heap.size ≤ w.heap.size + 1; omega) _
  have hne0 := em_no (of_decide_eq_false hT)
  have hne1 : x.vTag.toList.isEmpty = false := by have e1 := em_list (of_decide_eq_false hT); cases e2 : x.vTag.toList with | nil => exact absurd e2 e1 | cons _ _ => rfl
  have hyes : Hid (okM (mzD n x 30) = true ∧ isT x = false) := ⟨hok, hT⟩
  clear hok hT
  go_wp2_with fail
  refine (brS_all n _ lo _ x hx1.out hkb.out).mono ?_
  rintro e w3 ⟨cs3, fs3, rfl, ho3, hnd3, hlo3, hb3⟩
  have ho3' : Hid (TreeO n w3 cs3 (bareD n x) fs3) := ho3
  have hnd3' : Hid fs3.Nodup := hnd3
  have hlo3' : Hid (∀ b ∈ fs3, w1.heap.size ≤ b) := hlo3
  have bR3 : Hid (Box w3 (w.heap.size + 1) resB 36) := bR1.out.below hb3 bR1.out.lt
  have hlt3 : Hid (w.heap.size + 2 ≤ w1.heap.size) := bR1.out.lt
  have hB3 : Hid (Below w.heap.size w w3) := hB1.out.trans (hb3.mono hB1.out.size)
  obtain ⟨kt, kb, kl, kc, rfl⟩ : ∃ (kt : ByteArray) (kb : Option Addr) (kl kc : Nat), cs3 = [.string kt, .slice kb kl kc] := by obtain ⟨k, e, h3, _⟩ := ho3.opened; obtain ⟨y1, y2, y3⟩ := h3.form; exact ⟨_, y1, _, y2, by rw [e, y3]⟩
  have r0 := bR3.out.cell 0 rfl
  have r1 := bR3.out.cell 1 rfl
  have fR := bR3.out.unfrozen
  clear hb3 c0 c1 c2 c3 ho3 hnd3 hlo3 hne0 hne1
  go_wp2_with fail
  have z1 := Box.set (i := 1) (Box.set (i := 0) bR3.out (.string kt)) (.slice kb kl kc)
  have z10 := z1.cell 0 rfl
  have z11 := z1.cell 1 rfl
  refine bodyPost_ret (v := .tuple #[.agg #[.string kt, .slice kb kl kc], .bool true]) (by simp [results, Tryd.results17, go_sem, z10, z11]) rfl ⟨⟨[.string kt, .slice kb kl kc], fs3, by rw [bareR_yes hyes.out], ?_, hnd3'.out, fun b hb => by have := hlo3'.out b hb; have := hlt3.out; omega⟩, ?_⟩
  · rw [bareR_yes hyes.out]
    exact TreeO_stays n _ _ _ _ _ (fun b hb => by have h1 := hlo3'.out b hb; have h2 := hlt3.out; rw [set_other (by omega), set_other (by omega)]) ho3'.out
  · exact (hB3.out.setCell (p := ⟨w.heap.size + 1, 0, none⟩) (by show w.heap.size ≤ w.heap.size + 1; omega) _).setCell (p := ⟨w.heap.size + 1, 1, none⟩) (by show w.heap.size ≤ w.heap.size + 1; omega) _
end Go.Proofs.YtlcddndpfhdakaaDoor
