/- bareTree: walked. -/
import Derived.Test.YtlcddndpfhdakaaBareSt
import Derived.Test.YtlcddndpfhdakaaMarkWithin
import Derived.Test.YtlcddndpfhdakaaTakeLit
namespace Go.Proofs.Ytlcddndpfhdakaa
open Go.RowKit Go.Deep
theorem infoBrI : ((Try.prog.info? 29).map fun i => (i.zero, i.bytes, i.size)) = some (some (.agg #[.string ByteArray.empty, .slice none 0 0]), 40, 2) := by kernel_rfl
def BrI (n : Nat) : Prop := ∀ (w : World) (lo : Nat) (cs : List Value) (x : MarkD), MarkAt n w lo cs x → kidsB n x →
  Calls Try.prog 21 #[.agg cs.toArray] w fun e w' => ∃ (cs' : List Value) (fs : List Nat), e = .returned (.agg cs'.toArray) ∧ TreeO n w' cs' (bareD n x) fs ∧ fs.Nodup ∧ (∀ b ∈ fs, w.heap.size ≤ b) ∧ Below w.heap.size w w'
set_option maxRecDepth 100000 in
set_option maxHeartbeats 4000000 in
theorem brI_of (n : Nat) (hS : Hid (BrI n)) : BrI (n + 1) := by
  intro w lo cs x hx hkb
  obtain ⟨k2, k3, rfl, s2, s3, rTag, rText, _⟩ := hx
  obtain ⟨a2, cap2, rfl⟩ := s2.form
  obtain ⟨a3, cap3, rfl, hm, hk⟩ := s3
  have hk' : Hid _ := hk
  have rTag' : Hid (x.vTag.size ≤ maxLen) := rTag
  have hkb' : Hid (∀ k ∈ x.vKids, kidsB n k) := hkb.2
  have hml := hkb.1
  unfold maxLen at hm
  clear hk s2 rTag rText hkb
  obtain ⟨iT, hiT0, heT0⟩ := Option.map_eq_some_iff.1 infoBrI
  simp only [Prod.mk.injEq] at heT0
  have hiT : Hid (Try.prog.info? 29 = some iT) := hiT0
  have heT : Hid (iT.zero = some (.agg #[.string ByteArray.empty, .slice none 0 0]) ∧ iT.bytes = 40 ∧ iT.size = 2) := heT0
  clear hiT0 heT0
  have hb0 : Below w.heap.size w (((w.alloc (.cells #[.string x.vTag, .string x.vText, .slice a2 x.vAttrs.length cap2, .slice a3 x.vKids.length cap3] 35)).alloc (.cells #[.string ⟨#[]⟩, .slice none 0 0] 29)).alloc (.cells #[.string x.vTag, .slice none 0 0] 29)) := (((Below.refl _ _).alloc (Nat.le_refl _) _).alloc (by simp) _).alloc (by simp; omega) _
  have bx0 : Hid (Box (((w.alloc (.cells #[.string x.vTag, .string x.vText, .slice a2 x.vAttrs.length cap2, .slice a3 x.vKids.length cap3] 35)).alloc (.cells #[.string ⟨#[]⟩, .slice none 0 0] 29)).alloc (.cells #[.string x.vTag, .slice none 0 0] 29)) w.heap.size [.string x.vTag, .string x.vText, .slice a2 x.vAttrs.length cap2, .slice a3 x.vKids.length cap3] 35) := ((Box.new w _ _).alloc _).alloc _
  have hk0 : Hid (KbSt n w [.string x.vTag, .string x.vText, .slice a2 x.vAttrs.length cap2, .slice a3 x.vKids.length cap3] x.vTag (.slice none 0 0) (bareK n x.vKids 0) (((w.alloc (.cells #[.string x.vTag, .string x.vText, .slice a2 x.vAttrs.length cap2, .slice a3 x.vKids.length cap3] 35)).alloc (.cells #[.string ⟨#[]⟩, .slice none 0 0] 29)).alloc (.cells #[.string x.vTag, .slice none 0 0] 29))) := ⟨⟨[], [], GrowOwn.nil⟩, by have := Box.new ((w.alloc (.cells #[.string x.vTag, .string x.vText, .slice a2 x.vAttrs.length cap2, .slice a3 x.vKids.length cap3] 35)).alloc (.cells #[.string ⟨#[]⟩, .slice none 0 0] 29)) [.string x.vTag, .slice none 0 0] 29; simpa using this, by have := (Box.new (w.alloc (.cells #[.string x.vTag, .string x.vText, .slice a2 x.vAttrs.length cap2, .slice a3 x.vKids.length cap3] 35)) resB 29).alloc (.cells #[.string x.vTag, .slice none 0 0] 29); simpa using this, bx0.out, hb0, by simp⟩
  have c3 := bx0.out.cell 3 rfl
  clear hb0
  go_enter Try.func21, Try.ntmps21
  go_wp2_with fail
  go_loopw [12] (fun i wr => ∃ (j : Nat) (vk : Value), j ≤ x.vKids.length ∧ i = .int .i64 j ∧ Hid (KbSt n w [.string x.vTag, .string x.vText, .slice a2 x.vAttrs.length cap2, .slice a3 x.vKids.length cap3] x.vTag vk (bareK n x.vKids j) wr)) (fun i _ => x.vKids.length - (intOf i).toNat)
  case atStart => exact ⟨0, _, by omega, rfl, hk0⟩
  case round =>
    obtain ⟨j, vk, hj, rfl, hst⟩ := hrel
    clear c3
    have c3 := hst.out.2.2.2.1.cell 3 rfl
    by_cases hlt : j < x.vKids.length
    · obtain ⟨b, off, rfl, hlo, hbb, hc⟩ := hk'.out (by omega)
      obtain ⟨cs, hcl, lie, hr⟩ := hc j hlt
      have hbw : Below w.heap.size w wr := hst.out.2.2.2.2.1
      have lie1 := Lie.keep (lo := lo) (lo' := lo) lie (.of_below hbw) hlo hbb
      have hr2 := MarkAt.below hr hbw
      have hxl : Hid ((bareK n x.vKids j).length ≤ j) := bareK_len n x.vKids j
      have hnt := bareK_text (n := n) hlt
      have hng := bareK_tag (n := n) hlt
      have hkX := hkb'.out x.vKids[j] (List.getElem_mem hlt)
      generalize x.vKids[j] = X at hr2 hnt hng hkX
      have hkX' : Hid (kidsB n X) := hkX
      clear hkX
      have hnt' : Hid (isT X = true → bareK n x.vKids (j + 1) = bareK n x.vKids j) := hnt
      have hng' : Hid (isT X = false → bareK n x.vKids (j + 1) = bareK n x.vKids j ++ [bareD n X]) := hng
      have hX : Hid (MarkAt n wr lo cs X) := hr2
      obtain ⟨p2, p3, rfl, t2, t3, qTag, qText, _⟩ := MarkAt.opened hr2
      obtain ⟨b2, d2, rfl⟩ := t2.form
      obtain ⟨b3, d3, rfl⟩ := t3.form
      have z0 := lie1 0 (by simp)
      have z1 := lie1 1 (by simp)
      have z2 := lie1 2 (by simp)
      have z3 := lie1 3 (by simp)
      simp only [List.getElem?_cons_zero, List.getElem?_cons_succ, Nat.add_zero] at z0 z1 z2 z3
      clear lie1 hcl t2 t3 qTag qText hk' hc hr2 hr lie hnt hng hbw
      have bK : Hid (Box (wr.alloc (.cells #[.string X.vTag, .string X.vText, .slice b2 X.vAttrs.length d2, .slice b3 X.vKids.length d3] 35)) wr.heap.size [.string X.vTag, .string X.vText, .slice b2 X.vAttrs.length d2, .slice b3 X.vKids.length d3] 35) := Box.new wr _ _
      have hbA : Below wr.heap.size wr (wr.alloc (.cells #[.string X.vTag, .string X.vText, .slice b2 X.vAttrs.length d2, .slice b3 X.vKids.length d3] 35)) := (Below.refl _ _).alloc (Nat.le_refl _) _
      have hst2 : Hid (KbSt n w [.string x.vTag, .string x.vText, .slice a2 x.vAttrs.length cap2, .slice (some ⟨b, off, none⟩) x.vKids.length cap3] x.vTag vk (bareK n x.vKids j) (wr.alloc (.cells #[.string X.vTag, .string X.vText, .slice b2 X.vAttrs.length d2, .slice b3 X.vKids.length d3] 35))) := hst.out.below hbA
      have hX1 : Hid (MarkAt n (wr.alloc (.cells #[.string X.vTag, .string X.vText, .slice b2 X.vAttrs.length d2, .slice b3 X.vKids.length d3] 35)) lo [.string X.vTag, .string X.vText, .slice b2 X.vAttrs.length d2, .slice b3 X.vKids.length d3] X) := MarkAt.below hX.out hbA
      have hvt0 : Hid (∀ k, vk.ownBlock = some k → k < wr.heap.size) := by obtain ⟨_, _, g9⟩ := hst.out.1; exact row_lt g9.row
      have hw3' : w.heap.size + 3 ≤ wr.heap.size := hst.out.2.2.2.2.2
      clear hbA hX
      go_wp2_with fail
      generalize wr.alloc (.cells #[.string X.vTag, .string X.vText, .slice b2 X.vAttrs.length d2, .slice b3 X.vKids.length d3] 35) = w2 at *
      generalize hKB : wr.heap.size = KB at *
      have kc0 := bK.out.cell 0 rfl
      have kc1 := bK.out.cell 1 rfl
      have kc2 := bK.out.cell 2 rfl
      have kc3 := bK.out.cell 3 rfl
      clear z0 z1 z2 z3 hst bx0 hk0
      refine (isText_any _ _ _ _ _).mono ?_
      rintro e w9 ⟨rfl, hb9⟩
      replace hst2 : Hid (KbSt n w _ x.vTag vk (bareK n x.vKids j) w9) := hst2.out.below hb9
      replace hX1 : Hid (MarkAt n w9 lo _ X) := MarkAt.below hX1.out hb9
      replace bK : Hid (Box w9 KB _ 35) := bK.out.below hb9 bK.out.lt
      clear kc0 kc1 kc2 kc3 hb9
      generalize w9 = w2 at *
      have kc0 := bK.out.cell 0 rfl
      have kc1 := bK.out.cell 1 rfl
      have kc2 := bK.out.cell 2 rfl
      have kc3 := bK.out.cell 3 rfl
      cases hT : isT X
      · have hnext : Hid (bareK n x.vKids (j + 1) = bareK n x.vKids j ++ [bareD n X]) := hng'.out hT
        have hdec : decide (X.vTag.size = 0) = false := hT
        clear hT hnt' hng'
        generalize bareK n x.vKids j = xs at *
        obtain ⟨⟨bss, css, hgr⟩, bTr0, _, bB0, hbw2, hw3⟩ := id hst2.out
        obtain ⟨av, capv, rfl⟩ := hgr.form
        have bTr : Hid (Box w2 (w.heap.size + 2) _ 29) := bTr0
        have hvb := own_ge hgr
        have hvt := hvt0.out
        have hX2 : Hid (MarkAt n w2.drew lo [.string X.vTag, .string X.vText, .slice b2 X.vAttrs.length d2, .slice b3 X.vKids.length d3] X) := MarkAt.below hX1.out (Below.drew (Below.refl _ _))
        clear bTr0 bB0 hvt0 hX1
        try rw [hdec]
        go_wp2_with fail
        refine wp_region_held_drew (S := fun w' => w'.cell? ⟨KB, 0, none⟩ = some (.string X.vTag) ∧ w'.cell? ⟨KB, 1, none⟩ = some (.string X.vText) ∧ w'.cell? ⟨KB, 2, none⟩ = some (.slice b2 X.vAttrs.length d2) ∧ w'.cell? ⟨KB, 3, none⟩ = some (.slice b3 X.vKids.length d3)) (by kernel_rfl) ⟨kc0, kc1, kc2, kc3⟩ (fun hHeld => ?_)
        refine tq (i := 0) (d := 19) ?_
        simp only [sz, ss]
        refine tq (i := 2) (d := 21) ?_
        simp only [sz, ss]
        refine wpAnyH_ready (rs := [1, 3]) (by kernel_rfl) (by simp) ?_
        refine (AllReadyH.cons rfl (fun K hK => ?_) (AllReadyH.cons rfl (fun K hK => ?_) AllReadyH.nil))
        · have cT : w2.drew.cell? ⟨w.heap.size + 2, 1, none⟩ = some (.slice av xs.length capv) := bTr.out.cell 1 rfl
          go_simp
          clear cT
          refine hK.out _ _ hHeld (fun hHeld => ?_)
          clear hK K
          refine wpAnyH_ready (rs := [3]) (by kernel_rfl) (by simp) ?_
          refine AllReadyH.cons rfl (fun K hK => ?_) AllReadyH.nil
          go_simp
          refine (hS.out _ lo _ X (by exact hX2.out) hkX'.out).mono ?_
          rintro e w4 ⟨csk, fsk, rfl, hok, hndk, hlok, hb4⟩
          obtain ⟨kt, kb, kl, kc, rfl⟩ : ∃ (kt : ByteArray) (kb : Option Addr) (kl kc : Nat), csk = [.string kt, .slice kb kl kc] := by obtain ⟨k, e, h3, _⟩ := hok.opened; obtain ⟨y1, y2, y3⟩ := h3.form; exact ⟨_, y1, _, y2, by rw [e, y3]⟩
          have hok' : Hid (TreeO n w4 _ (bareD n X) fsk) := hok
          have hndk' : Hid (fsk.Nodup) := hndk
          have hlok' : Hid (∀ b ∈ fsk, w2.heap.size ≤ b) := hlok
          clear hok hndk hlok
          have hb4' : Hid (Below w2.heap.size w2 w4) := (Below.drew (Below.refl w2.heap.size w2)).trans hb4
          have bT4 : Hid (Box w4 (w.heap.size + 2) [.string x.vTag, .slice av xs.length capv] 29) := bTr.out.below hb4'.out bTr.out.lt
          have hz4 := hb4'.out.size
          refine hK.out _ _ ⟨cell_on hb4 hHeld.1, cell_on hb4 hHeld.2.1, cell_on hb4 hHeld.2.2.1, cell_on hb4 hHeld.2.2.2⟩ (fun hHeld => ?_)
          clear hK K
          refine wpAnyH_ready (rs := [4]) (by kernel_rfl) (by simp) ?_
          refine AllReadyH.cons rfl (fun K hK => ?_) AllReadyH.nil
          go_simp
          refine hK.out _ _ ⟨cell_alloc hHeld.1 _, cell_alloc hHeld.2.1 _, cell_alloc hHeld.2.2.1 _, cell_alloc hHeld.2.2.2 _⟩ (fun hHeld => ?_)
          clear hK K
          refine wpAnyH_ready (rs := [5]) (by kernel_rfl) (by simp) ?_
          refine AllReadyH.cons rfl (fun K hK => ?_) AllReadyH.nil
          refine step_append_lies (w4.alloc (.cells #[.string kt, .slice kb kl kc] 29)) rfl _ _ 27 rfl _ 29 iT _ 2 40 Try.underlying27 hiT.out heT.out.1 heT.out.2.2 heT.out.2.1 rfl (by decide) (.slice av xs.length capv) xs.length css.flatten rfl ((GrowOwn.stay (TreeO_stays n) hgr (w' := (w4.alloc (.cells #[.string kt, .slice kb kl kc] 29))) (by simp; omega) (fun b q1 q2 => by rw [Below.heap_alloc _ _ _ (by omega), hb4'.out.block b q2])).row) ⟨w4.heap.size, 0, none⟩ 1 1 [.string kt, .slice kb kl kc] rfl rfl (by intro i u hu; match i, hu with | 0, hu => (simp at hu; subst hu; simp [Addr.add]) | 1, hu => (simp at hu; subst hu; simp [Addr.add]) | i + 2, hu => simp at hu) (by intro u hu; simp at hu; rcases hu with rfl | rfl <;> rfl) (by omega) (by have := hxl.out; unfold maxLen; omega) (by have := hxl.out; omega) (by simp; omega) _ rfl ?_
          intro g3 capg w5 hown5 hgrow5 hat5 hlt5
          have bT5 : Hid (Box w5 (w.heap.size + 2) [.string x.vTag, .slice av xs.length capv] 29) := (hgrow5.block (w.heap.size + 2) (by simp; omega) (by intro e; have := hvb _ e.symm; omega)).trans (bT4.out.alloc _)
          go_simp
          refine hK.out _ _ ⟨cell_grown hHeld.1 hgrow5 (by intro e; have := hvb _ e; have := hvt _ e; omega), cell_grown hHeld.2.1 hgrow5 (by intro e; have := hvb _ e; have := hvt _ e; omega), cell_grown hHeld.2.2.1 hgrow5 (by intro e; have := hvb _ e; have := hvt _ e; omega), cell_grown hHeld.2.2.2 hgrow5 (by intro e; have := hvb _ e; have := hvt _ e; omega)⟩ (fun hHeld => ?_)
          clear hK K
          refine tq (i := 6) (d := 25) ?_
          simp only [sz, ss]
          refine wpAnyH_ready (rs := [7]) (by kernel_rfl) (by simp) ?_
          refine AllReadyH.cons rfl (fun K hK => ?_) AllReadyH.nil
          have cT5 := bT5.out.cell 1 rfl
          have fT5 := bT5.out.unfrozen 1
          go_simp
          refine hK.out _ _ ⟨cell_set hHeld.1 (by omega) _, cell_set hHeld.2.1 (by omega) _, cell_set hHeld.2.2.1 (by omega) _, cell_set hHeld.2.2.2 (by omega) _⟩ (fun hHeld => ?_)
          clear hK K
          refine wpAnyH_done (by kernel_rfl) ?_ _
          have hst4 : Hid (KbSt n w _ x.vTag _ (xs ++ [bareD n X]) _) := KbSt.step hst2.out hgr hb4'.out hok'.out hndk'.out hlok'.out rfl rfl hown5 hgrow5 hat5
          clear hb4 hHeld
          go_wp2_with fail
          go_roundw
          case rel => exact ⟨j + 1, _, by omega, by go_num, by show KbSt _ _ _ _ _ _ _; rw [hnext.out]; exact hst4.out⟩
          case measure => simp [intOf]; omega
        · go_simp
          refine (hS.out _ lo _ X (by exact hX2.out) hkX'.out).mono ?_
          rintro e w4 ⟨csk, fsk, rfl, hok, hndk, hlok, hb4⟩
          obtain ⟨kt, kb, kl, kc, rfl⟩ : ∃ (kt : ByteArray) (kb : Option Addr) (kl kc : Nat), csk = [.string kt, .slice kb kl kc] := by obtain ⟨k, e, h3, _⟩ := hok.opened; obtain ⟨y1, y2, y3⟩ := h3.form; exact ⟨_, y1, _, y2, by rw [e, y3]⟩
          have hok' : Hid (TreeO n w4 _ (bareD n X) fsk) := hok
          have hndk' : Hid (fsk.Nodup) := hndk
          have hlok' : Hid (∀ b ∈ fsk, w2.heap.size ≤ b) := hlok
          clear hok hndk hlok
          have hb4' : Hid (Below w2.heap.size w2 w4) := (Below.drew (Below.refl w2.heap.size w2)).trans hb4
          have bT4 : Hid (Box w4 (w.heap.size + 2) [.string x.vTag, .slice av xs.length capv] 29) := bTr.out.below hb4'.out bTr.out.lt
          have hz4 := hb4'.out.size
          refine hK.out _ _ ⟨cell_on hb4 hHeld.1, cell_on hb4 hHeld.2.1, cell_on hb4 hHeld.2.2.1, cell_on hb4 hHeld.2.2.2⟩ (fun hHeld => ?_)
          clear hK K
          refine wpAnyH_ready (rs := [1, 4]) (by kernel_rfl) (by simp) ?_
          refine (AllReadyH.cons rfl (fun K hK => ?_) (AllReadyH.cons rfl (fun K hK => ?_) AllReadyH.nil))
          · have cT : w4.cell? ⟨w.heap.size + 2, 1, none⟩ = some (.slice av xs.length capv) := bT4.out.cell 1 rfl
            go_simp
            clear cT
            refine hK.out _ _ hHeld (fun hHeld => ?_)
            clear hK K
            refine wpAnyH_ready (rs := [4]) (by kernel_rfl) (by simp) ?_
            refine AllReadyH.cons rfl (fun K hK => ?_) AllReadyH.nil
            go_simp
            refine hK.out _ _ ⟨cell_alloc hHeld.1 _, cell_alloc hHeld.2.1 _, cell_alloc hHeld.2.2.1 _, cell_alloc hHeld.2.2.2 _⟩ (fun hHeld => ?_)
            clear hK K
            refine wpAnyH_ready (rs := [5]) (by kernel_rfl) (by simp) ?_
            refine AllReadyH.cons rfl (fun K hK => ?_) AllReadyH.nil
            refine step_append_lies (w4.alloc (.cells #[.string kt, .slice kb kl kc] 29)) rfl _ _ 27 rfl _ 29 iT _ 2 40 Try.underlying27 hiT.out heT.out.1 heT.out.2.2 heT.out.2.1 rfl (by decide) (.slice av xs.length capv) xs.length css.flatten rfl ((GrowOwn.stay (TreeO_stays n) hgr (w' := (w4.alloc (.cells #[.string kt, .slice kb kl kc] 29))) (by simp; omega) (fun b q1 q2 => by rw [Below.heap_alloc _ _ _ (by omega), hb4'.out.block b q2])).row) ⟨w4.heap.size, 0, none⟩ 1 1 [.string kt, .slice kb kl kc] rfl rfl (by intro i u hu; match i, hu with | 0, hu => (simp at hu; subst hu; simp [Addr.add]) | 1, hu => (simp at hu; subst hu; simp [Addr.add]) | i + 2, hu => simp at hu) (by intro u hu; simp at hu; rcases hu with rfl | rfl <;> rfl) (by omega) (by have := hxl.out; unfold maxLen; omega) (by have := hxl.out; omega) (by simp; omega) _ rfl ?_
            intro g3 capg w5 hown5 hgrow5 hat5 hlt5
            have bT5 : Hid (Box w5 (w.heap.size + 2) [.string x.vTag, .slice av xs.length capv] 29) := (hgrow5.block (w.heap.size + 2) (by simp; omega) (by intro e; have := hvb _ e.symm; omega)).trans (bT4.out.alloc _)
            go_simp
            refine hK.out _ _ ⟨cell_grown hHeld.1 hgrow5 (by intro e; have := hvb _ e; have := hvt _ e; omega), cell_grown hHeld.2.1 hgrow5 (by intro e; have := hvb _ e; have := hvt _ e; omega), cell_grown hHeld.2.2.1 hgrow5 (by intro e; have := hvb _ e; have := hvt _ e; omega), cell_grown hHeld.2.2.2 hgrow5 (by intro e; have := hvb _ e; have := hvt _ e; omega)⟩ (fun hHeld => ?_)
            clear hK K
            refine tq (i := 6) (d := 25) ?_
            simp only [sz, ss]
            refine wpAnyH_ready (rs := [7]) (by kernel_rfl) (by simp) ?_
            refine AllReadyH.cons rfl (fun K hK => ?_) AllReadyH.nil
            have cT5 := bT5.out.cell 1 rfl
            have fT5 := bT5.out.unfrozen 1
            go_simp
            refine hK.out _ _ ⟨cell_set hHeld.1 (by omega) _, cell_set hHeld.2.1 (by omega) _, cell_set hHeld.2.2.1 (by omega) _, cell_set hHeld.2.2.2 (by omega) _⟩ (fun hHeld => ?_)
            clear hK K
            refine wpAnyH_done (by kernel_rfl) ?_ _
            have hst4 : Hid (KbSt n w _ x.vTag _ (xs ++ [bareD n X]) _) := KbSt.step hst2.out hgr hb4'.out hok'.out hndk'.out hlok'.out rfl rfl hown5 hgrow5 hat5
            clear hb4 hHeld
            go_wp2_with fail
            go_roundw
            case rel => exact ⟨j + 1, _, by omega, by go_num, by show KbSt _ _ _ _ _ _ _; rw [hnext.out]; exact hst4.out⟩
            case measure => simp [intOf]; omega
          · go_simp
            refine hK.out _ _ ⟨cell_alloc hHeld.1 _, cell_alloc hHeld.2.1 _, cell_alloc hHeld.2.2.1 _, cell_alloc hHeld.2.2.2 _⟩ (fun hHeld => ?_)
            clear hK K
            refine wpAnyH_ready (rs := [1]) (by kernel_rfl) (by simp) ?_
            refine AllReadyH.cons rfl (fun K hK => ?_) AllReadyH.nil
            have cT : (w4.alloc (.cells #[.string kt, .slice kb kl kc] 29)).cell? ⟨w.heap.size + 2, 1, none⟩ = some (.slice av xs.length capv) := (bT4.out.alloc _).cell 1 rfl
            go_simp
            clear cT
            refine hK.out _ _ hHeld (fun hHeld => ?_)
            clear hK K
            refine wpAnyH_ready (rs := [5]) (by kernel_rfl) (by simp) ?_
            refine AllReadyH.cons rfl (fun K hK => ?_) AllReadyH.nil
            refine step_append_lies (w4.alloc (.cells #[.string kt, .slice kb kl kc] 29)) rfl _ _ 27 rfl _ 29 iT _ 2 40 Try.underlying27 hiT.out heT.out.1 heT.out.2.2 heT.out.2.1 rfl (by decide) (.slice av xs.length capv) xs.length css.flatten rfl ((GrowOwn.stay (TreeO_stays n) hgr (w' := (w4.alloc (.cells #[.string kt, .slice kb kl kc] 29))) (by simp; omega) (fun b q1 q2 => by rw [Below.heap_alloc _ _ _ (by omega), hb4'.out.block b q2])).row) ⟨w4.heap.size, 0, none⟩ 1 1 [.string kt, .slice kb kl kc] rfl rfl (by intro i u hu; match i, hu with | 0, hu => (simp at hu; subst hu; simp [Addr.add]) | 1, hu => (simp at hu; subst hu; simp [Addr.add]) | i + 2, hu => simp at hu) (by intro u hu; simp at hu; rcases hu with rfl | rfl <;> rfl) (by omega) (by have := hxl.out; unfold maxLen; omega) (by have := hxl.out; omega) (by simp; omega) _ rfl ?_
            intro g3 capg w5 hown5 hgrow5 hat5 hlt5
            have bT5 : Hid (Box w5 (w.heap.size + 2) [.string x.vTag, .slice av xs.length capv] 29) := (hgrow5.block (w.heap.size + 2) (by simp; omega) (by intro e; have := hvb _ e.symm; omega)).trans (bT4.out.alloc _)
            go_simp
            refine hK.out _ _ ⟨cell_grown hHeld.1 hgrow5 (by intro e; have := hvb _ e; have := hvt _ e; omega), cell_grown hHeld.2.1 hgrow5 (by intro e; have := hvb _ e; have := hvt _ e; omega), cell_grown hHeld.2.2.1 hgrow5 (by intro e; have := hvb _ e; have := hvt _ e; omega), cell_grown hHeld.2.2.2 hgrow5 (by intro e; have := hvb _ e; have := hvt _ e; omega)⟩ (fun hHeld => ?_)
            clear hK K
            refine tq (i := 6) (d := 25) ?_
            simp only [sz, ss]
            refine wpAnyH_ready (rs := [7]) (by kernel_rfl) (by simp) ?_
            refine AllReadyH.cons rfl (fun K hK => ?_) AllReadyH.nil
            have cT5 := bT5.out.cell 1 rfl
            have fT5 := bT5.out.unfrozen 1
            go_simp
            refine hK.out _ _ ⟨cell_set hHeld.1 (by omega) _, cell_set hHeld.2.1 (by omega) _, cell_set hHeld.2.2.1 (by omega) _, cell_set hHeld.2.2.2 (by omega) _⟩ (fun hHeld => ?_)
            clear hK K
            refine wpAnyH_done (by kernel_rfl) ?_ _
            have hst4 : Hid (KbSt n w _ x.vTag _ (xs ++ [bareD n X]) _) := KbSt.step hst2.out hgr hb4'.out hok'.out hndk'.out hlok'.out rfl rfl hown5 hgrow5 hat5
            clear hb4 hHeld
            go_wp2_with fail
            go_roundw
            case rel => exact ⟨j + 1, _, by omega, by go_num, by show KbSt _ _ _ _ _ _ _; rw [hnext.out]; exact hst4.out⟩
            case measure => simp [intOf]; omega
      · have hnext : Hid (bareK n x.vKids (j + 1) = bareK n x.vKids j) := hnt'.out hT
        have hdec : decide (X.vTag.size = 0) = true := hT
        clear hT hnt' hng' kc0 kc1 kc2 kc3
        try rw [hdec]
        go_wp2_with fail
        go_roundw
        case rel => exact ⟨j + 1, _, by omega, by go_num, by show KbSt _ _ _ _ _ _ _; rw [hnext.out]; exact hst2.out⟩
        case measure => simp [intOf]; omega
    · obtain ⟨_, bT8, br8, _⟩ := id hst.out
      have c0 := bT8.cell 0 rfl
      have c1 := bT8.cell 1 rfl
      have r0 := br8.cell 0 rfl
      have r1 := br8.cell 1 rfl
      have fR := br8.unfrozen
      have hne : ¬ w.heap.size + 2 = w.heap.size + 1 := by omega
      have hall := bareK_all (n := n) hlt
      have hall' : Hid (mkT x.vTag (bareK n x.vKids j) = bareD (n + 1) x) := hall
      clear bT8 br8 hall
      obtain ⟨_, _, hgr8⟩ := hst.out.1
      obtain ⟨av, capv, rfl⟩ := hgr8.form
      clear hgr8
      go_wp2_with fail
      obtain ⟨fs, q1, q2, q3, q5⟩ := KbSt.done hst.out rTag'.out
      rw [hall'.out] at q1
      exact bodyPost_ret (v := .agg (List.toArray [.string x.vTag, .slice av (bareK n x.vKids j).length capv])) (by simp [results, Try.results21, go_sem, r0, r1]) rfl ⟨_, fs, rfl, q1, q2, fun b q => Nat.le_of_succ_le (q3 b q), q5⟩
theorem brI_all : ∀ n, BrI n := by
  intro n
  induction n with
  | zero => exact fun _ _ _ _ h _ => h.elim
  | succ n ih => exact brI_of n ih
end Go.Proofs.Ytlcddndpfhdakaa
