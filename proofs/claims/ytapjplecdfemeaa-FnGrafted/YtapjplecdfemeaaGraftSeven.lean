/- FnGrafted from its seventh region on: the new tree is made. -/
import Derived.Test.YtapjplecdfemeaaGraftTail
namespace Go.Proofs.Ytapjplecdfemeaa.fnGrafted
open Go.RowKit Go.Deep
/-- the first piece -/
def headSeq : Code → Code
  | .seq a _ => a
  | c => c
set_option maxRecDepth 100000 in
set_option maxHeartbeats 4000000 in
theorem seven_any {w0 : World} {a : Option Addr} {n cap A B : Nat} {sa sb : ByteArray} {aa ab : Option Addr} {ca cb : Nat} {xa xb : TD} {ma mb : Int} {wz : World} {K7 : Act → World → Prop} (hK7 : ∀ a w, Code.wp Try.prog (codeAt 6) (bodyPost Try.prog Try.f4 fun e w' => e = .returned (.bool true) ∧ Below w0.heap.size w0 w') a w → K7 a w) (hma' : Hid (szD 6 xa 30 = some ma)) (hmb' : Hid (szD 5 xb 30 = some mb)) (hkl : Hid ((kidsOf xa).length ≤ 30)) (htl : Hid ((tagOf xa).length ≤ 6)) (hsm : Hid (sa.size ≤ maxLen)) (hsg : Hid (tagOf xa = sa.data.toList))
    (hGz : Hid (GSt A B (.string sa) (.slice aa (kidsOf xa).length ca) (.string sb) (.slice ab (kidsOf xb).length cb) xa xb wz)) (hBz : Hid (Below w0.heap.size w0 wz)) : Code.wp Try.prog (headSeq (codeAt 5)) (Exit.then K7 (bodyPost Try.prog Try.f4 fun e w' => e = .returned (.bool true) ∧ Below w0.heap.size w0 w')) ⟨#[.slice a n cap, undef, .bool false, .pointer (some ⟨A, 0, none⟩), .pointer (some ⟨B, 0, none⟩), undef, undef, undef, undef, .slice a n cap, .bool false, .slice a n cap, .agg #[.string sa, .slice aa (kidsOf xa).length ca], .slice a n cap, .agg #[.string sb, .slice ab (kidsOf xb).length cb], .agg #[.string sa, .slice aa (kidsOf xa).length ca], .bool true, .agg #[.string sa, .slice aa (kidsOf xa).length ca], .bool true, .bool false, .bool false, .agg #[.string sa, .slice aa (kidsOf xa).length ca], .bool true, .bool false, .bool false, .bool false, .agg #[.string sb, .slice ab (kidsOf xb).length cb], .bool true, .bool false, .bool false, undef, undef, undef, undef, undef, undef, undef, undef, undef, undef, undef, undef, undef, undef, undef, undef, undef, undef, undef, undef, undef, undef, undef, undef, undef, undef, undef, undef, undef, undef, undef, undef, undef, undef, undef, undef, undef, undef, undef, undef, undef, undef, undef, undef, undef, undef, undef, undef, undef, undef, undef, undef, undef, undef, undef, undef, undef], []⟩ wz := by
  conv => arg 2; whnf
  obtain ⟨iT, hiT0, heT0⟩ := Option.map_eq_some_iff.1 infoTr
  simp only [Prod.mk.injEq] at heT0
  have hiT : Hid (Try.prog.info? 26 = some iT) := hiT0
  have heT : Hid (iT.zero = some (.agg #[.string ByteArray.empty, .slice none 0 0]) ∧ iT.bytes = 40 ∧ iT.size = 2) := heT0
  clear hiT0 heT0
  have hG0 : Hid (GSt A B (.string sa) (.slice aa (kidsOf xa).length ca) (.string sb) (.slice ab (kidsOf xb).length cb) xa xb wz.drew) := hGz.out.below (Below.drew (Below.refl _ _))
  have hB0 : Hid (Below w0.heap.size w0 wz.drew) := hBz.out.drew
  obtain ⟨hlm, css, hKC0, hcn0, hcN0⟩ := css_of_row hG0.out.1.2
  have hKC : Hid (KCss 5 wz.drew (kidsOf xa) css) := hKC0
  have hcn : Hid (aa = none → kidsOf xa = []) := hcn0
  have hcN : Hid (∀ ad, aa = some ad → ∀ j u, css.flatten[j]? = some u → wz.drew.cell? (ad.add j) = some u) := hcN0
  clear hKC0 hcn0 hcN0 hlm
  refine wp_region_held_drew (S := fun w' => w'.cell? ⟨A, 0, none⟩ = some (.string sa) ∧ w'.cell? ⟨A, 1, none⟩ = some (.slice aa (kidsOf xa).length ca) ∧ w'.cell? ⟨B, 0, none⟩ = some (.string sb) ∧ w'.cell? ⟨B, 1, none⟩ = some (.slice ab (kidsOf xb).length cb)) (by kernel_rfl) (GSt.cells hG0.out) (fun hHeld => ?_)
  generalize wz.drew = wd at *
  have hZ0 : Hid (ZSt wd (.string sb) (.slice ab (kidsOf xb).length cb) wd none none none) := ZSt.new _ _ _
  refine take_lit (i := 0) (d := 35) (v := ?_) rfl rfl (by kernel_rfl) (by kernel_rfl) (by kernel_rfl) (fun _ _ _ h => h) (Or.inl ⟨by rfl, ?_⟩) (by assumption) ?_
  rotate_left
  · (intro w hSw; (try dsimp only at hSw); first | (go_simp; done) | (go_simp; with_reducible rfl))
  simp only [List.set_cons_zero, List.set_cons_succ]
  refine take_lit (i := 1) (d := 36) (v := ?_) rfl rfl (by kernel_rfl) (by kernel_rfl) (by kernel_rfl) (fun _ _ _ h => h) (Or.inl ⟨by rfl, ?_⟩) (by assumption) ?_
  rotate_left
  · (intro w hSw; (try dsimp only at hSw); first | (go_simp; done) | (go_simp; with_reducible rfl))
  simp only [List.set_cons_zero, List.set_cons_succ]
  refine take_lit (i := 3) (d := 38) (v := ?_) rfl rfl (by kernel_rfl) (by kernel_rfl) (by kernel_rfl) (fun _ _ _ h => h) (Or.inl ⟨by rfl, ?_⟩) (by assumption) ?_
  rotate_left
  · (intro w hSw; (try dsimp only at hSw); first | (go_simp; done) | (go_simp; with_reducible rfl))
  simp only [List.set_cons_zero, List.set_cons_succ]
  refine take_lit (i := 4) (d := 39) (v := ?_) rfl rfl (by kernel_rfl) (by kernel_rfl) (by kernel_rfl) (fun _ _ _ h => h) (Or.inl ⟨by rfl, ?_⟩) (by assumption) ?_
  rotate_left
  · (intro w hSw; (try dsimp only at hSw); first | (go_simp; done) | (go_simp; with_reducible rfl))
  simp only [List.set_cons_zero, List.set_cons_succ]
  refine take_lit (i := 6) (d := 41) (v := ?_) rfl rfl (by kernel_rfl) (by kernel_rfl) (by kernel_rfl) (fun _ _ _ h => h) (Or.inl ⟨by rfl, ?_⟩) (by assumption) ?_
  rotate_left
  · (intro w hSw; (try dsimp only at hSw); first | (go_simp; done) | (go_simp; with_reducible rfl))
  simp only [List.set_cons_zero, List.set_cons_succ]
  refine wpAnyH_ready (rs := [2, 7, 10]) (by kernel_rfl) (by simp) ?_
  refine (AllReadyH.cons rfl (fun K hK => ?_) (AllReadyH.cons rfl (fun K hK => ?_) (AllReadyH.cons rfl (fun K hK => ?_) AllReadyH.nil)))
  · go_simp
    have hZ1a := ZSt.row hZ0.out
    obtain ⟨v1, hW1⟩ : ∃ x, x = wd.alloc (.cells #[] 26) := ⟨_, rfl⟩
    rw [← hW1] at hZ1a
    try rw [← hW1]
    have hZ1 : Hid _ := hZ1a
    clear hZ1a hW1
    refine hK.out _ _ (GSt.cells (hG0.out.below hZ1.out.1)) (fun hHeld => ?_)
    clear hK K
    refine wpAnyH_ready (rs := [5, 7, 10]) (by kernel_rfl) (by simp) ?_
    refine (AllReadyH.cons rfl (fun K hK => ?_) (AllReadyH.cons rfl (fun K hK => ?_) (AllReadyH.cons rfl (fun K hK => ?_) AllReadyH.nil)))
    · refine step_append_kids rfl _ _ 24 rfl wd.heap.size 26 iT _ 40 Try.underlying24 hiT.out heT.out.1 heT.out.2.2 heT.out.2.1 rfl (.slice (some ⟨wd.heap.size, 0, none⟩) 0 0) 0 [] rfl (by simp [Value.ownBlock]) (hZ1.out.2.1 _ _ _ rfl).1 aa (kidsOf xa).length ca css.flatten rfl (by rw [kcss_len hKC.out.2.1, hKC.out.1]) (fun q => by rw [hcn.out q]; rfl) (fun ad q j u hu => cell_on hZ1.out.1 (hcN.out ad q j u hu)) hKC.out.one (by have := hkl.out; unfold maxLen; omega) (by have := hkl.out; omega) hZ1.out.1.size ?_
      intro v40 v2 hown5 hgrow5 hne5 hat5
      simp only [Nat.zero_add, List.nil_append] at hown5
      have hZ2 : Hid (ZSt wd (.string sb) (.slice ab (kidsOf xb).length cb) v2 (some (v40, (kidsOf xa).length, css.flatten)) _ _) := ZSt.app hZ1.out hown5 hgrow5 hat5
      clear hown5 hgrow5 hne5 hat5
      go_simp
      refine hK.out _ _ (GSt.cells (hG0.out.below hZ2.out.1)) (fun hHeld => ?_)
      clear hK K
      refine wpAnyH_ready (rs := [7, 10]) (by kernel_rfl) (by simp) ?_
      refine (AllReadyH.cons rfl (fun K hK => ?_) (AllReadyH.cons rfl (fun K hK => ?_) AllReadyH.nil))
      · go_simp
        have hZ3a := ZSt.kid hZ2.out
        obtain ⟨v3, hW3⟩ : ∃ x, x = v2.alloc (.cells #[.string sb, .slice ab (kidsOf xb).length cb] 26) := ⟨_, rfl⟩
        rw [← hW3] at hZ3a
        try rw [← hW3]
        have hZ3 : Hid _ := hZ3a
        clear hZ3a hW3
        refine hK.out _ _ (GSt.cells (hG0.out.below hZ3.out.1)) (fun hHeld => ?_)
        clear hK K
        refine wpAnyH_ready (rs := [8, 10]) (by kernel_rfl) (by simp) ?_
        refine (AllReadyH.cons rfl (fun K hK => ?_) (AllReadyH.cons rfl (fun K hK => ?_) AllReadyH.nil))
        · refine step_append_lies v3 rfl _ _ 24 rfl wd.heap.size 26 iT _ 2 40 Try.underlying24 hiT.out heT.out.1 heT.out.2.2 heT.out.2.1 rfl (by decide) v40 (kidsOf xa).length css.flatten rfl (hZ3.out.2.1 _ _ _ rfl).1 ⟨v2.heap.size, 0, none⟩ 1 1 [(.string sb), (.slice ab (kidsOf xb).length cb)] rfl rfl (fun j u hu => by rw [addr_add, Nat.zero_add]; exact (hZ3.out.2.2.1 _ rfl).cell j hu) (by intro u hu; simp at hu; rcases hu with rfl | rfl <;> rfl) (by omega) (by have := hkl.out; unfold maxLen; omega) (by have := hkl.out; omega) hZ3.out.1.size _ rfl ?_
          intro g8 cap8 v4 hown8 hgrow8 hat8 hlt8
          have hZ4 : Hid (ZSt wd (.string sb) (.slice ab (kidsOf xb).length cb) v4 (some (.slice (some ⟨g8, 0, none⟩) ((kidsOf xa).length + 1) cap8, (kidsOf xa).length + 1, css.flatten ++ [(.string sb), (.slice ab (kidsOf xb).length cb)])) _ _) := ZSt.app hZ3.out hown8 hgrow8 (by rcases hat8 with q | q; exact Or.inl q.symm; exact Or.inr (by rw [q]; rfl))
          clear hown8 hgrow8 hat8 hlt8
          go_simp
          refine hK.out _ _ (GSt.cells (hG0.out.below hZ4.out.1)) (fun hHeld => ?_)
          clear hK K
          refine take_lit (i := 9) (d := 44) (v := ?_) rfl rfl (by kernel_rfl) (by kernel_rfl) (by kernel_rfl) (fun _ _ _ h => h) (Or.inl ⟨by rfl, ?_⟩) (by assumption) ?_
          rotate_left
          · (intro w hSw; (try dsimp only at hSw); first | (go_simp; done) | (go_simp; with_reducible rfl))
          simp only [List.set_cons_zero, List.set_cons_succ]
          refine wpAnyH_ready (rs := [10]) (by kernel_rfl) (by simp) ?_
          refine AllReadyH.cons rfl (fun K hK => ?_) AllReadyH.nil
          go_simp
          have hZ5a := ZSt.box hZ4.out
          obtain ⟨v5, hW5⟩ : ∃ x, x = v4.alloc (.cells #[.string ⟨#[]⟩, .slice none 0 0] 26) := ⟨_, rfl⟩
          rw [← hW5] at hZ5a
          try rw [← hW5]
          have hZ5 : Hid _ := hZ5a
          clear hZ5a hW5
          refine hK.out _ _ (GSt.cells (hG0.out.below hZ5.out.1)) (fun hHeld => ?_)
          clear hK K
          refine wpAnyH_ready (rs := [11]) (by kernel_rfl) (by simp) ?_
          refine AllReadyH.cons rfl (fun K hK => ?_) AllReadyH.nil
          have bC := (hZ5.out.2.2.2 _ rfl).1
          have c0 := bC.cell 0 rfl
          have c1 := bC.cell 1 rfl
          have fC := bC.unfrozen
          have hF : Hid _ := ZSt.fin (sa := sa) (xb := xb) hZ5.out hsm.out hKC.out hG0.out.2.1
          clear bC
          go_simp
          refine hK.out _ _ (GSt.cells (hG0.out.below (by exact hF.out.2.2))) (fun hHeld => ?_)
          clear hK K
          refine wpAnyH_done (by kernel_rfl) ?_ _
          exact hK7 _ _ (tail_any hma' hmb' htl hsg (show Hid _ from ⟨hG0.out.below hF.out.2.2, hF.out.1, hF.out.2.1⟩) (show Hid _ from hB0.out.trans (hF.out.2.2.mono hB0.out.size)))
        · go_simp
          have hZ4a := ZSt.box hZ3.out
          obtain ⟨v4, hW4⟩ : ∃ x, x = v3.alloc (.cells #[.string ⟨#[]⟩, .slice none 0 0] 26) := ⟨_, rfl⟩
          rw [← hW4] at hZ4a
          try rw [← hW4]
          have hZ4 : Hid _ := hZ4a
          clear hZ4a hW4
          refine hK.out _ _ (GSt.cells (hG0.out.below hZ4.out.1)) (fun hHeld => ?_)
          clear hK K
          refine wpAnyH_ready (rs := [8]) (by kernel_rfl) (by simp) ?_
          refine AllReadyH.cons rfl (fun K hK => ?_) AllReadyH.nil
          refine step_append_lies v4 rfl _ _ 24 rfl wd.heap.size 26 iT _ 2 40 Try.underlying24 hiT.out heT.out.1 heT.out.2.2 heT.out.2.1 rfl (by decide) v40 (kidsOf xa).length css.flatten rfl (hZ4.out.2.1 _ _ _ rfl).1 ⟨v2.heap.size, 0, none⟩ 1 1 [(.string sb), (.slice ab (kidsOf xb).length cb)] rfl rfl (fun j u hu => by rw [addr_add, Nat.zero_add]; exact (hZ4.out.2.2.1 _ rfl).cell j hu) (by intro u hu; simp at hu; rcases hu with rfl | rfl <;> rfl) (by omega) (by have := hkl.out; unfold maxLen; omega) (by have := hkl.out; omega) hZ4.out.1.size _ rfl ?_
          intro g8 cap8 v5 hown8 hgrow8 hat8 hlt8
          have hZ5 : Hid (ZSt wd (.string sb) (.slice ab (kidsOf xb).length cb) v5 (some (.slice (some ⟨g8, 0, none⟩) ((kidsOf xa).length + 1) cap8, (kidsOf xa).length + 1, css.flatten ++ [(.string sb), (.slice ab (kidsOf xb).length cb)])) _ _) := ZSt.app hZ4.out hown8 hgrow8 (by rcases hat8 with q | q; exact Or.inl q.symm; exact Or.inr (by rw [q]; rfl))
          clear hown8 hgrow8 hat8 hlt8
          go_simp
          refine hK.out _ _ (GSt.cells (hG0.out.below hZ5.out.1)) (fun hHeld => ?_)
          clear hK K
          refine take_lit (i := 9) (d := 44) (v := ?_) rfl rfl (by kernel_rfl) (by kernel_rfl) (by kernel_rfl) (fun _ _ _ h => h) (Or.inl ⟨by rfl, ?_⟩) (by assumption) ?_
          rotate_left
          · (intro w hSw; (try dsimp only at hSw); first | (go_simp; done) | (go_simp; with_reducible rfl))
          simp only [List.set_cons_zero, List.set_cons_succ]
          refine wpAnyH_ready (rs := [11]) (by kernel_rfl) (by simp) ?_
          refine AllReadyH.cons rfl (fun K hK => ?_) AllReadyH.nil
          have bC := (hZ5.out.2.2.2 _ rfl).1
          have c0 := bC.cell 0 rfl
          have c1 := bC.cell 1 rfl
          have fC := bC.unfrozen
          have hF : Hid _ := ZSt.fin (sa := sa) (xb := xb) hZ5.out hsm.out hKC.out hG0.out.2.1
          clear bC
          go_simp
          refine hK.out _ _ (GSt.cells (hG0.out.below (by exact hF.out.2.2))) (fun hHeld => ?_)
          clear hK K
          refine wpAnyH_done (by kernel_rfl) ?_ _
          exact hK7 _ _ (tail_any hma' hmb' htl hsg (show Hid _ from ⟨hG0.out.below hF.out.2.2, hF.out.1, hF.out.2.1⟩) (show Hid _ from hB0.out.trans (hF.out.2.2.mono hB0.out.size)))
      · go_simp
        have hZ3a := ZSt.box hZ2.out
        obtain ⟨v3, hW3⟩ : ∃ x, x = v2.alloc (.cells #[.string ⟨#[]⟩, .slice none 0 0] 26) := ⟨_, rfl⟩
        rw [← hW3] at hZ3a
        try rw [← hW3]
        have hZ3 : Hid _ := hZ3a
        clear hZ3a hW3
        refine hK.out _ _ (GSt.cells (hG0.out.below hZ3.out.1)) (fun hHeld => ?_)
        clear hK K
        refine wpAnyH_ready (rs := [7]) (by kernel_rfl) (by simp) ?_
        refine AllReadyH.cons rfl (fun K hK => ?_) AllReadyH.nil
        go_simp
        have hZ4a := ZSt.kid hZ3.out
        obtain ⟨v4, hW4⟩ : ∃ x, x = v3.alloc (.cells #[.string sb, .slice ab (kidsOf xb).length cb] 26) := ⟨_, rfl⟩
        rw [← hW4] at hZ4a
        try rw [← hW4]
        have hZ4 : Hid _ := hZ4a
        clear hZ4a hW4
        refine hK.out _ _ (GSt.cells (hG0.out.below hZ4.out.1)) (fun hHeld => ?_)
        clear hK K
        refine wpAnyH_ready (rs := [8]) (by kernel_rfl) (by simp) ?_
        refine AllReadyH.cons rfl (fun K hK => ?_) AllReadyH.nil
        refine step_append_lies v4 rfl _ _ 24 rfl wd.heap.size 26 iT _ 2 40 Try.underlying24 hiT.out heT.out.1 heT.out.2.2 heT.out.2.1 rfl (by decide) v40 (kidsOf xa).length css.flatten rfl (hZ4.out.2.1 _ _ _ rfl).1 ⟨v3.heap.size, 0, none⟩ 1 1 [(.string sb), (.slice ab (kidsOf xb).length cb)] rfl rfl (fun j u hu => by rw [addr_add, Nat.zero_add]; exact (hZ4.out.2.2.1 _ rfl).cell j hu) (by intro u hu; simp at hu; rcases hu with rfl | rfl <;> rfl) (by omega) (by have := hkl.out; unfold maxLen; omega) (by have := hkl.out; omega) hZ4.out.1.size _ rfl ?_
        intro g8 cap8 v5 hown8 hgrow8 hat8 hlt8
        have hZ5 : Hid (ZSt wd (.string sb) (.slice ab (kidsOf xb).length cb) v5 (some (.slice (some ⟨g8, 0, none⟩) ((kidsOf xa).length + 1) cap8, (kidsOf xa).length + 1, css.flatten ++ [(.string sb), (.slice ab (kidsOf xb).length cb)])) _ _) := ZSt.app hZ4.out hown8 hgrow8 (by rcases hat8 with q | q; exact Or.inl q.symm; exact Or.inr (by rw [q]; rfl))
        clear hown8 hgrow8 hat8 hlt8
        go_simp
        refine hK.out _ _ (GSt.cells (hG0.out.below hZ5.out.1)) (fun hHeld => ?_)
        clear hK K
        refine take_lit (i := 9) (d := 44) (v := ?_) rfl rfl (by kernel_rfl) (by kernel_rfl) (by kernel_rfl) (fun _ _ _ h => h) (Or.inl ⟨by rfl, ?_⟩) (by assumption) ?_
        rotate_left
        · (intro w hSw; (try dsimp only at hSw); first | (go_simp; done) | (go_simp; with_reducible rfl))
        simp only [List.set_cons_zero, List.set_cons_succ]
        refine wpAnyH_ready (rs := [11]) (by kernel_rfl) (by simp) ?_
        refine AllReadyH.cons rfl (fun K hK => ?_) AllReadyH.nil
        have bC := (hZ5.out.2.2.2 _ rfl).1
        have c0 := bC.cell 0 rfl
        have c1 := bC.cell 1 rfl
        have fC := bC.unfrozen
        have hF : Hid _ := ZSt.fin (sa := sa) (xb := xb) hZ5.out hsm.out hKC.out hG0.out.2.1
        clear bC
        go_simp
        refine hK.out _ _ (GSt.cells (hG0.out.below (by exact hF.out.2.2))) (fun hHeld => ?_)
        clear hK K
        refine wpAnyH_done (by kernel_rfl) ?_ _
        exact hK7 _ _ (tail_any hma' hmb' htl hsg (show Hid _ from ⟨hG0.out.below hF.out.2.2, hF.out.1, hF.out.2.1⟩) (show Hid _ from hB0.out.trans (hF.out.2.2.mono hB0.out.size)))
    · go_simp
      have hZ2a := ZSt.kid hZ1.out
      obtain ⟨v2, hW2⟩ : ∃ x, x = v1.alloc (.cells #[.string sb, .slice ab (kidsOf xb).length cb] 26) := ⟨_, rfl⟩
      rw [← hW2] at hZ2a
      try rw [← hW2]
      have hZ2 : Hid _ := hZ2a
      clear hZ2a hW2
      refine hK.out _ _ (GSt.cells (hG0.out.below hZ2.out.1)) (fun hHeld => ?_)
      clear hK K
      refine wpAnyH_ready (rs := [5, 10]) (by kernel_rfl) (by simp) ?_
      refine (AllReadyH.cons rfl (fun K hK => ?_) (AllReadyH.cons rfl (fun K hK => ?_) AllReadyH.nil))
      · refine step_append_kids rfl _ _ 24 rfl wd.heap.size 26 iT _ 40 Try.underlying24 hiT.out heT.out.1 heT.out.2.2 heT.out.2.1 rfl (.slice (some ⟨wd.heap.size, 0, none⟩) 0 0) 0 [] rfl (by simp [Value.ownBlock]) (hZ2.out.2.1 _ _ _ rfl).1 aa (kidsOf xa).length ca css.flatten rfl (by rw [kcss_len hKC.out.2.1, hKC.out.1]) (fun q => by rw [hcn.out q]; rfl) (fun ad q j u hu => cell_on hZ2.out.1 (hcN.out ad q j u hu)) hKC.out.one (by have := hkl.out; unfold maxLen; omega) (by have := hkl.out; omega) hZ2.out.1.size ?_
        intro v40 v3 hown5 hgrow5 hne5 hat5
        simp only [Nat.zero_add, List.nil_append] at hown5
        have hZ3 : Hid (ZSt wd (.string sb) (.slice ab (kidsOf xb).length cb) v3 (some (v40, (kidsOf xa).length, css.flatten)) _ _) := ZSt.app hZ2.out hown5 hgrow5 hat5
        clear hown5 hgrow5 hne5 hat5
        go_simp
        refine hK.out _ _ (GSt.cells (hG0.out.below hZ3.out.1)) (fun hHeld => ?_)
        clear hK K
        refine wpAnyH_ready (rs := [8, 10]) (by kernel_rfl) (by simp) ?_
        refine (AllReadyH.cons rfl (fun K hK => ?_) (AllReadyH.cons rfl (fun K hK => ?_) AllReadyH.nil))
        · refine step_append_lies v3 rfl _ _ 24 rfl wd.heap.size 26 iT _ 2 40 Try.underlying24 hiT.out heT.out.1 heT.out.2.2 heT.out.2.1 rfl (by decide) v40 (kidsOf xa).length css.flatten rfl (hZ3.out.2.1 _ _ _ rfl).1 ⟨v1.heap.size, 0, none⟩ 1 1 [(.string sb), (.slice ab (kidsOf xb).length cb)] rfl rfl (fun j u hu => by rw [addr_add, Nat.zero_add]; exact (hZ3.out.2.2.1 _ rfl).cell j hu) (by intro u hu; simp at hu; rcases hu with rfl | rfl <;> rfl) (by omega) (by have := hkl.out; unfold maxLen; omega) (by have := hkl.out; omega) hZ3.out.1.size _ rfl ?_
          intro g8 cap8 v4 hown8 hgrow8 hat8 hlt8
          have hZ4 : Hid (ZSt wd (.string sb) (.slice ab (kidsOf xb).length cb) v4 (some (.slice (some ⟨g8, 0, none⟩) ((kidsOf xa).length + 1) cap8, (kidsOf xa).length + 1, css.flatten ++ [(.string sb), (.slice ab (kidsOf xb).length cb)])) _ _) := ZSt.app hZ3.out hown8 hgrow8 (by rcases hat8 with q | q; exact Or.inl q.symm; exact Or.inr (by rw [q]; rfl))
          clear hown8 hgrow8 hat8 hlt8
          go_simp
          refine hK.out _ _ (GSt.cells (hG0.out.below hZ4.out.1)) (fun hHeld => ?_)
          clear hK K
          refine take_lit (i := 9) (d := 44) (v := ?_) rfl rfl (by kernel_rfl) (by kernel_rfl) (by kernel_rfl) (fun _ _ _ h => h) (Or.inl ⟨by rfl, ?_⟩) (by assumption) ?_
          rotate_left
          · (intro w hSw; (try dsimp only at hSw); first | (go_simp; done) | (go_simp; with_reducible rfl))
          simp only [List.set_cons_zero, List.set_cons_succ]
          refine wpAnyH_ready (rs := [10]) (by kernel_rfl) (by simp) ?_
          refine AllReadyH.cons rfl (fun K hK => ?_) AllReadyH.nil
          go_simp
          have hZ5a := ZSt.box hZ4.out
          obtain ⟨v5, hW5⟩ : ∃ x, x = v4.alloc (.cells #[.string ⟨#[]⟩, .slice none 0 0] 26) := ⟨_, rfl⟩
          rw [← hW5] at hZ5a
          try rw [← hW5]
          have hZ5 : Hid _ := hZ5a
          clear hZ5a hW5
          refine hK.out _ _ (GSt.cells (hG0.out.below hZ5.out.1)) (fun hHeld => ?_)
          clear hK K
          refine wpAnyH_ready (rs := [11]) (by kernel_rfl) (by simp) ?_
          refine AllReadyH.cons rfl (fun K hK => ?_) AllReadyH.nil
          have bC := (hZ5.out.2.2.2 _ rfl).1
          have c0 := bC.cell 0 rfl
          have c1 := bC.cell 1 rfl
          have fC := bC.unfrozen
          have hF : Hid _ := ZSt.fin (sa := sa) (xb := xb) hZ5.out hsm.out hKC.out hG0.out.2.1
          clear bC
          go_simp
          refine hK.out _ _ (GSt.cells (hG0.out.below (by exact hF.out.2.2))) (fun hHeld => ?_)
          clear hK K
          refine wpAnyH_done (by kernel_rfl) ?_ _
          exact hK7 _ _ (tail_any hma' hmb' htl hsg (show Hid _ from ⟨hG0.out.below hF.out.2.2, hF.out.1, hF.out.2.1⟩) (show Hid _ from hB0.out.trans (hF.out.2.2.mono hB0.out.size)))
        · go_simp
          have hZ4a := ZSt.box hZ3.out
          obtain ⟨v4, hW4⟩ : ∃ x, x = v3.alloc (.cells #[.string ⟨#[]⟩, .slice none 0 0] 26) := ⟨_, rfl⟩
          rw [← hW4] at hZ4a
          try rw [← hW4]
          have hZ4 : Hid _ := hZ4a
          clear hZ4a hW4
          refine hK.out _ _ (GSt.cells (hG0.out.below hZ4.out.1)) (fun hHeld => ?_)
          clear hK K
          refine wpAnyH_ready (rs := [8]) (by kernel_rfl) (by simp) ?_
          refine AllReadyH.cons rfl (fun K hK => ?_) AllReadyH.nil
          refine step_append_lies v4 rfl _ _ 24 rfl wd.heap.size 26 iT _ 2 40 Try.underlying24 hiT.out heT.out.1 heT.out.2.2 heT.out.2.1 rfl (by decide) v40 (kidsOf xa).length css.flatten rfl (hZ4.out.2.1 _ _ _ rfl).1 ⟨v1.heap.size, 0, none⟩ 1 1 [(.string sb), (.slice ab (kidsOf xb).length cb)] rfl rfl (fun j u hu => by rw [addr_add, Nat.zero_add]; exact (hZ4.out.2.2.1 _ rfl).cell j hu) (by intro u hu; simp at hu; rcases hu with rfl | rfl <;> rfl) (by omega) (by have := hkl.out; unfold maxLen; omega) (by have := hkl.out; omega) hZ4.out.1.size _ rfl ?_
          intro g8 cap8 v5 hown8 hgrow8 hat8 hlt8
          have hZ5 : Hid (ZSt wd (.string sb) (.slice ab (kidsOf xb).length cb) v5 (some (.slice (some ⟨g8, 0, none⟩) ((kidsOf xa).length + 1) cap8, (kidsOf xa).length + 1, css.flatten ++ [(.string sb), (.slice ab (kidsOf xb).length cb)])) _ _) := ZSt.app hZ4.out hown8 hgrow8 (by rcases hat8 with q | q; exact Or.inl q.symm; exact Or.inr (by rw [q]; rfl))
          clear hown8 hgrow8 hat8 hlt8
          go_simp
          refine hK.out _ _ (GSt.cells (hG0.out.below hZ5.out.1)) (fun hHeld => ?_)
          clear hK K
          refine take_lit (i := 9) (d := 44) (v := ?_) rfl rfl (by kernel_rfl) (by kernel_rfl) (by kernel_rfl) (fun _ _ _ h => h) (Or.inl ⟨by rfl, ?_⟩) (by assumption) ?_
          rotate_left
          · (intro w hSw; (try dsimp only at hSw); first | (go_simp; done) | (go_simp; with_reducible rfl))
          simp only [List.set_cons_zero, List.set_cons_succ]
          refine wpAnyH_ready (rs := [11]) (by kernel_rfl) (by simp) ?_
          refine AllReadyH.cons rfl (fun K hK => ?_) AllReadyH.nil
          have bC := (hZ5.out.2.2.2 _ rfl).1
          have c0 := bC.cell 0 rfl
          have c1 := bC.cell 1 rfl
          have fC := bC.unfrozen
          have hF : Hid _ := ZSt.fin (sa := sa) (xb := xb) hZ5.out hsm.out hKC.out hG0.out.2.1
          clear bC
          go_simp
          refine hK.out _ _ (GSt.cells (hG0.out.below (by exact hF.out.2.2))) (fun hHeld => ?_)
          clear hK K
          refine wpAnyH_done (by kernel_rfl) ?_ _
          exact hK7 _ _ (tail_any hma' hmb' htl hsg (show Hid _ from ⟨hG0.out.below hF.out.2.2, hF.out.1, hF.out.2.1⟩) (show Hid _ from hB0.out.trans (hF.out.2.2.mono hB0.out.size)))
      · go_simp
        have hZ3a := ZSt.box hZ2.out
        obtain ⟨v3, hW3⟩ : ∃ x, x = v2.alloc (.cells #[.string ⟨#[]⟩, .slice none 0 0] 26) := ⟨_, rfl⟩
        rw [← hW3] at hZ3a
        try rw [← hW3]
        have hZ3 : Hid _ := hZ3a
        clear hZ3a hW3
        refine hK.out _ _ (GSt.cells (hG0.out.below hZ3.out.1)) (fun hHeld => ?_)
        clear hK K
        refine wpAnyH_ready (rs := [5]) (by kernel_rfl) (by simp) ?_
        refine AllReadyH.cons rfl (fun K hK => ?_) AllReadyH.nil
        refine step_append_kids rfl _ _ 24 rfl wd.heap.size 26 iT _ 40 Try.underlying24 hiT.out heT.out.1 heT.out.2.2 heT.out.2.1 rfl (.slice (some ⟨wd.heap.size, 0, none⟩) 0 0) 0 [] rfl (by simp [Value.ownBlock]) (hZ3.out.2.1 _ _ _ rfl).1 aa (kidsOf xa).length ca css.flatten rfl (by rw [kcss_len hKC.out.2.1, hKC.out.1]) (fun q => by rw [hcn.out q]; rfl) (fun ad q j u hu => cell_on hZ3.out.1 (hcN.out ad q j u hu)) hKC.out.one (by have := hkl.out; unfold maxLen; omega) (by have := hkl.out; omega) hZ3.out.1.size ?_
        intro v40 v4 hown5 hgrow5 hne5 hat5
        simp only [Nat.zero_add, List.nil_append] at hown5
        have hZ4 : Hid (ZSt wd (.string sb) (.slice ab (kidsOf xb).length cb) v4 (some (v40, (kidsOf xa).length, css.flatten)) _ _) := ZSt.app hZ3.out hown5 hgrow5 hat5
        clear hown5 hgrow5 hne5 hat5
        go_simp
        refine hK.out _ _ (GSt.cells (hG0.out.below hZ4.out.1)) (fun hHeld => ?_)
        clear hK K
        refine wpAnyH_ready (rs := [8]) (by kernel_rfl) (by simp) ?_
        refine AllReadyH.cons rfl (fun K hK => ?_) AllReadyH.nil
        refine step_append_lies v4 rfl _ _ 24 rfl wd.heap.size 26 iT _ 2 40 Try.underlying24 hiT.out heT.out.1 heT.out.2.2 heT.out.2.1 rfl (by decide) v40 (kidsOf xa).length css.flatten rfl (hZ4.out.2.1 _ _ _ rfl).1 ⟨v1.heap.size, 0, none⟩ 1 1 [(.string sb), (.slice ab (kidsOf xb).length cb)] rfl rfl (fun j u hu => by rw [addr_add, Nat.zero_add]; exact (hZ4.out.2.2.1 _ rfl).cell j hu) (by intro u hu; simp at hu; rcases hu with rfl | rfl <;> rfl) (by omega) (by have := hkl.out; unfold maxLen; omega) (by have := hkl.out; omega) hZ4.out.1.size _ rfl ?_
        intro g8 cap8 v5 hown8 hgrow8 hat8 hlt8
        have hZ5 : Hid (ZSt wd (.string sb) (.slice ab (kidsOf xb).length cb) v5 (some (.slice (some ⟨g8, 0, none⟩) ((kidsOf xa).length + 1) cap8, (kidsOf xa).length + 1, css.flatten ++ [(.string sb), (.slice ab (kidsOf xb).length cb)])) _ _) := ZSt.app hZ4.out hown8 hgrow8 (by rcases hat8 with q | q; exact Or.inl q.symm; exact Or.inr (by rw [q]; rfl))
        clear hown8 hgrow8 hat8 hlt8
        go_simp
        refine hK.out _ _ (GSt.cells (hG0.out.below hZ5.out.1)) (fun hHeld => ?_)
        clear hK K
        refine take_lit (i := 9) (d := 44) (v := ?_) rfl rfl (by kernel_rfl) (by kernel_rfl) (by kernel_rfl) (fun _ _ _ h => h) (Or.inl ⟨by rfl, ?_⟩) (by assumption) ?_
        rotate_left
        · (intro w hSw; (try dsimp only at hSw); first | (go_simp; done) | (go_simp; with_reducible rfl))
        simp only [List.set_cons_zero, List.set_cons_succ]
        refine wpAnyH_ready (rs := [11]) (by kernel_rfl) (by simp) ?_
        refine AllReadyH.cons rfl (fun K hK => ?_) AllReadyH.nil
        have bC := (hZ5.out.2.2.2 _ rfl).1
        have c0 := bC.cell 0 rfl
        have c1 := bC.cell 1 rfl
        have fC := bC.unfrozen
        have hF : Hid _ := ZSt.fin (sa := sa) (xb := xb) hZ5.out hsm.out hKC.out hG0.out.2.1
        clear bC
        go_simp
        refine hK.out _ _ (GSt.cells (hG0.out.below (by exact hF.out.2.2))) (fun hHeld => ?_)
        clear hK K
        refine wpAnyH_done (by kernel_rfl) ?_ _
        exact hK7 _ _ (tail_any hma' hmb' htl hsg (show Hid _ from ⟨hG0.out.below hF.out.2.2, hF.out.1, hF.out.2.1⟩) (show Hid _ from hB0.out.trans (hF.out.2.2.mono hB0.out.size)))
    · go_simp
      have hZ2a := ZSt.box hZ1.out
      obtain ⟨v2, hW2⟩ : ∃ x, x = v1.alloc (.cells #[.string ⟨#[]⟩, .slice none 0 0] 26) := ⟨_, rfl⟩
      rw [← hW2] at hZ2a
      try rw [← hW2]
      have hZ2 : Hid _ := hZ2a
      clear hZ2a hW2
      refine hK.out _ _ (GSt.cells (hG0.out.below hZ2.out.1)) (fun hHeld => ?_)
      clear hK K
      refine wpAnyH_ready (rs := [5, 7]) (by kernel_rfl) (by simp) ?_
      refine (AllReadyH.cons rfl (fun K hK => ?_) (AllReadyH.cons rfl (fun K hK => ?_) AllReadyH.nil))
      · refine step_append_kids rfl _ _ 24 rfl wd.heap.size 26 iT _ 40 Try.underlying24 hiT.out heT.out.1 heT.out.2.2 heT.out.2.1 rfl (.slice (some ⟨wd.heap.size, 0, none⟩) 0 0) 0 [] rfl (by simp [Value.ownBlock]) (hZ2.out.2.1 _ _ _ rfl).1 aa (kidsOf xa).length ca css.flatten rfl (by rw [kcss_len hKC.out.2.1, hKC.out.1]) (fun q => by rw [hcn.out q]; rfl) (fun ad q j u hu => cell_on hZ2.out.1 (hcN.out ad q j u hu)) hKC.out.one (by have := hkl.out; unfold maxLen; omega) (by have := hkl.out; omega) hZ2.out.1.size ?_
        intro v40 v3 hown5 hgrow5 hne5 hat5
        simp only [Nat.zero_add, List.nil_append] at hown5
        have hZ3 : Hid (ZSt wd (.string sb) (.slice ab (kidsOf xb).length cb) v3 (some (v40, (kidsOf xa).length, css.flatten)) _ _) := ZSt.app hZ2.out hown5 hgrow5 hat5
        clear hown5 hgrow5 hne5 hat5
        go_simp
        refine hK.out _ _ (GSt.cells (hG0.out.below hZ3.out.1)) (fun hHeld => ?_)
        clear hK K
        refine wpAnyH_ready (rs := [7]) (by kernel_rfl) (by simp) ?_
        refine AllReadyH.cons rfl (fun K hK => ?_) AllReadyH.nil
        go_simp
        have hZ4a := ZSt.kid hZ3.out
        obtain ⟨v4, hW4⟩ : ∃ x, x = v3.alloc (.cells #[.string sb, .slice ab (kidsOf xb).length cb] 26) := ⟨_, rfl⟩
        rw [← hW4] at hZ4a
        try rw [← hW4]
        have hZ4 : Hid _ := hZ4a
        clear hZ4a hW4
        refine hK.out _ _ (GSt.cells (hG0.out.below hZ4.out.1)) (fun hHeld => ?_)
        clear hK K
        refine wpAnyH_ready (rs := [8]) (by kernel_rfl) (by simp) ?_
        refine AllReadyH.cons rfl (fun K hK => ?_) AllReadyH.nil
        refine step_append_lies v4 rfl _ _ 24 rfl wd.heap.size 26 iT _ 2 40 Try.underlying24 hiT.out heT.out.1 heT.out.2.2 heT.out.2.1 rfl (by decide) v40 (kidsOf xa).length css.flatten rfl (hZ4.out.2.1 _ _ _ rfl).1 ⟨v3.heap.size, 0, none⟩ 1 1 [(.string sb), (.slice ab (kidsOf xb).length cb)] rfl rfl (fun j u hu => by rw [addr_add, Nat.zero_add]; exact (hZ4.out.2.2.1 _ rfl).cell j hu) (by intro u hu; simp at hu; rcases hu with rfl | rfl <;> rfl) (by omega) (by have := hkl.out; unfold maxLen; omega) (by have := hkl.out; omega) hZ4.out.1.size _ rfl ?_
        intro g8 cap8 v5 hown8 hgrow8 hat8 hlt8
        have hZ5 : Hid (ZSt wd (.string sb) (.slice ab (kidsOf xb).length cb) v5 (some (.slice (some ⟨g8, 0, none⟩) ((kidsOf xa).length + 1) cap8, (kidsOf xa).length + 1, css.flatten ++ [(.string sb), (.slice ab (kidsOf xb).length cb)])) _ _) := ZSt.app hZ4.out hown8 hgrow8 (by rcases hat8 with q | q; exact Or.inl q.symm; exact Or.inr (by rw [q]; rfl))
        clear hown8 hgrow8 hat8 hlt8
        go_simp
        refine hK.out _ _ (GSt.cells (hG0.out.below hZ5.out.1)) (fun hHeld => ?_)
        clear hK K
        refine take_lit (i := 9) (d := 44) (v := ?_) rfl rfl (by kernel_rfl) (by kernel_rfl) (by kernel_rfl) (fun _ _ _ h => h) (Or.inl ⟨by rfl, ?_⟩) (by assumption) ?_
        rotate_left
        · (intro w hSw; (try dsimp only at hSw); first | (go_simp; done) | (go_simp; with_reducible rfl))
        simp only [List.set_cons_zero, List.set_cons_succ]
        refine wpAnyH_ready (rs := [11]) (by kernel_rfl) (by simp) ?_
        refine AllReadyH.cons rfl (fun K hK => ?_) AllReadyH.nil
        have bC := (hZ5.out.2.2.2 _ rfl).1
        have c0 := bC.cell 0 rfl
        have c1 := bC.cell 1 rfl
        have fC := bC.unfrozen
        have hF : Hid _ := ZSt.fin (sa := sa) (xb := xb) hZ5.out hsm.out hKC.out hG0.out.2.1
        clear bC
        go_simp
        refine hK.out _ _ (GSt.cells (hG0.out.below (by exact hF.out.2.2))) (fun hHeld => ?_)
        clear hK K
        refine wpAnyH_done (by kernel_rfl) ?_ _
        exact hK7 _ _ (tail_any hma' hmb' htl hsg (show Hid _ from ⟨hG0.out.below hF.out.2.2, hF.out.1, hF.out.2.1⟩) (show Hid _ from hB0.out.trans (hF.out.2.2.mono hB0.out.size)))
      · go_simp
        have hZ3a := ZSt.kid hZ2.out
        obtain ⟨v3, hW3⟩ : ∃ x, x = v2.alloc (.cells #[.string sb, .slice ab (kidsOf xb).length cb] 26) := ⟨_, rfl⟩
        rw [← hW3] at hZ3a
        try rw [← hW3]
        have hZ3 : Hid _ := hZ3a
        clear hZ3a hW3
        refine hK.out _ _ (GSt.cells (hG0.out.below hZ3.out.1)) (fun hHeld => ?_)
        clear hK K
        refine wpAnyH_ready (rs := [5]) (by kernel_rfl) (by simp) ?_
        refine AllReadyH.cons rfl (fun K hK => ?_) AllReadyH.nil
        refine step_append_kids rfl _ _ 24 rfl wd.heap.size 26 iT _ 40 Try.underlying24 hiT.out heT.out.1 heT.out.2.2 heT.out.2.1 rfl (.slice (some ⟨wd.heap.size, 0, none⟩) 0 0) 0 [] rfl (by simp [Value.ownBlock]) (hZ3.out.2.1 _ _ _ rfl).1 aa (kidsOf xa).length ca css.flatten rfl (by rw [kcss_len hKC.out.2.1, hKC.out.1]) (fun q => by rw [hcn.out q]; rfl) (fun ad q j u hu => cell_on hZ3.out.1 (hcN.out ad q j u hu)) hKC.out.one (by have := hkl.out; unfold maxLen; omega) (by have := hkl.out; omega) hZ3.out.1.size ?_
        intro v40 v4 hown5 hgrow5 hne5 hat5
        simp only [Nat.zero_add, List.nil_append] at hown5
        have hZ4 : Hid (ZSt wd (.string sb) (.slice ab (kidsOf xb).length cb) v4 (some (v40, (kidsOf xa).length, css.flatten)) _ _) := ZSt.app hZ3.out hown5 hgrow5 hat5
        clear hown5 hgrow5 hne5 hat5
        go_simp
        refine hK.out _ _ (GSt.cells (hG0.out.below hZ4.out.1)) (fun hHeld => ?_)
        clear hK K
        refine wpAnyH_ready (rs := [8]) (by kernel_rfl) (by simp) ?_
        refine AllReadyH.cons rfl (fun K hK => ?_) AllReadyH.nil
        refine step_append_lies v4 rfl _ _ 24 rfl wd.heap.size 26 iT _ 2 40 Try.underlying24 hiT.out heT.out.1 heT.out.2.2 heT.out.2.1 rfl (by decide) v40 (kidsOf xa).length css.flatten rfl (hZ4.out.2.1 _ _ _ rfl).1 ⟨v2.heap.size, 0, none⟩ 1 1 [(.string sb), (.slice ab (kidsOf xb).length cb)] rfl rfl (fun j u hu => by rw [addr_add, Nat.zero_add]; exact (hZ4.out.2.2.1 _ rfl).cell j hu) (by intro u hu; simp at hu; rcases hu with rfl | rfl <;> rfl) (by omega) (by have := hkl.out; unfold maxLen; omega) (by have := hkl.out; omega) hZ4.out.1.size _ rfl ?_
        intro g8 cap8 v5 hown8 hgrow8 hat8 hlt8
        have hZ5 : Hid (ZSt wd (.string sb) (.slice ab (kidsOf xb).length cb) v5 (some (.slice (some ⟨g8, 0, none⟩) ((kidsOf xa).length + 1) cap8, (kidsOf xa).length + 1, css.flatten ++ [(.string sb), (.slice ab (kidsOf xb).length cb)])) _ _) := ZSt.app hZ4.out hown8 hgrow8 (by rcases hat8 with q | q; exact Or.inl q.symm; exact Or.inr (by rw [q]; rfl))
        clear hown8 hgrow8 hat8 hlt8
        go_simp
        refine hK.out _ _ (GSt.cells (hG0.out.below hZ5.out.1)) (fun hHeld => ?_)
        clear hK K
        refine take_lit (i := 9) (d := 44) (v := ?_) rfl rfl (by kernel_rfl) (by kernel_rfl) (by kernel_rfl) (fun _ _ _ h => h) (Or.inl ⟨by rfl, ?_⟩) (by assumption) ?_
        rotate_left
        · (intro w hSw; (try dsimp only at hSw); first | (go_simp; done) | (go_simp; with_reducible rfl))
        simp only [List.set_cons_zero, List.set_cons_succ]
        refine wpAnyH_ready (rs := [11]) (by kernel_rfl) (by simp) ?_
        refine AllReadyH.cons rfl (fun K hK => ?_) AllReadyH.nil
        have bC := (hZ5.out.2.2.2 _ rfl).1
        have c0 := bC.cell 0 rfl
        have c1 := bC.cell 1 rfl
        have fC := bC.unfrozen
        have hF : Hid _ := ZSt.fin (sa := sa) (xb := xb) hZ5.out hsm.out hKC.out hG0.out.2.1
        clear bC
        go_simp
        refine hK.out _ _ (GSt.cells (hG0.out.below (by exact hF.out.2.2))) (fun hHeld => ?_)
        clear hK K
        refine wpAnyH_done (by kernel_rfl) ?_ _
        exact hK7 _ _ (tail_any hma' hmb' htl hsg (show Hid _ from ⟨hG0.out.below hF.out.2.2, hF.out.1, hF.out.2.1⟩) (show Hid _ from hB0.out.trans (hF.out.2.2.mono hB0.out.size)))
  · go_simp
    have hZ1a := ZSt.kid hZ0.out
    obtain ⟨v1, hW1⟩ : ∃ x, x = wd.alloc (.cells #[.string sb, .slice ab (kidsOf xb).length cb] 26) := ⟨_, rfl⟩
    rw [← hW1] at hZ1a
    try rw [← hW1]
    have hZ1 : Hid _ := hZ1a
    clear hZ1a hW1
    refine hK.out _ _ (GSt.cells (hG0.out.below hZ1.out.1)) (fun hHeld => ?_)
    clear hK K
    refine wpAnyH_ready (rs := [2, 10]) (by kernel_rfl) (by simp) ?_
    refine (AllReadyH.cons rfl (fun K hK => ?_) (AllReadyH.cons rfl (fun K hK => ?_) AllReadyH.nil))
    · go_simp
      have hZ2a := ZSt.row hZ1.out
      obtain ⟨v2, hW2⟩ : ∃ x, x = v1.alloc (.cells #[] 26) := ⟨_, rfl⟩
      rw [← hW2] at hZ2a
      try rw [← hW2]
      have hZ2 : Hid _ := hZ2a
      clear hZ2a hW2
      refine hK.out _ _ (GSt.cells (hG0.out.below hZ2.out.1)) (fun hHeld => ?_)
      clear hK K
      refine wpAnyH_ready (rs := [5, 10]) (by kernel_rfl) (by simp) ?_
      refine (AllReadyH.cons rfl (fun K hK => ?_) (AllReadyH.cons rfl (fun K hK => ?_) AllReadyH.nil))
      · refine step_append_kids rfl _ _ 24 rfl wd.heap.size 26 iT _ 40 Try.underlying24 hiT.out heT.out.1 heT.out.2.2 heT.out.2.1 rfl (.slice (some ⟨v1.heap.size, 0, none⟩) 0 0) 0 [] rfl (by simp [Value.ownBlock]) (hZ2.out.2.1 _ _ _ rfl).1 aa (kidsOf xa).length ca css.flatten rfl (by rw [kcss_len hKC.out.2.1, hKC.out.1]) (fun q => by rw [hcn.out q]; rfl) (fun ad q j u hu => cell_on hZ2.out.1 (hcN.out ad q j u hu)) hKC.out.one (by have := hkl.out; unfold maxLen; omega) (by have := hkl.out; omega) hZ2.out.1.size ?_
        intro v40 v3 hown5 hgrow5 hne5 hat5
        simp only [Nat.zero_add, List.nil_append] at hown5
        have hZ3 : Hid (ZSt wd (.string sb) (.slice ab (kidsOf xb).length cb) v3 (some (v40, (kidsOf xa).length, css.flatten)) _ _) := ZSt.app hZ2.out hown5 hgrow5 hat5
        clear hown5 hgrow5 hne5 hat5
        go_simp
        refine hK.out _ _ (GSt.cells (hG0.out.below hZ3.out.1)) (fun hHeld => ?_)
        clear hK K
        refine wpAnyH_ready (rs := [8, 10]) (by kernel_rfl) (by simp) ?_
        refine (AllReadyH.cons rfl (fun K hK => ?_) (AllReadyH.cons rfl (fun K hK => ?_) AllReadyH.nil))
        · refine step_append_lies v3 rfl _ _ 24 rfl wd.heap.size 26 iT _ 2 40 Try.underlying24 hiT.out heT.out.1 heT.out.2.2 heT.out.2.1 rfl (by decide) v40 (kidsOf xa).length css.flatten rfl (hZ3.out.2.1 _ _ _ rfl).1 ⟨wd.heap.size, 0, none⟩ 1 1 [(.string sb), (.slice ab (kidsOf xb).length cb)] rfl rfl (fun j u hu => by rw [addr_add, Nat.zero_add]; exact (hZ3.out.2.2.1 _ rfl).cell j hu) (by intro u hu; simp at hu; rcases hu with rfl | rfl <;> rfl) (by omega) (by have := hkl.out; unfold maxLen; omega) (by have := hkl.out; omega) hZ3.out.1.size _ rfl ?_
          intro g8 cap8 v4 hown8 hgrow8 hat8 hlt8
          have hZ4 : Hid (ZSt wd (.string sb) (.slice ab (kidsOf xb).length cb) v4 (some (.slice (some ⟨g8, 0, none⟩) ((kidsOf xa).length + 1) cap8, (kidsOf xa).length + 1, css.flatten ++ [(.string sb), (.slice ab (kidsOf xb).length cb)])) _ _) := ZSt.app hZ3.out hown8 hgrow8 (by rcases hat8 with q | q; exact Or.inl q.symm; exact Or.inr (by rw [q]; rfl))
          clear hown8 hgrow8 hat8 hlt8
          go_simp
          refine hK.out _ _ (GSt.cells (hG0.out.below hZ4.out.1)) (fun hHeld => ?_)
          clear hK K
          refine take_lit (i := 9) (d := 44) (v := ?_) rfl rfl (by kernel_rfl) (by kernel_rfl) (by kernel_rfl) (fun _ _ _ h => h) (Or.inl ⟨by rfl, ?_⟩) (by assumption) ?_
          rotate_left
          · (intro w hSw; (try dsimp only at hSw); first | (go_simp; done) | (go_simp; with_reducible rfl))
          simp only [List.set_cons_zero, List.set_cons_succ]
          refine wpAnyH_ready (rs := [10]) (by kernel_rfl) (by simp) ?_
          refine AllReadyH.cons rfl (fun K hK => ?_) AllReadyH.nil
          go_simp
          have hZ5a := ZSt.box hZ4.out
          obtain ⟨v5, hW5⟩ : ∃ x, x = v4.alloc (.cells #[.string ⟨#[]⟩, .slice none 0 0] 26) := ⟨_, rfl⟩
          rw [← hW5] at hZ5a
          try rw [← hW5]
          have hZ5 : Hid _ := hZ5a
          clear hZ5a hW5
          refine hK.out _ _ (GSt.cells (hG0.out.below hZ5.out.1)) (fun hHeld => ?_)
          clear hK K
          refine wpAnyH_ready (rs := [11]) (by kernel_rfl) (by simp) ?_
          refine AllReadyH.cons rfl (fun K hK => ?_) AllReadyH.nil
          have bC := (hZ5.out.2.2.2 _ rfl).1
          have c0 := bC.cell 0 rfl
          have c1 := bC.cell 1 rfl
          have fC := bC.unfrozen
          have hF : Hid _ := ZSt.fin (sa := sa) (xb := xb) hZ5.out hsm.out hKC.out hG0.out.2.1
          clear bC
          go_simp
          refine hK.out _ _ (GSt.cells (hG0.out.below (by exact hF.out.2.2))) (fun hHeld => ?_)
          clear hK K
          refine wpAnyH_done (by kernel_rfl) ?_ _
          exact hK7 _ _ (tail_any hma' hmb' htl hsg (show Hid _ from ⟨hG0.out.below hF.out.2.2, hF.out.1, hF.out.2.1⟩) (show Hid _ from hB0.out.trans (hF.out.2.2.mono hB0.out.size)))
        · go_simp
          have hZ4a := ZSt.box hZ3.out
          obtain ⟨v4, hW4⟩ : ∃ x, x = v3.alloc (.cells #[.string ⟨#[]⟩, .slice none 0 0] 26) := ⟨_, rfl⟩
          rw [← hW4] at hZ4a
          try rw [← hW4]
          have hZ4 : Hid _ := hZ4a
          clear hZ4a hW4
          refine hK.out _ _ (GSt.cells (hG0.out.below hZ4.out.1)) (fun hHeld => ?_)
          clear hK K
          refine wpAnyH_ready (rs := [8]) (by kernel_rfl) (by simp) ?_
          refine AllReadyH.cons rfl (fun K hK => ?_) AllReadyH.nil
          refine step_append_lies v4 rfl _ _ 24 rfl wd.heap.size 26 iT _ 2 40 Try.underlying24 hiT.out heT.out.1 heT.out.2.2 heT.out.2.1 rfl (by decide) v40 (kidsOf xa).length css.flatten rfl (hZ4.out.2.1 _ _ _ rfl).1 ⟨wd.heap.size, 0, none⟩ 1 1 [(.string sb), (.slice ab (kidsOf xb).length cb)] rfl rfl (fun j u hu => by rw [addr_add, Nat.zero_add]; exact (hZ4.out.2.2.1 _ rfl).cell j hu) (by intro u hu; simp at hu; rcases hu with rfl | rfl <;> rfl) (by omega) (by have := hkl.out; unfold maxLen; omega) (by have := hkl.out; omega) hZ4.out.1.size _ rfl ?_
          intro g8 cap8 v5 hown8 hgrow8 hat8 hlt8
          have hZ5 : Hid (ZSt wd (.string sb) (.slice ab (kidsOf xb).length cb) v5 (some (.slice (some ⟨g8, 0, none⟩) ((kidsOf xa).length + 1) cap8, (kidsOf xa).length + 1, css.flatten ++ [(.string sb), (.slice ab (kidsOf xb).length cb)])) _ _) := ZSt.app hZ4.out hown8 hgrow8 (by rcases hat8 with q | q; exact Or.inl q.symm; exact Or.inr (by rw [q]; rfl))
          clear hown8 hgrow8 hat8 hlt8
          go_simp
          refine hK.out _ _ (GSt.cells (hG0.out.below hZ5.out.1)) (fun hHeld => ?_)
          clear hK K
          refine take_lit (i := 9) (d := 44) (v := ?_) rfl rfl (by kernel_rfl) (by kernel_rfl) (by kernel_rfl) (fun _ _ _ h => h) (Or.inl ⟨by rfl, ?_⟩) (by assumption) ?_
          rotate_left
          · (intro w hSw; (try dsimp only at hSw); first | (go_simp; done) | (go_simp; with_reducible rfl))
          simp only [List.set_cons_zero, List.set_cons_succ]
          refine wpAnyH_ready (rs := [11]) (by kernel_rfl) (by simp) ?_
          refine AllReadyH.cons rfl (fun K hK => ?_) AllReadyH.nil
          have bC := (hZ5.out.2.2.2 _ rfl).1
          have c0 := bC.cell 0 rfl
          have c1 := bC.cell 1 rfl
          have fC := bC.unfrozen
          have hF : Hid _ := ZSt.fin (sa := sa) (xb := xb) hZ5.out hsm.out hKC.out hG0.out.2.1
          clear bC
          go_simp
          refine hK.out _ _ (GSt.cells (hG0.out.below (by exact hF.out.2.2))) (fun hHeld => ?_)
          clear hK K
          refine wpAnyH_done (by kernel_rfl) ?_ _
          exact hK7 _ _ (tail_any hma' hmb' htl hsg (show Hid _ from ⟨hG0.out.below hF.out.2.2, hF.out.1, hF.out.2.1⟩) (show Hid _ from hB0.out.trans (hF.out.2.2.mono hB0.out.size)))
      · go_simp
        have hZ3a := ZSt.box hZ2.out
        obtain ⟨v3, hW3⟩ : ∃ x, x = v2.alloc (.cells #[.string ⟨#[]⟩, .slice none 0 0] 26) := ⟨_, rfl⟩
        rw [← hW3] at hZ3a
        try rw [← hW3]
        have hZ3 : Hid _ := hZ3a
        clear hZ3a hW3
        refine hK.out _ _ (GSt.cells (hG0.out.below hZ3.out.1)) (fun hHeld => ?_)
        clear hK K
        refine wpAnyH_ready (rs := [5]) (by kernel_rfl) (by simp) ?_
        refine AllReadyH.cons rfl (fun K hK => ?_) AllReadyH.nil
        refine step_append_kids rfl _ _ 24 rfl wd.heap.size 26 iT _ 40 Try.underlying24 hiT.out heT.out.1 heT.out.2.2 heT.out.2.1 rfl (.slice (some ⟨v1.heap.size, 0, none⟩) 0 0) 0 [] rfl (by simp [Value.ownBlock]) (hZ3.out.2.1 _ _ _ rfl).1 aa (kidsOf xa).length ca css.flatten rfl (by rw [kcss_len hKC.out.2.1, hKC.out.1]) (fun q => by rw [hcn.out q]; rfl) (fun ad q j u hu => cell_on hZ3.out.1 (hcN.out ad q j u hu)) hKC.out.one (by have := hkl.out; unfold maxLen; omega) (by have := hkl.out; omega) hZ3.out.1.size ?_
        intro v40 v4 hown5 hgrow5 hne5 hat5
        simp only [Nat.zero_add, List.nil_append] at hown5
        have hZ4 : Hid (ZSt wd (.string sb) (.slice ab (kidsOf xb).length cb) v4 (some (v40, (kidsOf xa).length, css.flatten)) _ _) := ZSt.app hZ3.out hown5 hgrow5 hat5
        clear hown5 hgrow5 hne5 hat5
        go_simp
        refine hK.out _ _ (GSt.cells (hG0.out.below hZ4.out.1)) (fun hHeld => ?_)
        clear hK K
        refine wpAnyH_ready (rs := [8]) (by kernel_rfl) (by simp) ?_
        refine AllReadyH.cons rfl (fun K hK => ?_) AllReadyH.nil
        refine step_append_lies v4 rfl _ _ 24 rfl wd.heap.size 26 iT _ 2 40 Try.underlying24 hiT.out heT.out.1 heT.out.2.2 heT.out.2.1 rfl (by decide) v40 (kidsOf xa).length css.flatten rfl (hZ4.out.2.1 _ _ _ rfl).1 ⟨wd.heap.size, 0, none⟩ 1 1 [(.string sb), (.slice ab (kidsOf xb).length cb)] rfl rfl (fun j u hu => by rw [addr_add, Nat.zero_add]; exact (hZ4.out.2.2.1 _ rfl).cell j hu) (by intro u hu; simp at hu; rcases hu with rfl | rfl <;> rfl) (by omega) (by have := hkl.out; unfold maxLen; omega) (by have := hkl.out; omega) hZ4.out.1.size _ rfl ?_
        intro g8 cap8 v5 hown8 hgrow8 hat8 hlt8
        have hZ5 : Hid (ZSt wd (.string sb) (.slice ab (kidsOf xb).length cb) v5 (some (.slice (some ⟨g8, 0, none⟩) ((kidsOf xa).length + 1) cap8, (kidsOf xa).length + 1, css.flatten ++ [(.string sb), (.slice ab (kidsOf xb).length cb)])) _ _) := ZSt.app hZ4.out hown8 hgrow8 (by rcases hat8 with q | q; exact Or.inl q.symm; exact Or.inr (by rw [q]; rfl))
        clear hown8 hgrow8 hat8 hlt8
        go_simp
        refine hK.out _ _ (GSt.cells (hG0.out.below hZ5.out.1)) (fun hHeld => ?_)
        clear hK K
        refine take_lit (i := 9) (d := 44) (v := ?_) rfl rfl (by kernel_rfl) (by kernel_rfl) (by kernel_rfl) (fun _ _ _ h => h) (Or.inl ⟨by rfl, ?_⟩) (by assumption) ?_
        rotate_left
        · (intro w hSw; (try dsimp only at hSw); first | (go_simp; done) | (go_simp; with_reducible rfl))
        simp only [List.set_cons_zero, List.set_cons_succ]
        refine wpAnyH_ready (rs := [11]) (by kernel_rfl) (by simp) ?_
        refine AllReadyH.cons rfl (fun K hK => ?_) AllReadyH.nil
        have bC := (hZ5.out.2.2.2 _ rfl).1
        have c0 := bC.cell 0 rfl
        have c1 := bC.cell 1 rfl
        have fC := bC.unfrozen
        have hF : Hid _ := ZSt.fin (sa := sa) (xb := xb) hZ5.out hsm.out hKC.out hG0.out.2.1
        clear bC
        go_simp
        refine hK.out _ _ (GSt.cells (hG0.out.below (by exact hF.out.2.2))) (fun hHeld => ?_)
        clear hK K
        refine wpAnyH_done (by kernel_rfl) ?_ _
        exact hK7 _ _ (tail_any hma' hmb' htl hsg (show Hid _ from ⟨hG0.out.below hF.out.2.2, hF.out.1, hF.out.2.1⟩) (show Hid _ from hB0.out.trans (hF.out.2.2.mono hB0.out.size)))
    · go_simp
      have hZ2a := ZSt.box hZ1.out
      obtain ⟨v2, hW2⟩ : ∃ x, x = v1.alloc (.cells #[.string ⟨#[]⟩, .slice none 0 0] 26) := ⟨_, rfl⟩
      rw [← hW2] at hZ2a
      try rw [← hW2]
      have hZ2 : Hid _ := hZ2a
      clear hZ2a hW2
      refine hK.out _ _ (GSt.cells (hG0.out.below hZ2.out.1)) (fun hHeld => ?_)
      clear hK K
      refine wpAnyH_ready (rs := [2]) (by kernel_rfl) (by simp) ?_
      refine AllReadyH.cons rfl (fun K hK => ?_) AllReadyH.nil
      go_simp
      have hZ3a := ZSt.row hZ2.out
      obtain ⟨v3, hW3⟩ : ∃ x, x = v2.alloc (.cells #[] 26) := ⟨_, rfl⟩
      rw [← hW3] at hZ3a
      try rw [← hW3]
      have hZ3 : Hid _ := hZ3a
      clear hZ3a hW3
      refine hK.out _ _ (GSt.cells (hG0.out.below hZ3.out.1)) (fun hHeld => ?_)
      clear hK K
      refine wpAnyH_ready (rs := [5]) (by kernel_rfl) (by simp) ?_
      refine AllReadyH.cons rfl (fun K hK => ?_) AllReadyH.nil
      refine step_append_kids rfl _ _ 24 rfl wd.heap.size 26 iT _ 40 Try.underlying24 hiT.out heT.out.1 heT.out.2.2 heT.out.2.1 rfl (.slice (some ⟨v2.heap.size, 0, none⟩) 0 0) 0 [] rfl (by simp [Value.ownBlock]) (hZ3.out.2.1 _ _ _ rfl).1 aa (kidsOf xa).length ca css.flatten rfl (by rw [kcss_len hKC.out.2.1, hKC.out.1]) (fun q => by rw [hcn.out q]; rfl) (fun ad q j u hu => cell_on hZ3.out.1 (hcN.out ad q j u hu)) hKC.out.one (by have := hkl.out; unfold maxLen; omega) (by have := hkl.out; omega) hZ3.out.1.size ?_
      intro v40 v4 hown5 hgrow5 hne5 hat5
      simp only [Nat.zero_add, List.nil_append] at hown5
      have hZ4 : Hid (ZSt wd (.string sb) (.slice ab (kidsOf xb).length cb) v4 (some (v40, (kidsOf xa).length, css.flatten)) _ _) := ZSt.app hZ3.out hown5 hgrow5 hat5
      clear hown5 hgrow5 hne5 hat5
      go_simp
      refine hK.out _ _ (GSt.cells (hG0.out.below hZ4.out.1)) (fun hHeld => ?_)
      clear hK K
      refine wpAnyH_ready (rs := [8]) (by kernel_rfl) (by simp) ?_
      refine AllReadyH.cons rfl (fun K hK => ?_) AllReadyH.nil
      refine step_append_lies v4 rfl _ _ 24 rfl wd.heap.size 26 iT _ 2 40 Try.underlying24 hiT.out heT.out.1 heT.out.2.2 heT.out.2.1 rfl (by decide) v40 (kidsOf xa).length css.flatten rfl (hZ4.out.2.1 _ _ _ rfl).1 ⟨wd.heap.size, 0, none⟩ 1 1 [(.string sb), (.slice ab (kidsOf xb).length cb)] rfl rfl (fun j u hu => by rw [addr_add, Nat.zero_add]; exact (hZ4.out.2.2.1 _ rfl).cell j hu) (by intro u hu; simp at hu; rcases hu with rfl | rfl <;> rfl) (by omega) (by have := hkl.out; unfold maxLen; omega) (by have := hkl.out; omega) hZ4.out.1.size _ rfl ?_
      intro g8 cap8 v5 hown8 hgrow8 hat8 hlt8
      have hZ5 : Hid (ZSt wd (.string sb) (.slice ab (kidsOf xb).length cb) v5 (some (.slice (some ⟨g8, 0, none⟩) ((kidsOf xa).length + 1) cap8, (kidsOf xa).length + 1, css.flatten ++ [(.string sb), (.slice ab (kidsOf xb).length cb)])) _ _) := ZSt.app hZ4.out hown8 hgrow8 (by rcases hat8 with q | q; exact Or.inl q.symm; exact Or.inr (by rw [q]; rfl))
      clear hown8 hgrow8 hat8 hlt8
      go_simp
      refine hK.out _ _ (GSt.cells (hG0.out.below hZ5.out.1)) (fun hHeld => ?_)
      clear hK K
      refine take_lit (i := 9) (d := 44) (v := ?_) rfl rfl (by kernel_rfl) (by kernel_rfl) (by kernel_rfl) (fun _ _ _ h => h) (Or.inl ⟨by rfl, ?_⟩) (by assumption) ?_
      rotate_left
      · (intro w hSw; (try dsimp only at hSw); first | (go_simp; done) | (go_simp; with_reducible rfl))
      simp only [List.set_cons_zero, List.set_cons_succ]
      refine wpAnyH_ready (rs := [11]) (by kernel_rfl) (by simp) ?_
      refine AllReadyH.cons rfl (fun K hK => ?_) AllReadyH.nil
      have bC := (hZ5.out.2.2.2 _ rfl).1
      have c0 := bC.cell 0 rfl
      have c1 := bC.cell 1 rfl
      have fC := bC.unfrozen
      have hF : Hid _ := ZSt.fin (sa := sa) (xb := xb) hZ5.out hsm.out hKC.out hG0.out.2.1
      clear bC
      go_simp
      refine hK.out _ _ (GSt.cells (hG0.out.below (by exact hF.out.2.2))) (fun hHeld => ?_)
      clear hK K
      refine wpAnyH_done (by kernel_rfl) ?_ _
      exact hK7 _ _ (tail_any hma' hmb' htl hsg (show Hid _ from ⟨hG0.out.below hF.out.2.2, hF.out.1, hF.out.2.1⟩) (show Hid _ from hB0.out.trans (hF.out.2.2.mono hB0.out.size)))
  · go_simp
    have hZ1a := ZSt.box hZ0.out
    obtain ⟨v1, hW1⟩ : ∃ x, x = wd.alloc (.cells #[.string ⟨#[]⟩, .slice none 0 0] 26) := ⟨_, rfl⟩
    rw [← hW1] at hZ1a
    try rw [← hW1]
    have hZ1 : Hid _ := hZ1a
    clear hZ1a hW1
    refine hK.out _ _ (GSt.cells (hG0.out.below hZ1.out.1)) (fun hHeld => ?_)
    clear hK K
    refine wpAnyH_ready (rs := [2, 7]) (by kernel_rfl) (by simp) ?_
    refine (AllReadyH.cons rfl (fun K hK => ?_) (AllReadyH.cons rfl (fun K hK => ?_) AllReadyH.nil))
    · go_simp
      have hZ2a := ZSt.row hZ1.out
      obtain ⟨v2, hW2⟩ : ∃ x, x = v1.alloc (.cells #[] 26) := ⟨_, rfl⟩
      rw [← hW2] at hZ2a
      try rw [← hW2]
      have hZ2 : Hid _ := hZ2a
      clear hZ2a hW2
      refine hK.out _ _ (GSt.cells (hG0.out.below hZ2.out.1)) (fun hHeld => ?_)
      clear hK K
      refine wpAnyH_ready (rs := [5, 7]) (by kernel_rfl) (by simp) ?_
      refine (AllReadyH.cons rfl (fun K hK => ?_) (AllReadyH.cons rfl (fun K hK => ?_) AllReadyH.nil))
      · refine step_append_kids rfl _ _ 24 rfl wd.heap.size 26 iT _ 40 Try.underlying24 hiT.out heT.out.1 heT.out.2.2 heT.out.2.1 rfl (.slice (some ⟨v1.heap.size, 0, none⟩) 0 0) 0 [] rfl (by simp [Value.ownBlock]) (hZ2.out.2.1 _ _ _ rfl).1 aa (kidsOf xa).length ca css.flatten rfl (by rw [kcss_len hKC.out.2.1, hKC.out.1]) (fun q => by rw [hcn.out q]; rfl) (fun ad q j u hu => cell_on hZ2.out.1 (hcN.out ad q j u hu)) hKC.out.one (by have := hkl.out; unfold maxLen; omega) (by have := hkl.out; omega) hZ2.out.1.size ?_
        intro v40 v3 hown5 hgrow5 hne5 hat5
        simp only [Nat.zero_add, List.nil_append] at hown5
        have hZ3 : Hid (ZSt wd (.string sb) (.slice ab (kidsOf xb).length cb) v3 (some (v40, (kidsOf xa).length, css.flatten)) _ _) := ZSt.app hZ2.out hown5 hgrow5 hat5
        clear hown5 hgrow5 hne5 hat5
        go_simp
        refine hK.out _ _ (GSt.cells (hG0.out.below hZ3.out.1)) (fun hHeld => ?_)
        clear hK K
        refine wpAnyH_ready (rs := [7]) (by kernel_rfl) (by simp) ?_
        refine AllReadyH.cons rfl (fun K hK => ?_) AllReadyH.nil
        go_simp
        have hZ4a := ZSt.kid hZ3.out
        obtain ⟨v4, hW4⟩ : ∃ x, x = v3.alloc (.cells #[.string sb, .slice ab (kidsOf xb).length cb] 26) := ⟨_, rfl⟩
        rw [← hW4] at hZ4a
        try rw [← hW4]
        have hZ4 : Hid _ := hZ4a
        clear hZ4a hW4
        refine hK.out _ _ (GSt.cells (hG0.out.below hZ4.out.1)) (fun hHeld => ?_)
        clear hK K
        refine wpAnyH_ready (rs := [8]) (by kernel_rfl) (by simp) ?_
        refine AllReadyH.cons rfl (fun K hK => ?_) AllReadyH.nil
        refine step_append_lies v4 rfl _ _ 24 rfl wd.heap.size 26 iT _ 2 40 Try.underlying24 hiT.out heT.out.1 heT.out.2.2 heT.out.2.1 rfl (by decide) v40 (kidsOf xa).length css.flatten rfl (hZ4.out.2.1 _ _ _ rfl).1 ⟨v3.heap.size, 0, none⟩ 1 1 [(.string sb), (.slice ab (kidsOf xb).length cb)] rfl rfl (fun j u hu => by rw [addr_add, Nat.zero_add]; exact (hZ4.out.2.2.1 _ rfl).cell j hu) (by intro u hu; simp at hu; rcases hu with rfl | rfl <;> rfl) (by omega) (by have := hkl.out; unfold maxLen; omega) (by have := hkl.out; omega) hZ4.out.1.size _ rfl ?_
        intro g8 cap8 v5 hown8 hgrow8 hat8 hlt8
        have hZ5 : Hid (ZSt wd (.string sb) (.slice ab (kidsOf xb).length cb) v5 (some (.slice (some ⟨g8, 0, none⟩) ((kidsOf xa).length + 1) cap8, (kidsOf xa).length + 1, css.flatten ++ [(.string sb), (.slice ab (kidsOf xb).length cb)])) _ _) := ZSt.app hZ4.out hown8 hgrow8 (by rcases hat8 with q | q; exact Or.inl q.symm; exact Or.inr (by rw [q]; rfl))
        clear hown8 hgrow8 hat8 hlt8
        go_simp
        refine hK.out _ _ (GSt.cells (hG0.out.below hZ5.out.1)) (fun hHeld => ?_)
        clear hK K
        refine take_lit (i := 9) (d := 44) (v := ?_) rfl rfl (by kernel_rfl) (by kernel_rfl) (by kernel_rfl) (fun _ _ _ h => h) (Or.inl ⟨by rfl, ?_⟩) (by assumption) ?_
        rotate_left
        · (intro w hSw; (try dsimp only at hSw); first | (go_simp; done) | (go_simp; with_reducible rfl))
        simp only [List.set_cons_zero, List.set_cons_succ]
        refine wpAnyH_ready (rs := [11]) (by kernel_rfl) (by simp) ?_
        refine AllReadyH.cons rfl (fun K hK => ?_) AllReadyH.nil
        have bC := (hZ5.out.2.2.2 _ rfl).1
        have c0 := bC.cell 0 rfl
        have c1 := bC.cell 1 rfl
        have fC := bC.unfrozen
        have hF : Hid _ := ZSt.fin (sa := sa) (xb := xb) hZ5.out hsm.out hKC.out hG0.out.2.1
        clear bC
        go_simp
        refine hK.out _ _ (GSt.cells (hG0.out.below (by exact hF.out.2.2))) (fun hHeld => ?_)
        clear hK K
        refine wpAnyH_done (by kernel_rfl) ?_ _
        exact hK7 _ _ (tail_any hma' hmb' htl hsg (show Hid _ from ⟨hG0.out.below hF.out.2.2, hF.out.1, hF.out.2.1⟩) (show Hid _ from hB0.out.trans (hF.out.2.2.mono hB0.out.size)))
      · go_simp
        have hZ3a := ZSt.kid hZ2.out
        obtain ⟨v3, hW3⟩ : ∃ x, x = v2.alloc (.cells #[.string sb, .slice ab (kidsOf xb).length cb] 26) := ⟨_, rfl⟩
        rw [← hW3] at hZ3a
        try rw [← hW3]
        have hZ3 : Hid _ := hZ3a
        clear hZ3a hW3
        refine hK.out _ _ (GSt.cells (hG0.out.below hZ3.out.1)) (fun hHeld => ?_)
        clear hK K
        refine wpAnyH_ready (rs := [5]) (by kernel_rfl) (by simp) ?_
        refine AllReadyH.cons rfl (fun K hK => ?_) AllReadyH.nil
        refine step_append_kids rfl _ _ 24 rfl wd.heap.size 26 iT _ 40 Try.underlying24 hiT.out heT.out.1 heT.out.2.2 heT.out.2.1 rfl (.slice (some ⟨v1.heap.size, 0, none⟩) 0 0) 0 [] rfl (by simp [Value.ownBlock]) (hZ3.out.2.1 _ _ _ rfl).1 aa (kidsOf xa).length ca css.flatten rfl (by rw [kcss_len hKC.out.2.1, hKC.out.1]) (fun q => by rw [hcn.out q]; rfl) (fun ad q j u hu => cell_on hZ3.out.1 (hcN.out ad q j u hu)) hKC.out.one (by have := hkl.out; unfold maxLen; omega) (by have := hkl.out; omega) hZ3.out.1.size ?_
        intro v40 v4 hown5 hgrow5 hne5 hat5
        simp only [Nat.zero_add, List.nil_append] at hown5
        have hZ4 : Hid (ZSt wd (.string sb) (.slice ab (kidsOf xb).length cb) v4 (some (v40, (kidsOf xa).length, css.flatten)) _ _) := ZSt.app hZ3.out hown5 hgrow5 hat5
        clear hown5 hgrow5 hne5 hat5
        go_simp
        refine hK.out _ _ (GSt.cells (hG0.out.below hZ4.out.1)) (fun hHeld => ?_)
        clear hK K
        refine wpAnyH_ready (rs := [8]) (by kernel_rfl) (by simp) ?_
        refine AllReadyH.cons rfl (fun K hK => ?_) AllReadyH.nil
        refine step_append_lies v4 rfl _ _ 24 rfl wd.heap.size 26 iT _ 2 40 Try.underlying24 hiT.out heT.out.1 heT.out.2.2 heT.out.2.1 rfl (by decide) v40 (kidsOf xa).length css.flatten rfl (hZ4.out.2.1 _ _ _ rfl).1 ⟨v2.heap.size, 0, none⟩ 1 1 [(.string sb), (.slice ab (kidsOf xb).length cb)] rfl rfl (fun j u hu => by rw [addr_add, Nat.zero_add]; exact (hZ4.out.2.2.1 _ rfl).cell j hu) (by intro u hu; simp at hu; rcases hu with rfl | rfl <;> rfl) (by omega) (by have := hkl.out; unfold maxLen; omega) (by have := hkl.out; omega) hZ4.out.1.size _ rfl ?_
        intro g8 cap8 v5 hown8 hgrow8 hat8 hlt8
        have hZ5 : Hid (ZSt wd (.string sb) (.slice ab (kidsOf xb).length cb) v5 (some (.slice (some ⟨g8, 0, none⟩) ((kidsOf xa).length + 1) cap8, (kidsOf xa).length + 1, css.flatten ++ [(.string sb), (.slice ab (kidsOf xb).length cb)])) _ _) := ZSt.app hZ4.out hown8 hgrow8 (by rcases hat8 with q | q; exact Or.inl q.symm; exact Or.inr (by rw [q]; rfl))
        clear hown8 hgrow8 hat8 hlt8
        go_simp
        refine hK.out _ _ (GSt.cells (hG0.out.below hZ5.out.1)) (fun hHeld => ?_)
        clear hK K
        refine take_lit (i := 9) (d := 44) (v := ?_) rfl rfl (by kernel_rfl) (by kernel_rfl) (by kernel_rfl) (fun _ _ _ h => h) (Or.inl ⟨by rfl, ?_⟩) (by assumption) ?_
        rotate_left
        · (intro w hSw; (try dsimp only at hSw); first | (go_simp; done) | (go_simp; with_reducible rfl))
        simp only [List.set_cons_zero, List.set_cons_succ]
        refine wpAnyH_ready (rs := [11]) (by kernel_rfl) (by simp) ?_
        refine AllReadyH.cons rfl (fun K hK => ?_) AllReadyH.nil
        have bC := (hZ5.out.2.2.2 _ rfl).1
        have c0 := bC.cell 0 rfl
        have c1 := bC.cell 1 rfl
        have fC := bC.unfrozen
        have hF : Hid _ := ZSt.fin (sa := sa) (xb := xb) hZ5.out hsm.out hKC.out hG0.out.2.1
        clear bC
        go_simp
        refine hK.out _ _ (GSt.cells (hG0.out.below (by exact hF.out.2.2))) (fun hHeld => ?_)
        clear hK K
        refine wpAnyH_done (by kernel_rfl) ?_ _
        exact hK7 _ _ (tail_any hma' hmb' htl hsg (show Hid _ from ⟨hG0.out.below hF.out.2.2, hF.out.1, hF.out.2.1⟩) (show Hid _ from hB0.out.trans (hF.out.2.2.mono hB0.out.size)))
    · go_simp
      have hZ2a := ZSt.kid hZ1.out
      obtain ⟨v2, hW2⟩ : ∃ x, x = v1.alloc (.cells #[.string sb, .slice ab (kidsOf xb).length cb] 26) := ⟨_, rfl⟩
      rw [← hW2] at hZ2a
      try rw [← hW2]
      have hZ2 : Hid _ := hZ2a
      clear hZ2a hW2
      refine hK.out _ _ (GSt.cells (hG0.out.below hZ2.out.1)) (fun hHeld => ?_)
      clear hK K
      refine wpAnyH_ready (rs := [2]) (by kernel_rfl) (by simp) ?_
      refine AllReadyH.cons rfl (fun K hK => ?_) AllReadyH.nil
      go_simp
      have hZ3a := ZSt.row hZ2.out
      obtain ⟨v3, hW3⟩ : ∃ x, x = v2.alloc (.cells #[] 26) := ⟨_, rfl⟩
      rw [← hW3] at hZ3a
      try rw [← hW3]
      have hZ3 : Hid _ := hZ3a
      clear hZ3a hW3
      refine hK.out _ _ (GSt.cells (hG0.out.below hZ3.out.1)) (fun hHeld => ?_)
      clear hK K
      refine wpAnyH_ready (rs := [5]) (by kernel_rfl) (by simp) ?_
      refine AllReadyH.cons rfl (fun K hK => ?_) AllReadyH.nil
      refine step_append_kids rfl _ _ 24 rfl wd.heap.size 26 iT _ 40 Try.underlying24 hiT.out heT.out.1 heT.out.2.2 heT.out.2.1 rfl (.slice (some ⟨v2.heap.size, 0, none⟩) 0 0) 0 [] rfl (by simp [Value.ownBlock]) (hZ3.out.2.1 _ _ _ rfl).1 aa (kidsOf xa).length ca css.flatten rfl (by rw [kcss_len hKC.out.2.1, hKC.out.1]) (fun q => by rw [hcn.out q]; rfl) (fun ad q j u hu => cell_on hZ3.out.1 (hcN.out ad q j u hu)) hKC.out.one (by have := hkl.out; unfold maxLen; omega) (by have := hkl.out; omega) hZ3.out.1.size ?_
      intro v40 v4 hown5 hgrow5 hne5 hat5
      simp only [Nat.zero_add, List.nil_append] at hown5
      have hZ4 : Hid (ZSt wd (.string sb) (.slice ab (kidsOf xb).length cb) v4 (some (v40, (kidsOf xa).length, css.flatten)) _ _) := ZSt.app hZ3.out hown5 hgrow5 hat5
      clear hown5 hgrow5 hne5 hat5
      go_simp
      refine hK.out _ _ (GSt.cells (hG0.out.below hZ4.out.1)) (fun hHeld => ?_)
      clear hK K
      refine wpAnyH_ready (rs := [8]) (by kernel_rfl) (by simp) ?_
      refine AllReadyH.cons rfl (fun K hK => ?_) AllReadyH.nil
      refine step_append_lies v4 rfl _ _ 24 rfl wd.heap.size 26 iT _ 2 40 Try.underlying24 hiT.out heT.out.1 heT.out.2.2 heT.out.2.1 rfl (by decide) v40 (kidsOf xa).length css.flatten rfl (hZ4.out.2.1 _ _ _ rfl).1 ⟨v1.heap.size, 0, none⟩ 1 1 [(.string sb), (.slice ab (kidsOf xb).length cb)] rfl rfl (fun j u hu => by rw [addr_add, Nat.zero_add]; exact (hZ4.out.2.2.1 _ rfl).cell j hu) (by intro u hu; simp at hu; rcases hu with rfl | rfl <;> rfl) (by omega) (by have := hkl.out; unfold maxLen; omega) (by have := hkl.out; omega) hZ4.out.1.size _ rfl ?_
      intro g8 cap8 v5 hown8 hgrow8 hat8 hlt8
      have hZ5 : Hid (ZSt wd (.string sb) (.slice ab (kidsOf xb).length cb) v5 (some (.slice (some ⟨g8, 0, none⟩) ((kidsOf xa).length + 1) cap8, (kidsOf xa).length + 1, css.flatten ++ [(.string sb), (.slice ab (kidsOf xb).length cb)])) _ _) := ZSt.app hZ4.out hown8 hgrow8 (by rcases hat8 with q | q; exact Or.inl q.symm; exact Or.inr (by rw [q]; rfl))
      clear hown8 hgrow8 hat8 hlt8
      go_simp
      refine hK.out _ _ (GSt.cells (hG0.out.below hZ5.out.1)) (fun hHeld => ?_)
      clear hK K
      refine take_lit (i := 9) (d := 44) (v := ?_) rfl rfl (by kernel_rfl) (by kernel_rfl) (by kernel_rfl) (fun _ _ _ h => h) (Or.inl ⟨by rfl, ?_⟩) (by assumption) ?_
      rotate_left
      · (intro w hSw; (try dsimp only at hSw); first | (go_simp; done) | (go_simp; with_reducible rfl))
      simp only [List.set_cons_zero, List.set_cons_succ]
      refine wpAnyH_ready (rs := [11]) (by kernel_rfl) (by simp) ?_
      refine AllReadyH.cons rfl (fun K hK => ?_) AllReadyH.nil
      have bC := (hZ5.out.2.2.2 _ rfl).1
      have c0 := bC.cell 0 rfl
      have c1 := bC.cell 1 rfl
      have fC := bC.unfrozen
      have hF : Hid _ := ZSt.fin (sa := sa) (xb := xb) hZ5.out hsm.out hKC.out hG0.out.2.1
      clear bC
      go_simp
      refine hK.out _ _ (GSt.cells (hG0.out.below (by exact hF.out.2.2))) (fun hHeld => ?_)
      clear hK K
      refine wpAnyH_done (by kernel_rfl) ?_ _
      exact hK7 _ _ (tail_any hma' hmb' htl hsg (show Hid _ from ⟨hG0.out.below hF.out.2.2, hF.out.1, hF.out.2.1⟩) (show Hid _ from hB0.out.trans (hF.out.2.2.mono hB0.out.size)))
end Go.Proofs.Ytapjplecdfemeaa.fnGrafted
