/- l9Copy of the specification, walked: a copy that owns its memory. -/
import Derived.Test.YtndffcogddefiaaTreeO
import Derived.Test.YtndffcogddefiaaRightPlain
import Derived.Test.YtndffcogddefiaaGrowAppB
import Derived.Test.YtndffcogddefiaaTakeLit
import Derived.Test.YtndffcogddefiaaWayImpl
namespace Go.Proofs.Ytndffcogddefiaa
open Go.RowKit
def CpS (n : Nat) : Prop := ∀ (w : World) (lo : Nat) (t k : Value) (d : TD), TreeAt w lo n t k d → RightT d →
    Calls Try.prog 32 #[.agg #[t, k]] w fun e w' => (∃ (cs : List Value) (fs : List Nat), e = .returned (.agg cs.toArray) ∧ TreeO n w' cs d fs ∧ fs.Nodup ∧ ∀ b ∈ fs, w.heap.size ≤ b) ∧ Below w.heap.size w w'
set_option maxRecDepth 100000 in
set_option maxHeartbeats 4000000 in
theorem cpS_step (n : Nat) (ih0 : CpS n) : CpS (n + 1) := by
  intro w lo t k d ht hR
  obtain ⟨rfl, hsz⟩ := ht.tag
  obtain ⟨_, a0, cap0, rfl⟩ := ht.form
  have ih : Hid (CpS n) := ih0
  have ht0 : Hid (TreeAt w lo (n + 1) _ _ d) := ht
  have hR' : Hid (RightT d) := hR
  have hsz' : Hid ((strT d).size ≤ maxLen) := hsz
  have hfew : (kidsOf d).length ≤ 30 := hR.few
  obtain ⟨iT, hiT0, heT0, heT1, heT2⟩ := info_parts infoTree
  have hiT : Hid (Try.prog.info? 26 = some iT) := hiT0
  have heT : Hid (iT.zero = some (.agg #[.string ByteArray.empty, .slice none 0 0]) ∧ iT.size = 2 ∧ iT.bytes = 40) := ⟨heT0, heT1, heT2⟩
  clear ih0 ht hR hsz hiT0 heT0 heT1 heT2
  have hb3 : Below w.heap.size w (((w.alloc (.cells #[.string (strT d), .slice a0 (kidsOf d).length cap0] 26)).alloc (.cells #[.string ⟨#[]⟩, .slice none 0 0] 26)).alloc (.cells #[.string (strT d), .slice none 0 0] 26)) := by
    (repeat refine Below.alloc ?_ (by simp <;> omega) _)
    exact Below.refl _ _
  have hz3 : (((w.alloc (.cells #[.string (strT d), .slice a0 (kidsOf d).length cap0] 26)).alloc (.cells #[.string ⟨#[]⟩, .slice none 0 0] 26)).alloc (.cells #[.string (strT d), .slice none 0 0] 26)).heap.size = w.heap.size + 3 := by simp
  have bA0 : Hid (Box (((w.alloc (.cells #[.string (strT d), .slice a0 (kidsOf d).length cap0] 26)).alloc (.cells #[.string ⟨#[]⟩, .slice none 0 0] 26)).alloc (.cells #[.string (strT d), .slice none 0 0] 26)) (w.heap.size) [.string (strT d), .slice a0 (kidsOf d).length cap0] 26) := ((Box.new w [.string (strT d), .slice a0 (kidsOf d).length cap0] 26).alloc _).alloc _
  have bR0 : Hid (Box (((w.alloc (.cells #[.string (strT d), .slice a0 (kidsOf d).length cap0] 26)).alloc (.cells #[.string ⟨#[]⟩, .slice none 0 0] 26)).alloc (.cells #[.string (strT d), .slice none 0 0] 26)) (w.heap.size + 1) [.string ⟨#[]⟩, .slice none 0 0] 26) := by
    have q := (Box.new (w.alloc (.cells #[.string (strT d), .slice a0 (kidsOf d).length cap0] 26)) [.string ⟨#[]⟩, .slice none 0 0] 26).alloc (.cells #[.string (strT d), .slice none 0 0] 26)
    simpa only [World.size_alloc, Hid] using q
  have bT0 : Hid (Box (((w.alloc (.cells #[.string (strT d), .slice a0 (kidsOf d).length cap0] 26)).alloc (.cells #[.string ⟨#[]⟩, .slice none 0 0] 26)).alloc (.cells #[.string (strT d), .slice none 0 0] 26)) (w.heap.size + 1 + 1) [.string (strT d), .slice none 0 0] 26) := by
    have q := Box.new ((w.alloc (.cells #[.string (strT d), .slice a0 (kidsOf d).length cap0] 26)).alloc (.cells #[.string ⟨#[]⟩, .slice none 0 0] 26)) [.string (strT d), .slice none 0 0] 26
    simpa only [World.size_alloc, Hid] using q
  go_enter Try.func32, Try.ntmps32
  go_wp2_with fail
  go_loopw [4] (fun i wr => ∃ (j : Nat) (av : Option Addr) (capv : Nat) (bss : List (List Nat)) (css : List (List Value)), j ≤ (kidsOf d).length ∧ i = .int .i64 j ∧ Hid (GrowOwn 26 2 (TreeO n) (w.heap.size + 1 + 1 + 1) wr (.slice av j capv) ((kidsOf d).take j) bss css) ∧ Hid (Box wr (w.heap.size + 1 + 1) [.string (strT d), .slice av j capv] 26) ∧ Below (w.heap.size + 1 + 1) (((w.alloc (.cells #[.string (strT d), .slice a0 (kidsOf d).length cap0] 26)).alloc (.cells #[.string ⟨#[]⟩, .slice none 0 0] 26)).alloc (.cells #[.string (strT d), .slice none 0 0] 26)) wr) (fun i _ => (kidsOf d).length - (intOf i).toNat)
  case atStart => exact ⟨0, none, 0, [], [], by omega, rfl, GrowOwn.nil, bT0, Below.refl _ _⟩
  case round =>
    obtain ⟨j, av, capv, bss, css, hj, rfl, hgr, bTr, hbr⟩ := hrel
    have hsr : w.heap.size + 3 ≤ wr.heap.size := by have := bTr.out.lt; omega
    have hbw : Below w.heap.size w wr := hb3.trans (hbr.mono (by omega))
    have bAr : Hid (Box wr (w.heap.size) [.string (strT d), .slice a0 (kidsOf d).length cap0] 26) := bA0.out.below hbr (by omega)
    have bRr : Hid (Box wr (w.heap.size + 1) [.string ⟨#[]⟩, .slice none 0 0] 26) := bR0.out.below hbr (by omega)
    have hlenj : Hid (((kidsOf d).take j).length = j) := by show _ = _; simp; omega
    by_cases hlt : j < (kidsOf d).length
    · obtain ⟨bk, ok, t', k', rfl, hbk, k0, k1, htk⟩ := ht0.out.kid (p := j) hlt
      have htk0 : Hid ((kidsOf d).take (j + 1) = (kidsOf d).take j ++ [nth (kidsOf d) j]) := by show _ = _; rw [List.take_succ_eq_append_getElem hlt]; simp [nth, List.getD, List.getElem?_eq_getElem hlt]
      have hRK0 : Hid (RightT (nth (kidsOf d) j)) := hR'.out.nth hlt
      obtain ⟨rfl, _⟩ := htk.tag
      obtain ⟨_, a2, cap2, rfl⟩ := htk.form
      have htK0 : Hid (TreeAt wr lo n (.string (strT (nth (kidsOf d) j))) (.slice a2 (kidsOf (nth (kidsOf d) j)).length cap2) (nth (kidsOf d) j)) := TreeAt.below htk hbw
      have k0' : wr.cell? ⟨bk, ok + j * 2, none⟩ = some _ := (hbw.cell (p := ⟨bk, ok + j * 2, none⟩) hbk).trans k0
      have k1' : wr.cell? ⟨bk, ok + j * 2 + 1, none⟩ = some _ := (hbw.cell (p := ⟨bk, ok + j * 2 + 1, none⟩) hbk).trans k1
      generalize hK : nth (kidsOf d) j = Y at htk0 hRK0 htK0 k0' k1'
      have htk' : Hid ((kidsOf d).take (j + 1) = (kidsOf d).take j ++ [Y]) := htk0
      have hRK : Hid (RightT Y) := hRK0
      have htK : Hid (TreeAt wr lo n (.string (strT Y)) (.slice a2 (kidsOf Y).length cap2) Y) := htK0
      have hgr' : Hid (GrowOwn 26 2 (TreeO n) (w.heap.size + 1 + 1 + 1) wr (.slice av j capv) ((kidsOf d).take j) bss css) := hgr.out
      have cA1 := bAr.out.cell 1 rfl
      have hlt' : (j : Int) < ((kidsOf d).length : Int) := by omega
      have hj0 : (0 : Int) ≤ (j : Int) := by omega
      have hbkw : bk < w.heap.size := hbk
      clear k0 k1 htk hK htk0 hRK0 htK0
      have htk := htk'
      go_wp2_with fail
      refine wp_region_held_drew (S := fun w' => w'.cell? ⟨w.heap.size, 1, none⟩ = some (.slice (some ⟨bk, ok, none⟩) (kidsOf d).length cap0) ∧ w'.cell? ⟨bk, ok + j * 2, none⟩ = some (.string (strT Y)) ∧ w'.cell? ⟨bk, ok + j * 2 + 1, none⟩ = some (.slice a2 (kidsOf Y).length cap2)) (by kernel_rfl) ⟨cA1, k0', k1'⟩ (fun hHeld => ?_)
      refine tq (i := 0) (d := 15) ?_
      simp only [sz, ss]
      refine tq (i := 2) (d := 17) ?_
      simp only [sz, ss]
      refine tq (i := 3) (d := 18) ?_
      simp only [sz, ss]
      refine tq (i := 4) (d := 19) ?_
      simp only [sz, ss]
      refine tq (i := 5) (d := 20) ?_
      simp only [sz, ss]
      refine tq (i := 6) (d := 21) ?_
      simp only [sz, ss]
      refine wpAnyH_ready (rs := [1, 7]) (by kernel_rfl) (by simp) ?_
      refine (AllReadyH.cons rfl (fun K hK => ?_) (AllReadyH.cons rfl (fun K hK => ?_) AllReadyH.nil))
      · have cT : wr.drew.cell? ⟨w.heap.size + 1 + 1, 1, none⟩ = some (.slice av j capv) := bTr.out.cell 1 rfl
        go_simp
        clear cT
        refine hK.out _ _ hHeld (fun hHeld => ?_)
        clear hK K
        refine wpAnyH_ready (rs := [7]) (by kernel_rfl) (by simp) ?_
        refine AllReadyH.cons rfl (fun K hK => ?_) AllReadyH.nil
        go_simp
        refine (ih.out wr.drew lo _ _ Y (by exact TreeAt.below htK.out (Below.drew (Below.refl _ _))) hRK.out).mono ?_
        rintro e w1 ⟨⟨cs1, fs1, rfl, ho1, nd1, lo1⟩, hb1⟩
        have hb1' : Hid (Below wr.heap.size wr w1) := undrew hb1
        have hi1 : Hid (∀ b ∈ fs1, b < w1.heap.size) := TreeO_lt _ _ _ _ _ ho1
        have lo1' : Hid (∀ b ∈ fs1, wr.heap.size ≤ b) := fun b q => by have := lo1 b q; simpa using this
        have ho1' : Hid (TreeO n w1 cs1 Y fs1) := ho1
        obtain ⟨kk, rfl, hs1, _⟩ := ho1.opened
        obtain ⟨ak, ck, rfl⟩ := hs1.form
        have bT1 : Hid (Box w1 (w.heap.size + 1 + 1) [.string (strT d), .slice av j capv] 26) := bTr.out.below hb1'.out bTr.out.lt
        clear ho1 lo1 hs1
        refine hK.out _ _ ⟨cell_on hb1 hHeld.1, cell_on hb1 hHeld.2.1, cell_on hb1 hHeld.2.2⟩ (fun hHeld => ?_)
        clear hK K
        refine wpAnyH_ready (rs := [8]) (by kernel_rfl) (by simp) ?_
        refine AllReadyH.cons rfl (fun K hK => ?_) AllReadyH.nil
        have bT2 : Hid (Box (w1.alloc (.cells #[.string (strT Y), .slice ak (kidsOf Y).length ck] 26)) (w.heap.size + 1 + 1) [.string (strT d), .slice av j capv] 26) := bT1.out.alloc _
        go_simp
        refine hK.out _ _ ⟨cell_on ((Below.refl _ _).alloc (Nat.le_refl _) _) hHeld.1, cell_on ((Below.refl _ _).alloc (Nat.le_refl _) _) hHeld.2.1, cell_on ((Below.refl _ _).alloc (Nat.le_refl _) _) hHeld.2.2⟩ (fun hHeld => ?_)
        clear hK K
        refine wpAnyH_ready (rs := [9]) (by kernel_rfl) (by simp) ?_
        refine AllReadyH.cons rfl (fun K hK => ?_) AllReadyH.nil
        refine step_append_lies (w1.alloc (.cells #[.string (strT Y), .slice ak (kidsOf Y).length ck] 26)) rfl _ _ 24 rfl (w.heap.size + 1 + 1 + 1) 26 iT _ 2 40 Try.underlying24 hiT.out heT.out.1 heT.out.2.1 heT.out.2.2 rfl (by decide) (.slice av j capv) j css.flatten rfl (by have := row_below hgr'.out.2.2.2.1 (hb1'.out.alloc hb1'.out.size (.cells #[.string (strT Y), .slice ak (kidsOf Y).length ck] 26)); rw [hlenj.out] at this; exact this) ⟨w1.heap.size, 0, none⟩ 1 1 [.string (strT Y), .slice ak (kidsOf Y).length ck] rfl rfl (by intro i u hu; match i, hu with | 0, hu => (simp at hu; subst hu; simp [Addr.add]) | 1, hu => (simp at hu; subst hu; simp [Addr.add]) | i + 2, hu => simp at hu) (by intro u hu; simp at hu; rcases hu with rfl | rfl <;> rfl) (by omega) (by unfold maxLen; omega) (by omega) (by have := hb1'.out.size; simp; omega) _ rfl ?_
        intro g capg w3 hown3 hgrow3 hat3 hlt3
        have hb3 : Hid (Below (w.heap.size + 1 + 1 + 1) (w1.alloc (.cells #[.string (strT Y), .slice ak (kidsOf Y).length ck] 26)) w3) := (Below.refl _ _).grown hgrow3 (by have := hb1'.out.size; simp; omega) (fun k e => own_block2 hgr'.out.2.2.2.1 k e)
        have bT3 : Hid (Box w3 (w.heap.size + 1 + 1) [.string (strT d), .slice av j capv] 26) := bT2.out.below hb3.out (by omega)
        go_simp
        refine hK.out _ _ ⟨(hb3.out.cell (p := ⟨w.heap.size, 1, none⟩) (by simp; omega)).trans hHeld.1, (hb3.out.cell (p := ⟨bk, ok + j * 2, none⟩) (by simp; omega)).trans hHeld.2.1, (hb3.out.cell (p := ⟨bk, ok + j * 2 + 1, none⟩) (by simp; omega)).trans hHeld.2.2⟩ (fun hHeld => ?_)
        clear hK K
        refine tq (i := 10) (d := 25) ?_
        simp only [sz, ss]
        refine wpAnyH_ready (rs := [11]) (by kernel_rfl) (by simp) ?_
        refine AllReadyH.cons rfl (fun K hK => ?_) AllReadyH.nil
        have cT3 := bT3.out.cell 1 rfl
        have fT3 := bT3.out.unfrozen 1
        go_simp
        refine hK.out _ _ ⟨(World.cell?_of_block (set_other (by show w.heap.size ≠ w.heap.size + 1 + 1; omega) _)).trans hHeld.1, (World.cell?_of_block (set_other (by show bk ≠ w.heap.size + 1 + 1; omega) _)).trans hHeld.2.1, (World.cell?_of_block (set_other (by show bk ≠ w.heap.size + 1 + 1; omega) _)).trans hHeld.2.2⟩ (fun hHeld => ?_)
        clear hK K
        refine wpAnyH_done (by kernel_rfl) ?_ _
        go_wp2_with fail
        go_roundw
        case rel =>
          have hsz1 := hb1'.out.size
          have hg3 := GrowOwn.snoc (TreeO_stays n) hgr'.out (w2 := (w1.alloc (.cells #[.string (strT Y), .slice ak (kidsOf Y).length ck] 26))) (hb1'.out.alloc hsz1 _) (by omega) rfl (TreeO_stays n _ _ _ _ _ (fun b q => Below.heap_alloc _ _ _ (hi1.out b q)) ho1'.out) nd1 lo1'.out (fun b q => by have := hi1.out b q; simp; omega) (by rw [hlenj.out]) hown3 hgrow3 hat3
          refine ⟨j + 1, some ⟨g, 0, none⟩, capg, bss ++ [fs1], css ++ [[.string (strT Y), .slice ak (kidsOf Y).length ck]], by omega, by go_num, ?_, bT3.out.set (i := 1) _, ?_⟩
          · show GrowOwn _ _ _ _ _ _ _ _ _
            rw [htk.out]
            exact hg3.set (TreeO_stays n) (by omega)
          · exact (((hbr.trans (hb1'.out.mono (by omega))).alloc (by omega) _).trans (hb3.out.mono (by omega))).setCell (p := ⟨w.heap.size + 1 + 1, 1, none⟩) (Nat.le_refl _) _
        case measure => simp [intOf]; omega
      · go_simp
        refine (ih.out wr.drew lo _ _ Y (by exact TreeAt.below htK.out (Below.drew (Below.refl _ _))) hRK.out).mono ?_
        rintro e w1 ⟨⟨cs1, fs1, rfl, ho1, nd1, lo1⟩, hb1⟩
        have hb1' : Hid (Below wr.heap.size wr w1) := undrew hb1
        have hi1 : Hid (∀ b ∈ fs1, b < w1.heap.size) := TreeO_lt _ _ _ _ _ ho1
        have lo1' : Hid (∀ b ∈ fs1, wr.heap.size ≤ b) := fun b q => by have := lo1 b q; simpa using this
        have ho1' : Hid (TreeO n w1 cs1 Y fs1) := ho1
        obtain ⟨kk, rfl, hs1, _⟩ := ho1.opened
        obtain ⟨ak, ck, rfl⟩ := hs1.form
        have bT1 : Hid (Box w1 (w.heap.size + 1 + 1) [.string (strT d), .slice av j capv] 26) := bTr.out.below hb1'.out bTr.out.lt
        clear ho1 lo1 hs1
        refine hK.out _ _ ⟨cell_on hb1 hHeld.1, cell_on hb1 hHeld.2.1, cell_on hb1 hHeld.2.2⟩ (fun hHeld => ?_)
        clear hK K
        refine wpAnyH_ready (rs := [1, 8]) (by kernel_rfl) (by simp) ?_
        refine (AllReadyH.cons rfl (fun K hK => ?_) (AllReadyH.cons rfl (fun K hK => ?_) AllReadyH.nil))
        · have cT : w1.cell? ⟨w.heap.size + 1 + 1, 1, none⟩ = some (.slice av j capv) := bT1.out.cell 1 rfl
          go_simp
          clear cT
          refine hK.out _ _ hHeld (fun hHeld => ?_)
          clear hK K
          refine wpAnyH_ready (rs := [8]) (by kernel_rfl) (by simp) ?_
          refine AllReadyH.cons rfl (fun K hK => ?_) AllReadyH.nil
          have bT2 : Hid (Box (w1.alloc (.cells #[.string (strT Y), .slice ak (kidsOf Y).length ck] 26)) (w.heap.size + 1 + 1) [.string (strT d), .slice av j capv] 26) := bT1.out.alloc _
          go_simp
          refine hK.out _ _ ⟨cell_on ((Below.refl _ _).alloc (Nat.le_refl _) _) hHeld.1, cell_on ((Below.refl _ _).alloc (Nat.le_refl _) _) hHeld.2.1, cell_on ((Below.refl _ _).alloc (Nat.le_refl _) _) hHeld.2.2⟩ (fun hHeld => ?_)
          clear hK K
          refine wpAnyH_ready (rs := [9]) (by kernel_rfl) (by simp) ?_
          refine AllReadyH.cons rfl (fun K hK => ?_) AllReadyH.nil
          refine step_append_lies (w1.alloc (.cells #[.string (strT Y), .slice ak (kidsOf Y).length ck] 26)) rfl _ _ 24 rfl (w.heap.size + 1 + 1 + 1) 26 iT _ 2 40 Try.underlying24 hiT.out heT.out.1 heT.out.2.1 heT.out.2.2 rfl (by decide) (.slice av j capv) j css.flatten rfl (by have := row_below hgr'.out.2.2.2.1 (hb1'.out.alloc hb1'.out.size (.cells #[.string (strT Y), .slice ak (kidsOf Y).length ck] 26)); rw [hlenj.out] at this; exact this) ⟨w1.heap.size, 0, none⟩ 1 1 [.string (strT Y), .slice ak (kidsOf Y).length ck] rfl rfl (by intro i u hu; match i, hu with | 0, hu => (simp at hu; subst hu; simp [Addr.add]) | 1, hu => (simp at hu; subst hu; simp [Addr.add]) | i + 2, hu => simp at hu) (by intro u hu; simp at hu; rcases hu with rfl | rfl <;> rfl) (by omega) (by unfold maxLen; omega) (by omega) (by have := hb1'.out.size; simp; omega) _ rfl ?_
          intro g capg w3 hown3 hgrow3 hat3 hlt3
          have hb3 : Hid (Below (w.heap.size + 1 + 1 + 1) (w1.alloc (.cells #[.string (strT Y), .slice ak (kidsOf Y).length ck] 26)) w3) := (Below.refl _ _).grown hgrow3 (by have := hb1'.out.size; simp; omega) (fun k e => own_block2 hgr'.out.2.2.2.1 k e)
          have bT3 : Hid (Box w3 (w.heap.size + 1 + 1) [.string (strT d), .slice av j capv] 26) := bT2.out.below hb3.out (by omega)
          go_simp
          refine hK.out _ _ ⟨(hb3.out.cell (p := ⟨w.heap.size, 1, none⟩) (by simp; omega)).trans hHeld.1, (hb3.out.cell (p := ⟨bk, ok + j * 2, none⟩) (by simp; omega)).trans hHeld.2.1, (hb3.out.cell (p := ⟨bk, ok + j * 2 + 1, none⟩) (by simp; omega)).trans hHeld.2.2⟩ (fun hHeld => ?_)
          clear hK K
          refine tq (i := 10) (d := 25) ?_
          simp only [sz, ss]
          refine wpAnyH_ready (rs := [11]) (by kernel_rfl) (by simp) ?_
          refine AllReadyH.cons rfl (fun K hK => ?_) AllReadyH.nil
          have cT3 := bT3.out.cell 1 rfl
          have fT3 := bT3.out.unfrozen 1
          go_simp
          refine hK.out _ _ ⟨(World.cell?_of_block (set_other (by show w.heap.size ≠ w.heap.size + 1 + 1; omega) _)).trans hHeld.1, (World.cell?_of_block (set_other (by show bk ≠ w.heap.size + 1 + 1; omega) _)).trans hHeld.2.1, (World.cell?_of_block (set_other (by show bk ≠ w.heap.size + 1 + 1; omega) _)).trans hHeld.2.2⟩ (fun hHeld => ?_)
          clear hK K
          refine wpAnyH_done (by kernel_rfl) ?_ _
          go_wp2_with fail
          go_roundw
          case rel =>
            have hsz1 := hb1'.out.size
            have hg3 := GrowOwn.snoc (TreeO_stays n) hgr'.out (w2 := (w1.alloc (.cells #[.string (strT Y), .slice ak (kidsOf Y).length ck] 26))) (hb1'.out.alloc hsz1 _) (by omega) rfl (TreeO_stays n _ _ _ _ _ (fun b q => Below.heap_alloc _ _ _ (hi1.out b q)) ho1'.out) nd1 lo1'.out (fun b q => by have := hi1.out b q; simp; omega) (by rw [hlenj.out]) hown3 hgrow3 hat3
            refine ⟨j + 1, some ⟨g, 0, none⟩, capg, bss ++ [fs1], css ++ [[.string (strT Y), .slice ak (kidsOf Y).length ck]], by omega, by go_num, ?_, bT3.out.set (i := 1) _, ?_⟩
            · show GrowOwn _ _ _ _ _ _ _ _ _
              rw [htk.out]
              exact hg3.set (TreeO_stays n) (by omega)
            · exact (((hbr.trans (hb1'.out.mono (by omega))).alloc (by omega) _).trans (hb3.out.mono (by omega))).setCell (p := ⟨w.heap.size + 1 + 1, 1, none⟩) (Nat.le_refl _) _
          case measure => simp [intOf]; omega
        · have bT2 : Hid (Box (w1.alloc (.cells #[.string (strT Y), .slice ak (kidsOf Y).length ck] 26)) (w.heap.size + 1 + 1) [.string (strT d), .slice av j capv] 26) := bT1.out.alloc _
          go_simp
          refine hK.out _ _ ⟨cell_on ((Below.refl _ _).alloc (Nat.le_refl _) _) hHeld.1, cell_on ((Below.refl _ _).alloc (Nat.le_refl _) _) hHeld.2.1, cell_on ((Below.refl _ _).alloc (Nat.le_refl _) _) hHeld.2.2⟩ (fun hHeld => ?_)
          clear hK K
          refine wpAnyH_ready (rs := [1]) (by kernel_rfl) (by simp) ?_
          refine AllReadyH.cons rfl (fun K hK => ?_) AllReadyH.nil
          have cT : (w1.alloc (.cells #[.string (strT Y), .slice ak (kidsOf Y).length ck] 26)).cell? ⟨w.heap.size + 1 + 1, 1, none⟩ = some (.slice av j capv) := bT2.out.cell 1 rfl
          go_simp
          clear cT
          refine hK.out _ _ hHeld (fun hHeld => ?_)
          clear hK K
          refine wpAnyH_ready (rs := [9]) (by kernel_rfl) (by simp) ?_
          refine AllReadyH.cons rfl (fun K hK => ?_) AllReadyH.nil
          refine step_append_lies (w1.alloc (.cells #[.string (strT Y), .slice ak (kidsOf Y).length ck] 26)) rfl _ _ 24 rfl (w.heap.size + 1 + 1 + 1) 26 iT _ 2 40 Try.underlying24 hiT.out heT.out.1 heT.out.2.1 heT.out.2.2 rfl (by decide) (.slice av j capv) j css.flatten rfl (by have := row_below hgr'.out.2.2.2.1 (hb1'.out.alloc hb1'.out.size (.cells #[.string (strT Y), .slice ak (kidsOf Y).length ck] 26)); rw [hlenj.out] at this; exact this) ⟨w1.heap.size, 0, none⟩ 1 1 [.string (strT Y), .slice ak (kidsOf Y).length ck] rfl rfl (by intro i u hu; match i, hu with | 0, hu => (simp at hu; subst hu; simp [Addr.add]) | 1, hu => (simp at hu; subst hu; simp [Addr.add]) | i + 2, hu => simp at hu) (by intro u hu; simp at hu; rcases hu with rfl | rfl <;> rfl) (by omega) (by unfold maxLen; omega) (by omega) (by have := hb1'.out.size; simp; omega) _ rfl ?_
          intro g capg w3 hown3 hgrow3 hat3 hlt3
          have hb3 : Hid (Below (w.heap.size + 1 + 1 + 1) (w1.alloc (.cells #[.string (strT Y), .slice ak (kidsOf Y).length ck] 26)) w3) := (Below.refl _ _).grown hgrow3 (by have := hb1'.out.size; simp; omega) (fun k e => own_block2 hgr'.out.2.2.2.1 k e)
          have bT3 : Hid (Box w3 (w.heap.size + 1 + 1) [.string (strT d), .slice av j capv] 26) := bT2.out.below hb3.out (by omega)
          go_simp
          refine hK.out _ _ ⟨(hb3.out.cell (p := ⟨w.heap.size, 1, none⟩) (by simp; omega)).trans hHeld.1, (hb3.out.cell (p := ⟨bk, ok + j * 2, none⟩) (by simp; omega)).trans hHeld.2.1, (hb3.out.cell (p := ⟨bk, ok + j * 2 + 1, none⟩) (by simp; omega)).trans hHeld.2.2⟩ (fun hHeld => ?_)
          clear hK K
          refine tq (i := 10) (d := 25) ?_
          simp only [sz, ss]
          refine wpAnyH_ready (rs := [11]) (by kernel_rfl) (by simp) ?_
          refine AllReadyH.cons rfl (fun K hK => ?_) AllReadyH.nil
          have cT3 := bT3.out.cell 1 rfl
          have fT3 := bT3.out.unfrozen 1
          go_simp
          refine hK.out _ _ ⟨(World.cell?_of_block (set_other (by show w.heap.size ≠ w.heap.size + 1 + 1; omega) _)).trans hHeld.1, (World.cell?_of_block (set_other (by show bk ≠ w.heap.size + 1 + 1; omega) _)).trans hHeld.2.1, (World.cell?_of_block (set_other (by show bk ≠ w.heap.size + 1 + 1; omega) _)).trans hHeld.2.2⟩ (fun hHeld => ?_)
          clear hK K
          refine wpAnyH_done (by kernel_rfl) ?_ _
          go_wp2_with fail
          go_roundw
          case rel =>
            have hsz1 := hb1'.out.size
            have hg3 := GrowOwn.snoc (TreeO_stays n) hgr'.out (w2 := (w1.alloc (.cells #[.string (strT Y), .slice ak (kidsOf Y).length ck] 26))) (hb1'.out.alloc hsz1 _) (by omega) rfl (TreeO_stays n _ _ _ _ _ (fun b q => Below.heap_alloc _ _ _ (hi1.out b q)) ho1'.out) nd1 lo1'.out (fun b q => by have := hi1.out b q; simp; omega) (by rw [hlenj.out]) hown3 hgrow3 hat3
            refine ⟨j + 1, some ⟨g, 0, none⟩, capg, bss ++ [fs1], css ++ [[.string (strT Y), .slice ak (kidsOf Y).length ck]], by omega, by go_num, ?_, bT3.out.set (i := 1) _, ?_⟩
            · show GrowOwn _ _ _ _ _ _ _ _ _
              rw [htk.out]
              exact hg3.set (TreeO_stays n) (by omega)
            · exact (((hbr.trans (hb1'.out.mono (by omega))).alloc (by omega) _).trans (hb3.out.mono (by omega))).setCell (p := ⟨w.heap.size + 1 + 1, 1, none⟩) (Nat.le_refl _) _
          case measure => simp [intOf]; omega
    · obtain rfl : j = (kidsOf d).length := by omega
      have cT0 := bTr.out.cell 0 rfl
      have cT1 := bTr.out.cell 1 rfl
      have cA1 := bAr.out.cell 1 rfl
      have cR0 := bRr.out.cell 0 rfl
      have cR1 := bRr.out.cell 1 rfl
      have fR := bRr.out.unfrozen
      go_wp2_with fail
      have r1 := ((bRr.out.set (i := 0) (.string (strT d))).set (i := 1) (.slice av (kidsOf d).length capv)).cell 1 rfl
      have r2 := ((bRr.out.set (i := 0) (.string (strT d))).set (i := 1) (.slice av (kidsOf d).length capv)).cell 0 rfl
      refine bodyPost_ret (v := .agg #[.string (strT d), .slice av (kidsOf d).length capv]) (by simp [results, Try.results32, go_sem, r1, r2]) rfl ?_
      have hg2 := (hgr.out.set (TreeO_stays n) (g := w.heap.size + 1) (i := 0) (u := .string (strT d)) (by omega)).set (TreeO_stays n) (g := w.heap.size + 1) (i := 1) (u := .slice av (kidsOf d).length capv) (by omega)
      obtain ⟨fs, hso, hlo⟩ := hg2.done
      refine ⟨⟨[.string (strT d), .slice av (kidsOf d).length capv], fs, rfl, ⟨.slice av (kidsOf d).length capv, fs, rfl, ?_, hsz'.out, rfl⟩, hso.nodup, fun b q => by have := hlo b q; omega⟩, (hbw.setCell (p := ⟨w.heap.size + 1, 0, none⟩) (by simp) _).setCell (p := ⟨w.heap.size + 1, 1, none⟩) (by simp) _⟩
      rw [List.take_length] at hso
      exact hso
theorem cpS_all : ∀ n, CpS n := by
  intro n
  induction n with
  | zero => exact fun _ _ _ _ _ h _ => h.elim
  | succ n ih => exact cpS_step n ih
end Go.Proofs.Ytndffcogddefiaa
