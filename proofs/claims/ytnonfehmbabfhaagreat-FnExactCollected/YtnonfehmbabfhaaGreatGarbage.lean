/- What nobody holds: l5Garbage of the specification, walked. -/
import Derived.Test.YtnonfehmbabfhaaGreatTrialPlain
import Derived.Test.YtnonfehmbabfhaaGreatBelow
import Derived.Test.YtnonfehmbabfhaaGreatReachedPlain
namespace Go.Proofs.YtnonfehmbabfhaaGreat
open Go.RowKit
def garbD (h : HeapD) : List Int := (idsD h).filter fun k => !hasB (belD h (rootsD h)) k
def garbL (h : HeapD) (j : Nat) : List Int := ((idsD h).take j).filter fun k => !hasB (belD h (rootsD h)) k
theorem garbL_succ {h : HeapD} {j : Nat} (hj : j < (idsD h).length) : garbL h (j + 1) = garbL h j ++ if hasB (belD h (rootsD h)) (idsD h)[j] = true then [] else [(idsD h)[j]] := by
  unfold garbL
  rw [List.take_succ_eq_append_getElem hj, List.filter_append]
  cases hp : hasB (belD h (rootsD h)) (idsD h)[j] <;> simp [hp]
theorem garbL_le (h : HeapD) (j : Nat) : (garbL h j).length ≤ j := Nat.le_trans (List.length_filter_le _ _) (by simp; omega)
set_option maxRecDepth 100000 in
set_option maxHeartbeats 4000000 in
theorem l5Garbage_any {w : World} {lo : Nat} {cs : List Value} {h : HeapD} (hh : HeapAt w lo cs h) (hs : h.small) (hp : specB h = true) :
    Calls Tryz.prog 22 #[.agg cs.toArray] w fun e w' => (∃ v, e = .returned v ∧ w'.ownsRow w.heap.size 2 1 v (garbD h).length ((garbD h).map fun n => .int .i64 n)) ∧ Below w.heap.size w w' := by
  obtain ⟨iI, hiI, heI⟩ := Option.map_eq_some_iff.1 infoI64
  simp only [Prod.mk.injEq] at heI
  have hI : Hid _ := hiI
  have hE : Hid _ := heI
  clear hiI heI
  have hh0 : Hid (HeapAt w lo cs h) := hh
  have hs' : Hid h.small := hs
  have hp' : Hid (specB h = true) := hp
  have hrt : Hid (∀ x ∈ rootsD h, x ∈ idsD h) := roots_there hp
  have hrl : Hid ((rootsD h).length ≤ 2097152) := by show _ ≤ _; have : h.vGlobals.length ≤ 1048576 := hs.2.2.1.1; simp only [rootsD, List.length_map, List.length_cons]; omega
  have him : (idsD h).length ≤ 32 := idsD_most hp
  obtain ⟨i2, i3, i4, rfl, s2, s3, s4, _⟩ := hh
  obtain ⟨a2, k2, rfl⟩ := s2.form
  obtain ⟨a3, k3, rfl⟩ := s3.form
  obtain ⟨a4, k4, rfl⟩ := s4.form
  clear s2 s3 s4 hs hp
  have hb0 : Hid (Below w.heap.size w (w.alloc (.cells (List.toArray [.int .i64 h.vNext, .int .i64 h.vDoc, .slice a2 h.vNodes.length k2, .slice a3 h.vObjs.length k3, .slice a4 h.vGlobals.length k4]) 32))) := (Below.refl _ _).alloc (Nat.le_refl _) _
  have bx0 : Hid (Box (w.alloc (.cells (List.toArray [.int .i64 h.vNext, .int .i64 h.vDoc, .slice a2 h.vNodes.length k2, .slice a3 h.vObjs.length k3, .slice a4 h.vGlobals.length k4]) 32)) w.heap.size [.int .i64 h.vNext, .int .i64 h.vDoc, .slice a2 h.vNodes.length k2, .slice a3 h.vObjs.length k3, .slice a4 h.vGlobals.length k4] 32) := Box.new w _ _
  go_enter Tryz.func22, Tryz.ntmps22
  go_wp2_with fail
  refine wp_region_held_drew (S := fun w' => w'.cell? ⟨w.heap.size, 0, none⟩ = some (.int .i64 h.vNext) ∧ w'.cell? ⟨w.heap.size, 1, none⟩ = some (.int .i64 h.vDoc) ∧ w'.cell? ⟨w.heap.size, 2, none⟩ = some (.slice a2 h.vNodes.length k2) ∧ w'.cell? ⟨w.heap.size, 3, none⟩ = some (.slice a3 h.vObjs.length k3) ∧ w'.cell? ⟨w.heap.size, 4, none⟩ = some (.slice a4 h.vGlobals.length k4)) (by kernel_rfl) ⟨bx0.out.cell 0 rfl, bx0.out.cell 1 rfl, bx0.out.cell 2 rfl, bx0.out.cell 3 rfl, bx0.out.cell 4 rfl⟩ (fun hHeld => ?_)
  refine tq (i := 0) (d := 7) ?_
  simp only [sz, ss]
  refine tq (i := 1) (d := 8) ?_
  simp only [sz, ss]
  refine wpAnyH_ready (rs := [2]) (by kernel_rfl) (by simp) ?_
  refine AllReadyH.cons rfl (fun K hK => ?_) AllReadyH.nil
  go_simp
  refine (l5Roots_any (by exact HeapAt_stays _ _ _ lo _ _ (.of_below hb0.out.drew) hh0.out) hs'.out).mono ?_
  rintro e u1 ⟨⟨g1, c1, rfl, hown1⟩, hq1⟩
  have hu1 : Hid (Below w.heap.size w u1) := hb0.out.trans ((undrew hq1).mono hb0.out.size)
  have sq1 : Hid (SeqAt 1 IntAt u1 0 (.slice (some ⟨g1, 0, none⟩) (rootsD h).length c1) (rootsD h)) := row_seq hown1 (fun x hx => idsD_in hh0.out x (hrt.out x hx))
  clear hown1
  refine hK.out _ _ ⟨cell_on hq1 hHeld.1, cell_on hq1 hHeld.2.1, cell_on hq1 hHeld.2.2.1, cell_on hq1 hHeld.2.2.2.1, cell_on hq1 hHeld.2.2.2.2⟩ (fun hHeld => ?_)
  clear hK K
  refine wpAnyH_ready (rs := [3]) (by kernel_rfl) (by simp) ?_
  refine AllReadyH.cons rfl (fun K hK => ?_) AllReadyH.nil
  go_simp
  refine (l5Below_any (by exact HeapAt_stays _ _ _ 0 _ _ (Kept.lower (Nat.zero_le _)) (HeapAt_stays _ _ _ lo _ _ (.of_below hu1.out) hh0.out)) hs'.out hp'.out sq1.out hrt.out hrl.out).mono ?_
  rintro e u2 ⟨⟨v2, rfl, hown2⟩, hq2⟩
  have hu2 : Hid (Below w.heap.size w u2) := hu1.out.trans (hq2.mono hu1.out.size)
  have bx2 : Hid (Box u2 w.heap.size [.int .i64 h.vNext, .int .i64 h.vDoc, .slice a2 h.vNodes.length k2, .slice a3 h.vObjs.length k3, .slice a4 h.vGlobals.length k4] 32) := (bx0.out.below (undrew hq1) bx0.out.lt).below hq2 (by have := (undrew hq1).size; have := bx0.out.lt; omega)
  have sq2 : Hid (SeqAt 1 IntAt u2 0 v2 (belD h (rootsD h))) := row_seq hown2 (fun x hx => (reached_in hh0.out hp'.out hs'.out hrt.out x hx).1)
  obtain ⟨al, cl, rfl⟩ := sq2.out.form
  clear hown2
  refine hK.out _ _ ⟨cell_on hq2 hHeld.1, cell_on hq2 hHeld.2.1, cell_on hq2 hHeld.2.2.1, cell_on hq2 hHeld.2.2.2.1, cell_on hq2 hHeld.2.2.2.2⟩ (fun hHeld => ?_)
  clear hK K
  refine tq (i := 4) (d := 3) ?_
  simp only [sz, ss]
  refine wpAnyH_done (by kernel_rfl) ?_ _
  have y0 := bx2.out.cell 0 rfl
  have y1 := bx2.out.cell 1 rfl
  have y2 := bx2.out.cell 2 rfl
  have y3 := bx2.out.cell 3 rfl
  have y4 := bx2.out.cell 4 rfl
  clear hHeld
  go_wp2_with fail
  refine (l5All_any (by exact HeapAt_stays _ _ _ lo _ _ (.of_below hu2.out) hh0.out) hp'.out).mono ?_
  rintro e u3 ⟨⟨v3, rfl, hown3⟩, hq3⟩
  have hu3 : Hid (Below w.heap.size w u3) := hu2.out.trans (hq3.mono hu2.out.size)
  have sq3 : Hid (SeqAt 1 IntAt u3 0 (.slice al (belD h (rootsD h)).length cl) (belD h (rootsD h))) := sq2.out.below intAt_stays hq3
  have sqa : Hid (SeqAt 1 IntAt u3 0 v3 (idsD h)) := row_seq hown3 (fun x hx => idsD_in hh0.out x hx)
  obtain ⟨aa, ca, rfl⟩ := sqa.out.form
  have hr0 : Hid ((u3.alloc (.cells #[] 2)).ownsRow u3.heap.size 2 1 (.slice (some ⟨u3.heap.size, 0, none⟩) 0 0) 0 []) := row_start (Nat.le_refl _)
  have hbe : Hid (Below u3.heap.size u3 (u3.alloc (.cells #[] 2))) := (Below.refl _ _).alloc (Nat.le_refl _) _
  clear y0 y1 y2 y3 y4 hown3 bx2 sq2 hq3
  go_wp2_with fail
  generalize (u3.alloc (.cells #[] 2)) = ue at hr0 hbe
  go_loopw [5, 6] (fun v i wr => ∃ (j : Nat), j ≤ (idsD h).length ∧ i = .int .i64 j ∧ Hid (wr.ownsRow u3.heap.size 2 1 v (garbL h j).length ((garbL h j).map fun n => .int .i64 n)) ∧ Hid (∃ g cap, v = .slice (some ⟨g, 0, none⟩) (garbL h j).length cap) ∧ Hid (Below u3.heap.size u3 wr)) (fun _ i _ => (idsD h).length - (intOf i).toNat)
  case atStart => exact ⟨0, by omega, rfl, hr0, ⟨_, _, rfl⟩, hbe⟩
  case round =>
    obtain ⟨j, hj, rfl, hown, hform, hbr⟩ := hrel
    obtain ⟨gv, capv, rfl⟩ := hform.out
    have hle := garbL_le h j
    have hzr : u3.heap.size ≤ wr.heap.size := hbr.out.size
    clear hform
    by_cases hlt : j < (idsD h).length
    · obtain ⟨a_, cap_, e_, _, hc_⟩ := sqa.out
      injection e_ with e1 e2_ e3_
      subst e1 e3_
      obtain ⟨ba, oa, rfl, _, hba, hc⟩ := hc_ (by omega)
      obtain ⟨cs_, hcl, lie, hr⟩ := hc j hlt
      have hstep : Hid (garbL h (j + 1) = garbL h j ++ if hasB (belD h (rootsD h)) (idsD h)[j] = true then [] else [(idsD h)[j]]) := garbL_succ hlt
      generalize (idsD h)[j] = id at hr hstep
      obtain ⟨rfl, hid⟩ := hr
      have z0 : wr.cell? ⟨ba, oa + j, none⟩ = some (.int .i64 id) := by have h5 := lie 0 (by simp); simp only [List.getElem?_cons_zero, Nat.add_zero, Nat.mul_one] at h5; exact cell_on hbr.out h5
      have hlt' : (j : Int) < ((idsD h).length : Int) := by omega
      have hj0 : (0 : Int) ≤ (j : Int) := by omega
      clear lie hcl hc hc_ e2_
      go_wp2_with fail
      refine (l2Has_any (sq3.out.below intAt_stays hbr.out)).mono ?_
      rintro e w_ ⟨rfl, rfl⟩
      cases hv : hasB (belD h (rootsD h)) id with
      | true =>
        have hs2 : Hid (garbL h (j + 1) = garbL h j) := by show _ = _; rw [hstep.out, if_pos hv, List.append_nil]
        clear hv hstep
        go_wp2_with fail
        go_roundw
        case rel => exact ⟨j + 1, by omega, by go_num, by rw [hs2.out]; exact hown.out, by rw [hs2.out]; exact ⟨_, _, rfl⟩, hbr⟩
        case measure => simp [intOf]; omega
      | false =>
        have hs2 : Hid (garbL h (j + 1) = garbL h j ++ [id]) := by show _ = _; rw [hstep.out, if_neg (by simp [hv])]
        obtain ⟨L, hL⟩ : ∃ L, ((garbL h j).map fun n => Value.int .i64 n) = L := ⟨_, rfl⟩
        obtain ⟨ln, hln⟩ : ∃ ln, (garbL h j).length = ln := ⟨_, rfl⟩
        have hL' : Hid _ := hL
        have hln' : Hid _ := hln
        rw [hln] at hown hle ⊢
        rw [hL] at hown
        clear hv hstep hL hln
        go_wp2_with (at_builtin; refine wpList_append_own _ rfl _ _ 33 rfl u3.heap.size 2 iI (.int .i64 0) 1 8 Tryz.underlying33 hI.out hE.out.1 hE.out.2.2 hE.out.2.1 rfl (by decide) _ ln L rfl (hown.out.alloc _) ⟨w_.heap.size, 0, none⟩ 1 1 [.int .i64 id] rfl rfl (by intro q u hq; match q, hq with | 0, hq => simp at hq; subst hq; simp [Addr.add]) (by simp [Value.oneCell']) (by unfold maxLen; omega) (by omega) (by simp; omega) ?_)
        intro v' w1' hown' hgrow hnl
        have hnn : v' ≠ .slice none 0 0 := fun q => by first | exact hnl q | (have := (hnl.1 q).2; omega)
        obtain ⟨g', cap', rfl⟩ := nonnil_row hown' hnn
        have hb4 : Hid (Below u3.heap.size u3 w1') := (hbr.out.alloc hzr _).grown hgrow (by simp; omega) (own_block hown.out)
        have hown1 : Hid (w1'.ownsRow u3.heap.size 2 1 (.slice (some ⟨g', 0, none⟩) (ln + 1) cap') (ln + 1) (L ++ [.int .i64 id])) := hown'
        have hl1 : Hid ((garbL h (j + 1)).length = ln + 1) := by show _ = _; rw [hs2.out, List.length_append, hln'.out]; rfl
        clear hown' hgrow hnn hnl
        go_wp2_with fail
        go_roundw
        case rel =>
          refine ⟨j + 1, by omega, by go_num, ?_, ?_, hb4⟩
          · show World.ownsRow _ _ _ _ _ _ _
            rw [hl1.out, hs2.out, List.map_append, hL'.out]
            exact hown1.out
          · exact ⟨_, _, by rw [hl1.out]⟩
        case measure => simp [intOf]; omega
    · obtain rfl : j = (idsD h).length := by omega
      go_wp2_with fail
      go_ret
      have q := hown.out
      have eg : garbL h (idsD h).length = garbD h := by unfold garbL garbD; rw [List.take_length]
      rw [eg] at q ⊢
      exact ⟨⟨_, rfl, World.ownsRow.mono q (by have := hu3.out.size; omega)⟩, hu3.out.trans (hbr.out.mono hu3.out.size)⟩
end Go.Proofs.YtnonfehmbabfhaaGreat
