/- FindAll of the specification, walked. -/
import Derived.Test.YtgmgbjeejlkdmaaFindPlain
import Derived.Test.YtgmgbjeejlkdmaaMatchSpecC
import Derived.Test.YtgmgbjeejlkdmaaPathsTop
namespace Go.Proofs.Ytgmgbjeejlkdmaa
open Go.RowKit
theorem two_b5s (b : Bool) : b = false ∨ b = true := by cases b <;> simp
set_option maxRecDepth 100000 in
set_option maxHeartbeats 8000000 in
theorem specFindAll_any {n : Nat} {w : World} {lo lo3 : Nat} {t k kl : Value} {d : TD} {l : List StepD} (ht : TreeAt w lo n t k d) (hl : SeqAt 2 StepAt w lo3 kl l) :
    Calls Try.prog 21 #[.agg #[t, k], kl] w fun e w' => AnsP w w' (findD (okB (szD n d 30)) n d l) e ∧ Below w.heap.size w w' := by
  obtain ⟨rfl, _⟩ := ht.tag
  obtain ⟨_, a0, cap0, rfl⟩ := ht.form
  have ht0 : Hid (TreeAt w lo n _ _ d) := ht
  have hl0 : Hid (SeqAt 2 StepAt w lo3 kl l) := hl
  obtain ⟨al, capl, rfl⟩ := hl.form
  obtain ⟨iT, hiT0, heT0, heT1, heT2⟩ := info_parts2 infoIS
  have hiT : Hid (Try.prog.info? 30 = some iT) := hiT0
  have heT : Hid (iT.zero = some (.slice none 0 0) ∧ iT.size = 1 ∧ iT.bytes = 24) := ⟨heT0, heT1, heT2⟩
  clear ht hl hiT0 heT0 heT1 heT2
  have hb2 : Hid (Below w.heap.size w ((w.alloc (.cells #[.string (strT d), .slice a0 (kidsOf d).length cap0] 26)).alloc (.cells #[] 30))) := ((Below.refl _ _).alloc (Nat.le_refl _) _).alloc (by simp) _
  have hz2 : ((w.alloc (.cells #[.string (strT d), .slice a0 (kidsOf d).length cap0] 26)).alloc (.cells #[] 30)).heap.size = w.heap.size + 2 := by simp
  have bx2 : Hid (Box ((w.alloc (.cells #[.string (strT d), .slice a0 (kidsOf d).length cap0] 26)).alloc (.cells #[] 30)) w.heap.size [.string (strT d), .slice a0 (kidsOf d).length cap0] 26) := (Box.new w _ _).alloc _
  have bo2 : Hid (Box ((w.alloc (.cells #[.string (strT d), .slice a0 (kidsOf d).length cap0] 26)).alloc (.cells #[] 30)) (w.heap.size + 1) [] 30) := by have := Box.new (w.alloc (.cells #[.string (strT d), .slice a0 (kidsOf d).length cap0] 26)) [] 30; simpa only [World.size_alloc, Hid] using this
  go_enter Try.func21, Try.ntmps21
  go_wp2_with fail
  refine (specTreeOk_any (ht0.out.below hb2.out)).mono ?_
  rintro e w3 ⟨rfl, hb3⟩
  have hB3 : Hid (Below w.heap.size w w3) := hb2.out.trans (hb3.mono hb2.out.size)
  have bx3 : Hid (Box w3 w.heap.size [.string (strT d), .slice a0 (kidsOf d).length cap0] 26) := bx2.out.below hb3 bx2.out.lt
  have bo3 : Hid (Box w3 (w.heap.size + 1) [] 30) := bo2.out.below hb3 bo2.out.lt
  clear hb3 bx2 bo2 hb2
  rcases two_b5s (okB (szD n d 30)) with hok | hok
  · have H : Hid (findD (okB (szD n d 30)) n d l = []) := findD_no (by rw [hok]; rfl)
    rw [hok]
    clear hok
    go_wp2_with fail
    go_ret
    rw [H.out]
    exact ⟨⟨_, [], rfl, ⟨_, _, rfl, ⟨Nat.zero_le _, Nat.zero_le _⟩, Or.inl ⟨rfl, rfl⟩⟩, List.nodup_nil, by simp⟩, hB3.out⟩
  have hok' : Hid (okB (szD n d 30) = true) := hok
  rw [hok]
  clear hok
  go_wp2_with fail
  refine (specSelOk_any (hl0.out.below StepAt_stays hB3.out)).mono ?_
  rintro e w4 ⟨rfl, hb4⟩
  have hB4 : Hid (Below w.heap.size w w4) := hB3.out.trans (hb4.mono hB3.out.size)
  have bx4 : Hid (Box w4 w.heap.size [.string (strT d), .slice a0 (kidsOf d).length cap0] 26) := bx3.out.below hb4 bx3.out.lt
  have bo4 : Hid (Box w4 (w.heap.size + 1) [] 30) := bo3.out.below hb4 bo3.out.lt
  clear hb4 bx3 bo3
  rcases two_b5s (selB l) with hs | hs
  · have H : Hid (findD (okB (szD n d 30)) n d l = []) := findD_no (by rw [hs]; simp)
    rw [hs]
    clear hs
    go_wp2_with fail
    go_ret
    rw [H.out]
    exact ⟨⟨_, [], rfl, ⟨_, _, rfl, ⟨Nat.zero_le _, Nat.zero_le _⟩, Or.inl ⟨rfl, rfl⟩⟩, List.nodup_nil, by simp⟩, hB4.out⟩
  have H : Hid (findD (okB (szD n d 30)) n d l = (pathsD n d []).filter (fitB d l)) := findD_yes hok'.out hs
  have hl1 : Hid (1 ≤ l.length) := selB_one hs
  have hR : Hid (RightT d) := right_of_ok2 hok'.out
  rw [hs]
  clear hs
  have c0 := bx4.out.cell 0 rfl
  have c1 := bx4.out.cell 1 rfl
  go_wp2_with fail
  refine (paS_all (w0 := w4) (lo := lo) (base := w4.heap.size) n w4 _ _ _ _ d [] [] [] [] [] (ht0.out.below hB4.out) hR.out (Below.refl _ _) (Nat.le_refl _) (Nat.le_refl _) GrowOwn.nil (seqOwn_none _) (by simp) (by have := hR.out.cntT n; simp; omega) (by have := hR.out.cntT n; simp; omega)).mono ?_
  rintro e w5 ⟨vp, bssp, cssp, rfl, hgp, hgrp, _⟩
  rw [List.nil_append] at hgp
  have hb5 : Below w4.heap.size w4 w5 := below_of_grown hgrp (Nat.le_refl _) (fun g e => by cases e)
  have hB5 : Hid (Below w.heap.size w w5) := hB4.out.trans (hb5.mono hB4.out.size)
  have bx5 : Hid (Box w5 w.heap.size [.string (strT d), .slice a0 (kidsOf d).length cap0] 26) := bx4.out.below hb5 bx4.out.lt
  have bo5 : Hid (Box w5 (w.heap.size + 1) [] 30) := bo4.out.below hb5 bo4.out.lt
  have hz4 : w.heap.size + 1 < w4.heap.size := bo4.out.lt
  have hz5 := hb5.size
  obtain ⟨fsp, hsp, hlop⟩ := hgp.done
  obtain ⟨zs, e1, e2, e3, e4, ap, capp, rfl, hcell⟩ := seq_ones hsp
  have hzl : Hid (zs.length = (pathsD n d []).length) := by show _ = _; rw [← e1, List.length_map]
  have hfew : zs.length ≤ 30 := by have h1 := hzl.out; have h2 := pathsD_len n d []; have h3 := hR.out.cntT n; omega
  have e1' : Hid (zs.map OneP.xs = pathsD n d []) := e1
  have e2' : Hid ((zs.flatMap OneP.bs).Nodup) := e2
  have e3' : Hid (∀ z ∈ zs, ∀ b ∈ z.bs, w4.heap.size ≤ b ∧ b < w5.heap.size) := fun z hz b hb => ⟨hlop b (e3 z hz b hb), (e4 z hz).lt intOwn_lt b hb⟩
  have e4' : Hid (∀ z ∈ zs, SeqOwn 1 IntOwn w5 z.k z.xs z.bs) := e4
  have hcell' : Hid (0 < (pathsD n d []).length → ∃ b off, ap = some ⟨b, off, none⟩ ∧ b < w5.heap.size ∧ ∀ i, (hi : i < zs.length) → w5.cell? ⟨b, off + i, none⟩ = some zs[i].k) := hcell
  have hpb : Hid (∀ b off, ap = some ⟨b, off, none⟩ → 0 < zs.length → w4.heap.size ≤ b) := fun b off ea h0 => by
    obtain ⟨a', cap', ek, _, hx⟩ := hsp
    rcases hx with ⟨hx0, _⟩ | ⟨b', off', ea', C, T, bss', _, _, _, hf, _⟩
    · have := hzl.out; omega
    · injection ek with ek _ _
      rw [← ek, ea] at ea'
      injection ea' with ea'
      injection ea' with ea' _
      subst ea'
      exact hlop b (by rw [hf]; exact List.mem_cons_self)
  clear hgp hgrp hb5 hsp hlop e1 e2 e3 e4 hcell bx4 bo4 c0 c1
  rw [← hzl.out]
  go_wp2_with fail
  go_loopw [5, 7] (fun v i wr => ∃ (j gv capv : Nat), j ≤ zs.length ∧ i = .int .i64 j ∧ v = .slice (some ⟨gv, 0, none⟩) (pickZ (fitB d l) zs j).length capv ∧ Hid (wr.ownsRow (w.heap.size + 1) 30 1 (.slice (some ⟨gv, 0, none⟩) (pickZ (fitB d l) zs j).length capv) (pickZ (fitB d l) zs j).length ((pickZ (fitB d l) zs j).map OneP.k)) ∧ (gv = w.heap.size + 1 ∨ w5.heap.size ≤ gv) ∧ Hid (w5.grownBy wr (some (w.heap.size + 1))) ∧ Hid (Below w.heap.size w wr) ∧ Hid (Box wr w.heap.size [.string (strT d), .slice a0 (kidsOf d).length cap0] 26)) (fun _ i _ => zs.length - (intOf i).toNat)
  case atStart => exact ⟨0, w.heap.size + 1, 0, by omega, rfl, by rw [pickZ_zero]; rfl, by rw [pickZ_zero]; exact ⟨rfl, Or.inr ⟨_, _, #[], rfl, Nat.le_refl _, bo5.out, Nat.le_refl _, Nat.zero_le _, rfl, rfl⟩⟩, Or.inl rfl, grown_ofB (Below.refl _ _), hB5, bx5⟩
  case round =>
    obtain ⟨j, gv, capv, hj, rfl, rfl, hrow, hgv, hgro, hBr, bxr⟩ := hrel
    by_cases hlt : j < zs.length
    · obtain ⟨bp, op, rfl, hbp, hcp⟩ := hcell'.out (by have := hzl.out; omega)
      have hbp4 := hpb.out bp op rfl (by omega)
      have hzc : wr.cell? ⟨bp, op + j, none⟩ = some zs[j].k := by rw [World.cell?_of_block (hgro.out.block bp hbp (fun e => by injection e; omega))]; exact hcp j hlt
      have hzm : zs[j] ∈ zs := List.getElem_mem _
      have hzo : Hid (SeqOwn 1 IntOwn wr zs[j].k zs[j].xs zs[j].bs) := seqOwn_grown intOwn_stays intOwn_lt (e4'.out _ hzm) hgro.out (fun b q e => by injection e with e; have := e3'.out _ hzm b q; omega)
      have hPok : Hid (okP d zs[j].xs = true) := by
        have hm : zs[j].xs ∈ pathsD n d [] := by rw [← e1'.out]; exact List.mem_map.2 ⟨_, hzm, rfl⟩
        obtain ⟨r, er, ho⟩ := pathsD_ok n d [] _ hm
        show _ = _
        rw [er]
        exact ho
      obtain ⟨pk, ck, ek⟩ := hzo.out.form
      have ek' : Hid (zs[j].k = .slice pk zs[j].xs.length ck) := ek
      rw [ek] at hzc
      have c0 := bxr.out.cell 0 rfl
      have c1 := bxr.out.cell 1 rfl
      have hlt0 : (j : Int) < (zs.length : Int) := by omega
      have hj0 : (0 : Int) ≤ (j : Int) := by omega
      have hzr : w.heap.size + 1 < wr.heap.size := by have := hgro.out.size; omega
      have hltA : w.heap.size < wr.heap.size := by omega
      have hbpr : bp < wr.heap.size := by have := hgro.out.size; omega
      have hpA : Hid (SeqAt 1 IntAt wr 0 (.slice pk zs[j].xs.length ck) zs[j].xs) := by rw [← ek]; exact hzo.out.at (lo := 0) intOwn_at (fun _ _ => Nat.zero_le _)
      have hcall : Hid (∀ W : World, Below wr.heap.size wr W → Calls Try.prog 42 #[.agg #[.string (strT d), .slice a0 (kidsOf d).length cap0], .slice pk zs[j].xs.length ck, .slice al l.length capl] W fun e w' => e = .returned (.bool (fitB d l zs[j].xs)) ∧ Below W.heap.size W w') := fun W hW => by
        have hBW := hBr.out.trans (hW.mono hBr.out.size)
        exact lm_all (stL l) n d zs[j].xs (l.length - 1) hPok.out W lo 0 lo3 _ _ _ _ l zs[j].xs.length (ht0.out.below hBW) (by rw [List.take_length]; exact hpA.out.below intAt_stays hW) (Nat.le_refl _) (hl0.out.below StepAt_stays hBW) (by have := hl1.out; omega) (fun i hi => (stL_get hi).symm)
      clear hcp ek
      rcases two_b5s (fitB d l zs[j].xs) with hf | hf
      · rw [hf] at hcall
        have hP : Hid (pickZ (fitB d l) zs (j + 1) = pickZ (fitB d l) zs j) := pickZ_no hlt hf
        clear hf
        go_wp2_with fail
        go_region_held3 (fun w' => w'.cell? ⟨w.heap.size, 0, none⟩ = some (.string (strT d)) ∧ w'.cell? ⟨w.heap.size, 1, none⟩ = some (.slice a0 (kidsOf d).length cap0) ∧ w'.cell? ⟨bp, op + j, none⟩ = some (.slice pk zs[j].xs.length ck)) (go_keep)
          (first | (go_at_call 42; refine (hcall.out _ (by exact Below.drew (Below.refl _ _))).mono ?_; rintro e wm ⟨rfl, hbm⟩; have hbm' : Hid (Below wr.heap.size wr wm) := undrew hbm; have bxm : Hid (Box wm w.heap.size _ _) := Box.below bxr.out hbm'.out hltA; have k0 := bxm.out.cell 0 rfl; have k1 := bxm.out.cell 1 rfl; have k2 := cell_on hbm'.out hzc; clear hbm))
        go_wp2_with fail
        go_roundw
        case rel =>
          refine ⟨j + 1, gv, capv, by omega, by go_num, by rw [hP.out], ?_, hgv, ?_, hBr.out.trans (hbm'.out.mono hBr.out.size), bxm⟩
          · rw [hP.out]; exact row_below hrow.out hbm'.out
          · exact grown_trans2 hgro.out (grown_ofB (r := none) hbm'.out) (fun _ e _ => by cases e)
        case measure => simp [intOf]; omega
      · rw [hf] at hcall
        have hP : Hid (pickZ (fitB d l) zs (j + 1) = pickZ (fitB d l) zs j ++ [zs[j]]) := pickZ_yes hlt hf
        clear hf
        go_wp2_with fail
        go_region_held3 (fun w' => w'.cell? ⟨w.heap.size, 0, none⟩ = some (.string (strT d)) ∧ w'.cell? ⟨w.heap.size, 1, none⟩ = some (.slice a0 (kidsOf d).length cap0) ∧ w'.cell? ⟨bp, op + j, none⟩ = some (.slice pk zs[j].xs.length ck)) (go_keep)
          (first | (go_at_call 42; refine (hcall.out _ (by exact Below.drew (Below.refl _ _))).mono ?_; rintro e wm ⟨rfl, hbm⟩; have hbm' : Hid (Below wr.heap.size wr wm) := undrew hbm; have bxm : Hid (Box wm w.heap.size _ _) := Box.below bxr.out hbm'.out hltA; have k0 := bxm.out.cell 0 rfl; have k1 := bxm.out.cell 1 rfl; have k2 := cell_on hbm'.out hzc; clear hbm))
        have hzm2 := hbm'.out.size
        have rowb : Hid (World.ownsRow (wm.alloc (.cells #[.slice pk zs[j].xs.length ck] 30)) (w.heap.size + 1) 30 1 (.slice (some ⟨gv, 0, none⟩) (pickZ (fitB d l) zs j).length capv) (pickZ (fitB d l) zs j).length ((pickZ (fitB d l) zs j).map OneP.k)) := row_below hrow.out (hbm'.out.alloc hbm'.out.size _)
        go_wp2_with (at_builtin; refine wpList_append_own_at _ rfl _ _ 28 rfl (w.heap.size + 1) 30 iT _ 1 24 Try.underlying28 hiT.out heT.out.1 heT.out.2.1 heT.out.2.2 rfl (by decide) (.slice (some ⟨gv, 0, none⟩) (pickZ (fitB d l) zs j).length capv) (pickZ (fitB d l) zs j).length ((pickZ (fitB d l) zs j).map OneP.k) rfl rowb.out ⟨wm.heap.size, 0, none⟩ 1 1 [.slice pk zs[j].xs.length ck] rfl rfl (by intro q u hq; match q, hq with | 0, hq => (simp at hq; subst hq; simp [Addr.add]) | q + 1, hq => simp at hq) (by intro u hu; simp at hu; subst hu; rfl) (by have := pickZ_len (fitB d l) zs j; unfold maxLen; omega) (by have := pickZ_len (fitB d l) zs j; omega) (by simp; omega) ?_; intro v2 w6 hown6 hgrow6 hnil6 hat6)
        have hown6' : Hid (w6.ownsRow (w.heap.size + 1) 30 1 v2 (pickZ (fitB d l) zs (j + 1)).length ((pickZ (fitB d l) zs (j + 1)).map OneP.k)) := by show World.ownsRow _ _ _ _ _ _ _; rw [hP.out, List.length_append, List.map_append, List.map_cons, List.map_nil, ek'.out]; exact hown6
        obtain ⟨g6, cap6, rfl⟩ : ∃ g6 cap6, v2 = .slice (some ⟨g6, 0, none⟩) (pickZ (fitB d l) zs (j + 1)).length cap6 := by
          rcases hown6'.out.2 with ⟨_, hn⟩ | ⟨g6, cap6, cur, e6, _⟩
          · rw [hP.out] at hn; simp at hn
          · exact ⟨g6, cap6, e6⟩
        have hat6' : Hid (g6 = gv ∨ g6 = wm.heap.size + 1) := by
          show _ ∨ _
          rcases hat6 with h | h
          · simp only [Value.ownBlock, Option.some.injEq] at h; exact Or.inl h
          · simp only [Value.ownBlock, Option.some.injEq, World.size_alloc] at h; exact Or.inr h
        have hgrow6' : Hid (World.grownBy (wm.alloc (.cells #[.slice pk zs[j].xs.length ck] 30)) w6 (some gv)) := hgrow6
        clear hown6 hgrow6 hnil6 hat6
        go_roundw
        case rel =>
          have hzg := hgro.out.size
          refine ⟨j + 1, g6, cap6, by omega, by go_num, rfl, hown6', ?_, ?_, ?_, ?_⟩
          · rcases hat6'.out with h | h <;> omega
          · exact grown_trans2 (grown_trans2 hgro.out (grown_ofB (r := none) (hbm'.out.alloc hbm'.out.size _)) (fun _ e _ => by cases e)) hgrow6'.out (fun q e hq => by injection e with e; subst e; rcases hgv with h | h; (rw [h]); omega)
          · exact (hBr.out.trans ((hbm'.out.alloc hbm'.out.size _).mono hBr.out.size)).trans (below_of_grown hgrow6'.out (by simp; omega) (fun q e => by injection e with e; omega))
          · exact box_grown (bxm.out.alloc _) hgrow6'.out (fun e => by injection e with e; omega)
        case measure => simp [intOf]; omega
    · obtain rfl : j = zs.length := by omega
      go_wp2_with fail
      go_ret
      have hne : ∀ z ∈ zs, ∀ b ∈ z.bs, (some (w.heap.size + 1) : Option Nat) ≠ some b := fun z hz b hb e => by injection e with e; have := e3'.out z hz b hb; omega
      obtain ⟨fs, hs, hlo⟩ := picked_own (pickZ_sub (fitB d l) zs zs.length) e2'.out e4'.out hgro.out hne (fun z hz b hb e => by simp only [Value.ownBlock, Option.some.injEq] at e; have := e3'.out z hz b hb; omega) hrow.out
      rw [H.out, ← e1'.out, ← pickZ_all]
      exact ⟨⟨_, fs, rfl, hs, hs.nodup, fun b q => by rcases hlo b q with h | ⟨z, hz, hb⟩; omega; (have := e3'.out z hz b hb; omega)⟩, hBr.out⟩
end Go.Proofs.Ytgmgbjeejlkdmaa
