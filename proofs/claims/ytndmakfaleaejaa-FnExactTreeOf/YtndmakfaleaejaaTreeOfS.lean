/- The specification's tree of a node, walked. -/
import Derived.Test.YtndmakfaleaejaaTreeOfI
namespace Go.Proofs.Ytndmakfaleaejaa
open Go.RowKit
def TreeS (h : HeapD) (n : Nat) : Prop := ∀ (id : Int) (x : NodeD) (w : World) (lo : Nat) (cs : List Value), HeapAt w lo cs h → nodeAt h id = some x → lvl h id = n →
    Calls Try.prog 47 #[.agg cs.toArray, .int .i64 id] w fun e w' => (∃ cs' fs, e = .returned (.agg cs'.toArray) ∧ TreeOwn n w' cs' (treeH h n id) fs ∧ fs.Nodup ∧ ∀ b ∈ fs, w.heap.size ≤ b) ∧ Below w.heap.size w w'
theorem cell_off {w : World} {g g' i i' : Nat} {v u : Value} (h : w.cell? ⟨g, i, none⟩ = some v) (hne : g ≠ g') : (w.setCell ⟨g', i', none⟩ u).cell? ⟨g, i, none⟩ = some v := (World.cell?_of_block (set_other hne u)).trans h
set_option maxRecDepth 100000 in
set_option maxHeartbeats 6400000 in
theorem treeS_step {h : HeapD} (hs : specB h = true) (hkk : ∀ id x, nodeAt h id = some x → x.vKids.length ≤ 1048576) {n : Nat} (ih0 : TreeS h n) : TreeS h (n + 1) := by
  intro id x w lo cs hh hx hl
  have ih : Hid (TreeS h n) := ih0
  have hh' : Hid (HeapAt w lo cs h) := hh
  have hs' : Hid (specB h = true) := hs
  have hx' : Hid (nodeAt h id = some x) := hx
  have hl' : Hid (lvl h id = n + 1) := hl
  have hkb : x.vKids.length ≤ 1048576 := hkk id x hx
  obtain ⟨k2, k3, k4, rfl, s2, s3, s4, _⟩ := hh
  obtain ⟨a2, cap2, rfl, hm2, hx2⟩ := s2
  obtain ⟨a3, cap3, rfl⟩ := s3.form
  obtain ⟨a4, cap4, rfl⟩ := s4.form
  have hat : ∃ i', ∃ hi1 : i' < h.vNodes.length, idxN h id = (i' : Int) ∧ h.vNodes[i'] = x := by
    rcases idxN_is h id with ⟨_, e⟩ | ⟨i', hi1, e1, _, e2⟩
    · rw [hx] at e; cases e
    · rw [hx] at e2; injection e2 with e2; exact ⟨i', hi1, e1, e2.symm⟩
  obtain ⟨i', hi1, hidx, hxi⟩ := hat
  obtain ⟨bN, offN, rfl, hloN, hbN, hcN⟩ := hx2 (by omega)
  obtain ⟨csn, hcln, lien, hrn⟩ := hcN i' hi1
  rw [hxi] at hrn
  obtain ⟨q3, q5, rfl, n3, n5, rId, rTag, _⟩ := hrn
  have n3' : Hid (SeqAt 1 IntAt w lo q3 x.vKids) := n3
  obtain ⟨p3, c3, rfl, hm3, hx3⟩ := n3
  obtain ⟨p5, c5, rfl⟩ := n5.form
  have hx3' : Hid _ := hx3
  have lien' : Hid (Lie w bN (offN + i' * 6) [.int .i64 x.vId, .string x.vTag, .int .i64 x.vParent, .slice p3 x.vKids.length c3, .int .i64 x.vWrapper, .slice p5 x.vListeners.length c5]) := lien
  have rTag' : Hid (x.vTag.size ≤ maxLen) := rTag
  have hloN' : Hid (lo ≤ bN ∧ bN < w.heap.size) := ⟨hloN, hbN⟩
  obtain ⟨iT, hiT0, heT0, heT1, heT2⟩ := info_parts infoTree
  have hiT : Hid (Try.prog.info? 45 = some iT) := hiT0
  have heT : Hid (iT.zero = some (.agg #[.string ByteArray.empty, .slice none 0 0]) ∧ iT.size = 2 ∧ iT.bytes = 40) := ⟨heT0, heT1, heT2⟩
  unfold maxLen at hm2
  clear ih0 hs hx hl s3 s4 hx2 hcN hcln lien hxi n5 rId rTag hx3 hm3 hiT0 heT0 heT1 heT2 hkk
  have hb2 : Below w.heap.size w ((w.alloc (.cells (List.toArray [.int .i64 h.vNext, .int .i64 h.vDoc, .slice (some ⟨bN, offN, none⟩) h.vNodes.length cap2, .slice a3 h.vObjs.length cap3, .slice a4 h.vGlobals.length cap4]) 34)).alloc (.cells #[.string ⟨#[]⟩, .slice none 0 0] 45)) := ((Below.refl _ _).alloc (Nat.le_refl _) _).alloc (by simp) _
  have hz2 : ((w.alloc (.cells (List.toArray [.int .i64 h.vNext, .int .i64 h.vDoc, .slice (some ⟨bN, offN, none⟩) h.vNodes.length cap2, .slice a3 h.vObjs.length cap3, .slice a4 h.vGlobals.length cap4]) 34)).alloc (.cells #[.string ⟨#[]⟩, .slice none 0 0] 45)).heap.size = w.heap.size + 2 := by simp
  have bH2 : Hid (Box ((w.alloc (.cells (List.toArray [.int .i64 h.vNext, .int .i64 h.vDoc, .slice (some ⟨bN, offN, none⟩) h.vNodes.length cap2, .slice a3 h.vObjs.length cap3, .slice a4 h.vGlobals.length cap4]) 34)).alloc (.cells #[.string ⟨#[]⟩, .slice none 0 0] 45)) w.heap.size [.int .i64 h.vNext, .int .i64 h.vDoc, .slice (some ⟨bN, offN, none⟩) h.vNodes.length cap2, .slice a3 h.vObjs.length cap3, .slice a4 h.vGlobals.length cap4] 34) := (Box.new w [.int .i64 h.vNext, .int .i64 h.vDoc, .slice (some ⟨bN, offN, none⟩) h.vNodes.length cap2, .slice a3 h.vObjs.length cap3, .slice a4 h.vGlobals.length cap4] 34).alloc _
  have bR2 : Hid (Box ((w.alloc (.cells (List.toArray [.int .i64 h.vNext, .int .i64 h.vDoc, .slice (some ⟨bN, offN, none⟩) h.vNodes.length cap2, .slice a3 h.vObjs.length cap3, .slice a4 h.vGlobals.length cap4]) 34)).alloc (.cells #[.string ⟨#[]⟩, .slice none 0 0] 45)) (w.heap.size + 1) [.string ⟨#[]⟩, .slice none 0 0] 45) := by
    have q := Box.new (w.alloc (.cells (List.toArray [.int .i64 h.vNext, .int .i64 h.vDoc, .slice (some ⟨bN, offN, none⟩) h.vNodes.length cap2, .slice a3 h.vObjs.length cap3, .slice a4 h.vGlobals.length cap4]) 34)) [.string ⟨#[]⟩, .slice none 0 0] 45
    simpa only [World.size_alloc, Hid] using q
  go_enter Try.func47, Try.ntmps47
  go_wp2_with fail
  generalize hW2 : ((w.alloc (.cells (List.toArray [.int .i64 h.vNext, .int .i64 h.vDoc, .slice (some ⟨bN, offN, none⟩) h.vNodes.length cap2, .slice a3 h.vObjs.length cap3, .slice a4 h.vGlobals.length cap4]) 34)).alloc (.cells #[.string ⟨#[]⟩, .slice none 0 0] 45)) = W2 at *
  clear hW2
  rename_i Q0 K0 hrest
  have key : ∀ (g : Nat) (wz : World), w.heap.size + 2 ≤ g → Below (w.heap.size + 2) W2 wz → Box wz g [.int .i64 x.vId, .string x.vTag, .int .i64 x.vParent, .slice p3 x.vKids.length c3, .int .i64 x.vWrapper, .slice p5 x.vListeners.length c5] 81 → K0 { tmps := #[.agg #[.int .i64 h.vNext, .int .i64 h.vDoc, .slice (some ⟨bN, offN, none⟩) h.vNodes.length cap2, .slice a3 h.vObjs.length cap3, .slice a4 h.vGlobals.length cap4], .int .i64 id, .pointer (some ⟨w.heap.size, 0, none⟩), undef, .pointer (some ⟨w.heap.size + 1, 0, none⟩), .pointer (some ⟨g, 0, none⟩), undef, undef, .pointer (some ⟨w.heap.size, 2, none⟩), .slice (some ⟨bN, offN, none⟩) h.vNodes.length cap2, .agg #[.int .i64 h.vNext, .int .i64 h.vDoc, .slice (some ⟨bN, offN, none⟩) h.vNodes.length cap2, .slice a3 h.vObjs.length cap3, .slice a4 h.vGlobals.length cap4], .int .i64 id, .int .i64 (i' : Int), .pointer (some ⟨bN, offN + i' * 6, none⟩), .agg #[.int .i64 x.vId, .string x.vTag, .int .i64 x.vParent, .slice p3 x.vKids.length c3, .int .i64 x.vWrapper, .slice p5 x.vListeners.length c5], undef, undef, undef, undef, undef, undef, undef, undef, undef, undef, undef, undef, undef, undef, undef, undef, undef, undef, undef, undef, undef, undef, undef], defers := [] } wz := by
    intro g wz hg hbz bG
    have bG' : Hid (Box wz g [.int .i64 x.vId, .string x.vTag, .int .i64 x.vParent, .slice p3 x.vKids.length c3, .int .i64 x.vWrapper, .slice p5 x.vListeners.length c5] 81) := bG
    have hglt := bG.lt
    have bHz : Hid (Box wz w.heap.size [.int .i64 h.vNext, .int .i64 h.vDoc, .slice (some ⟨bN, offN, none⟩) h.vNodes.length cap2, .slice a3 h.vObjs.length cap3, .slice a4 h.vGlobals.length cap4] 34) := bH2.out.below hbz (by omega)
    have bRz : Hid (Box wz (w.heap.size + 1) [.string ⟨#[]⟩, .slice none 0 0] 45) := bR2.out.below hbz (by omega)
    have hbwz : Below w.heap.size w wz := hb2.trans (hbz.mono (by omega))
    have cG1 := bG.cell 1 rfl
    refine hrest _ _ ?_
    have bT0 : Hid (Box (wz.alloc (.cells #[.string x.vTag, .slice none 0 0] 45)) wz.heap.size [.string x.vTag, .slice none 0 0] 45) := Box.new wz _ _
    clear bG hrest
    go_wp2_with fail
    go_loopw [7] (fun i wr => ∃ (j : Nat) (vv : Value) (bss : List (List Nat)) (css : List (List Value)), j ≤ x.vKids.length ∧ i = .int .i64 j ∧ Hid (GrowOwn 45 2 (TreeOwn n) (wz.heap.size + 1) wr vv ((x.vKids.take j).map (treeH h n)) bss css) ∧ Hid (Box wr wz.heap.size [.string x.vTag, vv] 45) ∧ Below wz.heap.size (wz.alloc (.cells #[.string x.vTag, .slice none 0 0] 45)) wr) (fun i _ => x.vKids.length - (intOf i).toNat)
    case atStart => exact ⟨0, _, [], [], by omega, rfl, GrowOwn.nil, bT0, Below.refl _ _⟩
    case round =>
      obtain ⟨j, vv, bss, css, hj, rfl, hgr, bTr, hbr⟩ := hrel
      have hsr : wz.heap.size + 1 ≤ wr.heap.size := bTr.out.lt
      have hbzr : Below wz.heap.size wz wr := ((Below.refl _ _).alloc (Nat.le_refl _) _).trans hbr
      have hbw : Below w.heap.size w wr := hbwz.trans (hbzr.mono hbwz.size)
      have bHr := bHz.out.below hbzr bHz.out.lt
      have bRr : Hid (Box wr (w.heap.size + 1) [.string ⟨#[]⟩, .slice none 0 0] 45) := bRz.out.below hbzr bRz.out.lt
      have bGr := bG'.out.below hbzr hglt
      have cG3 := bGr.cell 3 rfl
      have hlen : ((x.vKids.take j).map (treeH h n)).length = j := by simp; omega
      have hlenj : Hid (((x.vKids.take j).map (treeH h n)).length = j) := hlen
      obtain ⟨av, capv, hvv⟩ := own_forms hgr.out.2.2.2.1
      rw [hlen] at hvv
      subst hvv
      by_cases hlt : j < x.vKids.length
      · obtain ⟨bk, offk, rfl, hlo, hbk, hc⟩ := hx3'.out (by omega)
        obtain ⟨cs, hcl, lie, hr⟩ := hc j (by omega)
        have lie1 := Lie.keep (lo := lo) (lo' := lo) lie (.of_below hbw) hlo hbk
        obtain ⟨y, hy1, hy2⟩ := kids_there hs'.out hx'.out x.vKids[j] (List.getElem_mem _)
        have hyat : Hid (nodeAt h x.vKids[j] = some y) := hy1
        have hlv : Hid (lvl h x.vKids[j] = n) := by
          show _ = _
          have q1 := lvl_kid hs'.out hy1 hy2
          have q2 := hl'.out
          omega
        have hnpos : 0 < n := by have := lvl_pos h x.vKids[j]; have := hlv.out; omega
        have htk : Hid (x.vKids.take (j + 1) = x.vKids.take j ++ [x.vKids[j]]) := List.take_succ_eq_append_getElem (by omega)
        generalize hQ0 : x.vKids[j] = Q at hr hyat hlv htk
        obtain ⟨rfl, hI⟩ := hr
        have z0 := lie_at lie1 0 rfl
        simp only [Nat.add_zero, Nat.mul_one] at z0
        have hgr' : Hid (GrowOwn 45 2 (TreeOwn n) (wz.heap.size + 1) wr (.slice av j capv) ((x.vKids.take j).map (treeH h n)) bss css) := hgr.out
        have hlt' : (j : Int) < (x.vKids.length : Int) := by omega
        have hj0 : (0 : Int) ≤ (j : Int) := by omega
        have hwz := hbwz.size
        clear lie lie1 hcl hc hx3' hy1 hy2 hQ0 hlen
        go_wp2_with fail
        refine wp_region_held_drew (S := fun w' => w'.cell? ⟨w.heap.size, 0, none⟩ = some (.int .i64 h.vNext) ∧ w'.cell? ⟨w.heap.size, 1, none⟩ = some (.int .i64 h.vDoc) ∧ w'.cell? ⟨w.heap.size, 2, none⟩ = some (.slice (some ⟨bN, offN, none⟩) h.vNodes.length cap2) ∧ w'.cell? ⟨w.heap.size, 3, none⟩ = some (.slice a3 h.vObjs.length cap3) ∧ w'.cell? ⟨w.heap.size, 4, none⟩ = some (.slice a4 h.vGlobals.length cap4) ∧ w'.cell? ⟨g, 3, none⟩ = some (.slice (some ⟨bk, offk, none⟩) x.vKids.length c3) ∧ w'.cell? ⟨bk, offk + j, none⟩ = some (.int .i64 Q)) (by kernel_rfl) ⟨bHr.cell 0 rfl, bHr.cell 1 rfl, bHr.cell 2 rfl, bHr.cell 3 rfl, bHr.cell 4 rfl, bGr.cell 3 rfl, z0⟩ (fun hHeld => ?_)
        refine take_lit (i := 0) (d := 25) (v := ?_) rfl rfl (by kernel_rfl) (by kernel_rfl) (by kernel_rfl) (fun _ _ _ h => h) (Or.inl ⟨by rfl, ?_⟩) (by assumption) ?_
        rotate_left
        · (intro w hSw; (try dsimp only at hSw); first | (go_simp; done) | (go_simp; with_reducible rfl))
        simp only [List.set_cons_zero, List.set_cons_succ]
        refine take_lit (i := 2) (d := 27) (v := ?_) rfl rfl (by kernel_rfl) (by kernel_rfl) (by kernel_rfl) (fun _ _ _ h => h) (Or.inl ⟨by rfl, ?_⟩) (by assumption) ?_
        rotate_left
        · (intro w hSw; (try dsimp only at hSw); first | (go_simp; done) | (go_simp; with_reducible rfl))
        simp only [List.set_cons_zero, List.set_cons_succ]
        refine take_lit (i := 3) (d := 28) (v := ?_) rfl rfl (by kernel_rfl) (by kernel_rfl) (by kernel_rfl) (fun _ _ _ h => h) (Or.inl ⟨by rfl, ?_⟩) (by assumption) ?_
        rotate_left
        · (intro w hSw; (try dsimp only at hSw); first | (go_simp; done) | (go_simp; with_reducible rfl))
        simp only [List.set_cons_zero, List.set_cons_succ]
        refine take_lit (i := 4) (d := 29) (v := ?_) rfl rfl (by kernel_rfl) (by kernel_rfl) (by kernel_rfl) (fun _ _ _ h => h) (Or.inl ⟨by rfl, ?_⟩) (by assumption) ?_
        rotate_left
        · (intro w hSw; (try dsimp only at hSw); first | (go_simp; done) | (go_simp; with_reducible rfl))
        simp only [List.set_cons_zero, List.set_cons_succ]
        refine take_lit (i := 5) (d := 30) (v := ?_) rfl rfl (by kernel_rfl) (by kernel_rfl) (by kernel_rfl) (fun _ _ _ h => h) (Or.inl ⟨by rfl, ?_⟩) (by assumption) ?_
        rotate_left
        · (intro w hSw; (try dsimp only at hSw); first | (go_simp; done) | (go_simp; with_reducible rfl))
        simp only [List.set_cons_zero, List.set_cons_succ]
        refine take_lit (i := 6) (d := 31) (v := ?_) rfl rfl (by kernel_rfl) (by kernel_rfl) (by kernel_rfl) (fun _ _ _ h => h) (Or.inl ⟨by rfl, ?_⟩) (by assumption) ?_
        rotate_left
        · (intro w hSw; (try dsimp only at hSw); first | (go_simp; done) | (go_simp; with_reducible rfl))
        simp only [List.set_cons_zero, List.set_cons_succ]
        refine take_lit (i := 7) (d := 32) (v := ?_) rfl rfl (by kernel_rfl) (by kernel_rfl) (by kernel_rfl) (fun _ _ _ h => h) (Or.inl ⟨by rfl, ?_⟩) (by assumption) ?_
        rotate_left
        · (intro w hSw; (try dsimp only at hSw); first | (go_simp; done) | (go_simp; with_reducible rfl))
        simp only [List.set_cons_zero, List.set_cons_succ]
        refine wpAnyH_ready (rs := [1, 8]) (by kernel_rfl) (by simp) ?_
        refine (AllReadyH.cons rfl (fun K hK => ?_) (AllReadyH.cons rfl (fun K hK => ?_) AllReadyH.nil))
        · have cT : wr.drew.cell? ⟨wz.heap.size, 1, none⟩ = some (.slice av j capv) := bTr.out.cell 1 rfl
          go_simp
          clear cT
          refine hK.out _ _ hHeld (fun hHeld => ?_)
          clear hK K
          refine wpAnyH_ready (rs := [8]) (by kernel_rfl) (by simp) ?_
          refine AllReadyH.cons rfl (fun K hK => ?_) AllReadyH.nil
          go_simp
          refine (ih.out Q y _ lo _ (by exact HeapAt_stays _ _ _ lo _ _ (.of_below hbw.drew) hh'.out) hyat.out hlv.out).mono ?_
          rintro e w1 ⟨⟨cs1, fs1, rfl, ho1, nd1, lo1⟩, hb1⟩
          have hb1' : Hid (Below wr.heap.size wr w1) := undrew hb1
          have hi1 : Hid (∀ b ∈ fs1, b < w1.heap.size) := TreeOwn_lt _ _ _ _ _ ho1
          have lo1' : Hid (∀ b ∈ fs1, wr.heap.size ≤ b) := fun b q => by have := lo1 b q; simpa using this
          have ho1' : Hid (TreeOwn n w1 cs1 (treeH h n Q) fs1) := ho1
          obtain ⟨ct, kk, hcs⟩ : ∃ (ct : ByteArray) (kk : Value), cs1 = [.string ct, kk] := by obtain ⟨m, hm⟩ : ∃ m, n = m + 1 := ⟨n - 1, by omega⟩; subst hm; obtain ⟨k1, _, e, _⟩ := ho1; exact ⟨_, k1, e⟩
          subst hcs
          obtain ⟨ak, nk, ck, rfl⟩ : ∃ ak nk ck, kk = .slice ak nk ck := by obtain ⟨m, hm⟩ : ∃ m, n = m + 1 := ⟨n - 1, by omega⟩; subst hm; obtain ⟨k1, f1, e, hs1, _⟩ := ho1; injection e with _ e; injection e with e _; obtain ⟨a, c, hk⟩ := hs1.form; exact ⟨a, _, c, by rw [e, hk]⟩
          have bT1 : Hid (Box w1 (wz.heap.size) [.string x.vTag, .slice av j capv] 45) := bTr.out.below hb1'.out bTr.out.lt
          have hbq : Below (wz.heap.size) wr.drew w1 := hb1.mono (by have := bTr.out.lt; simp; omega)
          clear ho1 lo1
          refine hK.out _ _ ⟨(hbq.cell (p := ⟨w.heap.size, 0, none⟩) (by show w.heap.size < wz.heap.size; omega)).trans hHeld.1, (hbq.cell (p := ⟨w.heap.size, 1, none⟩) (by show w.heap.size < wz.heap.size; omega)).trans hHeld.2.1, (hbq.cell (p := ⟨w.heap.size, 2, none⟩) (by show w.heap.size < wz.heap.size; omega)).trans hHeld.2.2.1, (hbq.cell (p := ⟨w.heap.size, 3, none⟩) (by show w.heap.size < wz.heap.size; omega)).trans hHeld.2.2.2.1, (hbq.cell (p := ⟨w.heap.size, 4, none⟩) (by show w.heap.size < wz.heap.size; omega)).trans hHeld.2.2.2.2.1, (hbq.cell (p := ⟨g, 3, none⟩) (by show g < wz.heap.size; omega)).trans hHeld.2.2.2.2.2.1, (hbq.cell (p := ⟨bk, offk + j, none⟩) (by show bk < wz.heap.size; omega)).trans hHeld.2.2.2.2.2.2⟩ (fun hHeld => ?_)
          clear hK K
          refine wpAnyH_ready (rs := [9]) (by kernel_rfl) (by simp) ?_
          refine AllReadyH.cons rfl (fun K hK => ?_) AllReadyH.nil
          have bT2 : Hid (Box (w1.alloc (.cells #[.string ct, .slice ak nk ck] 45)) (wz.heap.size) [.string x.vTag, .slice av j capv] 45) := bT1.out.alloc _
          have hbl : Below (wz.heap.size) w1 (w1.alloc (.cells #[.string ct, .slice ak nk ck] 45)) := (Below.refl _ _).alloc (by have := bT1.out.lt; omega) _
          go_simp
          refine hK.out _ _ ⟨(hbl.cell (p := ⟨w.heap.size, 0, none⟩) (by show w.heap.size < wz.heap.size; omega)).trans hHeld.1, (hbl.cell (p := ⟨w.heap.size, 1, none⟩) (by show w.heap.size < wz.heap.size; omega)).trans hHeld.2.1, (hbl.cell (p := ⟨w.heap.size, 2, none⟩) (by show w.heap.size < wz.heap.size; omega)).trans hHeld.2.2.1, (hbl.cell (p := ⟨w.heap.size, 3, none⟩) (by show w.heap.size < wz.heap.size; omega)).trans hHeld.2.2.2.1, (hbl.cell (p := ⟨w.heap.size, 4, none⟩) (by show w.heap.size < wz.heap.size; omega)).trans hHeld.2.2.2.2.1, (hbl.cell (p := ⟨g, 3, none⟩) (by show g < wz.heap.size; omega)).trans hHeld.2.2.2.2.2.1, (hbl.cell (p := ⟨bk, offk + j, none⟩) (by show bk < wz.heap.size; omega)).trans hHeld.2.2.2.2.2.2⟩ (fun hHeld => ?_)
          clear hK K
          refine wpAnyH_ready (rs := [10]) (by kernel_rfl) (by simp) ?_
          refine AllReadyH.cons rfl (fun K hK => ?_) AllReadyH.nil
          refine step_append_lies (w1.alloc (.cells #[.string ct, .slice ak nk ck] 45)) rfl _ _ 43 rfl (wz.heap.size + 1) 45 iT _ 2 40 Try.underlying43 hiT.out heT.out.1 heT.out.2.1 heT.out.2.2 rfl (by decide) (.slice av j capv) j css.flatten rfl (by have := row_below hgr'.out.2.2.2.1 (hb1'.out.alloc hb1'.out.size (.cells #[.string ct, .slice ak nk ck] 45)); rw [hlenj.out] at this; exact this) ⟨w1.heap.size, 0, none⟩ 1 1 [.string ct, .slice ak nk ck] rfl rfl (by intro i u hu; match i, hu with | 0, hu => (simp at hu; subst hu; simp [Addr.add]) | 1, hu => (simp at hu; subst hu; simp [Addr.add]) | i + 2, hu => simp at hu) (by intro u hu; simp at hu; rcases hu with rfl | rfl <;> rfl) (by omega) (by unfold maxLen; omega) (by omega) (by have := hb1'.out.size; simp; omega) _ rfl ?_
          intro g3 capg w3 hown3 hgrow3 hat3 hlt3
          have hb3 : Hid (Below (wz.heap.size + 1) (w1.alloc (.cells #[.string ct, .slice ak nk ck] 45)) w3) := (Below.refl _ _).grown hgrow3 (by have := hb1'.out.size; simp; omega) (fun k e => own_block hgr'.out.2.2.2.1 k e)
          have bT3 : Hid (Box w3 (wz.heap.size) [.string x.vTag, .slice av j capv] 45) := bT2.out.below hb3.out (by omega)
          have hbg : Below (wz.heap.size) (w1.alloc (.cells #[.string ct, .slice ak nk ck] 45)) w3 := hb3.out.mono (by omega)
          go_simp
          refine hK.out _ _ ⟨(hbg.cell (p := ⟨w.heap.size, 0, none⟩) (by show w.heap.size < wz.heap.size; omega)).trans hHeld.1, (hbg.cell (p := ⟨w.heap.size, 1, none⟩) (by show w.heap.size < wz.heap.size; omega)).trans hHeld.2.1, (hbg.cell (p := ⟨w.heap.size, 2, none⟩) (by show w.heap.size < wz.heap.size; omega)).trans hHeld.2.2.1, (hbg.cell (p := ⟨w.heap.size, 3, none⟩) (by show w.heap.size < wz.heap.size; omega)).trans hHeld.2.2.2.1, (hbg.cell (p := ⟨w.heap.size, 4, none⟩) (by show w.heap.size < wz.heap.size; omega)).trans hHeld.2.2.2.2.1, (hbg.cell (p := ⟨g, 3, none⟩) (by show g < wz.heap.size; omega)).trans hHeld.2.2.2.2.2.1, (hbg.cell (p := ⟨bk, offk + j, none⟩) (by show bk < wz.heap.size; omega)).trans hHeld.2.2.2.2.2.2⟩ (fun hHeld => ?_)
          clear hK K
          refine take_lit (i := 11) (d := 36) (v := ?_) rfl rfl (by kernel_rfl) (by kernel_rfl) (by kernel_rfl) (fun _ _ _ h => h) (Or.inl ⟨by rfl, ?_⟩) (by assumption) ?_
          rotate_left
          · (intro w hSw; (try dsimp only at hSw); first | (go_simp; done) | (go_simp; with_reducible rfl))
          simp only [List.set_cons_zero, List.set_cons_succ]
          refine wpAnyH_ready (rs := [12]) (by kernel_rfl) (by simp) ?_
          refine AllReadyH.cons rfl (fun K hK => ?_) AllReadyH.nil
          have cT3 := bT3.out.cell 1 rfl
          have fT3 := bT3.out.unfrozen 1
          have hbs : Below (wz.heap.size) w3 (w3.setCell ⟨wz.heap.size, 1, none⟩ (.slice (some ⟨g3, 0, none⟩) (j + 1) capg)) := (Below.refl _ _).setCell (p := ⟨wz.heap.size, 1, none⟩) (Nat.le_refl _) _
          go_simp
          refine hK.out _ _ ⟨(hbs.cell (p := ⟨w.heap.size, 0, none⟩) (by show w.heap.size < wz.heap.size; omega)).trans hHeld.1, (hbs.cell (p := ⟨w.heap.size, 1, none⟩) (by show w.heap.size < wz.heap.size; omega)).trans hHeld.2.1, (hbs.cell (p := ⟨w.heap.size, 2, none⟩) (by show w.heap.size < wz.heap.size; omega)).trans hHeld.2.2.1, (hbs.cell (p := ⟨w.heap.size, 3, none⟩) (by show w.heap.size < wz.heap.size; omega)).trans hHeld.2.2.2.1, (hbs.cell (p := ⟨w.heap.size, 4, none⟩) (by show w.heap.size < wz.heap.size; omega)).trans hHeld.2.2.2.2.1, (hbs.cell (p := ⟨g, 3, none⟩) (by show g < wz.heap.size; omega)).trans hHeld.2.2.2.2.2.1, (hbs.cell (p := ⟨bk, offk + j, none⟩) (by show bk < wz.heap.size; omega)).trans hHeld.2.2.2.2.2.2⟩ (fun hHeld => ?_)
          clear hK K
          refine wpAnyH_done (by kernel_rfl) ?_ _
          go_wp2_with fail
          go_roundw
          case rel =>
            have hsz1 := hb1'.out.size
            have hg3 := GrowOwn.snoc (TreeOwn_stays n) hgr'.out (w2 := (w1.alloc (.cells #[.string ct, .slice ak nk ck] 45))) (hb1'.out.alloc hsz1 _) (by omega) rfl (TreeOwn_stays n _ _ _ _ _ (fun b q => Below.heap_alloc _ _ _ (hi1.out b q)) ho1'.out) nd1 lo1'.out (fun b q => by have := hi1.out b q; simp; omega) (by rw [hlenj.out]) hown3 hgrow3 hat3
            refine ⟨j + 1, _, bss ++ [fs1], css ++ [[.string ct, .slice ak nk ck]], by omega, by go_num, ?_, bT3.out.set (i := 1) _, ?_⟩
            · rw [htk.out, List.map_append]
              exact hg3.set (TreeOwn_stays n) (by omega)
            · exact (((hbr.trans (hb1'.out.mono (by omega))).alloc (by omega) _).trans (hb3.out.mono (by omega))).setCell (p := ⟨wz.heap.size, 1, none⟩) (Nat.le_refl _) _
          case measure => simp [intOf]; omega
        · go_simp
          refine (ih.out Q y _ lo _ (by exact HeapAt_stays _ _ _ lo _ _ (.of_below hbw.drew) hh'.out) hyat.out hlv.out).mono ?_
          rintro e w1 ⟨⟨cs1, fs1, rfl, ho1, nd1, lo1⟩, hb1⟩
          have hb1' : Hid (Below wr.heap.size wr w1) := undrew hb1
          have hi1 : Hid (∀ b ∈ fs1, b < w1.heap.size) := TreeOwn_lt _ _ _ _ _ ho1
          have lo1' : Hid (∀ b ∈ fs1, wr.heap.size ≤ b) := fun b q => by have := lo1 b q; simpa using this
          have ho1' : Hid (TreeOwn n w1 cs1 (treeH h n Q) fs1) := ho1
          obtain ⟨ct, kk, hcs⟩ : ∃ (ct : ByteArray) (kk : Value), cs1 = [.string ct, kk] := by obtain ⟨m, hm⟩ : ∃ m, n = m + 1 := ⟨n - 1, by omega⟩; subst hm; obtain ⟨k1, _, e, _⟩ := ho1; exact ⟨_, k1, e⟩
          subst hcs
          obtain ⟨ak, nk, ck, rfl⟩ : ∃ ak nk ck, kk = .slice ak nk ck := by obtain ⟨m, hm⟩ : ∃ m, n = m + 1 := ⟨n - 1, by omega⟩; subst hm; obtain ⟨k1, f1, e, hs1, _⟩ := ho1; injection e with _ e; injection e with e _; obtain ⟨a, c, hk⟩ := hs1.form; exact ⟨a, _, c, by rw [e, hk]⟩
          have bT1 : Hid (Box w1 (wz.heap.size) [.string x.vTag, .slice av j capv] 45) := bTr.out.below hb1'.out bTr.out.lt
          have hbq : Below (wz.heap.size) wr.drew w1 := hb1.mono (by have := bTr.out.lt; simp; omega)
          clear ho1 lo1
          refine hK.out _ _ ⟨(hbq.cell (p := ⟨w.heap.size, 0, none⟩) (by show w.heap.size < wz.heap.size; omega)).trans hHeld.1, (hbq.cell (p := ⟨w.heap.size, 1, none⟩) (by show w.heap.size < wz.heap.size; omega)).trans hHeld.2.1, (hbq.cell (p := ⟨w.heap.size, 2, none⟩) (by show w.heap.size < wz.heap.size; omega)).trans hHeld.2.2.1, (hbq.cell (p := ⟨w.heap.size, 3, none⟩) (by show w.heap.size < wz.heap.size; omega)).trans hHeld.2.2.2.1, (hbq.cell (p := ⟨w.heap.size, 4, none⟩) (by show w.heap.size < wz.heap.size; omega)).trans hHeld.2.2.2.2.1, (hbq.cell (p := ⟨g, 3, none⟩) (by show g < wz.heap.size; omega)).trans hHeld.2.2.2.2.2.1, (hbq.cell (p := ⟨bk, offk + j, none⟩) (by show bk < wz.heap.size; omega)).trans hHeld.2.2.2.2.2.2⟩ (fun hHeld => ?_)
          clear hK K
          refine wpAnyH_ready (rs := [1, 9]) (by kernel_rfl) (by simp) ?_
          refine (AllReadyH.cons rfl (fun K hK => ?_) (AllReadyH.cons rfl (fun K hK => ?_) AllReadyH.nil))
          · have cT : w1.cell? ⟨wz.heap.size, 1, none⟩ = some (.slice av j capv) := bT1.out.cell 1 rfl
            go_simp
            clear cT
            refine hK.out _ _ hHeld (fun hHeld => ?_)
            clear hK K
            refine wpAnyH_ready (rs := [9]) (by kernel_rfl) (by simp) ?_
            refine AllReadyH.cons rfl (fun K hK => ?_) AllReadyH.nil
            have bT2 : Hid (Box (w1.alloc (.cells #[.string ct, .slice ak nk ck] 45)) (wz.heap.size) [.string x.vTag, .slice av j capv] 45) := bT1.out.alloc _
            have hbl : Below (wz.heap.size) w1 (w1.alloc (.cells #[.string ct, .slice ak nk ck] 45)) := (Below.refl _ _).alloc (by have := bT1.out.lt; omega) _
            go_simp
            refine hK.out _ _ ⟨(hbl.cell (p := ⟨w.heap.size, 0, none⟩) (by show w.heap.size < wz.heap.size; omega)).trans hHeld.1, (hbl.cell (p := ⟨w.heap.size, 1, none⟩) (by show w.heap.size < wz.heap.size; omega)).trans hHeld.2.1, (hbl.cell (p := ⟨w.heap.size, 2, none⟩) (by show w.heap.size < wz.heap.size; omega)).trans hHeld.2.2.1, (hbl.cell (p := ⟨w.heap.size, 3, none⟩) (by show w.heap.size < wz.heap.size; omega)).trans hHeld.2.2.2.1, (hbl.cell (p := ⟨w.heap.size, 4, none⟩) (by show w.heap.size < wz.heap.size; omega)).trans hHeld.2.2.2.2.1, (hbl.cell (p := ⟨g, 3, none⟩) (by show g < wz.heap.size; omega)).trans hHeld.2.2.2.2.2.1, (hbl.cell (p := ⟨bk, offk + j, none⟩) (by show bk < wz.heap.size; omega)).trans hHeld.2.2.2.2.2.2⟩ (fun hHeld => ?_)
            clear hK K
            refine wpAnyH_ready (rs := [10]) (by kernel_rfl) (by simp) ?_
            refine AllReadyH.cons rfl (fun K hK => ?_) AllReadyH.nil
            refine step_append_lies (w1.alloc (.cells #[.string ct, .slice ak nk ck] 45)) rfl _ _ 43 rfl (wz.heap.size + 1) 45 iT _ 2 40 Try.underlying43 hiT.out heT.out.1 heT.out.2.1 heT.out.2.2 rfl (by decide) (.slice av j capv) j css.flatten rfl (by have := row_below hgr'.out.2.2.2.1 (hb1'.out.alloc hb1'.out.size (.cells #[.string ct, .slice ak nk ck] 45)); rw [hlenj.out] at this; exact this) ⟨w1.heap.size, 0, none⟩ 1 1 [.string ct, .slice ak nk ck] rfl rfl (by intro i u hu; match i, hu with | 0, hu => (simp at hu; subst hu; simp [Addr.add]) | 1, hu => (simp at hu; subst hu; simp [Addr.add]) | i + 2, hu => simp at hu) (by intro u hu; simp at hu; rcases hu with rfl | rfl <;> rfl) (by omega) (by unfold maxLen; omega) (by omega) (by have := hb1'.out.size; simp; omega) _ rfl ?_
            intro g3 capg w3 hown3 hgrow3 hat3 hlt3
            have hb3 : Hid (Below (wz.heap.size + 1) (w1.alloc (.cells #[.string ct, .slice ak nk ck] 45)) w3) := (Below.refl _ _).grown hgrow3 (by have := hb1'.out.size; simp; omega) (fun k e => own_block hgr'.out.2.2.2.1 k e)
            have bT3 : Hid (Box w3 (wz.heap.size) [.string x.vTag, .slice av j capv] 45) := bT2.out.below hb3.out (by omega)
            have hbg : Below (wz.heap.size) (w1.alloc (.cells #[.string ct, .slice ak nk ck] 45)) w3 := hb3.out.mono (by omega)
            go_simp
            refine hK.out _ _ ⟨(hbg.cell (p := ⟨w.heap.size, 0, none⟩) (by show w.heap.size < wz.heap.size; omega)).trans hHeld.1, (hbg.cell (p := ⟨w.heap.size, 1, none⟩) (by show w.heap.size < wz.heap.size; omega)).trans hHeld.2.1, (hbg.cell (p := ⟨w.heap.size, 2, none⟩) (by show w.heap.size < wz.heap.size; omega)).trans hHeld.2.2.1, (hbg.cell (p := ⟨w.heap.size, 3, none⟩) (by show w.heap.size < wz.heap.size; omega)).trans hHeld.2.2.2.1, (hbg.cell (p := ⟨w.heap.size, 4, none⟩) (by show w.heap.size < wz.heap.size; omega)).trans hHeld.2.2.2.2.1, (hbg.cell (p := ⟨g, 3, none⟩) (by show g < wz.heap.size; omega)).trans hHeld.2.2.2.2.2.1, (hbg.cell (p := ⟨bk, offk + j, none⟩) (by show bk < wz.heap.size; omega)).trans hHeld.2.2.2.2.2.2⟩ (fun hHeld => ?_)
            clear hK K
            refine take_lit (i := 11) (d := 36) (v := ?_) rfl rfl (by kernel_rfl) (by kernel_rfl) (by kernel_rfl) (fun _ _ _ h => h) (Or.inl ⟨by rfl, ?_⟩) (by assumption) ?_
            rotate_left
            · (intro w hSw; (try dsimp only at hSw); first | (go_simp; done) | (go_simp; with_reducible rfl))
            simp only [List.set_cons_zero, List.set_cons_succ]
            refine wpAnyH_ready (rs := [12]) (by kernel_rfl) (by simp) ?_
            refine AllReadyH.cons rfl (fun K hK => ?_) AllReadyH.nil
            have cT3 := bT3.out.cell 1 rfl
            have fT3 := bT3.out.unfrozen 1
            have hbs : Below (wz.heap.size) w3 (w3.setCell ⟨wz.heap.size, 1, none⟩ (.slice (some ⟨g3, 0, none⟩) (j + 1) capg)) := (Below.refl _ _).setCell (p := ⟨wz.heap.size, 1, none⟩) (Nat.le_refl _) _
            go_simp
            refine hK.out _ _ ⟨(hbs.cell (p := ⟨w.heap.size, 0, none⟩) (by show w.heap.size < wz.heap.size; omega)).trans hHeld.1, (hbs.cell (p := ⟨w.heap.size, 1, none⟩) (by show w.heap.size < wz.heap.size; omega)).trans hHeld.2.1, (hbs.cell (p := ⟨w.heap.size, 2, none⟩) (by show w.heap.size < wz.heap.size; omega)).trans hHeld.2.2.1, (hbs.cell (p := ⟨w.heap.size, 3, none⟩) (by show w.heap.size < wz.heap.size; omega)).trans hHeld.2.2.2.1, (hbs.cell (p := ⟨w.heap.size, 4, none⟩) (by show w.heap.size < wz.heap.size; omega)).trans hHeld.2.2.2.2.1, (hbs.cell (p := ⟨g, 3, none⟩) (by show g < wz.heap.size; omega)).trans hHeld.2.2.2.2.2.1, (hbs.cell (p := ⟨bk, offk + j, none⟩) (by show bk < wz.heap.size; omega)).trans hHeld.2.2.2.2.2.2⟩ (fun hHeld => ?_)
            clear hK K
            refine wpAnyH_done (by kernel_rfl) ?_ _
            go_wp2_with fail
            go_roundw
            case rel =>
              have hsz1 := hb1'.out.size
              have hg3 := GrowOwn.snoc (TreeOwn_stays n) hgr'.out (w2 := (w1.alloc (.cells #[.string ct, .slice ak nk ck] 45))) (hb1'.out.alloc hsz1 _) (by omega) rfl (TreeOwn_stays n _ _ _ _ _ (fun b q => Below.heap_alloc _ _ _ (hi1.out b q)) ho1'.out) nd1 lo1'.out (fun b q => by have := hi1.out b q; simp; omega) (by rw [hlenj.out]) hown3 hgrow3 hat3
              refine ⟨j + 1, _, bss ++ [fs1], css ++ [[.string ct, .slice ak nk ck]], by omega, by go_num, ?_, bT3.out.set (i := 1) _, ?_⟩
              · rw [htk.out, List.map_append]
                exact hg3.set (TreeOwn_stays n) (by omega)
              · exact (((hbr.trans (hb1'.out.mono (by omega))).alloc (by omega) _).trans (hb3.out.mono (by omega))).setCell (p := ⟨wz.heap.size, 1, none⟩) (Nat.le_refl _) _
            case measure => simp [intOf]; omega
          · have bT2 : Hid (Box (w1.alloc (.cells #[.string ct, .slice ak nk ck] 45)) (wz.heap.size) [.string x.vTag, .slice av j capv] 45) := bT1.out.alloc _
            have hbl : Below (wz.heap.size) w1 (w1.alloc (.cells #[.string ct, .slice ak nk ck] 45)) := (Below.refl _ _).alloc (by have := bT1.out.lt; omega) _
            go_simp
            refine hK.out _ _ ⟨(hbl.cell (p := ⟨w.heap.size, 0, none⟩) (by show w.heap.size < wz.heap.size; omega)).trans hHeld.1, (hbl.cell (p := ⟨w.heap.size, 1, none⟩) (by show w.heap.size < wz.heap.size; omega)).trans hHeld.2.1, (hbl.cell (p := ⟨w.heap.size, 2, none⟩) (by show w.heap.size < wz.heap.size; omega)).trans hHeld.2.2.1, (hbl.cell (p := ⟨w.heap.size, 3, none⟩) (by show w.heap.size < wz.heap.size; omega)).trans hHeld.2.2.2.1, (hbl.cell (p := ⟨w.heap.size, 4, none⟩) (by show w.heap.size < wz.heap.size; omega)).trans hHeld.2.2.2.2.1, (hbl.cell (p := ⟨g, 3, none⟩) (by show g < wz.heap.size; omega)).trans hHeld.2.2.2.2.2.1, (hbl.cell (p := ⟨bk, offk + j, none⟩) (by show bk < wz.heap.size; omega)).trans hHeld.2.2.2.2.2.2⟩ (fun hHeld => ?_)
            clear hK K
            refine wpAnyH_ready (rs := [1]) (by kernel_rfl) (by simp) ?_
            refine AllReadyH.cons rfl (fun K hK => ?_) AllReadyH.nil
            have cT : (w1.alloc (.cells #[.string ct, .slice ak nk ck] 45)).cell? ⟨wz.heap.size, 1, none⟩ = some (.slice av j capv) := bT2.out.cell 1 rfl
            go_simp
            clear cT
            refine hK.out _ _ hHeld (fun hHeld => ?_)
            clear hK K
            refine wpAnyH_ready (rs := [10]) (by kernel_rfl) (by simp) ?_
            refine AllReadyH.cons rfl (fun K hK => ?_) AllReadyH.nil
            refine step_append_lies (w1.alloc (.cells #[.string ct, .slice ak nk ck] 45)) rfl _ _ 43 rfl (wz.heap.size + 1) 45 iT _ 2 40 Try.underlying43 hiT.out heT.out.1 heT.out.2.1 heT.out.2.2 rfl (by decide) (.slice av j capv) j css.flatten rfl (by have := row_below hgr'.out.2.2.2.1 (hb1'.out.alloc hb1'.out.size (.cells #[.string ct, .slice ak nk ck] 45)); rw [hlenj.out] at this; exact this) ⟨w1.heap.size, 0, none⟩ 1 1 [.string ct, .slice ak nk ck] rfl rfl (by intro i u hu; match i, hu with | 0, hu => (simp at hu; subst hu; simp [Addr.add]) | 1, hu => (simp at hu; subst hu; simp [Addr.add]) | i + 2, hu => simp at hu) (by intro u hu; simp at hu; rcases hu with rfl | rfl <;> rfl) (by omega) (by unfold maxLen; omega) (by omega) (by have := hb1'.out.size; simp; omega) _ rfl ?_
            intro g3 capg w3 hown3 hgrow3 hat3 hlt3
            have hb3 : Hid (Below (wz.heap.size + 1) (w1.alloc (.cells #[.string ct, .slice ak nk ck] 45)) w3) := (Below.refl _ _).grown hgrow3 (by have := hb1'.out.size; simp; omega) (fun k e => own_block hgr'.out.2.2.2.1 k e)
            have bT3 : Hid (Box w3 (wz.heap.size) [.string x.vTag, .slice av j capv] 45) := bT2.out.below hb3.out (by omega)
            have hbg : Below (wz.heap.size) (w1.alloc (.cells #[.string ct, .slice ak nk ck] 45)) w3 := hb3.out.mono (by omega)
            go_simp
            refine hK.out _ _ ⟨(hbg.cell (p := ⟨w.heap.size, 0, none⟩) (by show w.heap.size < wz.heap.size; omega)).trans hHeld.1, (hbg.cell (p := ⟨w.heap.size, 1, none⟩) (by show w.heap.size < wz.heap.size; omega)).trans hHeld.2.1, (hbg.cell (p := ⟨w.heap.size, 2, none⟩) (by show w.heap.size < wz.heap.size; omega)).trans hHeld.2.2.1, (hbg.cell (p := ⟨w.heap.size, 3, none⟩) (by show w.heap.size < wz.heap.size; omega)).trans hHeld.2.2.2.1, (hbg.cell (p := ⟨w.heap.size, 4, none⟩) (by show w.heap.size < wz.heap.size; omega)).trans hHeld.2.2.2.2.1, (hbg.cell (p := ⟨g, 3, none⟩) (by show g < wz.heap.size; omega)).trans hHeld.2.2.2.2.2.1, (hbg.cell (p := ⟨bk, offk + j, none⟩) (by show bk < wz.heap.size; omega)).trans hHeld.2.2.2.2.2.2⟩ (fun hHeld => ?_)
            clear hK K
            refine take_lit (i := 11) (d := 36) (v := ?_) rfl rfl (by kernel_rfl) (by kernel_rfl) (by kernel_rfl) (fun _ _ _ h => h) (Or.inl ⟨by rfl, ?_⟩) (by assumption) ?_
            rotate_left
            · (intro w hSw; (try dsimp only at hSw); first | (go_simp; done) | (go_simp; with_reducible rfl))
            simp only [List.set_cons_zero, List.set_cons_succ]
            refine wpAnyH_ready (rs := [12]) (by kernel_rfl) (by simp) ?_
            refine AllReadyH.cons rfl (fun K hK => ?_) AllReadyH.nil
            have cT3 := bT3.out.cell 1 rfl
            have fT3 := bT3.out.unfrozen 1
            have hbs : Below (wz.heap.size) w3 (w3.setCell ⟨wz.heap.size, 1, none⟩ (.slice (some ⟨g3, 0, none⟩) (j + 1) capg)) := (Below.refl _ _).setCell (p := ⟨wz.heap.size, 1, none⟩) (Nat.le_refl _) _
            go_simp
            refine hK.out _ _ ⟨(hbs.cell (p := ⟨w.heap.size, 0, none⟩) (by show w.heap.size < wz.heap.size; omega)).trans hHeld.1, (hbs.cell (p := ⟨w.heap.size, 1, none⟩) (by show w.heap.size < wz.heap.size; omega)).trans hHeld.2.1, (hbs.cell (p := ⟨w.heap.size, 2, none⟩) (by show w.heap.size < wz.heap.size; omega)).trans hHeld.2.2.1, (hbs.cell (p := ⟨w.heap.size, 3, none⟩) (by show w.heap.size < wz.heap.size; omega)).trans hHeld.2.2.2.1, (hbs.cell (p := ⟨w.heap.size, 4, none⟩) (by show w.heap.size < wz.heap.size; omega)).trans hHeld.2.2.2.2.1, (hbs.cell (p := ⟨g, 3, none⟩) (by show g < wz.heap.size; omega)).trans hHeld.2.2.2.2.2.1, (hbs.cell (p := ⟨bk, offk + j, none⟩) (by show bk < wz.heap.size; omega)).trans hHeld.2.2.2.2.2.2⟩ (fun hHeld => ?_)
            clear hK K
            refine wpAnyH_done (by kernel_rfl) ?_ _
            go_wp2_with fail
            go_roundw
            case rel =>
              have hsz1 := hb1'.out.size
              have hg3 := GrowOwn.snoc (TreeOwn_stays n) hgr'.out (w2 := (w1.alloc (.cells #[.string ct, .slice ak nk ck] 45))) (hb1'.out.alloc hsz1 _) (by omega) rfl (TreeOwn_stays n _ _ _ _ _ (fun b q => Below.heap_alloc _ _ _ (hi1.out b q)) ho1'.out) nd1 lo1'.out (fun b q => by have := hi1.out b q; simp; omega) (by rw [hlenj.out]) hown3 hgrow3 hat3
              refine ⟨j + 1, _, bss ++ [fs1], css ++ [[.string ct, .slice ak nk ck]], by omega, by go_num, ?_, bT3.out.set (i := 1) _, ?_⟩
              · rw [htk.out, List.map_append]
                exact hg3.set (TreeOwn_stays n) (by omega)
              · exact (((hbr.trans (hb1'.out.mono (by omega))).alloc (by omega) _).trans (hb3.out.mono (by omega))).setCell (p := ⟨wz.heap.size, 1, none⟩) (Nat.le_refl _) _
            case measure => simp [intOf]; omega
      · obtain rfl : j = x.vKids.length := by omega
        have cT0 := bTr.out.cell 0 rfl
        have cT1 := bTr.out.cell 1 rfl
        have cR0 := bRr.out.cell 0 rfl
        have cR1 := bRr.out.cell 1 rfl
        have fR := bRr.out.unfrozen
        have hwz := hbwz.size
        go_wp2_with fail
        have r1 := ((bRr.out.set (i := 0) (.string x.vTag)).set (i := 1) (.slice av x.vKids.length capv)).cell 1 rfl
        have r2 := ((bRr.out.set (i := 0) (.string x.vTag)).set (i := 1) (.slice av x.vKids.length capv)).cell 0 rfl
        refine bodyPost_ret (v := .agg #[.string x.vTag, .slice av x.vKids.length capv]) (by simp [results, Try.results47, go_sem, r1, r2]) rfl ?_
        have hg2 := (hgr.out.set (TreeOwn_stays n) (g := w.heap.size + 1) (i := 0) (u := .string x.vTag) (by omega)).set (TreeOwn_stays n) (g := w.heap.size + 1) (i := 1) (u := .slice av x.vKids.length capv) (by omega)
        obtain ⟨fs, hso, hlo⟩ := hg2.done
        refine ⟨⟨[.string x.vTag, .slice av x.vKids.length capv], fs, rfl, ⟨.slice av x.vKids.length capv, fs, ?_, ?_, ?_, rfl⟩, hso.nodup, fun b q => by have := hlo b q; omega⟩, (hbw.setCell (p := ⟨w.heap.size + 1, 0, none⟩) (by simp) _).setCell (p := ⟨w.heap.size + 1, 1, none⟩) (by simp) _⟩
        · rw [treeH_some hx'.out]
        · rw [treeH_some hx'.out]
          rw [List.take_length] at hso
          exact hso
        · rw [treeH_some hx'.out]
          exact rTag'.out
  have lz := Lie.keep (lo := lo) (lo' := lo) lien'.out (.of_below hb2) hloN'.out.1 hloN'.out.2
  have y0 := lie_at lz 0 rfl
  have y1 := lie_at lz 1 rfl
  have y2 := lie_at lz 2 rfl
  have y3 := lie_at lz 3 rfl
  have y4 := lie_at lz 4 rfl
  have y5 := lie_at lz 5 rfl
  simp only [Nat.add_zero] at y0
  have hin : (0 : Int) ≤ (i' : Int) := by omega
  have hin2 : (i' : Int) < (h.vNodes.length : Int) := by omega
  have hW2d : Below (w.heap.size + 2) W2 W2.drew := (Below.refl _ _).drew
  have hbNl := hloN'.out.2
  clear lz hrest hx3'
  refine wp_region_held_drew (S := fun w' => w'.cell? ⟨w.heap.size, 0, none⟩ = some (.int .i64 h.vNext) ∧ w'.cell? ⟨w.heap.size, 1, none⟩ = some (.int .i64 h.vDoc) ∧ w'.cell? ⟨w.heap.size, 2, none⟩ = some (.slice (some ⟨bN, offN, none⟩) h.vNodes.length cap2) ∧ w'.cell? ⟨w.heap.size, 3, none⟩ = some (.slice a3 h.vObjs.length cap3) ∧ w'.cell? ⟨w.heap.size, 4, none⟩ = some (.slice a4 h.vGlobals.length cap4) ∧ w'.cell? ⟨bN, offN + i' * 6, none⟩ = some (.int .i64 x.vId) ∧ w'.cell? ⟨bN, offN + i' * 6 + 1, none⟩ = some (.string x.vTag) ∧ w'.cell? ⟨bN, offN + i' * 6 + 2, none⟩ = some (.int .i64 x.vParent) ∧ w'.cell? ⟨bN, offN + i' * 6 + 3, none⟩ = some (.slice p3 x.vKids.length c3) ∧ w'.cell? ⟨bN, offN + i' * 6 + 4, none⟩ = some (.int .i64 x.vWrapper) ∧ w'.cell? ⟨bN, offN + i' * 6 + 5, none⟩ = some (.slice p5 x.vListeners.length c5)) (by kernel_rfl) ⟨bH2.out.cell 0 rfl, bH2.out.cell 1 rfl, bH2.out.cell 2 rfl, bH2.out.cell 3 rfl, bH2.out.cell 4 rfl, y0, y1, y2, y3, y4, y5⟩ (fun hHeld => ?_)
  refine take_lit (i := 0) (d := 8) (v := ?_) rfl rfl (by kernel_rfl) (by kernel_rfl) (by kernel_rfl) (fun _ _ _ h => h) (Or.inl ⟨by rfl, ?_⟩) (by assumption) ?_
  rotate_left
  · (intro w hSw; (try dsimp only at hSw); first | (go_simp; done) | (go_simp; with_reducible rfl))
  simp only [List.set_cons_zero, List.set_cons_succ]
  refine take_lit (i := 1) (d := 9) (v := ?_) rfl rfl (by kernel_rfl) (by kernel_rfl) (by kernel_rfl) (fun _ _ _ h => h) (Or.inl ⟨by rfl, ?_⟩) (by assumption) ?_
  rotate_left
  · (intro w hSw; (try dsimp only at hSw); first | (go_simp; done) | (go_simp; with_reducible rfl))
  simp only [List.set_cons_zero, List.set_cons_succ]
  refine take_lit (i := 2) (d := 10) (v := ?_) rfl rfl (by kernel_rfl) (by kernel_rfl) (by kernel_rfl) (fun _ _ _ h => h) (Or.inl ⟨by rfl, ?_⟩) (by assumption) ?_
  rotate_left
  · (intro w hSw; (try dsimp only at hSw); first | (go_simp; done) | (go_simp; with_reducible rfl))
  simp only [List.set_cons_zero, List.set_cons_succ]
  refine take_lit (i := 3) (d := 11) (v := ?_) rfl rfl (by kernel_rfl) (by kernel_rfl) (by kernel_rfl) (fun _ _ _ h => h) (Or.inl ⟨by rfl, ?_⟩) (by assumption) ?_
  rotate_left
  · (intro w hSw; (try dsimp only at hSw); first | (go_simp; done) | (go_simp; with_reducible rfl))
  simp only [List.set_cons_zero, List.set_cons_succ]
  refine wpAnyH_ready (rs := [4, 7]) (by kernel_rfl) (by simp) ?_
  refine (AllReadyH.cons rfl (fun K hK => ?_) (AllReadyH.cons rfl (fun K hK => ?_) AllReadyH.nil))
  · go_simp
    refine (l2Node_any (by exact HeapAt_stays _ _ _ lo _ _ (.of_below hb2.drew) hh'.out)).mono ?_
    rintro e w2 ⟨rfl, hb1⟩
    have hbq : Below (w.heap.size + 2) W2.drew w2 := hb1.mono (by simp; omega)
    rw [hidx]
    refine hK.out _ _ ⟨(hbq.cell (p := ⟨w.heap.size, 0, none⟩) (by show w.heap.size < w.heap.size + 2; omega)).trans hHeld.1, (hbq.cell (p := ⟨w.heap.size, 1, none⟩) (by show w.heap.size < w.heap.size + 2; omega)).trans hHeld.2.1, (hbq.cell (p := ⟨w.heap.size, 2, none⟩) (by show w.heap.size < w.heap.size + 2; omega)).trans hHeld.2.2.1, (hbq.cell (p := ⟨w.heap.size, 3, none⟩) (by show w.heap.size < w.heap.size + 2; omega)).trans hHeld.2.2.2.1, (hbq.cell (p := ⟨w.heap.size, 4, none⟩) (by show w.heap.size < w.heap.size + 2; omega)).trans hHeld.2.2.2.2.1, (hbq.cell (p := ⟨bN, offN + i' * 6, none⟩) (by show bN < w.heap.size + 2; omega)).trans hHeld.2.2.2.2.2.1, (hbq.cell (p := ⟨bN, offN + i' * 6 + 1, none⟩) (by show bN < w.heap.size + 2; omega)).trans hHeld.2.2.2.2.2.2.1, (hbq.cell (p := ⟨bN, offN + i' * 6 + 2, none⟩) (by show bN < w.heap.size + 2; omega)).trans hHeld.2.2.2.2.2.2.2.1, (hbq.cell (p := ⟨bN, offN + i' * 6 + 3, none⟩) (by show bN < w.heap.size + 2; omega)).trans hHeld.2.2.2.2.2.2.2.2.1, (hbq.cell (p := ⟨bN, offN + i' * 6 + 4, none⟩) (by show bN < w.heap.size + 2; omega)).trans hHeld.2.2.2.2.2.2.2.2.2.1, (hbq.cell (p := ⟨bN, offN + i' * 6 + 5, none⟩) (by show bN < w.heap.size + 2; omega)).trans hHeld.2.2.2.2.2.2.2.2.2.2⟩ (fun hHeld => ?_)
    clear hK K
    refine take_lit (i := 5) (d := 13) (v := ?_) rfl rfl (by kernel_rfl) (by kernel_rfl) (by kernel_rfl) (fun _ _ _ h => h) (Or.inl ⟨by rfl, ?_⟩) (by assumption) ?_
    rotate_left
    · (intro w hSw; (try dsimp only at hSw); first | (go_simp; done) | (go_simp; with_reducible rfl))
    simp only [List.set_cons_zero, List.set_cons_succ]
    refine take_lit (i := 6) (d := 14) (v := ?_) rfl rfl (by kernel_rfl) (by kernel_rfl) (by kernel_rfl) (fun _ _ _ h => h) (Or.inl ⟨by rfl, ?_⟩) (by assumption) ?_
    rotate_left
    · (intro w hSw; (try dsimp only at hSw); first | (go_simp; done) | (go_simp; with_reducible rfl))
    simp only [List.set_cons_zero, List.set_cons_succ]
    refine wpAnyH_ready (rs := [7]) (by kernel_rfl) (by simp) ?_
    refine AllReadyH.cons rfl (fun K hK => ?_) AllReadyH.nil
    have hba : Below (w.heap.size + 2) w2 (w2.alloc (.cells #[.int .i64 0, .string ⟨#[]⟩, .int .i64 0, .slice none 0 0, .int .i64 0, .slice none 0 0] 81)) := (Below.refl _ _).alloc (by have := hbq.size; simp at *; omega) _
    go_simp
    refine hK.out _ _ ⟨(hba.cell (p := ⟨w.heap.size, 0, none⟩) (by show w.heap.size < w.heap.size + 2; omega)).trans hHeld.1, (hba.cell (p := ⟨w.heap.size, 1, none⟩) (by show w.heap.size < w.heap.size + 2; omega)).trans hHeld.2.1, (hba.cell (p := ⟨w.heap.size, 2, none⟩) (by show w.heap.size < w.heap.size + 2; omega)).trans hHeld.2.2.1, (hba.cell (p := ⟨w.heap.size, 3, none⟩) (by show w.heap.size < w.heap.size + 2; omega)).trans hHeld.2.2.2.1, (hba.cell (p := ⟨w.heap.size, 4, none⟩) (by show w.heap.size < w.heap.size + 2; omega)).trans hHeld.2.2.2.2.1, (hba.cell (p := ⟨bN, offN + i' * 6, none⟩) (by show bN < w.heap.size + 2; omega)).trans hHeld.2.2.2.2.2.1, (hba.cell (p := ⟨bN, offN + i' * 6 + 1, none⟩) (by show bN < w.heap.size + 2; omega)).trans hHeld.2.2.2.2.2.2.1, (hba.cell (p := ⟨bN, offN + i' * 6 + 2, none⟩) (by show bN < w.heap.size + 2; omega)).trans hHeld.2.2.2.2.2.2.2.1, (hba.cell (p := ⟨bN, offN + i' * 6 + 3, none⟩) (by show bN < w.heap.size + 2; omega)).trans hHeld.2.2.2.2.2.2.2.2.1, (hba.cell (p := ⟨bN, offN + i' * 6 + 4, none⟩) (by show bN < w.heap.size + 2; omega)).trans hHeld.2.2.2.2.2.2.2.2.2.1, (hba.cell (p := ⟨bN, offN + i' * 6 + 5, none⟩) (by show bN < w.heap.size + 2; omega)).trans hHeld.2.2.2.2.2.2.2.2.2.2⟩ (fun hHeld => ?_)
    clear hK K
    refine wpAnyH_ready (rs := [8]) (by kernel_rfl) (by simp) ?_
    refine AllReadyH.cons rfl (fun K hK => ?_) AllReadyH.nil
    have hbs : Below (w.heap.size + 2) w2 (w2.alloc (.cells (List.toArray [.int .i64 x.vId, .string x.vTag, .int .i64 x.vParent, .slice p3 x.vKids.length c3, .int .i64 x.vWrapper, .slice p5 x.vListeners.length c5]) 81)) := (Below.refl _ _).alloc (by have := hbq.size; simp at this; omega) _
    go_simp
    refine hK.out _ _ ⟨(hbs.cell (p := ⟨w.heap.size, 0, none⟩) (by show w.heap.size < w.heap.size + 2; omega)).trans ((hba.cell (p := ⟨w.heap.size, 0, none⟩) (by show w.heap.size < w.heap.size + 2; omega)).symm.trans hHeld.1), (hbs.cell (p := ⟨w.heap.size, 1, none⟩) (by show w.heap.size < w.heap.size + 2; omega)).trans ((hba.cell (p := ⟨w.heap.size, 1, none⟩) (by show w.heap.size < w.heap.size + 2; omega)).symm.trans hHeld.2.1), (hbs.cell (p := ⟨w.heap.size, 2, none⟩) (by show w.heap.size < w.heap.size + 2; omega)).trans ((hba.cell (p := ⟨w.heap.size, 2, none⟩) (by show w.heap.size < w.heap.size + 2; omega)).symm.trans hHeld.2.2.1), (hbs.cell (p := ⟨w.heap.size, 3, none⟩) (by show w.heap.size < w.heap.size + 2; omega)).trans ((hba.cell (p := ⟨w.heap.size, 3, none⟩) (by show w.heap.size < w.heap.size + 2; omega)).symm.trans hHeld.2.2.2.1), (hbs.cell (p := ⟨w.heap.size, 4, none⟩) (by show w.heap.size < w.heap.size + 2; omega)).trans ((hba.cell (p := ⟨w.heap.size, 4, none⟩) (by show w.heap.size < w.heap.size + 2; omega)).symm.trans hHeld.2.2.2.2.1), (hbs.cell (p := ⟨bN, offN + i' * 6, none⟩) (by show bN < w.heap.size + 2; omega)).trans ((hba.cell (p := ⟨bN, offN + i' * 6, none⟩) (by show bN < w.heap.size + 2; omega)).symm.trans hHeld.2.2.2.2.2.1), (hbs.cell (p := ⟨bN, offN + i' * 6 + 1, none⟩) (by show bN < w.heap.size + 2; omega)).trans ((hba.cell (p := ⟨bN, offN + i' * 6 + 1, none⟩) (by show bN < w.heap.size + 2; omega)).symm.trans hHeld.2.2.2.2.2.2.1), (hbs.cell (p := ⟨bN, offN + i' * 6 + 2, none⟩) (by show bN < w.heap.size + 2; omega)).trans ((hba.cell (p := ⟨bN, offN + i' * 6 + 2, none⟩) (by show bN < w.heap.size + 2; omega)).symm.trans hHeld.2.2.2.2.2.2.2.1), (hbs.cell (p := ⟨bN, offN + i' * 6 + 3, none⟩) (by show bN < w.heap.size + 2; omega)).trans ((hba.cell (p := ⟨bN, offN + i' * 6 + 3, none⟩) (by show bN < w.heap.size + 2; omega)).symm.trans hHeld.2.2.2.2.2.2.2.2.1), (hbs.cell (p := ⟨bN, offN + i' * 6 + 4, none⟩) (by show bN < w.heap.size + 2; omega)).trans ((hba.cell (p := ⟨bN, offN + i' * 6 + 4, none⟩) (by show bN < w.heap.size + 2; omega)).symm.trans hHeld.2.2.2.2.2.2.2.2.2.1), (hbs.cell (p := ⟨bN, offN + i' * 6 + 5, none⟩) (by show bN < w.heap.size + 2; omega)).trans ((hba.cell (p := ⟨bN, offN + i' * 6 + 5, none⟩) (by show bN < w.heap.size + 2; omega)).symm.trans hHeld.2.2.2.2.2.2.2.2.2.2)⟩ (fun hHeld => ?_)
    clear hK K
    refine wpAnyH_done (by kernel_rfl) ?_ _
    exact key w2.heap.size _ (by have := hbq.size; simp at this; omega) ((hW2d.trans hbq).trans hbs) (Box.new w2 [.int .i64 x.vId, .string x.vTag, .int .i64 x.vParent, .slice p3 x.vKids.length c3, .int .i64 x.vWrapper, .slice p5 x.vListeners.length c5] 81)
  · have hba : Below (w.heap.size + 2) W2.drew (W2.drew.alloc (.cells #[.int .i64 0, .string ⟨#[]⟩, .int .i64 0, .slice none 0 0, .int .i64 0, .slice none 0 0] 81)) := (Below.refl _ _).alloc (by simp at *; omega) _
    go_simp
    refine hK.out _ _ ⟨(hba.cell (p := ⟨w.heap.size, 0, none⟩) (by show w.heap.size < w.heap.size + 2; omega)).trans hHeld.1, (hba.cell (p := ⟨w.heap.size, 1, none⟩) (by show w.heap.size < w.heap.size + 2; omega)).trans hHeld.2.1, (hba.cell (p := ⟨w.heap.size, 2, none⟩) (by show w.heap.size < w.heap.size + 2; omega)).trans hHeld.2.2.1, (hba.cell (p := ⟨w.heap.size, 3, none⟩) (by show w.heap.size < w.heap.size + 2; omega)).trans hHeld.2.2.2.1, (hba.cell (p := ⟨w.heap.size, 4, none⟩) (by show w.heap.size < w.heap.size + 2; omega)).trans hHeld.2.2.2.2.1, (hba.cell (p := ⟨bN, offN + i' * 6, none⟩) (by show bN < w.heap.size + 2; omega)).trans hHeld.2.2.2.2.2.1, (hba.cell (p := ⟨bN, offN + i' * 6 + 1, none⟩) (by show bN < w.heap.size + 2; omega)).trans hHeld.2.2.2.2.2.2.1, (hba.cell (p := ⟨bN, offN + i' * 6 + 2, none⟩) (by show bN < w.heap.size + 2; omega)).trans hHeld.2.2.2.2.2.2.2.1, (hba.cell (p := ⟨bN, offN + i' * 6 + 3, none⟩) (by show bN < w.heap.size + 2; omega)).trans hHeld.2.2.2.2.2.2.2.2.1, (hba.cell (p := ⟨bN, offN + i' * 6 + 4, none⟩) (by show bN < w.heap.size + 2; omega)).trans hHeld.2.2.2.2.2.2.2.2.2.1, (hba.cell (p := ⟨bN, offN + i' * 6 + 5, none⟩) (by show bN < w.heap.size + 2; omega)).trans hHeld.2.2.2.2.2.2.2.2.2.2⟩ (fun hHeld => ?_)
    clear hK K
    refine wpAnyH_ready (rs := [4]) (by kernel_rfl) (by simp) ?_
    refine AllReadyH.cons rfl (fun K hK => ?_) AllReadyH.nil
    go_simp
    refine (l2Node_any (by exact HeapAt_stays _ _ _ lo _ _ (.of_below (Below.alloc hb2.drew (by simp; omega) _)) hh'.out)).mono ?_
    rintro e w2 ⟨rfl, hb1⟩
    have hbq : Below (w.heap.size + 2) (W2.drew.alloc (.cells #[.int .i64 0, .string ⟨#[]⟩, .int .i64 0, .slice none 0 0, .int .i64 0, .slice none 0 0] 81)) w2 := hb1.mono (by simp; omega)
    rw [hidx]
    have bz : Box w2 (w.heap.size + 2) [.int .i64 0, .string ⟨#[]⟩, .int .i64 0, .slice none 0 0, .int .i64 0, .slice none 0 0] 81 := hz2 ▸ (Box.new W2.drew [.int .i64 0, .string ⟨#[]⟩, .int .i64 0, .slice none 0 0, .int .i64 0, .slice none 0 0] 81).below hb1 (by simp)
    refine hK.out _ _ ⟨(hbq.cell (p := ⟨w.heap.size, 0, none⟩) (by show w.heap.size < w.heap.size + 2; omega)).trans hHeld.1, (hbq.cell (p := ⟨w.heap.size, 1, none⟩) (by show w.heap.size < w.heap.size + 2; omega)).trans hHeld.2.1, (hbq.cell (p := ⟨w.heap.size, 2, none⟩) (by show w.heap.size < w.heap.size + 2; omega)).trans hHeld.2.2.1, (hbq.cell (p := ⟨w.heap.size, 3, none⟩) (by show w.heap.size < w.heap.size + 2; omega)).trans hHeld.2.2.2.1, (hbq.cell (p := ⟨w.heap.size, 4, none⟩) (by show w.heap.size < w.heap.size + 2; omega)).trans hHeld.2.2.2.2.1, (hbq.cell (p := ⟨bN, offN + i' * 6, none⟩) (by show bN < w.heap.size + 2; omega)).trans hHeld.2.2.2.2.2.1, (hbq.cell (p := ⟨bN, offN + i' * 6 + 1, none⟩) (by show bN < w.heap.size + 2; omega)).trans hHeld.2.2.2.2.2.2.1, (hbq.cell (p := ⟨bN, offN + i' * 6 + 2, none⟩) (by show bN < w.heap.size + 2; omega)).trans hHeld.2.2.2.2.2.2.2.1, (hbq.cell (p := ⟨bN, offN + i' * 6 + 3, none⟩) (by show bN < w.heap.size + 2; omega)).trans hHeld.2.2.2.2.2.2.2.2.1, (hbq.cell (p := ⟨bN, offN + i' * 6 + 4, none⟩) (by show bN < w.heap.size + 2; omega)).trans hHeld.2.2.2.2.2.2.2.2.2.1, (hbq.cell (p := ⟨bN, offN + i' * 6 + 5, none⟩) (by show bN < w.heap.size + 2; omega)).trans hHeld.2.2.2.2.2.2.2.2.2.2⟩ (fun hHeld => ?_)
    clear hK K
    refine take_lit (i := 5) (d := 13) (v := ?_) rfl rfl (by kernel_rfl) (by kernel_rfl) (by kernel_rfl) (fun _ _ _ h => h) (Or.inl ⟨by rfl, ?_⟩) (by assumption) ?_
    rotate_left
    · (intro w hSw; (try dsimp only at hSw); first | (go_simp; done) | (go_simp; with_reducible rfl))
    simp only [List.set_cons_zero, List.set_cons_succ]
    refine take_lit (i := 6) (d := 14) (v := ?_) rfl rfl (by kernel_rfl) (by kernel_rfl) (by kernel_rfl) (fun _ _ _ h => h) (Or.inl ⟨by rfl, ?_⟩) (by assumption) ?_
    rotate_left
    · (intro w hSw; (try dsimp only at hSw); first | (go_simp; done) | (go_simp; with_reducible rfl))
    simp only [List.set_cons_zero, List.set_cons_succ]
    refine wpAnyH_ready (rs := [8]) (by kernel_rfl) (by simp) ?_
    refine AllReadyH.cons rfl (fun K hK => ?_) AllReadyH.nil
    have b0 := bz.cell 0 rfl
    have b1 := bz.cell 1 rfl
    have b2 := bz.cell 2 rfl
    have b3 := bz.cell 3 rfl
    have b4 := bz.cell 4 rfl
    have b5 := bz.cell 5 rfl
    have bu := bz.unfrozen
    have hbs : Below (w.heap.size + 2) w2 (putCells w2 (w.heap.size + 2) 0 [.int .i64 x.vId, .string x.vTag, .int .i64 x.vParent, .slice p3 x.vKids.length c3, .int .i64 x.vWrapper, .slice p5 x.vListeners.length c5]) := putCells_below _ _ _ _ _ _ (by omega) (Below.refl _ _)
    go_simp
    refine hK.out _ _ ⟨(hbs.cell (p := ⟨w.heap.size, 0, none⟩) (by show w.heap.size < w.heap.size + 2; omega)).trans hHeld.1, (hbs.cell (p := ⟨w.heap.size, 1, none⟩) (by show w.heap.size < w.heap.size + 2; omega)).trans hHeld.2.1, (hbs.cell (p := ⟨w.heap.size, 2, none⟩) (by show w.heap.size < w.heap.size + 2; omega)).trans hHeld.2.2.1, (hbs.cell (p := ⟨w.heap.size, 3, none⟩) (by show w.heap.size < w.heap.size + 2; omega)).trans hHeld.2.2.2.1, (hbs.cell (p := ⟨w.heap.size, 4, none⟩) (by show w.heap.size < w.heap.size + 2; omega)).trans hHeld.2.2.2.2.1, (hbs.cell (p := ⟨bN, offN + i' * 6, none⟩) (by show bN < w.heap.size + 2; omega)).trans hHeld.2.2.2.2.2.1, (hbs.cell (p := ⟨bN, offN + i' * 6 + 1, none⟩) (by show bN < w.heap.size + 2; omega)).trans hHeld.2.2.2.2.2.2.1, (hbs.cell (p := ⟨bN, offN + i' * 6 + 2, none⟩) (by show bN < w.heap.size + 2; omega)).trans hHeld.2.2.2.2.2.2.2.1, (hbs.cell (p := ⟨bN, offN + i' * 6 + 3, none⟩) (by show bN < w.heap.size + 2; omega)).trans hHeld.2.2.2.2.2.2.2.2.1, (hbs.cell (p := ⟨bN, offN + i' * 6 + 4, none⟩) (by show bN < w.heap.size + 2; omega)).trans hHeld.2.2.2.2.2.2.2.2.2.1, (hbs.cell (p := ⟨bN, offN + i' * 6 + 5, none⟩) (by show bN < w.heap.size + 2; omega)).trans hHeld.2.2.2.2.2.2.2.2.2.2⟩ (fun hHeld => ?_)
    clear hK K
    refine wpAnyH_done (by kernel_rfl) ?_ _
    exact key (w.heap.size + 2) _ (by omega) (((hW2d.trans hba).trans hbq).trans hbs) ((((((bz.set (i := 0) (.int .i64 x.vId)).set (i := 1) (.string x.vTag)).set (i := 2) (.int .i64 x.vParent)).set (i := 3) (.slice p3 x.vKids.length c3)).set (i := 4) (.int .i64 x.vWrapper)).set (i := 5) (.slice p5 x.vListeners.length c5))
end Go.Proofs.Ytndmakfaleaejaa
