/- FindAll of the program, walked. -/
import Derived.Test.YtgmgbjeejlkdmaaFindPlain
import Derived.Test.YtgmgbjeejlkdmaaMatchTop
import Derived.Test.YtgmgbjeejlkdmaaPathsTop
namespace Go.Proofs.Ytgmgbjeejlkdmaa
open Go.RowKit
theorem two_b5i (b : Bool) : b = false ∨ b = true := by cases b <;> simp
theorem findD_sel {ok : Bool} {n : Nat} {d : TD} {l : List StepD} (h2 : selB l = true) : findD ok n d l = (pathsOfD ok n d).filter (fitB d l) := by
  cases ok
  · rw [findD_no rfl, pathsOfD_no rfl]; rfl
  · rw [findD_yes rfl h2, pathsOfD_yes rfl]
set_option maxRecDepth 100000 in
set_option maxHeartbeats 8000000 in
theorem implFindAll_any {n : Nat} {w : World} {lo lo3 : Nat} {t k kl : Value} {d : TD} {l : List StepD} (ht : TreeAt w lo n t k d) (hl : SeqAt 2 StepAt w lo3 kl l) :
    Calls Try.prog 20 #[.agg #[t, k], kl] w fun e w' => AnsP w w' (findD (okB (szD n d 30)) n d l) e ∧ Below w.heap.size w w' := by
  obtain ⟨rfl, _⟩ := ht.tag
  obtain ⟨_, a0, cap0, rfl⟩ := ht.form
  have ht0 : Hid (TreeAt w lo n _ _ d) := ht
  have hl0 : Hid (SeqAt 2 StepAt w lo3 kl l) := hl
  obtain ⟨al, capl, rfl⟩ := hl.form
  obtain ⟨iT, hiT0, heT0, heT1, heT2⟩ := info_parts2 infoIS
  have hiT : Hid (Try.prog.info? 30 = some iT) := hiT0
  have heT : Hid (iT.zero = some (.slice none 0 0) ∧ iT.size = 1 ∧ iT.bytes = 24) := ⟨heT0, heT1, heT2⟩
  clear ht hl hiT0 heT0 heT1 heT2
  have hb1 : Hid (Below w.heap.size w (w.alloc (.cells #[.string (strT d), .slice a0 (kidsOf d).length cap0] 26))) := (Below.refl _ _).alloc (Nat.le_refl _) _
  have bx1 : Hid (Box (w.alloc (.cells #[.string (strT d), .slice a0 (kidsOf d).length cap0] 26)) w.heap.size [.string (strT d), .slice a0 (kidsOf d).length cap0] 26) := Box.new w _ _
  go_enter Try.func20, Try.ntmps20
  go_wp2_with fail
  refine (implSelOk_any (hl0.out.below StepAt_stays hb1.out)).mono ?_
  rintro e w2 ⟨rfl, hb2⟩
  have hB2 : Hid (Below w.heap.size w w2) := hb1.out.trans (hb2.mono hb1.out.size)
  have bx2 : Hid (Box w2 w.heap.size [.string (strT d), .slice a0 (kidsOf d).length cap0] 26) := bx1.out.below hb2 bx1.out.lt
  clear hb2 bx1 hb1
  rcases two_b5i (selB l) with hs | hs
  · have H : Hid (findD (okB (szD n d 30)) n d l = []) := findD_no (by rw [hs]; simp)
    rw [hs]
    clear hs
    go_wp2_with fail
    go_ret
    rw [H.out]
    exact ⟨⟨_, [], rfl, ⟨_, _, rfl, ⟨Nat.zero_le _, Nat.zero_le _⟩, Or.inl ⟨rfl, rfl⟩⟩, List.nodup_nil, by simp⟩, hB2.out⟩
  have H : Hid (findD (okB (szD n d 30)) n d l = (pathsOfD (okB (szD n d 30)) n d).filter (fitB d l)) := findD_sel hs
  have hl1 : Hid (1 ≤ l.length) := selB_pos hs
  rw [hs]
  clear hs
  go_wp2_with fail
  refine (matcherOf_any (hl0.out.below StepAt_stays hB2.out) hl1.out).mono ?_
  rintro e w3 ⟨⟨mv, rfl, hM⟩, hb3⟩
  have hB3 : Hid (Below w.heap.size w w3) := hB2.out.trans (hb3.mono hB2.out.size)
  have bx3 : Hid (Box w3 w.heap.size [.string (strT d), .slice a0 (kidsOf d).length cap0] 26) := bx2.out.below hb3 bx2.out.lt
  have hM3 : Hid (IsM (stL l) w3 (l.length - 1) mv) := hM
  clear hb3 bx2 hM
  have c0 := bx3.out.cell 0 rfl
  have c1 := bx3.out.cell 1 rfl
  have hmf : ∃ ff fc, mv = .func (.func ff) #[] fc := by
    have hq := hM3.out
    generalize l.length - 1 = NN at hq
    cases NN with
    | zero => obtain ⟨g, rfl, _⟩ := hq; exact ⟨_, _, rfl⟩
    | succ n => obtain ⟨_, _, _, _, _, rfl, _⟩ := hq; exact ⟨_, _, rfl⟩
  obtain ⟨ff, fc, rfl⟩ := hmf
  go_wp2_with fail
  refine (implPathsOf_any (ht0.out.below hB3.out)).mono ?_
  rintro e w5 ⟨⟨vp, fsp, rfl, hsp, _, hlop⟩, hb5⟩
  have hB5 : Hid (Below w.heap.size w w5) := hB3.out.trans (hb5.mono hB3.out.size)
  have bx5 : Hid (Box w5 w.heap.size [.string (strT d), .slice a0 (kidsOf d).length cap0] 26) := bx3.out.below hb5 bx3.out.lt
  have hM5 : Hid (IsM (stL l) w5 (l.length - 1) (.func (.func ff) #[] fc)) := IsM.below hb5 hM3.out
  have hz3 := hB3.out.size
  have hz5 := hb5.size
  obtain ⟨zs, e1, e2, e3, e4, ap, capp, rfl, hcell⟩ := seq_ones hsp
  have hzl : Hid (zs.length = (pathsOfD (okB (szD n d 30)) n d).length) := by show _ = _; rw [← e1, List.length_map]
  have hokz : Hid (0 < zs.length → okB (szD n d 30) = true) := fun h => by
    rcases two_b5i (okB (szD n d 30)) with q | q
    · have hq := hzl.out; rw [pathsOfD_no q] at hq; rw [hq] at h; simp at h
    · exact q
  have hfew : zs.length ≤ 30 := by
    rcases Nat.eq_zero_or_pos zs.length with q | q
    · omega
    · have hk := hokz.out q
      have h1 := hzl.out
      rw [pathsOfD_yes hk, pathsD_len] at h1
      have h3 := (right_of_ok2 hk).cntT n
      omega
  have e1' : Hid (zs.map OneP.xs = pathsOfD (okB (szD n d 30)) n d) := e1
  have e2' : Hid ((zs.flatMap OneP.bs).Nodup) := e2
  have e3' : Hid (∀ z ∈ zs, ∀ b ∈ z.bs, w3.heap.size ≤ b ∧ b < w5.heap.size) := fun z hz b hb => ⟨hlop b (e3 z hz b hb), (e4 z hz).lt intOwn_lt b hb⟩
  have e4' : Hid (∀ z ∈ zs, SeqOwn 1 IntOwn w5 z.k z.xs z.bs) := e4
  have hcell' : Hid (0 < (pathsOfD (okB (szD n d 30)) n d).length → ∃ b off, ap = some ⟨b, off, none⟩ ∧ b < w5.heap.size ∧ ∀ i, (hi : i < zs.length) → w5.cell? ⟨b, off + i, none⟩ = some zs[i].k) := hcell
  clear hb5 hsp hlop e1 e2 e3 e4 hcell bx3 c0 c1 hM3
  rw [← hzl.out]
  go_wp2_with fail
  go_loopw [6, 19] (fun v i wr => ∃ (j : Nat) (av : Option Addr) (capv : Nat), j ≤ zs.length ∧ i = .int .i64 j ∧ v = .slice av (pickZ (fitB d l) zs j).length capv ∧ Hid (wr.ownsRow w5.heap.size 30 1 (.slice av (pickZ (fitB d l) zs j).length capv) (pickZ (fitB d l) zs j).length ((pickZ (fitB d l) zs j).map OneP.k)) ∧ Hid (Below w5.heap.size w5 wr)) (fun _ i _ => zs.length - (intOf i).toNat)
  case atStart => exact ⟨0, none, 0, by omega, rfl, by rw [pickZ_zero]; rfl, by rw [pickZ_zero]; exact World.ownsRow_nil _ _ _ _, Below.refl _ _⟩
  case round =>
    obtain ⟨j, av, capv, hj, rfl, rfl, hrow, hb5r⟩ := hrel
    have hBr : Hid (Below w.heap.size w wr) := hB5.out.trans (hb5r.out.mono hB5.out.size)
    have bxr : Hid (Box wr w.heap.size [.string (strT d), .slice a0 (kidsOf d).length cap0] 26) := bx5.out.below hb5r.out bx5.out.lt
    have hz5r := hb5r.out.size
    by_cases hlt : j < zs.length
    · obtain ⟨bp, op, rfl, hbp, hcp⟩ := hcell'.out (by have := hzl.out; omega)
      have hk := hokz.out (by omega)
      have hzc : wr.cell? ⟨bp, op + j, none⟩ = some zs[j].k := (hb5r.out.cell (p := ⟨bp, op + j, none⟩) hbp).trans (hcp j hlt)
      have hzm : zs[j] ∈ zs := List.getElem_mem _
      have hzo : Hid (SeqOwn 1 IntOwn wr zs[j].k zs[j].xs zs[j].bs) := (e4'.out _ hzm).below intOwn_stays intOwn_lt hb5r.out
      have hm : zs[j].xs ∈ pathsD n d [] := by rw [← pathsOfD_yes hk, ← e1'.out]; exact List.mem_map.2 ⟨_, hzm, rfl⟩
      have hPok : okP d zs[j].xs = true := by
        obtain ⟨r, er, ho⟩ := pathsD_ok n d [] _ hm
        rw [er]
        exact ho
      have hPl : zs[j].xs.length ≤ 1048576 := by
        have h1 := pathsD_short n d [] _ hm
        have h2 := (right_of_ok2 hk).cntT n
        simp at h1
        omega
      have hPl' : Hid (zs[j].xs.length ≤ 1048576) := hPl
      have hPok' : Hid ((okB (szD n d 30) && okP d zs[j].xs) = true) := by show _ = _; rw [hk, hPok]; rfl
      obtain ⟨pk, ck, ek⟩ := hzo.out.form
      have ek' : Hid (zs[j].k = .slice pk zs[j].xs.length ck) := ek
      rw [ek] at hzc
      have hpA : Hid (SeqAt 1 IntAt wr 0 (.slice pk zs[j].xs.length ck) zs[j].xs) := by rw [← ek]; exact hzo.out.at (lo := 0) intOwn_at (fun _ _ => Nat.zero_le _)
      have c0 := bxr.out.cell 0 rfl
      have c1 := bxr.out.cell 1 rfl
      have hlt0 : (j : Int) < (zs.length : Int) := by omega
      have hj0 : (0 : Int) ≤ (j : Int) := by omega
      clear hcp ek hm hPok hPl hk
      go_wp2_with fail
      refine (wayTo_any (ht0.out.below hBr.out) hpA.out hPl'.out).mono ?_
      rintro e w7 ⟨hres, hb7⟩
      have hb7' : Hid (Below wr.heap.size wr w7) := hb7
      obtain ⟨kw, rfl, hway⟩ : ∃ kw, e = .returned (.tuple #[kw, .bool true]) ∧ SeqAt 2 TagA w7 wr.heap.size kw ((wayJ d zs[j].xs zs[j].xs.length).map strT) := by
        rcases hres with ⟨_, _, kw, e1, hway⟩ | ⟨hno, _⟩
        · exact ⟨kw, e1, way_tags hway⟩
        · rw [hPok'.out] at hno; cases hno
      have happ : Hid (AppV (.func (.func ff) #[] fc) kw w7 (fitB d l zs[j].xs)) :=
        mC_all (stL l) (tgP d zs[j].xs) (l.length - 1) w7 kw _ _ _ zs[j].xs.length (IsM.below (hb5r.out.trans (hb7.mono hb5r.out.size)) hM5.out) hway (by simp [wayJ]) (fun i hi => by rw [List.getElem_map, wayJ_get]; rfl)
      have hzw7 := hb7.size
      clear hres hway hb7
      have hMx : Hid (IsM (stL l) w5 (l.length - 1) (.func (.func ff) #[] fc)) := hM5
      rcases two_b5i (fitB d l zs[j].xs) with hf | hf
      · have hP : Hid (pickZ (fitB d l) zs (j + 1) = pickZ (fitB d l) zs j) := pickZ_no hlt hf
        have hMq := hMx.out
        generalize l.length - 1 = NN at hMq
        cases NN with
        | zero =>
          obtain ⟨g, em, _⟩ := hMq
          injection em with em1 _ em2
          injection em1 with em1
          subst em1 em2
          go_wp2_with fail
          refine (happ.out 59 _ rfl).mono ?_
          rintro e w8 ⟨rfl, m8, rfl⟩
          rw [hf]
          have hb8 : Hid (Below wr.heap.size wr (w7.drewN m8)) := below_drewN hb7'.out m8
          generalize w7.drewN m8 = w8 at hb8
          have hzw8 := hb8.out.size
          go_wp2_with fail
          go_roundw
          case rel =>
            refine ⟨j + 1, av, capv, by omega, by go_num, by rw [hP.out], ?_, hb5r.out.trans (hb8.out.mono hb5r.out.size)⟩
            rw [hP.out]; exact row_below hrow.out hb8.out
          case measure => simp [intOf]; omega
        | succ NN =>
          obtain ⟨g1, g2, g3, vo, va, em, _⟩ := hMq
          injection em with em1 _ em2
          injection em1 with em1
          subst em1 em2
          go_wp2_with fail
          refine (happ.out 60 _ rfl).mono ?_
          rintro e w8 ⟨rfl, m8, rfl⟩
          rw [hf]
          have hb8 : Hid (Below wr.heap.size wr (w7.drewN m8)) := below_drewN hb7'.out m8
          generalize w7.drewN m8 = w8 at hb8
          have hzw8 := hb8.out.size
          go_wp2_with fail
          go_roundw
          case rel =>
            refine ⟨j + 1, av, capv, by omega, by go_num, by rw [hP.out], ?_, hb5r.out.trans (hb8.out.mono hb5r.out.size)⟩
            rw [hP.out]; exact row_below hrow.out hb8.out
          case measure => simp [intOf]; omega
      · have hP : Hid (pickZ (fitB d l) zs (j + 1) = pickZ (fitB d l) zs j ++ [zs[j]]) := pickZ_yes hlt hf
        have hMq := hMx.out
        generalize l.length - 1 = NN at hMq
        cases NN with
        | zero =>
          obtain ⟨g, em, _⟩ := hMq
          injection em with em1 _ em2
          injection em1 with em1
          subst em1 em2
          go_wp2_with fail
          refine (happ.out 59 _ rfl).mono ?_
          rintro e w8 ⟨rfl, m8, rfl⟩
          rw [hf]
          have hb8 : Hid (Below wr.heap.size wr (w7.drewN m8)) := below_drewN hb7'.out m8
          generalize w7.drewN m8 = w8 at hb8
          have hzw8 := hb8.out.size
          have rowb : Hid (World.ownsRow (w8.alloc (.cells #[.slice pk zs[j].xs.length ck] 30)) w5.heap.size 30 1 (.slice av (pickZ (fitB d l) zs j).length capv) (pickZ (fitB d l) zs j).length ((pickZ (fitB d l) zs j).map OneP.k)) := row_below hrow.out (hb8.out.alloc hb8.out.size _)
          go_wp2_with (at_builtin; refine wpList_append_own_at _ rfl _ _ 28 rfl (w5.heap.size) 30 iT _ 1 24 Try.underlying28 hiT.out heT.out.1 heT.out.2.1 heT.out.2.2 rfl (by decide) (.slice av (pickZ (fitB d l) zs j).length capv) (pickZ (fitB d l) zs j).length ((pickZ (fitB d l) zs j).map OneP.k) rfl rowb.out ⟨w8.heap.size, 0, none⟩ 1 1 [.slice pk zs[j].xs.length ck] rfl rfl (by intro q u hq; match q, hq with | 0, hq => (simp at hq; subst hq; simp [Addr.add]) | q + 1, hq => simp at hq) (by intro u hu; simp at hu; subst hu; rfl) (by have := pickZ_len (fitB d l) zs j; unfold maxLen; omega) (by have := pickZ_len (fitB d l) zs j; omega) (by simp; omega) ?_; intro v2 w6 hown6 hgrow6 hnil6 hat6)
          have hown6' : Hid (w6.ownsRow w5.heap.size 30 1 v2 (pickZ (fitB d l) zs (j + 1)).length ((pickZ (fitB d l) zs (j + 1)).map OneP.k)) := by show World.ownsRow _ _ _ _ _ _ _; rw [hP.out, List.length_append, List.map_append, List.map_cons, List.map_nil, ek'.out]; exact hown6
          obtain ⟨g6, cap6, rfl⟩ : ∃ g6 cap6, v2 = .slice (some ⟨g6, 0, none⟩) (pickZ (fitB d l) zs (j + 1)).length cap6 := by
            rcases hown6'.out.2 with ⟨_, hn⟩ | ⟨g6, cap6, cur, e6, _⟩
            · rw [hP.out] at hn; simp at hn
            · exact ⟨g6, cap6, e6⟩
          have hgrow6' : Hid (World.grownBy (w8.alloc (.cells #[.slice pk zs[j].xs.length ck] 30)) w6 (Value.slice av (pickZ (fitB d l) zs j).length capv).ownBlock) := hgrow6
          clear hown6 hgrow6 hnil6 hat6
          go_roundw
          case rel =>
            refine ⟨j + 1, some ⟨g6, 0, none⟩, cap6, by omega, by go_num, rfl, hown6', ?_⟩
            exact (hb5r.out.trans ((hb8.out.alloc hb8.out.size _).mono hb5r.out.size)).trans (below_of_grown hgrow6'.out (by simp; omega) (fun q e => own_block2 hrow.out q e))
          case measure => simp [intOf]; omega
        | succ NN =>
          obtain ⟨g1, g2, g3, vo, va, em, _⟩ := hMq
          injection em with em1 _ em2
          injection em1 with em1
          subst em1 em2
          go_wp2_with fail
          refine (happ.out 60 _ rfl).mono ?_
          rintro e w8 ⟨rfl, m8, rfl⟩
          rw [hf]
          have hb8 : Hid (Below wr.heap.size wr (w7.drewN m8)) := below_drewN hb7'.out m8
          generalize w7.drewN m8 = w8 at hb8
          have hzw8 := hb8.out.size
          have rowb : Hid (World.ownsRow (w8.alloc (.cells #[.slice pk zs[j].xs.length ck] 30)) w5.heap.size 30 1 (.slice av (pickZ (fitB d l) zs j).length capv) (pickZ (fitB d l) zs j).length ((pickZ (fitB d l) zs j).map OneP.k)) := row_below hrow.out (hb8.out.alloc hb8.out.size _)
          go_wp2_with (at_builtin; refine wpList_append_own_at _ rfl _ _ 28 rfl (w5.heap.size) 30 iT _ 1 24 Try.underlying28 hiT.out heT.out.1 heT.out.2.1 heT.out.2.2 rfl (by decide) (.slice av (pickZ (fitB d l) zs j).length capv) (pickZ (fitB d l) zs j).length ((pickZ (fitB d l) zs j).map OneP.k) rfl rowb.out ⟨w8.heap.size, 0, none⟩ 1 1 [.slice pk zs[j].xs.length ck] rfl rfl (by intro q u hq; match q, hq with | 0, hq => (simp at hq; subst hq; simp [Addr.add]) | q + 1, hq => simp at hq) (by intro u hu; simp at hu; subst hu; rfl) (by have := pickZ_len (fitB d l) zs j; unfold maxLen; omega) (by have := pickZ_len (fitB d l) zs j; omega) (by simp; omega) ?_; intro v2 w6 hown6 hgrow6 hnil6 hat6)
          have hown6' : Hid (w6.ownsRow w5.heap.size 30 1 v2 (pickZ (fitB d l) zs (j + 1)).length ((pickZ (fitB d l) zs (j + 1)).map OneP.k)) := by show World.ownsRow _ _ _ _ _ _ _; rw [hP.out, List.length_append, List.map_append, List.map_cons, List.map_nil, ek'.out]; exact hown6
          obtain ⟨g6, cap6, rfl⟩ : ∃ g6 cap6, v2 = .slice (some ⟨g6, 0, none⟩) (pickZ (fitB d l) zs (j + 1)).length cap6 := by
            rcases hown6'.out.2 with ⟨_, hn⟩ | ⟨g6, cap6, cur, e6, _⟩
            · rw [hP.out] at hn; simp at hn
            · exact ⟨g6, cap6, e6⟩
          have hgrow6' : Hid (World.grownBy (w8.alloc (.cells #[.slice pk zs[j].xs.length ck] 30)) w6 (Value.slice av (pickZ (fitB d l) zs j).length capv).ownBlock) := hgrow6
          clear hown6 hgrow6 hnil6 hat6
          go_roundw
          case rel =>
            refine ⟨j + 1, some ⟨g6, 0, none⟩, cap6, by omega, by go_num, rfl, hown6', ?_⟩
            exact (hb5r.out.trans ((hb8.out.alloc hb8.out.size _).mono hb5r.out.size)).trans (below_of_grown hgrow6'.out (by simp; omega) (fun q e => own_block2 hrow.out q e))
          case measure => simp [intOf]; omega
    · obtain rfl : j = zs.length := by omega
      go_wp2_with fail
      go_ret
      obtain ⟨fs, hs, hlo⟩ := picked_own (r := none) (pickZ_sub (fitB d l) zs zs.length) e2'.out e4'.out (grown_ofB hb5r.out) (fun _ _ _ _ e => by cases e) (fun z hz b hb e => by have h1 := own_block2 hrow.out b e; have := e3'.out z hz b hb; omega) hrow.out
      rw [H.out, ← e1'.out, ← pickZ_all]
      exact ⟨⟨_, fs, rfl, hs, hs.nodup, fun b q => by rcases hlo b q with h | ⟨z, hz, hb⟩; (have := hB5.out.size; omega); (have := e3'.out z hz b hb; omega)⟩, hBr.out⟩
end Go.Proofs.Ytgmgbjeejlkdmaa
