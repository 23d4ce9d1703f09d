/- A row of edits, marked. -/
import Derived.Test.YtfncmndgdomjiaaEdRows
namespace Go.Proofs.Ytfncmndgdomjiaa
open Go.RowKit
/-- an edit of a row, marked -/
def mkEd (n : Nat) (x : EditD) (m : Int) : EditD := ⟨m, mkL cntI mkI x.vPath (m + 1), markT (m + 1 + (cntL cntI x.vPath : Nat)), mkT (markT (m + 1 + (cntL cntI x.vPath : Nat) + 1)) (mkL (cntTree n) (mkTree n) (kidsOf x.vTree) (m + 1 + (cntL cntI x.vPath : Nat) + 1 + 1))⟩
def cntEd (n : Nat) (x : EditD) : Nat := 3 + cntL cntI x.vPath + cntL (cntTree n) (kidsOf x.vTree)
set_option maxRecDepth 100000 in
set_option maxHeartbeats 6400000 in
theorem markEditS_any {n : Nat} {w : World} {k : Value} {xs : List EditD} {fs : List Nat} {m : Int} (hk : SeqOwn 5 (EditO (n + 1)) w k xs fs) (h0 : 0 ≤ m) (h1 : m + (cntL (cntEd n) xs : Nat) ≤ 4611686018427387904) :
    Calls Try.prog 26 #[k, .int .i64 m] w fun e w' => e = .returned (.int .i64 (m + (cntL (cntEd n) xs : Nat))) ∧ SeqOwn 5 (EditO (n + 1)) w' k (mkL (cntEd n) (mkEd n) xs m) fs ∧ Out fs w w' := by
  have hk' : Hid (SeqOwn 5 (EditO (n + 1)) w k xs fs) := hk
  obtain ⟨a, cap, rfl, hm, _⟩ := hk
  unfold maxLen at hm
  go_enter Try.func26, Try.ntmps26
  go_wp2_with fail
  go_loopw [1, 5] (fun z i wr => ∃ (j : Nat), j ≤ xs.length ∧ i = .int .i64 j ∧ z = .int .i64 (m + (pos (cntEd n) xs j : Nat)) ∧ Hid (SeqOwn 5 (EditO (n + 1)) wr (.slice a xs.length cap) (mix (mkL (cntEd n) (mkEd n) xs m) xs j) fs) ∧ Hid (Out fs w wr)) (fun _ i _ => xs.length - (intOf i).toNat)
  case atStart => exact ⟨0, by omega, rfl, by rw [pos_zero]; simp, by rw [mix_zero]; exact hk'.out, Out.refl _ _⟩
  case round =>
    obtain ⟨j, hj, rfl, rfl, hown, hout⟩ := hrel
    by_cases hlt : j < xs.length
    · have hml := mix_length (mkL_length (cnt := (cntEd n)) (mk := (mkEd n)) (xs := xs) (m := m)) hj
      obtain ⟨b, off, C, T, cs, fj, rfl, hrow, hcl, ⟨hbf, hbn, hsub, hnd⟩, hr, hclose⟩ := hown.out.step (EditO_stays (n + 1)) (EditO_lt (n + 1)) (j := j) (by omega)
      have hset : Hid _ := mix_set (mkL_length (cnt := (cntEd n)) (mk := (mkEd n)) (xs := xs) (m := m)) hlt
      have hps2 : pos (cntEd n) xs (j + 1) = pos (cntEd n) xs j + (3 + cntL cntI xs[j].vPath + cntL (cntTree n) (kidsOf xs[j].vTree)) := pos_succ hlt
      have hpl : pos (cntEd n) xs (j + 1) ≤ cntL (cntEd n) xs := pos_le (by omega) (Nat.le_refl _)
      rw [mkL_get] at hset
      rw [mix_get mkL_length hlt] at hr
      generalize xs[j] = Q at *
      obtain ⟨kp, kk, fp, ft, rfl, hki0, hp0, htg0, ht0, hfj, hnd0⟩ := hr
      obtain ⟨p1, d1, rfl⟩ := hp0.form
      obtain ⟨k1, f1, e1, o1, hts0, hff⟩ := ht0
      obtain ⟨a1, c1, rfl⟩ := o1.form
      simp only [List.cons.injEq, and_true, true_and] at e1
      subst e1 hff hfj
      have hp : Hid (SeqOwn 1 IntOwn wr (.slice p1 Q.vPath.length d1) Q.vPath fp) := hp0
      have ho : Hid (SeqOwn 2 (TreeO n) wr (.slice a1 (kidsOf Q.vTree).length c1) (kidsOf Q.vTree) ft) := o1
      have hndh : Hid ((fp ++ ft).Nodup) := hnd0
      have hbp : Hid (b ∉ fp) := fun q => hbn (List.mem_append.2 (Or.inl q))
      have hbt : Hid (b ∉ ft) := fun q => hbn (List.mem_append.2 (Or.inr q))
      have hap : Hid (∀ x ∈ ft, x ∉ fp) := fun x h1 h2 => (List.nodup_append.1 hnd0).2.2 x h2 x h1 rfl
      have hbfh : Hid (b ∈ fs) := hbf
      have hsubh : Hid (∀ x ∈ fp ++ ft, x ∈ fs) := hsub
      have hrow' : Hid (RowIs wr b (off + j * 5) C T [.int .i64 Q.vKind, .slice p1 Q.vPath.length d1, .string Q.vTag, .string (strT Q.vTree), .slice a1 (kidsOf Q.vTree).length c1]) := hrow
      have hclose' : Hid _ := hclose
      clear hrow hclose hp0 o1 hnd0 hki0 htg0 hts0 hsub hbn hbf hnd hcl
      generalize hP : m + (pos (cntEd n) xs j : Nat) = P at *
      have hP0 : 0 ≤ P := by omega
      have hcE : Hid (mkEd n Q P = ⟨P, mkL cntI mkI Q.vPath (P + 1), markT (P + 1 + (cntL cntI Q.vPath : Nat)), mkT (markT (P + 1 + (cntL cntI Q.vPath : Nat) + 1)) (mkL (cntTree n) (mkTree n) (kidsOf Q.vTree) (P + 1 + (cntL cntI Q.vPath : Nat) + 1 + 1))⟩) := rfl
      generalize hC1 : cntL cntI Q.vPath = N1 at *
      generalize hC2 : cntL (cntTree n) (kidsOf Q.vTree) = N2 at *
      have hP1 : P + (3 + (N1 : Int) + (N2 : Int)) ≤ 4611686018427387904 := by omega
      have hz : m + (pos (cntEd n) xs (j + 1) : Nat) = P + 1 + (N1 : Int) + 1 + 1 + (N2 : Int) := by omega
      have hjI : (j : Int) < (xs.length : Int) := by omega
      have hj0 : (0 : Int) ≤ (j : Int) := by omega
      clear hpl hps2
      have z0 := RowIs.cell hrow'.out 0 rfl
      have z1 := RowIs.cell hrow'.out 1 rfl
      have z2 := RowIs.cell hrow'.out 2 rfl
      have z3 := RowIs.cell hrow'.out 3 rfl
      have z4 := RowIs.cell hrow'.out 4 rfl
      have zf := RowIs.unfrozen hrow'.out
      simp only [Nat.add_zero] at z0
      have rA : Hid (RowIs (wr.setCell ⟨b, off + j * 5, none⟩ (.int .i64 P)) b (off + j * 5) C T [.int .i64 P, .slice p1 Q.vPath.length d1, .string Q.vTag, .string (strT Q.vTree), .slice a1 (kidsOf Q.vTree).length c1]) := by have q := hrow'.out.set (m := 0) (by simp) (.int .i64 P); simp only [Nat.add_zero] at q; exact q
      have oA : Hid (Out [b] wr (wr.setCell ⟨b, off + j * 5, none⟩ (.int .i64 P))) := Out.set (Out.refl _ _) List.mem_cons_self _
      have hpA : Hid (SeqOwn 1 IntOwn (wr.setCell ⟨b, off + j * 5, none⟩ (.int .i64 P)) (.slice p1 Q.vPath.length d1) Q.vPath fp) := SeqOwn.stays intOwn_stays hp.out (fun x hx => set_other (fun e => hbp.out (by rw [← e]; exact hx)) _)
      have hoA : Hid (SeqOwn 2 (TreeO n) (wr.setCell ⟨b, off + j * 5, none⟩ (.int .i64 P)) (.slice a1 (kidsOf Q.vTree).length c1) (kidsOf Q.vTree) ft) := SeqOwn.stays (TreeO_stays n) ho.out (fun x hx => set_other (fun e => hbt.out (by rw [← e]; exact hx)) _)
      have y0 := RowIs.cell rA.out 0 rfl
      have y1 := RowIs.cell rA.out 1 rfl
      have y2 := RowIs.cell rA.out 2 rfl
      have y3 := RowIs.cell rA.out 3 rfl
      have y4 := RowIs.cell rA.out 4 rfl
      have yf := RowIs.unfrozen rA.out
      simp only [Nat.add_zero] at y0
      go_wp2_with fail
      refine (markInt64S_any hpA.out (by omega) (by rw [hC1]; omega)).mono ?_
      rintro e v1 ⟨rfl, hp1, ho1⟩
      rw [hC1]
      have r1 : Hid (RowIs v1 b (off + j * 5) C T [.int .i64 P, .slice p1 Q.vPath.length d1, .string Q.vTag, .string (strT Q.vTree), .slice a1 (kidsOf Q.vTree).length c1]) := rA.out.out ho1 hbp.out
      have o1 : Hid (Out (b :: (fp ++ ft)) wr v1) := Out.trans (oA.out.mono (fun x q => by rw [List.mem_singleton.1 q]; exact List.mem_cons_self)) (ho1.mono (fun x q => List.mem_cons_of_mem _ (List.mem_append.2 (Or.inl q))))
      have hp1h : Hid (SeqOwn 1 IntOwn v1 (.slice p1 Q.vPath.length d1) (mkL cntI mkI Q.vPath (P + 1)) fp) := hp1
      have h1o : Hid (SeqOwn 2 (TreeO n) v1 (.slice a1 (kidsOf Q.vTree).length c1) (kidsOf Q.vTree) ft) := SeqOwn.stays (TreeO_stays n) hoA.out (fun x hx => ho1.keep (hoA.out.lt (TreeO_lt n) x hx) (hap.out x hx))
      clear z0 z1 z2 z3 z4 zf
      clear y0 y1 y2 y3 y4 yf
      clear hp1 ho1 rA oA hpA hoA hrow' hp ho
      have z0 := RowIs.cell r1.out 0 rfl
      have z1 := RowIs.cell r1.out 1 rfl
      have z2 := RowIs.cell r1.out 2 rfl
      have z3 := RowIs.cell r1.out 3 rfl
      have z4 := RowIs.cell r1.out 4 rfl
      have zf := RowIs.unfrozen r1.out
      simp only [Nat.add_zero] at z0
      go_wp2_with fail
      refine (markText_any (by omega)).mono ?_
      rintro e v2 ⟨rfl, hc2⟩
      have r2 : Hid (RowIs v2 b (off + j * 5) C T [.int .i64 P, .slice p1 Q.vPath.length d1, .string Q.vTag, .string (strT Q.vTree), .slice a1 (kidsOf Q.vTree).length c1]) := r1.out.below hc2
      have o2 : Hid (Out (b :: (fp ++ ft)) wr v2) := o1.out.trans (Out.of_below hc2)
      have hp2h : Hid (SeqOwn 1 IntOwn v2 (.slice p1 Q.vPath.length d1) (mkL cntI mkI Q.vPath (P + 1)) fp) := SeqOwn.stays intOwn_stays hp1h.out (fun x hx => hc2.block x (hp1h.out.lt intOwn_lt x hx))
      have h2o : Hid (SeqOwn 2 (TreeO n) v2 (.slice a1 (kidsOf Q.vTree).length c1) (kidsOf Q.vTree) ft) := SeqOwn.stays (TreeO_stays n) h1o.out (fun x hx => hc2.block x (h1o.out.lt (TreeO_lt n) x hx))
      clear z0 z1 z2 z3 z4 zf
      clear hc2 r1 o1 hp1h h1o
      have rB : Hid (RowIs (v2.setCell ⟨b, off + j * 5 + 2, none⟩ (.string (markT (P + 1 + (N1 : Int))))) b (off + j * 5) C T [.int .i64 P, .slice p1 Q.vPath.length d1, .string (markT (P + 1 + (N1 : Int))), .string (strT Q.vTree), .slice a1 (kidsOf Q.vTree).length c1]) := r2.out.set (m := 2) (by simp) _
      have oB : Hid (Out (b :: (fp ++ ft)) wr (v2.setCell ⟨b, off + j * 5 + 2, none⟩ (.string (markT (P + 1 + (N1 : Int)))))) := Out.set o2.out List.mem_cons_self _
      have hpB : Hid (SeqOwn 1 IntOwn (v2.setCell ⟨b, off + j * 5 + 2, none⟩ (.string (markT (P + 1 + (N1 : Int))))) (.slice p1 Q.vPath.length d1) (mkL cntI mkI Q.vPath (P + 1)) fp) := SeqOwn.stays intOwn_stays hp2h.out (fun x hx => set_other (fun e => hbp.out (by rw [← e]; exact hx)) _)
      have hoB : Hid (SeqOwn 2 (TreeO n) (v2.setCell ⟨b, off + j * 5 + 2, none⟩ (.string (markT (P + 1 + (N1 : Int))))) (.slice a1 (kidsOf Q.vTree).length c1) (kidsOf Q.vTree) ft) := SeqOwn.stays (TreeO_stays n) h2o.out (fun x hx => set_other (fun e => hbt.out (by rw [← e]; exact hx)) _)
      have z0 := RowIs.cell r2.out 0 rfl
      have z1 := RowIs.cell r2.out 1 rfl
      have z2 := RowIs.cell r2.out 2 rfl
      have z3 := RowIs.cell r2.out 3 rfl
      have z4 := RowIs.cell r2.out 4 rfl
      have zf := RowIs.unfrozen r2.out
      simp only [Nat.add_zero] at z0
      have y0 := RowIs.cell rB.out 0 rfl
      have y1 := RowIs.cell rB.out 1 rfl
      have y2 := RowIs.cell rB.out 2 rfl
      have y3 := RowIs.cell rB.out 3 rfl
      have y4 := RowIs.cell rB.out 4 rfl
      have yf := RowIs.unfrozen rB.out
      simp only [Nat.add_zero] at y0
      go_wp2_with fail
      refine (markText_any (by omega)).mono ?_
      rintro e v3 ⟨rfl, hc3⟩
      have r3 : Hid (RowIs v3 b (off + j * 5) C T [.int .i64 P, .slice p1 Q.vPath.length d1, .string (markT (P + 1 + (N1 : Int))), .string (strT Q.vTree), .slice a1 (kidsOf Q.vTree).length c1]) := rB.out.below hc3
      have o3 : Hid (Out (b :: (fp ++ ft)) wr v3) := oB.out.trans (Out.of_below hc3)
      have hp3h : Hid (SeqOwn 1 IntOwn v3 (.slice p1 Q.vPath.length d1) (mkL cntI mkI Q.vPath (P + 1)) fp) := SeqOwn.stays intOwn_stays hpB.out (fun x hx => hc3.block x (hpB.out.lt intOwn_lt x hx))
      have h3o : Hid (SeqOwn 2 (TreeO n) v3 (.slice a1 (kidsOf Q.vTree).length c1) (kidsOf Q.vTree) ft) := SeqOwn.stays (TreeO_stays n) hoB.out (fun x hx => hc3.block x (hoB.out.lt (TreeO_lt n) x hx))
      clear z0 z1 z2 z3 z4 zf
      clear y0 y1 y2 y3 y4 yf
      clear hc3 r2 o2 hp2h h2o rB oB hpB hoB
      have rC : Hid (RowIs (v3.setCell ⟨b, off + j * 5 + 3, none⟩ (.string (markT (P + 1 + (N1 : Int) + 1)))) b (off + j * 5) C T [.int .i64 P, .slice p1 Q.vPath.length d1, .string (markT (P + 1 + (N1 : Int))), .string (markT (P + 1 + (N1 : Int) + 1)), .slice a1 (kidsOf Q.vTree).length c1]) := r3.out.set (m := 3) (by simp) _
      have oC : Hid (Out (b :: (fp ++ ft)) wr (v3.setCell ⟨b, off + j * 5 + 3, none⟩ (.string (markT (P + 1 + (N1 : Int) + 1))))) := Out.set o3.out List.mem_cons_self _
      have hpC : Hid (SeqOwn 1 IntOwn (v3.setCell ⟨b, off + j * 5 + 3, none⟩ (.string (markT (P + 1 + (N1 : Int) + 1)))) (.slice p1 Q.vPath.length d1) (mkL cntI mkI Q.vPath (P + 1)) fp) := SeqOwn.stays intOwn_stays hp3h.out (fun x hx => set_other (fun e => hbp.out (by rw [← e]; exact hx)) _)
      have hoC : Hid (SeqOwn 2 (TreeO n) (v3.setCell ⟨b, off + j * 5 + 3, none⟩ (.string (markT (P + 1 + (N1 : Int) + 1)))) (.slice a1 (kidsOf Q.vTree).length c1) (kidsOf Q.vTree) ft) := SeqOwn.stays (TreeO_stays n) h3o.out (fun x hx => set_other (fun e => hbt.out (by rw [← e]; exact hx)) _)
      have z0 := RowIs.cell r3.out 0 rfl
      have z1 := RowIs.cell r3.out 1 rfl
      have z2 := RowIs.cell r3.out 2 rfl
      have z3 := RowIs.cell r3.out 3 rfl
      have z4 := RowIs.cell r3.out 4 rfl
      have zf := RowIs.unfrozen r3.out
      simp only [Nat.add_zero] at z0
      have y0 := RowIs.cell rC.out 0 rfl
      have y1 := RowIs.cell rC.out 1 rfl
      have y2 := RowIs.cell rC.out 2 rfl
      have y3 := RowIs.cell rC.out 3 rfl
      have y4 := RowIs.cell rC.out 4 rfl
      have yf := RowIs.unfrozen rC.out
      simp only [Nat.add_zero] at y0
      go_wp2_with fail
      refine (markTreeS_any n hoC.out (by omega) (by rw [hC2]; omega)).mono ?_
      rintro e v4 ⟨rfl, ho4, hc4⟩
      rw [hC2]
      have r4 : Hid (RowIs v4 b (off + j * 5) C T [.int .i64 P, .slice p1 Q.vPath.length d1, .string (markT (P + 1 + (N1 : Int))), .string (markT (P + 1 + (N1 : Int) + 1)), .slice a1 (kidsOf Q.vTree).length c1]) := rC.out.out hc4 hbt.out
      have o4 : Hid (Out (b :: (fp ++ ft)) wr v4) := oC.out.trans (hc4.mono (fun x q => List.mem_cons_of_mem _ (List.mem_append.2 (Or.inr q))))
      have hp4h : Hid (SeqOwn 1 IntOwn v4 (.slice p1 Q.vPath.length d1) (mkL cntI mkI Q.vPath (P + 1)) fp) := SeqOwn.stays intOwn_stays hpC.out (fun x hx => hc4.keep (hpC.out.lt intOwn_lt x hx) (fun q => hap.out x q hx))
      have h4o : Hid (SeqOwn 2 (TreeO n) v4 (.slice a1 (kidsOf Q.vTree).length c1) (mkL (cntTree n) (mkTree n) (kidsOf Q.vTree) (P + 1 + (N1 : Int) + 1 + 1)) ft) := ho4
      clear z0 z1 z2 z3 z4 zf
      clear y0 y1 y2 y3 y4 yf
      clear hc4 ho4 r3 o3 hp3h h3o rC oC hpC hoC
      go_wp2_with fail
      go_roundw
      case rel =>
        refine ⟨j + 1, by omega, by go_num, by rw [hz], ?_, ?_⟩
        · rw [← hset.out]
          refine hclose'.out _ [.int .i64 P, .slice p1 Q.vPath.length d1, .string (markT (P + 1 + (N1 : Int))), .string (markT (P + 1 + (N1 : Int) + 1)), .slice a1 (kidsOf Q.vTree).length c1] _ rfl r4.out o4.out ?_
          rw [hcE.out]
          exact ⟨_, _, fp, ft, rfl, (show InI P by unfold InI; omega), hp4h.out, markT_size (by omega), ⟨_, ft, rfl, h4o.out, markT_size (by omega), rfl⟩, rfl, hndh.out⟩
        · exact Out.trans hout.out (Out.mono o4.out (fun x q => by rcases List.mem_cons.1 q with q | q; (rw [q]; exact hbfh.out); (exact hsubh.out x q)))
      case measure => simp [intOf]; omega
    · obtain rfl : j = xs.length := by omega
      have hful : Hid _ := mix_full (mkL_length (cnt := (cntEd n)) (mk := (mkEd n)) (xs := xs) (m := m))
      go_wp2_with fail
      go_ret
      exact ⟨rfl, by rw [← hful.out]; exact hown.out, hout.out⟩
end Go.Proofs.Ytfncmndgdomjiaa
