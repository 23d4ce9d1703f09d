/- The walk of FnCounts. -/
import Derived.Test.YtdnembnlomnceaaAbb
import Derived.Test.YtdnembnlomnceaaTakeMore
import Derived.Test.YtdnembnlomnceaaDrawReached
import Derived.Test.YtdnembnlomnceaaCtPlain
import Derived.Test.YtdnembnlomnceaaEdgesTop
import Derived.Test.YtdnembnlomnceaaReached
import Derived.Test.YtdnembnlomnceaaCountBoth
import Derived.Test.YtdnembnlomnceaaHasAny
import Derived.Deep.RegionHeld3
import Derived.Deep.DeepCutAuto
import Derived.Deep.CutBlock
namespace Go.Proofs.Ytdnembnlomnceaa.fnCounts
open Go.RowKit Go.Deep
theorem big_any {a : Option Addr} {n cap : Nat} (w : World) : Calls Try.prog 7 #[.slice a n cap] w fun e w' => e = .returned (.bool (decide ((1048576 : Int) < (n : Int)))) ∧ w' = w := by
 go_enter Try.func7, Try.ntmps7
 go_wp2
 go_ret
 exact ⟨rfl, rfl⟩
/-- a heap in a box, under a law -/
structure HT (w : World) (E : Nat) (cs : List Value) (y : HeapD) (W : World) : Prop where
 hB : Below w.heap.size w W
 bE : Box W E cs 28
 hx : HeapAt W 0 cs y
theorem HT.below {w W W' : World} {E : Nat} {cs : List Value} {y : HeapD} (h : HT w E cs y W) (q : Below W.heap.size W W') : HT w E cs y W' := ⟨h.hB.trans (q.mono h.hB.size), h.bE.below q h.bE.lt, heapAt_below h.hx q⟩
/-- two rows of counts, and one of numbers -/
structure CT (w : World) (E : Nat) (cs : List Value) (K1 K2 L : Value) (y : HeapD) (D : List CountD) (R : List Int) (W : World) : Prop where
 hT : HT w E cs y W
 hC : SeqAt 2 CountAt W 0 K1 D
 hW : SeqAt 2 CountAt W 0 K2 D
 hL : SeqAt 1 IntAt W 0 L R
theorem CT.below {w W W' : World} {E : Nat} {cs : List Value} {K1 K2 L : Value} {y : HeapD} {D : List CountD} {R : List Int} (h : CT w E cs K1 K2 L y D R W) (q : Below W.heap.size W W') : CT w E cs K1 K2 L y D R W' := ⟨h.hT.below q, h.hC.below CountAt_stays q, h.hW.below CountAt_stays q, h.hL.below intAt_stays q⟩
theorem cnt_form {W : World} {aL : Option Addr} {nL cL : Nat} {D : List CountD} (h : SeqAt 2 CountAt W 0 (.slice aL nL cL) D) {j : Nat} (hj : j < D.length) : ∃ bL oL, aL = some ⟨bL, oL, none⟩ := by
 obtain ⟨a', c', e3, hm, hx⟩ := h
 injection e3 with e31 e32 e33
 subst e31
 obtain ⟨b, off, rfl, _⟩ := hx (by omega)
 exact ⟨b, off, rfl⟩
theorem cnt_is {W : World} {bL oL nL cL : Nat} {D : List CountD} {X M : Int} (h : SeqAt 2 CountAt W 0 (.slice (some ⟨bL, oL, none⟩) nL cL) D) {j : Nat} (hj : j < D.length) (e : D[j].vId = X) (e' : D[j].vN = M) : W.cell? ⟨bL, oL + j * 2, none⟩ = some (.int .i64 X) ∧ W.cell? ⟨bL, oL + j * 2 + 1, none⟩ = some (.int .i64 M) := by
 obtain ⟨a', c', e3, hm, hx⟩ := h
 injection e3 with e31 e32 e33
 subst e31
 obtain ⟨b, off, e4, _, _, hc⟩ := hx (by omega)
 injection e4 with e4
 injection e4 with e5 e6
 subst e5 e6
 obtain ⟨cs, _, lie, hr⟩ := hc j hj
 obtain ⟨rfl, _⟩ := hr
 rw [← e, ← e']
 exact ⟨lie_at lie 0 rfl, lie_at lie 1 rfl⟩
set_option maxRecDepth 100000 in
set_option maxHeartbeats 8000000 in
theorem drawCounts_any {w : World} {a : Option Addr} {n cap : Nat} (h : CodeAt w a n) :
 Calls Try.prog 28 #[.slice a n cap] w fun e w' => (∃ (y : HeapD) (cs : List Value), e = .returned (.agg cs.toArray) ∧ HSz y ∧ FW y ∧ ∃ fs, HeapP w' cs y fs ∧ ∀ b ∈ fs, w.heap.size ≤ b) ∧ Below w.heap.size w w' := by
 have h' : Hid (CodeAt w a n) := h
 clear h
 have bR0 : Hid (Box (w.alloc (.cells cZp.toArray 28)) w.heap.size cZp 28) := Box.new w _ _
 have hb0 : Hid (Below w.heap.size w (w.alloc (.cells cZp.toArray 28))) := (Below.refl _ _).alloc (Nat.le_refl _) _
 go_enter Try.func28, Try.ntmps28
 go_upto_region 1 with fail
 generalize (w.alloc (.cells cZp.toArray 28)) = w0 at bR0 hb0 ⊢
 go_wp2_with fail
 refine (drawReached_any (h'.out.below hb0.out)).mono ?_
 rintro e w2 ⟨⟨y, cs, rfl, hsz, hF, fs, hp, hn⟩, hb1⟩
 obtain ⟨aN5, kN5, aO5, kO5, aG5, kG5, rfl⟩ := hp.form
 have hszh : Hid (HSz y) := hsz
 have hFh : Hid (FW y) := hF
 have hph : Hid (HeapP w2 (cHp y aN5 kN5 aO5 kO5 aG5 kG5) y fs) := hp
 have hnh : Hid (∀ b ∈ fs, w.heap.size < b) := fun b hb => by have := hn b hb; have := bR0.out.lt; omega
 have bR2 : Hid (Box w2 w.heap.size cZp 28) := bR0.out.below hb1 bR0.out.lt
 have hB2 : Hid (Below w.heap.size w w2) := hb0.out.trans (hb1.mono hb0.out.size)
 clear hsz hF hp hn hb1 bR0 hb0
 obtain ⟨z0, z1, z2, z3, z4⟩ := fv5 bR2.out
 have uz := bR2.out.unfrozen
 go_wp2_with fail
 have bF : Box (putCells w2 w.heap.size 0 (cHp y aN5 kN5 aO5 kO5 aG5 kG5)) w.heap.size (cHp y aN5 kN5 aO5 kO5 aG5 kG5) 28 := Box.puts5 bR2.out
 obtain ⟨g0, g1, g2, g3, g4⟩ := fv5 bF
 have hpf : HeapP (putCells w2 w.heap.size 0 (cHp y aN5 kN5 aO5 kO5 aG5 kG5)) (cHp y aN5 kN5 aO5 kO5 aG5 kG5) y fs := hph.out.stays (fun b hb => putCells_other _ _ _ _ _ (by have h1 := hnh.out b hb; omega))
 have hbf : Below w.heap.size w (putCells w2 w.heap.size 0 (cHp y aN5 kN5 aO5 kO5 aG5 kG5)) := putCells_below _ _ _ _ _ _ (Nat.le_refl _) hB2.out
 exact bodyPost_ret (v := .agg (List.toArray (cHp y aN5 kN5 aO5 kO5 aG5 kG5))) (by simp only [putCells] at g0 g1 g2 g3 g4; simp [results, Try.results28, go_sem, g0, g1, g2, g3, g4]) rfl ⟨⟨y, _, rfl, hszh.out, hFh.out, fs, hpf, fun b hb => by have h1 := hnh.out b hb; omega⟩, hbf⟩
set_option maxRecDepth 100000 in
set_option maxHeartbeats 16000000 in
theorem walk {a : Option Addr} {n cap : Nat} (w : World) (hlen : n ≤ maxLen) (hcode : n ≤ 1048576 → CodeAt w a n) :
 Calls Try.prog 6 #[.slice a n cap] w fun e w' => e = .returned (.bool true) ∧ Below w.heap.size w w' := by
 unfold maxLen at hlen
 by_cases hbig : (1048576 : Int) < (n : Int)
 · clear hcode
   go_enter Try.func6, Try.ntmps6
   go_wp2_with (go_at_call 7; refine (big_any _).mono ?_; rintro e w' ⟨rfl, rfl⟩; rw [decide_eq_true hbig])
   go_ret
   exact ⟨rfl, Below.refl _ _⟩
 have hc' : Hid (CodeAt w a n) := hcode (by omega)
 have hbe : Hid (decide ((1048576 : Int) < (n : Int)) = false) := decide_eq_false hbig
 clear hcode hbig hlen
 go_enter Try.func6, Try.ntmps6
 go_wp2_with (go_at_call 7; refine (big_any _).mono ?_; rintro e w' ⟨rfl, e9⟩; have e10 := e9.symm; clear e9; subst e10; rw [hbe.out])
 refine (drawCounts_any hc'.out).mono ?_
 rintro e w2 ⟨⟨y, cs, rfl, hsz, _, fs, hp, hn⟩, hb2⟩
 obtain ⟨aN5, kN5, aO5, kO5, aG5, kG5, rfl⟩ := hp.form
 have hT0' : Hid (HT w w2.heap.size (cHp y aN5 kN5 aO5 kO5 aG5 kG5) y (w2.alloc (.cells (cHp y aN5 kN5 aO5 kO5 aG5 kG5).toArray 28))) := by
  have AL : Below w2.heap.size w2 (w2.alloc (.cells (cHp y aN5 kN5 aO5 kO5 aG5 kG5).toArray 28)) := (Below.refl _ _).alloc (Nat.le_refl _) _
  exact ⟨hb2.trans (AL.mono hb2.size), Box.new w2 _ _, (hp.below AL).at0⟩
 have hsh : Hid y.small := hsz.2.2.2.2
 obtain ⟨D, hD⟩ : ∃ D, D = countsD y := ⟨_, rfl⟩
 have hDh : Hid (D = countsD y) := hD
 obtain ⟨R, hR⟩ : ∃ R, R = reachedD y := ⟨_, rfl⟩
 have hRh : Hid (R = reachedD y) := hR
 clear hp hn hb2 hc' hbe hsz hR hD
 go_upto_region 4 with fail
 obtain ⟨E, hE⟩ : ∃ E, w2.heap.size = E := ⟨_, rfl⟩
 rw [hE] at hT0' ⊢
 have hT0 : Hid _ := hT0'
 clear hT0' hE
 generalize (w2.alloc (.cells (cHp y aN5 kN5 aO5 kO5 aG5 kG5).toArray 28)) = w2' at hT0 ⊢
 obtain ⟨d0, d1, d2, d3, d4⟩ := fv5 hT0.out.bE
 go_wp2_with fail
 refine (implCountsOf_any hT0.out.hx hsh.out).mono ?_
 rintro e w3 ⟨⟨v3, f3, rfl, ho3, _⟩, hb⟩
 have hC1 : Hid (SeqAt 2 CountAt w3 0 v3 D) := by show SeqAt 2 CountAt w3 0 v3 D; rw [hDh.out]; exact ho3.at CountOwn_at (fun _ _ => Nat.zero_le _)
 obtain ⟨aC, cC, rfl⟩ := hC1.out.form
 have hT1 : Hid (HT w E (cHp y aN5 kN5 aO5 kO5 aG5 kG5) y w3) := hT0.out.below hb
 clear hb d0 d1 d2 d3 d4 hT0 ho3
 obtain ⟨d0, d1, d2, d3, d4⟩ := fv5 hT1.out.bE
 go_wp2_with fail
 refine (specCountsOf_any hT1.out.hx hsh.out).mono ?_
 rintro e w4 ⟨⟨v4, f4, rfl, ho4, _⟩, hb⟩
 have hW2 : Hid (SeqAt 2 CountAt w4 0 v4 D) := by show SeqAt 2 CountAt w4 0 v4 D; rw [hDh.out]; exact ho4.at CountOwn_at (fun _ _ => Nat.zero_le _)
 obtain ⟨aW, cW, rfl⟩ := hW2.out.form
 have hT2 : Hid (HT w E (cHp y aN5 kN5 aO5 kO5 aG5 kG5) y w4) := hT1.out.below hb
 have hC2 : Hid (SeqAt 2 CountAt w4 0 (.slice aC D.length cC) D) := hC1.out.below CountAt_stays hb
 clear hb d0 d1 d2 d3 d4 hT1 ho4 hC1
 obtain ⟨d0, d1, d2, d3, d4⟩ := fv5 hT2.out.bE
 have hDl : D.length ≤ 32 := by rw [hDh.out]; exact counts_len
 have hgl : y.vGlobals.length ≤ 1048576 := hsh.out.2.2.1.1
 go_wp2_with fail
 refine (implReached_any hT2.out.hx hsh.out).mono ?_
 rintro e w5 ⟨⟨v5, f5, rfl, ho5, _⟩, hb⟩
 have hL3 : SeqAt 1 IntAt w5 0 v5 R := by rw [hRh.out]; exact ho5.at intOwn_at (fun _ _ => Nat.zero_le _)
 obtain ⟨aL, cL, rfl⟩ := hL3.form
 have hT3 : Hid (CT w E (cHp y aN5 kN5 aO5 kO5 aG5 kG5) (.slice aC D.length cC) (.slice aW D.length cW) (.slice aL R.length cL) y D R w5) := ⟨hT2.out.below hb, hC2.out.below CountAt_stays hb, hW2.out.below CountAt_stays hb, hL3⟩
 clear hb d0 d1 d2 d3 d4 hT2 hC2 hW2 ho5 hL3
 have hheld : Hid (∀ (i : Nat) (hi : i < D.length), hasB R D[i].vId = true → D[i].vN ≠ 0) := by
  show ∀ (i : Nat) (hi : i < D.length), hasB R D[i].vId = true → D[i].vN ≠ 0
  rw [hRh.out, hDh.out]
  exact fun i hi h => counts_held hsh.out hi h
 have hN : Hid (∀ j, 0 ≤ sumN D j ∧ sumN D j ≤ 35184372064) := by
  show ∀ j, 0 ≤ sumN D j ∧ sumN D j ≤ 35184372064
  rw [hDh.out]; exact sumN_le hsh.out
 have hE : Hid (∀ j, 0 ≤ sumE y D j ∧ sumE y D j ≤ 35184372064) := by
  show ∀ j, 0 ≤ sumE y D j ∧ sumE y D j ≤ 35184372064
  rw [hDh.out]; exact sumE_le hsh.out
 have hend : Hid (¬ (D.length : Int) = 0 → sumN D D.length = sumE y D D.length) := by
  show ¬ (D.length : Int) = 0 → sumN D D.length = sumE y D D.length
  rw [hDh.out]
  intro h0
  exact sum_total (counts_is (List.getElem_mem (show 0 < (countsD y).length by omega))).1
 clear hRh hDh
 have d4 := hT3.out.hT.bE.cell 4 rfl
 go_upto_block 0 with fail
 clear d4
 go_cut [7, 8] from 9 (fun s t wx => s = .int .i64 (sumN D D.length) ∧ t = .int .i64 (sumE y D D.length) ∧ Hid (CT w E (cHp y aN5 kN5 aO5 kO5 aG5 kG5) (.slice aC D.length cC) (.slice aW D.length cW) (.slice aL R.length cL) y D R wx))
 case first =>
  go_wp2_with fail
  go_loopw [7, 8, 9] (fun s z iv wr => ∃ (i : Nat) (p t : Int), i ≤ D.length ∧ iv = .int .i64 i ∧ s = .int .i64 p ∧ z = .int .i64 t ∧ Hid (p = sumN D i ∧ t = sumE y D i) ∧ Hid (CT w E (cHp y aN5 kN5 aO5 kO5 aG5 kG5) (.slice aC D.length cC) (.slice aW D.length cW) (.slice aL R.length cL) y D R wr)) (fun _ _ iv _ => D.length - (intOf iv).toNat)
  case atStart => exact ⟨0, 0, 1 + (y.vGlobals.length : Int), by omega, rfl, rfl, by go_num, ⟨(sumN_zero D).symm, (sumE_zero y D).symm⟩, hT3⟩
  case round =>
   obtain ⟨i, p, t, hi, rfl, rfl, rfl, hpt, hTi⟩ := hrel
   by_cases hlt : i < D.length
   · clear hT3
     obtain ⟨bC, oC, rfl⟩ := cnt_form hTi.out.hC hlt
     obtain ⟨bW, oW, rfl⟩ := cnt_form hTi.out.hW hlt
     obtain ⟨X, hX⟩ : ∃ X, D[i].vId = X := ⟨_, rfl⟩
     have hXh : Hid (D[i].vId = X) := hX
     obtain ⟨M, hM⟩ : ∃ M, D[i].vN = M := ⟨_, rfl⟩
     have hMh : Hid (D[i].vN = M) := hM
     have hMX : Hid (hasB R X = true → ¬ M = 0) := by
      show hasB R X = true → ¬ M = 0
      rw [← hX, ← hM]; exact hheld.out i hlt
     have hNb : Hid (p + M = sumN D (i + 1) ∧ 0 ≤ p + M ∧ p + M ≤ 35184372064) := by
      have h1 := sumN_succ hlt
      rw [hM, ← hpt.out.1] at h1
      have h2 := hN.out (i + 1)
      exact ⟨h1.symm, by omega, by omega⟩
     have hEb : Hid (t + ((edgesD y X).length : Int) = sumE y D (i + 1) ∧ 0 ≤ t + ((edgesD y X).length : Int) ∧ t + ((edgesD y X).length : Int) ≤ 35184372064) := by
      have h1 := sumE_succ (h := y) hlt
      rw [hX, ← hpt.out.2] at h1
      have h2 := hE.out (i + 1)
      exact ⟨h1.symm, by omega, by omega⟩
     have hlI : (i : Int) < ((D.length : Nat) : Int) := by omega
     have hi0 : (0 : Int) ≤ (i : Int) := by omega
     obtain ⟨q, hq⟩ : ∃ q, hasB R X = q := ⟨_, rfl⟩
     have hqh : Hid (hasB R X = q) := hq
     clear hX hM hq hpt
     go_upto_region 14 with fail
     go_cut [60] (fun v wx => v = .bool false ∧ Hid (CT w E (cHp y aN5 kN5 aO5 kO5 aG5 kG5) (.slice (some ⟨bC, oC, none⟩) D.length cC) (.slice (some ⟨bW, oW, none⟩) D.length cW) (.slice aL R.length cL) y D R wx))
     case first =>
      have hTd : Hid (CT w E (cHp y aN5 kN5 aO5 kO5 aG5 kG5) (.slice (some ⟨bC, oC, none⟩) D.length cC) (.slice (some ⟨bW, oW, none⟩) D.length cW) (.slice aL R.length cL) y D R wr.drew) := hTi.out.below (Below.drew (Below.refl _ _))
      clear hTi
      cases q
      · 
        refine wp_region_held_drew (S := fun w' => w'.cell? ⟨bC, oC + i * 2, none⟩ = some (.int .i64 X) ∧ w'.cell? ⟨bC, oC + i * 2 + 1, none⟩ = some (.int .i64 M) ∧ w'.cell? ⟨bW, oW + i * 2, none⟩ = some (.int .i64 X) ∧ w'.cell? ⟨bW, oW + i * 2 + 1, none⟩ = some (.int .i64 M)) (by kernel_rfl) ⟨(cnt_is hTd.out.hC hlt hXh.out hMh.out).1, (cnt_is hTd.out.hC hlt hXh.out hMh.out).2, cnt_is hTd.out.hW hlt hXh.out hMh.out⟩ (fun hHeld => ?_)
        refine tk 0 ?_
        refine tk 1 ?_
        refine tk 2 ?_
        refine tk 3 ?_
        refine tk 4 ?_
        refine tk 5 ?_
        refine tk 6 ?_
        refine tk 7 ?_
        refine take_lit (i := 8) (d := 43) (v := .bool false) rfl rfl (by kernel_rfl) (by kernel_rfl) (by kernel_rfl) (fun _ _ _ h => h) (Or.inl ⟨by rfl, ?_⟩) (by assumption) ?_
        · (intro w hSw; (try dsimp only at hSw); go_simp; first | done | simp)
        simp only [sz, ss]
        refine tk 9 ?_
        refine tk 10 ?_
        refine tk 11 ?_
        refine tk 12 ?_
        refine tk 13 ?_
        refine tk 14 ?_
        refine tk 15 ?_
        refine rd1 16 (fun K hK => ?_)
        go_simp
        refine (has_any hTd.out.hL).mono ?_
        rintro e w9 ⟨rfl, e9⟩
        have e10 := e9.symm
        clear e9
        subst e10
        rw [hqh.out]
        refine hK.out _ _ (by assumption) (fun hHeld => ?_)
        clear hK K
        refine tk 17 ?_
        refine tu 18 ?_
        refine tu 19 ?_
        refine tu 20 ?_
        refine tu 21 ?_
        refine tu 22 ?_
        refine tu 23 ?_
        refine tk 24 ?_
        refine tk 25 ?_
        refine wpAnyH_done (by kernel_rfl) ?_ _
        clear hHeld
        go_wp2_with fail
        go_meet
        exact ⟨rfl, hTd⟩
      · have hM0 : Hid (¬ M = 0) := hMX.out hqh.out
        refine wp_region_held_drew (S := fun w' => w'.cell? ⟨bC, oC + i * 2, none⟩ = some (.int .i64 X) ∧ w'.cell? ⟨bC, oC + i * 2 + 1, none⟩ = some (.int .i64 M) ∧ w'.cell? ⟨bW, oW + i * 2, none⟩ = some (.int .i64 X) ∧ w'.cell? ⟨bW, oW + i * 2 + 1, none⟩ = some (.int .i64 M)) (by kernel_rfl) ⟨(cnt_is hTd.out.hC hlt hXh.out hMh.out).1, (cnt_is hTd.out.hC hlt hXh.out hMh.out).2, cnt_is hTd.out.hW hlt hXh.out hMh.out⟩ (fun hHeld => ?_)
        refine tk 0 ?_
        refine tk 1 ?_
        refine tk 2 ?_
        refine tk 3 ?_
        refine tk 4 ?_
        refine tk 5 ?_
        refine tk 6 ?_
        refine tk 7 ?_
        refine take_lit (i := 8) (d := 43) (v := .bool false) rfl rfl (by kernel_rfl) (by kernel_rfl) (by kernel_rfl) (fun _ _ _ h => h) (Or.inl ⟨by rfl, ?_⟩) (by assumption) ?_
        · (intro w hSw; (try dsimp only at hSw); go_simp; first | done | simp)
        simp only [sz, ss]
        refine tk 9 ?_
        refine tk 10 ?_
        refine tk 11 ?_
        refine tk 12 ?_
        refine tk 13 ?_
        refine tk 14 ?_
        refine tk 15 ?_
        refine rd1 16 (fun K hK => ?_)
        go_simp
        refine (has_any hTd.out.hL).mono ?_
        rintro e w9 ⟨rfl, e9⟩
        have e10 := e9.symm
        clear e9
        subst e10
        rw [hqh.out]
        refine hK.out _ _ (by assumption) (fun hHeld => ?_)
        clear hK K
        refine tk 17 ?_
        refine tk 18 ?_
        refine tk 19 ?_
        refine tk 20 ?_
        refine tk 21 ?_
        refine tk 22 ?_
        refine take_lit (i := 23) (d := 58) (v := .bool false) rfl rfl (by kernel_rfl) (by kernel_rfl) (by kernel_rfl) (fun _ _ _ h => h) (Or.inl ⟨by rfl, ?_⟩) (by assumption) ?_
        · (intro w hSw; clear hSw; go_simp; exact hM0.out)
        simp only [sz, ss]
        refine tk 24 ?_
        refine tk 25 ?_
        refine wpAnyH_done (by kernel_rfl) ?_ _
        clear hHeld
        go_wp2_with fail
        go_meet
        exact ⟨rfl, hTd⟩
     case rest =>
      obtain ⟨rfl, hTi⟩ := hcut
      have c1 := (cnt_is hTi.out.hC hlt hXh.out hMh.out).2
      go_upto_region 17 with fail
      clear c1
      have hTd : Hid (CT w E (cHp y aN5 kN5 aO5 kO5 aG5 kG5) (.slice (some ⟨bC, oC, none⟩) D.length cC) (.slice (some ⟨bW, oW, none⟩) D.length cW) (.slice aL R.length cL) y D R wc.drew) := hTi.out.below (Below.drew (Below.refl _ _))
      clear hTi
      refine wp_region_held_drew (S := fun w' => w'.cell? ⟨E, 0, none⟩ = some (.int .i64 y.vNext) ∧ w'.cell? ⟨E, 1, none⟩ = some (.int .i64 y.vDoc) ∧ w'.cell? ⟨E, 2, none⟩ = some (.slice aN5 y.vNodes.length kN5) ∧ w'.cell? ⟨E, 3, none⟩ = some (.slice aO5 y.vObjs.length kO5) ∧ w'.cell? ⟨E, 4, none⟩ = some (.slice aG5 y.vGlobals.length kG5) ∧ w'.cell? ⟨bC, oC + i * 2, none⟩ = some (.int .i64 X)) (by kernel_rfl) (fv5a hTd.out.hT.bE (cnt_is hTd.out.hC hlt hXh.out hMh.out).1) (fun hHeld => ?_)
      refine tk 0 ?_
      refine tk 1 ?_
      refine tk 2 ?_
      refine tk 3 ?_
      refine tk 4 ?_
      refine tk 5 ?_
      refine tk 6 ?_
      refine rd1 7 (fun K hK => ?_)
      go_simp
      refine (implEdgesOf_any hTd.out.hT.hx hsh.out).mono ?_
      rintro e w1 ⟨⟨vE, fE, rfl, hoE, _⟩, hb1⟩
      have hT1 : Hid (CT w E (cHp y aN5 kN5 aO5 kO5 aG5 kG5) (.slice (some ⟨bC, oC, none⟩) D.length cC) (.slice (some ⟨bW, oW, none⟩) D.length cW) (.slice aL R.length cL) y D R w1) := hTd.out.below hb1
      obtain ⟨aE, cE, rfl⟩ := (hoE.at (lo := 0) intOwn_at (fun _ _ => Nat.zero_le _)).form
      clear hoE
      refine hK.out _ _ ⟨cell_on hb1 hHeld.1, cell_on hb1 hHeld.2.1, cell_on hb1 hHeld.2.2.1, cell_on hb1 hHeld.2.2.2.1, cell_on hb1 hHeld.2.2.2.2.1, cell_on hb1 hHeld.2.2.2.2.2⟩ (fun hHeld => ?_)
      clear hK K
      refine tk 8 ?_
      refine take_lit (i := 9) (d := 77) (v := .int .i64 (t + ((edgesD y X).length : Int))) rfl rfl (by kernel_rfl) (by kernel_rfl) (by kernel_rfl) (fun _ _ _ h => h) (Or.inl ⟨by rfl, ?_⟩) (by assumption) ?_
      · (intro w hSw; clear hSw; go_simp; rw [IntKind.wrap_i64]; have q9 := hEb.out; omega)
      simp only [sz, ss]
      refine tk 10 ?_
      refine wpAnyH_done (by kernel_rfl) ?_ _
      clear hHeld
      go_wp2_with fail
      go_roundw
      case rel =>
       refine ⟨i + 1, p + M, t + ((edgesD y X).length : Int), by omega, by go_num, ?_, rfl, ⟨hNb.out.1, hEb.out.1⟩, hT1⟩
       have q9 := hNb.out
       congr 1; unfold wrap64; omega
      case measure => simp [intOf]; omega
   · obtain rfl : i = D.length := by omega
     obtain ⟨rfl, rfl⟩ := hpt.out
     go_wp2_with fail
     go_meet
     exact ⟨rfl, rfl, hTi⟩
 case rest =>
  obtain ⟨rfl, rfl, hT4⟩ := hcut
  clear hT3
  by_cases h0 : (D.length : Int) = 0
  · have hB : Hid (Below w.heap.size w wc) := hT4.out.hT.hB
    clear hT4
    go_wp2_with fail
    all_goals (go_ret; exact ⟨by simp, hB.out⟩)
  · have hB : Hid (Below w.heap.size w wc) := hT4.out.hT.hB
    have he := hend.out h0
    rw [he]
    generalize sumE y D D.length = z
    clear hT4
    go_wp2_with fail
    all_goals (go_ret; exact ⟨by simp, hB.out⟩)
end Go.Proofs.Ytdnembnlomnceaa.fnCounts
