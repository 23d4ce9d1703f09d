/- The walk of FnBelow. -/
import Derived.Test.YtdnembnlomnceaaGreatAbb
import Derived.Test.YtdnembnlomnceaaGreatTakeMore
import Derived.Test.YtdnembnlomnceaaGreatDrawBelow
import Derived.Test.YtdnembnlomnceaaGreatBlPlain
import Derived.Test.YtdnembnlomnceaaGreatBelowBoth
import Derived.Test.YtdnembnlomnceaaGreatEdgesTop
import Derived.Test.YtdnembnlomnceaaGreatSameInts
import Derived.Deep.RegionHeld3
namespace Go.Proofs.YtdnembnlomnceaaGreat.fnBelow
open Go.RowKit Go.Deep
theorem big_any {a : Option Addr} {n cap : Nat} (w : World) : Calls Tryz.prog 5 #[.slice a n cap] w fun e w' => e = .returned (.bool (decide ((1048576 : Int) < (n : Int)))) ∧ w' = w := by
 go_enter Tryz.func5, Tryz.ntmps5
 go_wp2
 go_ret
 exact ⟨rfl, rfl⟩
/-- a heap in a box, under a law -/
structure HT (w : World) (E : Nat) (cs : List Value) (y : HeapD) (W : World) : Prop where
 hB : Below w.heap.size w W
 bE : Box W E cs 28
 hx : HeapAt W 0 cs y
theorem HT.below {w W W' : World} {E : Nat} {cs : List Value} {y : HeapD} (h : HT w E cs y W) (q : Below W.heap.size W W') : HT w E cs y W' := ⟨h.hB.trans (q.mono h.hB.size), h.bE.below q h.bE.lt, heapAt_below h.hx q⟩
/-- and two rows of numbers -/
structure LT (w : World) (E : Nat) (cs : List Value) (K L : Value) (y : HeapD) (ids R : List Int) (W : World) : Prop where
 hT : HT w E cs y W
 hI : SeqAt 1 IntAt W 0 K ids
 hL : SeqAt 1 IntAt W 0 L R
theorem LT.below {w W W' : World} {E : Nat} {cs : List Value} {K L : Value} {y : HeapD} {ids R : List Int} (h : LT w E cs K L y ids R W) (q : Below W.heap.size W W') : LT w E cs K L y ids R W' := ⟨h.hT.below q, h.hI.below intAt_stays q, h.hL.below intAt_stays q⟩
theorem row_form {W : World} {aL : Option Addr} {nL cL : Nat} {R : List Int} (h : SeqAt 1 IntAt W 0 (.slice aL nL cL) R) {j : Nat} (hj : j < R.length) : ∃ bL oL, aL = some ⟨bL, oL, none⟩ := by
 obtain ⟨a', c', e3, hm, hx⟩ := h
 injection e3 with e31 e32 e33
 subst e31
 obtain ⟨b, off, rfl, _⟩ := hx (by omega)
 exact ⟨b, off, rfl⟩
theorem row_is {W : World} {bL oL nL cL : Nat} {R : List Int} {X : Int} (h : SeqAt 1 IntAt W 0 (.slice (some ⟨bL, oL, none⟩) nL cL) R) {j : Nat} (hj : j < R.length) (e : R[j] = X) : W.cell? ⟨bL, oL + j, none⟩ = some (.int .i64 X) := by
 obtain ⟨a', c', e3, hm, hx⟩ := h
 injection e3 with e31 e32 e33
 subst e31
 obtain ⟨b, off, e4, _, _, hc⟩ := hx (by omega)
 injection e4 with e4
 injection e4 with e5 e6
 subst e5 e6
 obtain ⟨cs, _, lie, hr⟩ := hc j hj
 obtain ⟨rfl, _⟩ := hr
 rw [← e]
 have z0 := lie_at lie 0 rfl
 simpa only [Nat.mul_one, Nat.add_zero] using z0
def P4 (y : HeapD) (ids R : List Int) (X : Int) (i j : Nat) : Prop := hasB ids X = true ∨ ∃ m, ∃ hm : m < R.length, m < j ∧ m ≠ i ∧ hasB (edgesD y R[m]) X = true
theorem P4.last {y : HeapD} {ids R : List Int} {X : Int} {i j : Nat} (h : P4 y ids R X i (j + 1)) : P4 y ids R X i j ∨ ∃ hm : j < R.length, j ≠ i ∧ hasB (edgesD y R[j]) X = true := by
 rcases h with h | ⟨m, hm, h1, h2, h3⟩
 · exact Or.inl (Or.inl h)
 · by_cases e : m = j
   · subst e; exact Or.inr ⟨hm, h2, h3⟩
   · exact Or.inl (Or.inr ⟨m, hm, by omega, h2, h3⟩)
set_option maxRecDepth 100000 in
set_option maxHeartbeats 16000000 in
theorem walk {a : Option Addr} {n cap : Nat} (w : World) (hlen : n ≤ maxLen) (hcode : n ≤ 1048576 → CodeAt w a n) :
 Calls Tryz.prog 3 #[.slice a n cap] w fun e w' => e = .returned (.bool true) ∧ Below w.heap.size w w' := by
 unfold maxLen at hlen
 by_cases hbig : (1048576 : Int) < (n : Int)
 · clear hcode
   go_enter Tryz.func3, Tryz.ntmps3
   go_wp2_with (go_at_call 5; refine (big_any _).mono ?_; rintro e w' ⟨rfl, rfl⟩; rw [decide_eq_true hbig])
   go_ret
   exact ⟨rfl, Below.refl _ _⟩
 have hc' : Hid (CodeAt w a n) := hcode (by omega)
 have hbe : Hid (decide ((1048576 : Int) < (n : Int)) = false) := decide_eq_false hbig
 clear hcode hbig hlen
 go_enter Tryz.func3, Tryz.ntmps3
 go_wp2_with (go_at_call 5; refine (big_any _).mono ?_; rintro e w' ⟨rfl, e9⟩; have e10 := e9.symm; clear e9; subst e10; rw [hbe.out])
 refine (drawBelow_any hc'.out).mono ?_
 rintro e w2 ⟨⟨y, cs, v, ids, fs, fr, rfl, hsz, hp, hn, ho, _, hil⟩, hb2⟩
 obtain ⟨aN5, kN5, aO5, kO5, aG5, kG5, rfl⟩ := hp.form
 have AL : Below w2.heap.size w2 (w2.alloc (.cells (cHp y aN5 kN5 aO5 kO5 aG5 kG5).toArray 28)) := (Below.refl _ _).alloc (Nat.le_refl _) _
 have hT0' : Hid (HT w w2.heap.size (cHp y aN5 kN5 aO5 kO5 aG5 kG5) y (w2.alloc (.cells (cHp y aN5 kN5 aO5 kO5 aG5 kG5).toArray 28))) := ⟨hb2.trans (AL.mono hb2.size), Box.new w2 _ _, (hp.below AL).at0⟩
 have hI0' : Hid (SeqAt 1 IntAt (w2.alloc (.cells (cHp y aN5 kN5 aO5 kO5 aG5 kG5).toArray 28)) 0 v ids) := (ho.at (lo := 0) intOwn_at (fun _ _ => Nat.zero_le _)).below intAt_stays AL
 obtain ⟨aI, cI, rfl⟩ := ho.form
 have hsh : Hid y.small := hsz.2.2.2.2
 have hil' : ids.length ≤ 1048576 := by omega
 obtain ⟨R, hR⟩ : ∃ R, R = belowA y ids := ⟨_, rfl⟩
 have hRh : Hid (R = belowA y ids) := hR
 have hlen : R.length ≤ 1048576 := by rw [hR]; exact belowA_len hsh.out ids
 clear hp hn hb2 hc' hbe hsz hR ho hil AL
 go_upto_region 4 with fail
 obtain ⟨E, hE⟩ : ∃ E, w2.heap.size = E := ⟨_, rfl⟩
 rw [hE] at hT0' ⊢
 have hT0 : Hid _ := hT0'
 have hI0 : Hid _ := hI0'
 clear hT0' hE hI0'
 generalize (w2.alloc (.cells (cHp y aN5 kN5 aO5 kO5 aG5 kG5).toArray 28)) = w2' at hT0 hI0 ⊢
 obtain ⟨d0, d1, d2, d3, d4⟩ := fv5 hT0.out.bE
 go_wp2_with fail
 refine (implBelow_any hT0.out.hx hsh.out hI0.out hil').mono ?_
 rintro e w3 ⟨⟨v3, f3, rfl, ho3, _⟩, hb⟩
 have hL1 : SeqAt 1 IntAt w3 0 v3 R := by rw [hRh.out]; exact ho3.at intOwn_at (fun _ _ => Nat.zero_le _)
 obtain ⟨aL, cL, rfl⟩ := hL1.form
 have hT1 : Hid (LT w E (cHp y aN5 kN5 aO5 kO5 aG5 kG5) (.slice aI ids.length cI) (.slice aL R.length cL) y ids R w3) := ⟨hT0.out.below hb, hI0.out.below intAt_stays hb, hL1⟩
 clear hb d0 d1 d2 d3 d4 hT0 ho3 hL1 hI0
 obtain ⟨d0, d1, d2, d3, d4⟩ := fv5 hT1.out.hT.bE
 go_wp2_with fail
 refine (specBelow_any hT1.out.hT.hx hsh.out hT1.out.hI hil').mono ?_
 rintro e w4 ⟨⟨v4, f4, rfl, ho4, _⟩, hb⟩
 have hT2 : Hid (LT w E (cHp y aN5 kN5 aO5 kO5 aG5 kG5) (.slice aI ids.length cI) (.slice aL R.length cL) y ids R w4) := hT1.out.below hb
 have hM : Hid (SeqAt 1 IntAt w4 0 v4 R) := by show SeqAt 1 IntAt w4 0 v4 R; rw [hRh.out]; exact ho4.at intOwn_at (fun _ _ => Nat.zero_le _)
 obtain ⟨aM, cM, rfl⟩ := hM.out.form
 clear hb d0 d1 d2 d3 d4 hT1 ho4
 go_wp2_with fail
 refine (sameInts_any hT2.out.hL hM.out).mono ?_
 rintro e w5 ⟨rfl, hb⟩
 have hT3 : Hid (LT w E (cHp y aN5 kN5 aO5 kO5 aG5 kG5) (.slice aI ids.length cI) (.slice aL R.length cL) y ids R w5) := hT2.out.below hb
 clear hb hT2 hM
 by_cases h0 : (R.length : Int) = 0
 · -- nothing is below: the program's row is the specification's
   obtain ⟨d0, d1, d2, d3, d4⟩ := fv5 hT3.out.hT.bE
   go_wp2_with fail
   refine (specBelow_any hT3.out.hT.hx hsh.out hT3.out.hI hil').mono ?_
   rintro e w7 ⟨⟨v4, f4, rfl, ho4, _⟩, hb⟩
   have hT5 : Hid (LT w E (cHp y aN5 kN5 aO5 kO5 aG5 kG5) (.slice aI ids.length cI) (.slice aL R.length cL) y ids R w7) := hT3.out.below hb
   have hM : Hid (SeqAt 1 IntAt w7 0 v4 R) := by show SeqAt 1 IntAt w7 0 v4 R; rw [hRh.out]; exact ho4.at intOwn_at (fun _ _ => Nat.zero_le _)
   obtain ⟨aM, cM, rfl⟩ := hM.out.form
   clear hb d0 d1 d2 d3 d4 hT3 ho4
   go_wp2_with fail
   refine (sameInts_any hT5.out.hL hM.out).mono ?_
   rintro e w8 ⟨rfl, hb⟩
   have hB : Hid (Below w.heap.size w w8) := (hT5.out.below hb).hT.hB
   clear hb hT5 hM
   go_wp2_with fail
   go_ret
   exact ⟨rfl, hB.out⟩
 have hr : Hid (BelR y ids R) := by
  show BelR y ids R
  have q := below_right (h := y) hsh.out (ids := ids) (by rw [← hRh.out]; omega)
  rw [hRh.out]; exact q
 clear hRh
 go_upto_block 0 with fail
 go_cut [] from 6 (fun wx => Hid (LT w E (cHp y aN5 kN5 aO5 kO5 aG5 kG5) (.slice aI ids.length cI) (.slice aL R.length cL) y ids R wx))
 case first =>
  go_wp2_with fail
  go_loopw [6] (fun iv wr => ∃ (i : Nat), i ≤ R.length ∧ iv = .int .i64 i ∧ Hid (LT w E (cHp y aN5 kN5 aO5 kO5 aG5 kG5) (.slice aI ids.length cI) (.slice aL R.length cL) y ids R wr)) (fun iv _ => R.length - (intOf iv).toNat)
  case atStart => exact ⟨0, by omega, rfl, hT3⟩
  case round =>
   obtain ⟨i, hi, rfl, hTi⟩ := hrel
   by_cases hlt : i < R.length
   · clear hT3
     obtain ⟨bL, oL, rfl⟩ := row_form hTi.out.hL hlt
     obtain ⟨X, hX⟩ : ∃ X, R[i] = X := ⟨_, rfl⟩
     have hXh : Hid (R[i] = X) := hX
     have hwX : Hid (withinB (edgesD y X) R = true) := hr.out.within (hX ▸ List.getElem_mem hlt)
     have hend : Hid (P4 y ids R X i R.length) := by
      show P4 y ids R X i R.length
      rcases hr.out.last (hX ▸ List.getElem_mem hlt) with h | ⟨k, hk, h1, h2⟩
      · exact Or.inl h
      · exact Or.inr ⟨k, hk, hk, fun e => h1 (by subst e; exact hX), h2⟩
     obtain ⟨p, hp⟩ : ∃ p, hasB ids X = p := ⟨_, rfl⟩
     have hph : Hid (hasB ids X = p) := hp
     have lX := row_is hTi.out.hL hlt hX
     have hlI : (i : Int) < ((R.length : Nat) : Int) := by omega
     have hi0 : (0 : Int) ≤ (i : Int) := by omega
     clear hX hp
     go_wp2_with fail
     refine (has_any hTi.out.hI).mono ?_
     rintro e w9 ⟨rfl, e9⟩
     have e10 := e9.symm
     clear e9
     subst e10
     rw [hph.out]
     clear lX
     go_upto_block 2 with fail
     go_cut [7] (fun v wx => ∃ (b : Bool), v = .bool b ∧ Hid (P4 y ids R X i R.length → b = true) ∧ Hid (LT w E (cHp y aN5 kN5 aO5 kO5 aG5 kG5) (.slice aI ids.length cI) (.slice (some ⟨bL, oL, none⟩) R.length cL) y ids R wx))
     case first =>
      go_wp2_with fail
      go_loopw [7, 8] (fun s iv wr => ∃ (j : Nat) (b : Bool), j ≤ R.length ∧ iv = .int .i64 j ∧ s = .bool b ∧ Hid (P4 y ids R X i j → b = true) ∧ Hid (LT w E (cHp y aN5 kN5 aO5 kO5 aG5 kG5) (.slice aI ids.length cI) (.slice (some ⟨bL, oL, none⟩) R.length cL) y ids R wr)) (fun _ iv _ => R.length - (intOf iv).toNat)
      case atStart => exact ⟨0, p, by omega, rfl, rfl, fun h => by rcases h with h | ⟨m, _, h, _⟩; exact hph.out.symm.trans h; omega, hTi⟩
      case round =>
       obtain ⟨j, b, hj, rfl, rfl, hb, hTr⟩ := hrel
       by_cases hltj : j < R.length
       · clear hTi
         have hlJ : (j : Int) < ((R.length : Nat) : Int) := by omega
         have hj0 : (0 : Int) ≤ (j : Int) := by omega
         go_upto_region 14 with fail
         have hTd : Hid (LT w E (cHp y aN5 kN5 aO5 kO5 aG5 kG5) (.slice aI ids.length cI) (.slice (some ⟨bL, oL, none⟩) R.length cL) y ids R wr.drew) := hTr.out.below (Below.drew (Below.refl _ _))
         clear hTr
         cases b
         · by_cases hij : j = i
           · have hI5 : (j : Int) = (i : Int) := by omega
             refine wp_region_held_drew (S := fun w' => w'.cell? ⟨E, 4, none⟩ = some (.slice aG5 y.vGlobals.length kG5)) (by kernel_rfl) (hTd.out.hT.bE.cell 4 rfl) (fun hHeld => ?_)
             refine tk 0 ?_
             refine tk 1 ?_
             refine tk 2 ?_
             refine tk 3 ?_
             refine take_lit (i := 4) (d := 57) (v := .bool false) rfl rfl (by kernel_rfl) (by kernel_rfl) (by kernel_rfl) (fun _ _ _ h => h) (Or.inl ⟨by rfl, ?_⟩) (by assumption) ?_
             · (intro w hSw; (try dsimp only at hSw); go_simp; first | done | omega | (simp; omega))
             simp only [sz, ss]
             refine tk 5 ?_
             refine tu 6 ?_
             refine tu 7 ?_
             refine tu 8 ?_
             refine tu 9 ?_
             refine tu 10 ?_
             refine tu 11 ?_
             refine tu 12 ?_
             refine tu 13 ?_
             refine tu 14 ?_
             refine tu 15 ?_
             refine tu 16 ?_
             refine tk 17 ?_
             refine tk 18 ?_
             refine tk 19 ?_
             refine wpAnyH_done (by kernel_rfl) ?_ _
             clear hHeld
             go_wp2_with fail
             go_roundw
             case rel =>
              refine ⟨j + 1, false, by omega, by go_num, rfl, fun h => ?_, hTd⟩
              rcases h.last with h | ⟨_, h, _⟩
              · exact hb.out h
              · exact absurd hij h
             case measure => simp [intOf]; omega
           · have hI5 : ¬ (j : Int) = (i : Int) := by omega
             obtain ⟨Y, hY⟩ : ∃ Y, R[j] = Y := ⟨_, rfl⟩
             have hYh : Hid (R[j] = Y) := hY
             obtain ⟨q, hq⟩ : ∃ q, hasB (edgesD y Y) X = q := ⟨_, rfl⟩
             have hqh : Hid (hasB (edgesD y Y) X = q) := hq
             clear hY hq
             refine wp_region_held_drew (S := fun w' => w'.cell? ⟨E, 0, none⟩ = some (.int .i64 y.vNext) ∧ w'.cell? ⟨E, 1, none⟩ = some (.int .i64 y.vDoc) ∧ w'.cell? ⟨E, 2, none⟩ = some (.slice aN5 y.vNodes.length kN5) ∧ w'.cell? ⟨E, 3, none⟩ = some (.slice aO5 y.vObjs.length kO5) ∧ w'.cell? ⟨E, 4, none⟩ = some (.slice aG5 y.vGlobals.length kG5) ∧ w'.cell? ⟨bL, oL + j, none⟩ = some (.int .i64 Y) ∧ w'.cell? ⟨bL, oL + i, none⟩ = some (.int .i64 X)) (by kernel_rfl) (fv5a hTd.out.hT.bE ⟨row_is hTd.out.hL hltj hYh.out, row_is hTd.out.hL hlt hXh.out⟩) (fun hHeld => ?_)
             refine tk 0 ?_
             refine tk 1 ?_
             refine tk 2 ?_
             refine tk 3 ?_
             refine take_lit (i := 4) (d := 57) (v := .bool true) rfl rfl (by kernel_rfl) (by kernel_rfl) (by kernel_rfl) (fun _ _ _ h => h) (Or.inl ⟨by rfl, ?_⟩) (by assumption) ?_
             · (intro w hSw; (try dsimp only at hSw); go_simp; first | done | omega | (simp; omega))
             simp only [sz, ss]
             refine tk 5 ?_
             refine tk 6 ?_
             refine tk 7 ?_
             refine tk 8 ?_
             refine tk 9 ?_
             refine tk 10 ?_
             refine tk 12 ?_
             refine tk 13 ?_
             refine tk 14 ?_
             refine tk 15 ?_
             refine rd1 11 (fun K hK => ?_)
             go_simp
             refine (implEdgesOf_any hTd.out.hT.hx hsh.out).mono ?_
             rintro e w1 ⟨⟨vE, fE, rfl, hoE, _⟩, hb1⟩
             have hT1 : Hid (LT w E (cHp y aN5 kN5 aO5 kO5 aG5 kG5) (.slice aI ids.length cI) (.slice (some ⟨bL, oL, none⟩) R.length cL) y ids R w1) := hTd.out.below hb1
             have hEr : Hid (SeqAt 1 IntAt w1 0 vE (edgesD y Y)) := hoE.at intOwn_at (fun _ _ => Nat.zero_le _)
             obtain ⟨aE, cE, rfl⟩ := hEr.out.form
             clear hoE
             refine hK.out _ _ ⟨cell_on hb1 hHeld.1, cell_on hb1 hHeld.2.1, cell_on hb1 hHeld.2.2.1, cell_on hb1 hHeld.2.2.2.1, cell_on hb1 hHeld.2.2.2.2.1, cell_on hb1 hHeld.2.2.2.2.2.1, cell_on hb1 hHeld.2.2.2.2.2.2⟩ (fun hHeld => ?_)
             clear hK K
             refine rd1 16 (fun K hK => ?_)
             go_simp
             refine (has_any hEr.out).mono ?_
             rintro e w9 ⟨rfl, e9⟩
             have e10 := e9.symm
             clear e9
             subst e10
             rw [hqh.out]
             refine hK.out _ _ (by assumption) (fun hHeld => ?_)
             clear hK K
             refine tk 17 ?_
             refine tk 18 ?_
             refine tk 19 ?_
             refine wpAnyH_done (by kernel_rfl) ?_ _
             clear hHeld
             go_wp2_with fail
             go_roundw
             case rel =>
              refine ⟨j + 1, q, by omega, by go_num, rfl, fun h => ?_, hT1⟩
              rcases h.last with h | ⟨_, _, h⟩
              · have := hb.out h; cases this
              · rw [← hqh.out, ← hYh.out]; exact h
             case measure => simp [intOf]; omega
         · 
           refine wp_region_held_drew (S := fun w' => w'.cell? ⟨E, 4, none⟩ = some (.slice aG5 y.vGlobals.length kG5)) (by kernel_rfl) (hTd.out.hT.bE.cell 4 rfl) (fun hHeld => ?_)
           refine tk 0 ?_
           refine tk 1 ?_
           refine tu 2 ?_
           refine tu 3 ?_
           refine tu 4 ?_
           refine tu 5 ?_
           refine tu 6 ?_
           refine tu 7 ?_
           refine tu 8 ?_
           refine tu 9 ?_
           refine tu 10 ?_
           refine tu 11 ?_
           refine tu 12 ?_
           refine tu 13 ?_
           refine tu 14 ?_
           refine tu 15 ?_
           refine tu 16 ?_
           refine tu 17 ?_
           refine tk 18 ?_
           refine tk 19 ?_
           refine wpAnyH_done (by kernel_rfl) ?_ _
           clear hHeld
           go_wp2_with fail
           go_roundw
           case rel => exact ⟨j + 1, true, by omega, by go_num, rfl, fun _ => rfl, hTd⟩
           case measure => simp [intOf]; omega
       · obtain rfl : j = R.length := by omega
         go_wp2_with fail
         go_meet
         exact ⟨b, rfl, hb, hTr⟩
     case rest =>
      obtain ⟨b, rfl, hb, hT8⟩ := hcut
      clear hTi
      obtain rfl : b = true := hb.out hend.out
      go_upto_region 15 with fail
      go_cut [84] (fun v wx => v = .bool false ∧ Hid (LT w E (cHp y aN5 kN5 aO5 kO5 aG5 kG5) (.slice aI ids.length cI) (.slice (some ⟨bL, oL, none⟩) R.length cL) y ids R wx))
      case first =>
       have hTd : Hid (LT w E (cHp y aN5 kN5 aO5 kO5 aG5 kG5) (.slice aI ids.length cI) (.slice (some ⟨bL, oL, none⟩) R.length cL) y ids R wc.drew) := hT8.out.below (Below.drew (Below.refl _ _))
       clear hT8
       refine wp_region_held_drew (S := fun w' => w'.cell? ⟨E, 0, none⟩ = some (.int .i64 y.vNext) ∧ w'.cell? ⟨E, 1, none⟩ = some (.int .i64 y.vDoc) ∧ w'.cell? ⟨E, 2, none⟩ = some (.slice aN5 y.vNodes.length kN5) ∧ w'.cell? ⟨E, 3, none⟩ = some (.slice aO5 y.vObjs.length kO5) ∧ w'.cell? ⟨E, 4, none⟩ = some (.slice aG5 y.vGlobals.length kG5) ∧ w'.cell? ⟨bL, oL + i, none⟩ = some (.int .i64 X)) (by kernel_rfl) (fv5a hTd.out.hT.bE (row_is hTd.out.hL hlt hXh.out)) (fun hHeld => ?_)
       refine tk 0 ?_
       refine tk 1 ?_
       refine tk 2 ?_
       refine tk 3 ?_
       refine tk 4 ?_
       refine tk 5 ?_
       refine tk 6 ?_
       refine tk 7 ?_
       refine tk 9 ?_
       refine rd1 8 (fun K hK => ?_)
       go_simp
       refine (implEdgesOf_any hTd.out.hT.hx hsh.out).mono ?_
       rintro e w1 ⟨⟨vE, fE, rfl, hoE, _⟩, hb1⟩
       have hT1 : Hid (LT w E (cHp y aN5 kN5 aO5 kO5 aG5 kG5) (.slice aI ids.length cI) (.slice (some ⟨bL, oL, none⟩) R.length cL) y ids R w1) := hTd.out.below hb1
       have hEr : Hid (SeqAt 1 IntAt w1 0 vE (edgesD y X)) := hoE.at intOwn_at (fun _ _ => Nat.zero_le _)
       obtain ⟨aE, cE, rfl⟩ := hEr.out.form
       clear hoE
       refine hK.out _ _ ⟨cell_on hb1 hHeld.1, cell_on hb1 hHeld.2.1, cell_on hb1 hHeld.2.2.1, cell_on hb1 hHeld.2.2.2.1, cell_on hb1 hHeld.2.2.2.2.1, cell_on hb1 hHeld.2.2.2.2.2⟩ (fun hHeld => ?_)
       clear hK K
       refine rd1 10 (fun K hK => ?_)
       go_simp
       refine (within_any hEr.out hT1.out.hL).mono ?_
       rintro e w9 ⟨rfl, e9⟩
       have e10 := e9.symm
       clear e9
       subst e10
       rw [hwX.out]
       refine hK.out _ _ (by assumption) (fun hHeld => ?_)
       clear hK K
       refine tk 11 ?_
       refine tk 12 ?_
       refine wpAnyH_done (by kernel_rfl) ?_ _
       clear hHeld
       go_wp2_with fail
       go_meet
       exact ⟨rfl, hT1⟩
      case rest =>
       obtain ⟨rfl, hT9⟩ := hcut
       go_wp2_with fail
       go_roundw
       case rel => first | exact ⟨i + 1, by omega, by go_num, hT9⟩ | exact ⟨i + 1, by omega, by omega⟩
       case measure => simp [intOf]; omega
   · go_wp2_with fail
     go_meet
     exact hTi
 case rest =>
  have hT6 : Hid (LT w E (cHp y aN5 kN5 aO5 kO5 aG5 kG5) (.slice aI ids.length cI) (.slice aL R.length cL) y ids R wc) := hcut
  clear hcut hT3
  have hwi : Hid (withinB ids R = true) := hr.out.ids
  have hag : Hid (belowA y R = R) := hr.out.again hsh.out
  go_wp2_with fail
  refine (within_any hT6.out.hI hT6.out.hL).mono ?_
  rintro e w9 ⟨rfl, e9⟩
  have e10 := e9.symm
  clear e9
  subst e10
  rw [hwi.out]
  obtain ⟨d0, d1, d2, d3, d4⟩ := fv5 hT6.out.hT.bE
  go_wp2_with fail
  refine (implBelow_any hT6.out.hT.hx hsh.out hT6.out.hL hlen).mono ?_
  rintro e w7 ⟨⟨v4, f4, rfl, ho4, _⟩, hb⟩
  have hT7 : Hid (LT w E (cHp y aN5 kN5 aO5 kO5 aG5 kG5) (.slice aI ids.length cI) (.slice aL R.length cL) y ids R w7) := hT6.out.below hb
  have hM : Hid (SeqAt 1 IntAt w7 0 v4 R) := by
   have q := ho4.at (lo := 0) intOwn_at (fun _ _ => Nat.zero_le _)
   rw [hag.out] at q
   exact q
  obtain ⟨aM, cM, rfl⟩ := hM.out.form
  clear hb d0 d1 d2 d3 d4 hT6 ho4
  go_wp2_with fail
  refine (sameInts_any hM.out hT7.out.hL).mono ?_
  rintro e w8 ⟨rfl, hb⟩
  have hB : Hid (Below w.heap.size w w8) := (hT7.out.below hb).hT.hB
  clear hb hT7 hM
  go_wp2_with fail
  go_ret
  exact ⟨rfl, hB.out⟩
end Go.Proofs.YtdnembnlomnceaaGreat.fnBelow
