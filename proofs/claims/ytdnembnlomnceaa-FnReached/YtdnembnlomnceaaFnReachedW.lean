/- The walk of FnReached. -/
import Derived.Test.YtdnembnlomnceaaAbb
import Derived.Test.YtdnembnlomnceaaTakeMore
import Derived.Test.YtdnembnlomnceaaDrawReached
import Derived.Test.YtdnembnlomnceaaRlPlain
import Derived.Test.YtdnembnlomnceaaEdgesTop
import Derived.Test.YtdnembnlomnceaaReached
import Derived.Test.YtdnembnlomnceaaSameInts
import Derived.Deep.RegionHeld3
namespace Go.Proofs.Ytdnembnlomnceaa.fnReached
open Go.RowKit Go.Deep
theorem big_any {a : Option Addr} {n cap : Nat} (w : World) : Calls Try.prog 7 #[.slice a n cap] w fun e w' => e = .returned (.bool (decide ((1048576 : Int) < (n : Int)))) ∧ w' = w := by
 go_enter Try.func7, Try.ntmps7
 go_wp2
 go_ret
 exact ⟨rfl, rfl⟩
/-- a heap in a box, under a law -/
structure HT (w : World) (E : Nat) (cs : List Value) (y : HeapD) (W : World) : Prop where
 hB : Below w.heap.size w W
 bE : Box W E cs 28
 hx : HeapAt W 0 cs y
theorem HT.below {w W W' : World} {E : Nat} {cs : List Value} {y : HeapD} (h : HT w E cs y W) (q : Below W.heap.size W W') : HT w E cs y W' := ⟨h.hB.trans (q.mono h.hB.size), h.bE.below q h.bE.lt, heapAt_below h.hx q⟩
/-- and a row of numbers -/
structure LT (w : World) (E : Nat) (cs : List Value) (L : Value) (y : HeapD) (R : List Int) (W : World) : Prop where
 hT : HT w E cs y W
 hL : SeqAt 1 IntAt W 0 L R
theorem LT.below {w W W' : World} {E : Nat} {cs : List Value} {L : Value} {y : HeapD} {R : List Int} (h : LT w E cs L y R W) (q : Below W.heap.size W W') : LT w E cs L y R W' := ⟨h.hT.below q, h.hL.below intAt_stays q⟩
theorem glob_form {W : World} {n0 d0 vN vO : Value} {aG : Option Addr} {nG kG : Nat} {y : HeapD} (h : HeapAt W 0 [n0, d0, vN, vO, .slice aG nG kG] y) {j : Nat} (hj : j < y.vGlobals.length) : ∃ bG oG, aG = some ⟨bG, oG, none⟩ := by
 obtain ⟨k2, k3, k4, ec, s2, s3, s4, _⟩ := h
 simp only [List.cons.injEq, and_true] at ec
 obtain ⟨_, _, rfl, rfl, rfl⟩ := ec
 obtain ⟨a', c', e3, hm, hx⟩ := s4
 injection e3 with e31 e32 e33
 subst e31
 obtain ⟨b, off, rfl, _⟩ := hx (by omega)
 exact ⟨b, off, rfl⟩
theorem glob_is {W : World} {n0 d0 vN vO : Value} {bG oG nG kG : Nat} {y : HeapD} {Y : Int} (h : HeapAt W 0 [n0, d0, vN, vO, .slice (some ⟨bG, oG, none⟩) nG kG] y) {j : Nat} (hj : j < y.vGlobals.length) (e : y.vGlobals[j].vObj = Y) : W.cell? ⟨bG, oG + j * 2 + 1, none⟩ = some (.int .i64 Y) := by
 obtain ⟨k2, k3, k4, ec, s2, s3, s4, _⟩ := h
 simp only [List.cons.injEq, and_true] at ec
 obtain ⟨_, _, rfl, rfl, rfl⟩ := ec
 obtain ⟨a', c', e3, hm, hx⟩ := s4
 injection e3 with e31 e32 e33
 subst e31
 obtain ⟨b, off, e4, _, _, hc⟩ := hx (by omega)
 injection e4 with e4
 injection e4 with e5 e6
 subst e5 e6
 obtain ⟨cs, _, lie, hr⟩ := hc j hj
 obtain ⟨rfl, _⟩ := hr
 rw [← e]
 exact lie_at lie 1 rfl
theorem row_form {W : World} {aL : Option Addr} {nL cL : Nat} {R : List Int} (h : SeqAt 1 IntAt W 0 (.slice aL nL cL) R) {j : Nat} (hj : j < R.length) : ∃ bL oL, aL = some ⟨bL, oL, none⟩ := by
 obtain ⟨a', c', e3, hm, hx⟩ := h
 injection e3 with e31 e32 e33
 subst e31
 obtain ⟨b, off, rfl, _⟩ := hx (by omega)
 exact ⟨b, off, rfl⟩
theorem row_is {W : World} {bL oL nL cL : Nat} {R : List Int} {X : Int} (h : SeqAt 1 IntAt W 0 (.slice (some ⟨bL, oL, none⟩) nL cL) R) {j : Nat} (hj : j < R.length) (e : R[j] = X) : W.cell? ⟨bL, oL + j, none⟩ = some (.int .i64 X) := by
 obtain ⟨a', c', e3, hm, hx⟩ := h
 injection e3 with e31 e32 e33
 subst e31
 obtain ⟨b, off, e4, _, _, hc⟩ := hx (by omega)
 injection e4 with e4
 injection e4 with e5 e6
 subst e5 e6
 obtain ⟨cs, _, lie, hr⟩ := hc j hj
 obtain ⟨rfl, _⟩ := hr
 rw [← e]
 have z0 := lie_at lie 0 rfl
 simpa only [Nat.mul_one, Nat.add_zero] using z0
def P3 (y : HeapD) (X : Int) (j : Nat) : Prop := X = y.vDoc ∨ ∃ m, ∃ hm : m < y.vGlobals.length, m < j ∧ y.vGlobals[m].vObj = X
def P4 (y : HeapD) (R : List Int) (i : Nat) (X : Int) (j : Nat) : Prop := P3 y X y.vGlobals.length ∨ ∃ m, ∃ hm : m < R.length, m < j ∧ m ≠ i ∧ hasB (edgesD y R[m]) X = true
theorem P3.last {y : HeapD} {X : Int} {j : Nat} (h : P3 y X (j + 1)) : P3 y X j ∨ ∃ hm : j < y.vGlobals.length, y.vGlobals[j].vObj = X := by
 rcases h with h | ⟨m, hm, h1, h2⟩
 · exact Or.inl (Or.inl h)
 · by_cases e : m = j
   · subst e; exact Or.inr ⟨hm, h2⟩
   · exact Or.inl (Or.inr ⟨m, hm, by omega, h2⟩)
theorem P4.last {y : HeapD} {R : List Int} {i : Nat} {X : Int} {j : Nat} (h : P4 y R i X (j + 1)) : P4 y R i X j ∨ ∃ hm : j < R.length, j ≠ i ∧ hasB (edgesD y R[j]) X = true := by
 rcases h with h | ⟨m, hm, h1, h2, h3⟩
 · exact Or.inl (Or.inl h)
 · by_cases e : m = j
   · subst e; exact Or.inr ⟨hm, h2, h3⟩
   · exact Or.inl (Or.inr ⟨m, hm, by omega, h2, h3⟩)
set_option maxRecDepth 100000 in
set_option maxHeartbeats 16000000 in
theorem walk {a : Option Addr} {n cap : Nat} (w : World) (hlen : n ≤ maxLen) (hcode : n ≤ 1048576 → CodeAt w a n) :
 Calls Try.prog 5 #[.slice a n cap] w fun e w' => e = .returned (.bool true) ∧ Below w.heap.size w w' := by
 unfold maxLen at hlen
 by_cases hbig : (1048576 : Int) < (n : Int)
 · clear hcode
   go_enter Try.func5, Try.ntmps5
   go_wp2_with (go_at_call 7; refine (big_any _).mono ?_; rintro e w' ⟨rfl, rfl⟩; rw [decide_eq_true hbig])
   go_ret
   exact ⟨rfl, Below.refl _ _⟩
 have hc' : Hid (CodeAt w a n) := hcode (by omega)
 have hbe : Hid (decide ((1048576 : Int) < (n : Int)) = false) := decide_eq_false hbig
 clear hcode hbig hlen
 go_enter Try.func5, Try.ntmps5
 go_wp2_with (go_at_call 7; refine (big_any _).mono ?_; rintro e w' ⟨rfl, e9⟩; have e10 := e9.symm; clear e9; subst e10; rw [hbe.out])
 refine (drawReached_any hc'.out).mono ?_
 rintro e w2 ⟨⟨y, cs, rfl, hsz, _, fs, hp, hn⟩, hb2⟩
 obtain ⟨aN5, kN5, aO5, kO5, aG5, kG5, rfl⟩ := hp.form
 have hT0' : Hid (HT w w2.heap.size (cHp y aN5 kN5 aO5 kO5 aG5 kG5) y (w2.alloc (.cells (cHp y aN5 kN5 aO5 kO5 aG5 kG5).toArray 28))) := by
  have AL : Below w2.heap.size w2 (w2.alloc (.cells (cHp y aN5 kN5 aO5 kO5 aG5 kG5).toArray 28)) := (Below.refl _ _).alloc (Nat.le_refl _) _
  exact ⟨hb2.trans (AL.mono hb2.size), Box.new w2 _ _, (hp.below AL).at0⟩
 have hsh : Hid y.small := hsz.2.2.2.2
 obtain ⟨R, hR⟩ : ∃ R, R = reachedD y := ⟨_, rfl⟩
 have hRh : Hid (R = reachedD y) := hR
 clear hp hn hb2 hc' hbe hsz hR
 go_upto_region 4 with fail
 obtain ⟨E, hE⟩ : ∃ E, w2.heap.size = E := ⟨_, rfl⟩
 rw [hE] at hT0' ⊢
 have hT0 : Hid _ := hT0'
 clear hT0' hE
 generalize (w2.alloc (.cells (cHp y aN5 kN5 aO5 kO5 aG5 kG5).toArray 28)) = w2' at hT0 ⊢
 obtain ⟨d0, d1, d2, d3, d4⟩ := fv5 hT0.out.bE
 go_wp2_with fail
 refine (implReached_any hT0.out.hx hsh.out).mono ?_
 rintro e w3 ⟨⟨v3, f3, rfl, ho3, _⟩, hb⟩
 have hL1 : SeqAt 1 IntAt w3 0 v3 R := by rw [hRh.out]; exact ho3.at intOwn_at (fun _ _ => Nat.zero_le _)
 obtain ⟨aL, cL, rfl⟩ := hL1.form
 have hT1 : Hid (LT w E (cHp y aN5 kN5 aO5 kO5 aG5 kG5) (.slice aL R.length cL) y R w3) := ⟨hT0.out.below hb, hL1⟩
 clear hb d0 d1 d2 d3 d4 hT0 ho3 hL1
 obtain ⟨d0, d1, d2, d3, d4⟩ := fv5 hT1.out.hT.bE
 go_wp2_with fail
 refine (specReached_any hT1.out.hT.hx hsh.out).mono ?_
 rintro e w4 ⟨⟨v4, f4, rfl, ho4, _⟩, hb⟩
 have hT2 : Hid (LT w E (cHp y aN5 kN5 aO5 kO5 aG5 kG5) (.slice aL R.length cL) y R w4) := hT1.out.below hb
 have hM : Hid (SeqAt 1 IntAt w4 0 v4 R) := by show SeqAt 1 IntAt w4 0 v4 R; rw [hRh.out]; exact ho4.at intOwn_at (fun _ _ => Nat.zero_le _)
 obtain ⟨aM, cM, rfl⟩ := hM.out.form
 clear hb d0 d1 d2 d3 d4 hT1 ho4
 go_wp2_with fail
 refine (sameInts_any hT2.out.hL hM.out).mono ?_
 rintro e w5 ⟨rfl, hb⟩
 have hT3 : Hid (LT w E (cHp y aN5 kN5 aO5 kO5 aG5 kG5) (.slice aL R.length cL) y R w5) := hT2.out.below hb
 clear hb hT2 hM
 obtain ⟨d0, d1, d2, d3, d4⟩ := fv5 hT3.out.hT.bE
 go_wp2_with fail
 refine (specHeapOk_any hT3.out.hT.hx).mono ?_
 rintro e w6 ⟨rfl, hb⟩
 have hT4 : Hid (LT w E (cHp y aN5 kN5 aO5 kO5 aG5 kG5) (.slice aL R.length cL) y R w6) := hT3.out.below hb
 clear hb d0 d1 d2 d3 d4 hT3
 obtain ⟨v, hv⟩ : ∃ v, specB y = v := ⟨_, rfl⟩
 rw [hv]
 have hvh : Hid (specB y = v) := hv
 clear hv
 cases v
 · -- no right heap: the program's row is the specification's
   obtain ⟨d0, d1, d2, d3, d4⟩ := fv5 hT4.out.hT.bE
   go_wp2_with fail
   refine (specReached_any hT4.out.hT.hx hsh.out).mono ?_
   rintro e w7 ⟨⟨v4, f4, rfl, ho4, _⟩, hb⟩
   have hT5 : Hid (LT w E (cHp y aN5 kN5 aO5 kO5 aG5 kG5) (.slice aL R.length cL) y R w7) := hT4.out.below hb
   have hM : Hid (SeqAt 1 IntAt w7 0 v4 R) := by show SeqAt 1 IntAt w7 0 v4 R; rw [hRh.out]; exact ho4.at intOwn_at (fun _ _ => Nat.zero_le _)
   obtain ⟨aM, cM, rfl⟩ := hM.out.form
   clear hb d0 d1 d2 d3 d4 hT4 ho4
   go_wp2_with fail
   refine (sameInts_any hT5.out.hL hM.out).mono ?_
   rintro e w8 ⟨rfl, hb⟩
   have hB : Hid (Below w.heap.size w w8) := (hT5.out.below hb).hT.hB
   clear hb hT5 hM
   go_wp2_with fail
   go_ret
   exact ⟨rfl, hB.out⟩
 have hroot : Hid (∀ x ∈ rootsD y, hasB R x = true) := by show ∀ x ∈ rootsD y, hasB R x = true; rw [hRh.out]; exact fun x hx => reach_root hvh.out hsh.out hx
 have hwith : Hid (∀ x ∈ R, withinB (edgesD y x) R = true) := by show ∀ x ∈ R, withinB (edgesD y x) R = true; rw [hRh.out]; exact fun x hx => reach_within hvh.out hsh.out hx
 have hless : Hid (∀ j, (hj : j + 1 < R.length) → R[j] < R[j + 1]) := by show ∀ j, (hj : j + 1 < R.length) → R[j] < R[j + 1]; rw [hRh.out]; exact fun j hj => reach_less hvh.out hsh.out hj
 have hlast : Hid (∀ (i : Nat) (hi : i < R.length), P4 y R i R[i] R.length) := by
  show ∀ (i : Nat) (hi : i < R.length), P4 y R i R[i] R.length
  rw [hRh.out]
  intro i hi
  rcases reach_last hvh.out hsh.out (List.getElem_mem hi) with h | ⟨j, hj, h⟩ | ⟨k, hk, h1, h2⟩
  · exact Or.inl (Or.inl h)
  · exact Or.inl (Or.inr ⟨j, hj, hj, h⟩)
  · exact Or.inr ⟨k, hk, hk, fun e => h1 (by subst e; rfl), h2⟩
 have hlen : R.length ≤ 1048576 := by rw [hRh.out]; exact reached_len hsh.out
 have hgl : y.vGlobals.length ≤ 1048576 := hsh.out.2.2.1.1
 clear hRh hvh
 go_upto_block 0 with fail
 go_cut [] from 5 (fun wx => Hid (LT w E (cHp y aN5 kN5 aO5 kO5 aG5 kG5) (.slice aL R.length cL) y R wx))
 case first =>
  go_wp2_with fail
  go_loopw [5] (fun iv wr => ∃ (j : Nat), j ≤ y.vGlobals.length ∧ iv = .int .i64 j ∧ Hid (LT w E (cHp y aN5 kN5 aO5 kO5 aG5 kG5) (.slice aL R.length cL) y R wr)) (fun iv _ => y.vGlobals.length - (intOf iv).toNat)
  case atStart => exact ⟨0, by omega, rfl, hT4⟩
  case round =>
   obtain ⟨j, hj, rfl, hTr⟩ := hrel
   by_cases hltj : j < y.vGlobals.length
   · obtain ⟨bG, oG, rfl⟩ := glob_form hTr.out.hT.hx hltj
     obtain ⟨Y, hY⟩ : ∃ Y, y.vGlobals[j].vObj = Y := ⟨_, rfl⟩
     have lid := glob_is hTr.out.hT.hx hltj hY
     have hYr : Hid (hasB R Y = true) := hroot.out Y (hY ▸ List.mem_cons_of_mem _ (List.mem_map_of_mem (List.getElem_mem hltj)))
     have d4 := hTr.out.hT.bE.cell 4 rfl
     have hlI : (j : Int) < ((y.vGlobals.length : Nat) : Int) := by omega
     have hj0 : (0 : Int) ≤ (j : Int) := by omega
     clear hY
     go_wp2_with fail
     refine (has_any hTr.out.hL).mono ?_
     rintro e w9 ⟨rfl, e9⟩
     have e10 := e9.symm
     clear e9
     subst e10
     rw [hYr.out]
     go_wp2_with fail
     go_roundw
     case rel => exact ⟨j + 1, by omega, by go_num, hTr⟩
     case measure => simp [intOf]; omega
   · have d4 := hTr.out.hT.bE.cell 4 rfl
     go_wp2_with fail
     go_meet
     exact hTr
 case rest =>
  have hT5 : Hid (LT w E (cHp y aN5 kN5 aO5 kO5 aG5 kG5) (.slice aL R.length cL) y R wc) := hcut
  clear hcut hT4
  go_upto_block 2 with fail
  go_cut [] from 6 (fun wx => Hid (LT w E (cHp y aN5 kN5 aO5 kO5 aG5 kG5) (.slice aL R.length cL) y R wx))
  case first =>
   go_wp2_with fail
   go_loopw [6] (fun iv wr => ∃ (i : Nat), i ≤ R.length ∧ iv = .int .i64 i ∧ Hid (LT w E (cHp y aN5 kN5 aO5 kO5 aG5 kG5) (.slice aL R.length cL) y R wr)) (fun iv _ => R.length - (intOf iv).toNat)
   case atStart => exact ⟨0, by omega, rfl, hT5⟩
   case round =>
    obtain ⟨i, hi, rfl, hTi⟩ := hrel
    by_cases hlt : i < R.length
    · clear hT5
      obtain ⟨bL, oL, rfl⟩ := row_form hTi.out.hL hlt
      obtain ⟨X, hX⟩ : ∃ X, R[i] = X := ⟨_, rfl⟩
      have hXh : Hid (R[i] = X) := hX
      have hwX : Hid (withinB (edgesD y X) R = true) := hwith.out X (hX ▸ List.getElem_mem hlt)
      have hend : Hid (P4 y R i X R.length) := hX ▸ hlast.out i hlt
      have hlI : (i : Int) < ((R.length : Nat) : Int) := by omega
      have hi0 : (0 : Int) ≤ (i : Int) := by omega
      clear hX
      go_upto_region 15 with fail
      go_cut [76] (fun v wx => v = .bool false ∧ Hid (LT w E (cHp y aN5 kN5 aO5 kO5 aG5 kG5) (.slice (some ⟨bL, oL, none⟩) R.length cL) y R wx))
      case first =>
       have hTd : Hid (LT w E (cHp y aN5 kN5 aO5 kO5 aG5 kG5) (.slice (some ⟨bL, oL, none⟩) R.length cL) y R wr.drew) := hTi.out.below (Below.drew (Below.refl _ _))
       clear hTi
       by_cases hp : 0 < i
       · obtain ⟨i', hi'⟩ : ∃ i', i = i' + 1 := ⟨i - 1, by omega⟩
         have hlt' : i' < R.length := by omega
         obtain ⟨X', hX'⟩ : ∃ X', R[i'] = X' := ⟨_, rfl⟩
         have hXh' : Hid (R[i'] = X') := hX'
         have hXX : X' < X := by
          have q := hless.out i' (by omega)
          rw [hX'] at q
          have q2 := hXh.out
          simp only [hi'] at q2
          rwa [q2] at q
         have hI1 : Hid ((i : Int) - 1 = (i' : Int)) := by show _ = _; omega
         have hW1 : Hid (InI (i' : Int)) := by show InI _; unfold InI; omega
         have hX2 : Hid (X' < X) := hXX
         have hI2 : (i' : Int) < ((R.length : Nat) : Int) := by omega
         have hI3 : (0 : Int) ≤ (i' : Int) := by omega
         have hI4 : (0 : Int) < (i : Int) := by omega
         clear hX' hi' hXX
         refine wp_region_held_drew (S := fun w' => w'.cell? ⟨E, 0, none⟩ = some (.int .i64 y.vNext) ∧ w'.cell? ⟨E, 1, none⟩ = some (.int .i64 y.vDoc) ∧ w'.cell? ⟨E, 2, none⟩ = some (.slice aN5 y.vNodes.length kN5) ∧ w'.cell? ⟨E, 3, none⟩ = some (.slice aO5 y.vObjs.length kO5) ∧ w'.cell? ⟨E, 4, none⟩ = some (.slice aG5 y.vGlobals.length kG5) ∧ w'.cell? ⟨bL, oL + i, none⟩ = some (.int .i64 X) ∧ w'.cell? ⟨bL, oL + i', none⟩ = some (.int .i64 X')) (by kernel_rfl) (fv5a hTd.out.hT.bE ⟨row_is hTd.out.hL hlt hXh.out, row_is hTd.out.hL hlt' hXh'.out⟩) (fun hHeld => ?_)
         refine tk 0 ?_
         refine tk 1 ?_
         refine tk 2 ?_
         refine tk 3 ?_
         refine tk 4 ?_
         refine tk 6 ?_
         refine rd1 5 (fun K hK => ?_)
         go_simp
         refine (implEdgesOf_any hTd.out.hT.hx hsh.out).mono ?_
         rintro e w1 ⟨⟨vE, fE, rfl, hoE, _⟩, hb1⟩
         have hT1 : Hid (LT w E (cHp y aN5 kN5 aO5 kO5 aG5 kG5) (.slice (some ⟨bL, oL, none⟩) R.length cL) y R w1) := hTd.out.below hb1
         have hEr : Hid (SeqAt 1 IntAt w1 0 vE (edgesD y X)) := hoE.at intOwn_at (fun _ _ => Nat.zero_le _)
         obtain ⟨aE, cE, rfl⟩ := hEr.out.form
         clear hoE
         refine hK.out _ _ ⟨cell_on hb1 hHeld.1, cell_on hb1 hHeld.2.1, cell_on hb1 hHeld.2.2.1, cell_on hb1 hHeld.2.2.2.1, cell_on hb1 hHeld.2.2.2.2.1, cell_on hb1 hHeld.2.2.2.2.2.1, cell_on hb1 hHeld.2.2.2.2.2.2⟩ (fun hHeld => ?_)
         clear hK K
         refine rd1 7 (fun K hK => ?_)
         go_simp
         refine (within_any hEr.out hT1.out.hL).mono ?_
         rintro e w9 ⟨rfl, e9⟩
         have e10 := e9.symm
         clear e9
         subst e10
         rw [hwX.out]
         refine hK.out _ _ (by assumption) (fun hHeld => ?_)
         clear hK K
         refine tk 8 ?_
         refine tk 9 ?_
         refine tk 10 ?_
         refine take_lit (i := 11) (d := 63) (v := .bool true) rfl rfl (by kernel_rfl) (by kernel_rfl) (by kernel_rfl) (fun _ _ _ h => h) (Or.inl ⟨by rfl, ?_⟩) (by assumption) ?_
         · (intro w hSw; (try dsimp only at hSw); go_simp; first | done | omega | (simp; omega))
         simp only [sz, ss]
         refine tk 12 ?_
         refine tk 13 ?_
         refine tk 14 ?_
         refine take_lit (i := 15) (d := 67) (v := .int .i64 (i' : Int)) rfl rfl (by kernel_rfl) (by kernel_rfl) (by kernel_rfl) (fun _ _ _ h => h) (Or.inl ⟨by rfl, ?_⟩) (by assumption) ?_
         · (intro w hSw; clear hSw; go_simp; rw [hI1.out, IntKind.wrap_i64]; have q9 := hW1.out; unfold InI at q9; omega)
         simp only [sz, ss]
         refine tk 16 ?_
         refine tk 17 ?_
         refine tk 18 ?_
         refine tk 19 ?_
         refine tk 20 ?_
         refine tk 21 ?_
         refine take_lit (i := 22) (d := 74) (v := .bool false) rfl rfl (by kernel_rfl) (by kernel_rfl) (by kernel_rfl) (fun _ _ _ h => h) (Or.inl ⟨by rfl, ?_⟩) (by assumption) ?_
         · (intro w hSw; clear hSw; go_simp; exact hX2.out)
         simp only [sz, ss]
         refine tk 23 ?_
         refine tk 24 ?_
         refine wpAnyH_done (by kernel_rfl) ?_ _
         clear hHeld
         go_wp2_with fail
         go_meet
         exact ⟨rfl, hT1⟩
       · have hI4 : ¬ (0 : Int) < (i : Int) := by omega
         refine wp_region_held_drew (S := fun w' => w'.cell? ⟨E, 0, none⟩ = some (.int .i64 y.vNext) ∧ w'.cell? ⟨E, 1, none⟩ = some (.int .i64 y.vDoc) ∧ w'.cell? ⟨E, 2, none⟩ = some (.slice aN5 y.vNodes.length kN5) ∧ w'.cell? ⟨E, 3, none⟩ = some (.slice aO5 y.vObjs.length kO5) ∧ w'.cell? ⟨E, 4, none⟩ = some (.slice aG5 y.vGlobals.length kG5) ∧ w'.cell? ⟨bL, oL + i, none⟩ = some (.int .i64 X)) (by kernel_rfl) (fv5a hTd.out.hT.bE (row_is hTd.out.hL hlt hXh.out)) (fun hHeld => ?_)
         refine tk 0 ?_
         refine tk 1 ?_
         refine tk 2 ?_
         refine tk 3 ?_
         refine tk 4 ?_
         refine tk 6 ?_
         refine rd1 5 (fun K hK => ?_)
         go_simp
         refine (implEdgesOf_any hTd.out.hT.hx hsh.out).mono ?_
         rintro e w1 ⟨⟨vE, fE, rfl, hoE, _⟩, hb1⟩
         have hT1 : Hid (LT w E (cHp y aN5 kN5 aO5 kO5 aG5 kG5) (.slice (some ⟨bL, oL, none⟩) R.length cL) y R w1) := hTd.out.below hb1
         have hEr : Hid (SeqAt 1 IntAt w1 0 vE (edgesD y X)) := hoE.at intOwn_at (fun _ _ => Nat.zero_le _)
         obtain ⟨aE, cE, rfl⟩ := hEr.out.form
         clear hoE
         refine hK.out _ _ ⟨cell_on hb1 hHeld.1, cell_on hb1 hHeld.2.1, cell_on hb1 hHeld.2.2.1, cell_on hb1 hHeld.2.2.2.1, cell_on hb1 hHeld.2.2.2.2.1, cell_on hb1 hHeld.2.2.2.2.2⟩ (fun hHeld => ?_)
         clear hK K
         refine rd1 7 (fun K hK => ?_)
         go_simp
         refine (within_any hEr.out hT1.out.hL).mono ?_
         rintro e w9 ⟨rfl, e9⟩
         have e10 := e9.symm
         clear e9
         subst e10
         rw [hwX.out]
         refine hK.out _ _ (by assumption) (fun hHeld => ?_)
         clear hK K
         refine tk 8 ?_
         refine tk 9 ?_
         refine tk 10 ?_
         refine take_lit (i := 11) (d := 63) (v := .bool false) rfl rfl (by kernel_rfl) (by kernel_rfl) (by kernel_rfl) (fun _ _ _ h => h) (Or.inl ⟨by rfl, ?_⟩) (by assumption) ?_
         · (intro w hSw; (try dsimp only at hSw); go_simp; first | done | omega | (simp; omega))
         simp only [sz, ss]
         refine tk 12 ?_
         refine tu 13 ?_
         refine tu 14 ?_
         refine tu 15 ?_
         refine tu 16 ?_
         refine tu 17 ?_
         refine tu 18 ?_
         refine tu 19 ?_
         refine tu 20 ?_
         refine tu 21 ?_
         refine tu 22 ?_
         refine tk 23 ?_
         refine tk 24 ?_
         refine wpAnyH_done (by kernel_rfl) ?_ _
         clear hHeld
         go_wp2_with fail
         go_meet
         exact ⟨rfl, hT1⟩
      case rest =>
       obtain ⟨rfl, hTi⟩ := hcut
       go_upto_region 17 with fail
       go_cut [7] (fun v wx => ∃ (b : Bool), v = .bool b ∧ Hid (P3 y X 0 → b = true) ∧ Hid (LT w E (cHp y aN5 kN5 aO5 kO5 aG5 kG5) (.slice (some ⟨bL, oL, none⟩) R.length cL) y R wx))
       case first =>
        have hTd : Hid (LT w E (cHp y aN5 kN5 aO5 kO5 aG5 kG5) (.slice (some ⟨bL, oL, none⟩) R.length cL) y R wc.drew) := hTi.out.below (Below.drew (Below.refl _ _))
        clear hTi
        refine wp_region_held_drew (S := fun w' => w'.cell? ⟨E, 1, none⟩ = some (.int .i64 y.vDoc) ∧ w'.cell? ⟨bL, oL + i, none⟩ = some (.int .i64 X)) (by kernel_rfl) ⟨hTd.out.hT.bE.cell 1 rfl, row_is hTd.out.hL hlt hXh.out⟩ (fun hHeld => ?_)
        refine tk 0 ?_
        refine tk 1 ?_
        refine tk 2 ?_
        refine tk 3 ?_
        refine tk 4 ?_
        refine tk 5 ?_
        refine take_lit (i := 6) (d := 83) (v := .bool (decide (X = y.vDoc))) rfl rfl (by kernel_rfl) (by kernel_rfl) (by kernel_rfl) (fun _ _ _ h => h) (Or.inl ⟨by rfl, ?_⟩) (by assumption) ?_
        · (intro w hSw; (try dsimp only at hSw); go_simp; first | done | rfl)
        simp only [sz, ss]
        refine tk 7 ?_
        refine wpAnyH_done (by kernel_rfl) ?_ _
        clear hHeld
        go_wp2_with fail
        go_meet
        exact ⟨_, rfl, fun h => decide_eq_true (by rcases h with h | ⟨m, _, h, _⟩; exact h; omega), hTd⟩
       case rest =>
        obtain ⟨b, rfl, hb, hT7⟩ := hcut
        clear hTi
        go_upto_block 4 with fail
        go_cut [7] (fun v wx => ∃ (b : Bool), v = .bool b ∧ Hid (P3 y X y.vGlobals.length → b = true) ∧ Hid (LT w E (cHp y aN5 kN5 aO5 kO5 aG5 kG5) (.slice (some ⟨bL, oL, none⟩) R.length cL) y R wx))
        case first =>
         go_wp2_with fail
         go_loopw [7, 8] (fun s iv wr => ∃ (j : Nat) (b : Bool), j ≤ y.vGlobals.length ∧ iv = .int .i64 j ∧ s = .bool b ∧ Hid (P3 y X j → b = true) ∧ Hid (LT w E (cHp y aN5 kN5 aO5 kO5 aG5 kG5) (.slice (some ⟨bL, oL, none⟩) R.length cL) y R wr)) (fun _ iv _ => y.vGlobals.length - (intOf iv).toNat)
         case atStart => exact ⟨0, b, by omega, rfl, rfl, hb, hT7⟩
         case round =>
          obtain ⟨j, b, hj, rfl, rfl, hb, hTr⟩ := hrel
          have d4 := hTr.out.hT.bE.cell 4 rfl
          by_cases hltj : j < y.vGlobals.length
          · clear hT7
            go_upto_region 21 with fail
            have hTd : Hid (LT w E (cHp y aN5 kN5 aO5 kO5 aG5 kG5) (.slice (some ⟨bL, oL, none⟩) R.length cL) y R wr.drew) := hTr.out.below (Below.drew (Below.refl _ _))
            clear d4 hTr
            cases b
            · obtain ⟨bG, oG, rfl⟩ := glob_form hTd.out.hT.hx hltj
              obtain ⟨Y, hY⟩ : ∃ Y, y.vGlobals[j].vObj = Y := ⟨_, rfl⟩
              have hYh : Hid (y.vGlobals[j].vObj = Y) := hY
              have hlJ : (j : Int) < ((y.vGlobals.length : Nat) : Int) := by omega
              have hj0 : (0 : Int) ≤ (j : Int) := by omega
              clear hY
              refine wp_region_held_drew (S := fun w' => w'.cell? ⟨E, 4, none⟩ = some (.slice (some ⟨bG, oG, none⟩) y.vGlobals.length kG5) ∧ w'.cell? ⟨bG, oG + j * 2 + 1, none⟩ = some (.int .i64 Y) ∧ w'.cell? ⟨bL, oL + i, none⟩ = some (.int .i64 X)) (by kernel_rfl) ⟨hTd.out.hT.bE.cell 4 rfl, glob_is hTd.out.hT.hx hltj hYh.out, row_is hTd.out.hL hlt hXh.out⟩ (fun hHeld => ?_)
              refine tk 0 ?_
              refine tk 1 ?_
              refine tk 2 ?_
              refine tk 3 ?_
              refine tk 4 ?_
              refine tk 5 ?_
              refine tk 6 ?_
              refine tk 7 ?_
              refine tk 8 ?_
              refine tk 9 ?_
              refine tk 10 ?_
              refine tk 11 ?_
              refine take_lit (i := 12) (d := 103) (v := .bool (decide (Y = X))) rfl rfl (by kernel_rfl) (by kernel_rfl) (by kernel_rfl) (fun _ _ _ h => h) (Or.inl ⟨by rfl, ?_⟩) (by assumption) ?_
              · (intro w hSw; (try dsimp only at hSw); go_simp; first | done | rfl)
              simp only [sz, ss]
              refine tk 13 ?_
              refine tk 14 ?_
              refine wpAnyH_done (by kernel_rfl) ?_ _
              clear hHeld
              go_wp2_with fail
              go_roundw
              case rel =>
               refine ⟨j + 1, _, by omega, by go_num, rfl, fun h => decide_eq_true ?_, hTd⟩
               rcases h.last with h | ⟨_, h⟩
               · have := hb.out h; cases this
               · rw [← hYh.out]; exact h
              case measure => simp [intOf]; omega
            · 
              refine wp_region_held_drew (S := fun w' => w'.cell? ⟨E, 4, none⟩ = some (.slice aG5 y.vGlobals.length kG5)) (by kernel_rfl) (hTd.out.hT.bE.cell 4 rfl) (fun hHeld => ?_)
              refine tk 0 ?_
              refine tk 1 ?_
              refine tu 2 ?_
              refine tu 3 ?_
              refine tu 4 ?_
              refine tu 5 ?_
              refine tu 6 ?_
              refine tu 7 ?_
              refine tu 8 ?_
              refine tu 9 ?_
              refine tu 10 ?_
              refine tu 11 ?_
              refine tu 12 ?_
              refine tk 13 ?_
              refine tk 14 ?_
              refine wpAnyH_done (by kernel_rfl) ?_ _
              clear hHeld
              go_wp2_with fail
              go_roundw
              case rel => exact ⟨j + 1, true, by omega, by go_num, rfl, fun _ => rfl, hTd⟩
              case measure => simp [intOf]; omega
          · obtain rfl : j = y.vGlobals.length := by omega
            go_wp2_with fail
            go_meet
            exact ⟨b, rfl, hb, hTr⟩
        case rest =>
         clear hb hT7
         obtain ⟨b, rfl, hb, hT8⟩ := hcut
         go_upto_block 6 with fail
         go_cut [7] (fun v wx => ∃ (b : Bool), v = .bool b ∧ Hid (P4 y R i X R.length → b = true) ∧ Hid (LT w E (cHp y aN5 kN5 aO5 kO5 aG5 kG5) (.slice (some ⟨bL, oL, none⟩) R.length cL) y R wx))
         case first =>
          go_wp2_with fail
          go_loopw [7, 9] (fun s iv wr => ∃ (j : Nat) (b : Bool), j ≤ R.length ∧ iv = .int .i64 j ∧ s = .bool b ∧ Hid (P4 y R i X j → b = true) ∧ Hid (LT w E (cHp y aN5 kN5 aO5 kO5 aG5 kG5) (.slice (some ⟨bL, oL, none⟩) R.length cL) y R wr)) (fun _ iv _ => R.length - (intOf iv).toNat)
          case atStart => exact ⟨0, b, by omega, rfl, rfl, fun h => by rcases h with h | ⟨m, _, h, _⟩; exact hb.out h; omega, hT8⟩
          case round =>
           obtain ⟨j, b, hj, rfl, rfl, hb, hTr⟩ := hrel
           by_cases hltj : j < R.length
           · clear hT8
             have hlJ : (j : Int) < ((R.length : Nat) : Int) := by omega
             have hj0 : (0 : Int) ≤ (j : Int) := by omega
             go_upto_region 25 with fail
             have hTd : Hid (LT w E (cHp y aN5 kN5 aO5 kO5 aG5 kG5) (.slice (some ⟨bL, oL, none⟩) R.length cL) y R wr.drew) := hTr.out.below (Below.drew (Below.refl _ _))
             clear hTr
             cases b
             · by_cases hij : j = i
               · have hI5 : (j : Int) = (i : Int) := by omega
                 refine wp_region_held_drew (S := fun w' => w'.cell? ⟨E, 4, none⟩ = some (.slice aG5 y.vGlobals.length kG5)) (by kernel_rfl) (hTd.out.hT.bE.cell 4 rfl) (fun hHeld => ?_)
                 refine tk 0 ?_
                 refine tk 1 ?_
                 refine tk 2 ?_
                 refine tk 3 ?_
                 refine take_lit (i := 4) (d := 115) (v := .bool false) rfl rfl (by kernel_rfl) (by kernel_rfl) (by kernel_rfl) (fun _ _ _ h => h) (Or.inl ⟨by rfl, ?_⟩) (by assumption) ?_
                 · (intro w hSw; (try dsimp only at hSw); go_simp; first | done | omega | (simp; omega))
                 simp only [sz, ss]
                 refine tk 5 ?_
                 refine tu 6 ?_
                 refine tu 7 ?_
                 refine tu 8 ?_
                 refine tu 9 ?_
                 refine tu 10 ?_
                 refine tu 11 ?_
                 refine tu 12 ?_
                 refine tu 13 ?_
                 refine tu 14 ?_
                 refine tu 15 ?_
                 refine tu 16 ?_
                 refine tk 17 ?_
                 refine tk 18 ?_
                 refine tk 19 ?_
                 refine wpAnyH_done (by kernel_rfl) ?_ _
                 clear hHeld
                 go_wp2_with fail
                 go_roundw
                 case rel =>
                  refine ⟨j + 1, false, by omega, by go_num, rfl, fun h => ?_, hTd⟩
                  rcases h.last with h | ⟨_, h, _⟩
                  · exact hb.out h
                  · exact absurd hij h
                 case measure => simp [intOf]; omega
               · have hI5 : ¬ (j : Int) = (i : Int) := by omega
                 obtain ⟨Y, hY⟩ : ∃ Y, R[j] = Y := ⟨_, rfl⟩
                 have hYh : Hid (R[j] = Y) := hY
                 obtain ⟨q, hq⟩ : ∃ q, hasB (edgesD y Y) X = q := ⟨_, rfl⟩
                 have hqh : Hid (hasB (edgesD y Y) X = q) := hq
                 clear hY hq
                 refine wp_region_held_drew (S := fun w' => w'.cell? ⟨E, 0, none⟩ = some (.int .i64 y.vNext) ∧ w'.cell? ⟨E, 1, none⟩ = some (.int .i64 y.vDoc) ∧ w'.cell? ⟨E, 2, none⟩ = some (.slice aN5 y.vNodes.length kN5) ∧ w'.cell? ⟨E, 3, none⟩ = some (.slice aO5 y.vObjs.length kO5) ∧ w'.cell? ⟨E, 4, none⟩ = some (.slice aG5 y.vGlobals.length kG5) ∧ w'.cell? ⟨bL, oL + j, none⟩ = some (.int .i64 Y) ∧ w'.cell? ⟨bL, oL + i, none⟩ = some (.int .i64 X)) (by kernel_rfl) (fv5a hTd.out.hT.bE ⟨row_is hTd.out.hL hltj hYh.out, row_is hTd.out.hL hlt hXh.out⟩) (fun hHeld => ?_)
                 refine tk 0 ?_
                 refine tk 1 ?_
                 refine tk 2 ?_
                 refine tk 3 ?_
                 refine take_lit (i := 4) (d := 115) (v := .bool true) rfl rfl (by kernel_rfl) (by kernel_rfl) (by kernel_rfl) (fun _ _ _ h => h) (Or.inl ⟨by rfl, ?_⟩) (by assumption) ?_
                 · (intro w hSw; (try dsimp only at hSw); go_simp; first | done | omega | (simp; omega))
                 simp only [sz, ss]
                 refine tk 5 ?_
                 refine tk 6 ?_
                 refine tk 7 ?_
                 refine tk 8 ?_
                 refine tk 9 ?_
                 refine tk 10 ?_
                 refine tk 12 ?_
                 refine tk 13 ?_
                 refine tk 14 ?_
                 refine tk 15 ?_
                 refine rd1 11 (fun K hK => ?_)
                 go_simp
                 refine (implEdgesOf_any hTd.out.hT.hx hsh.out).mono ?_
                 rintro e w1 ⟨⟨vE, fE, rfl, hoE, _⟩, hb1⟩
                 have hT1 : Hid (LT w E (cHp y aN5 kN5 aO5 kO5 aG5 kG5) (.slice (some ⟨bL, oL, none⟩) R.length cL) y R w1) := hTd.out.below hb1
                 have hEr : Hid (SeqAt 1 IntAt w1 0 vE (edgesD y Y)) := hoE.at intOwn_at (fun _ _ => Nat.zero_le _)
                 obtain ⟨aE, cE, rfl⟩ := hEr.out.form
                 clear hoE
                 refine hK.out _ _ ⟨cell_on hb1 hHeld.1, cell_on hb1 hHeld.2.1, cell_on hb1 hHeld.2.2.1, cell_on hb1 hHeld.2.2.2.1, cell_on hb1 hHeld.2.2.2.2.1, cell_on hb1 hHeld.2.2.2.2.2.1, cell_on hb1 hHeld.2.2.2.2.2.2⟩ (fun hHeld => ?_)
                 clear hK K
                 refine rd1 16 (fun K hK => ?_)
                 go_simp
                 refine (has_any hEr.out).mono ?_
                 rintro e w9 ⟨rfl, e9⟩
                 have e10 := e9.symm
                 clear e9
                 subst e10
                 rw [hqh.out]
                 refine hK.out _ _ (by assumption) (fun hHeld => ?_)
                 clear hK K
                 refine tk 17 ?_
                 refine tk 18 ?_
                 refine tk 19 ?_
                 refine wpAnyH_done (by kernel_rfl) ?_ _
                 clear hHeld
                 go_wp2_with fail
                 go_roundw
                 case rel =>
                  refine ⟨j + 1, q, by omega, by go_num, rfl, fun h => ?_, hT1⟩
                  rcases h.last with h | ⟨_, _, h⟩
                  · have := hb.out h; cases this
                  · rw [← hqh.out, ← hYh.out]; exact h
                 case measure => simp [intOf]; omega
             · 
               refine wp_region_held_drew (S := fun w' => w'.cell? ⟨E, 4, none⟩ = some (.slice aG5 y.vGlobals.length kG5)) (by kernel_rfl) (hTd.out.hT.bE.cell 4 rfl) (fun hHeld => ?_)
               refine tk 0 ?_
               refine tk 1 ?_
               refine tu 2 ?_
               refine tu 3 ?_
               refine tu 4 ?_
               refine tu 5 ?_
               refine tu 6 ?_
               refine tu 7 ?_
               refine tu 8 ?_
               refine tu 9 ?_
               refine tu 10 ?_
               refine tu 11 ?_
               refine tu 12 ?_
               refine tu 13 ?_
               refine tu 14 ?_
               refine tu 15 ?_
               refine tu 16 ?_
               refine tu 17 ?_
               refine tk 18 ?_
               refine tk 19 ?_
               refine wpAnyH_done (by kernel_rfl) ?_ _
               clear hHeld
               go_wp2_with fail
               go_roundw
               case rel => exact ⟨j + 1, true, by omega, by go_num, rfl, fun _ => rfl, hTd⟩
               case measure => simp [intOf]; omega
           · obtain rfl : j = R.length := by omega
             go_wp2_with fail
             go_meet
             exact ⟨b, rfl, hb, hTr⟩
         case rest =>
          clear hb hT8
          obtain ⟨b, rfl, hb, hT9⟩ := hcut
          obtain rfl : b = true := hb.out hend.out
          go_wp2_with fail
          go_roundw
          case rel => exact ⟨i + 1, by omega, by go_num, hT9⟩
          case measure => simp [intOf]; omega
    · go_wp2_with fail
      go_meet
      exact hTi
  case rest =>
   have hT6 : Hid (LT w E (cHp y aN5 kN5 aO5 kO5 aG5 kG5) (.slice aL R.length cL) y R wc) := hcut
   clear hcut hT5
   have hdoc : Hid (hasB R y.vDoc = true) := hroot.out _ List.mem_cons_self
   have d1 := hT6.out.hT.bE.cell 1 rfl
   go_wp2_with fail
   refine (has_any hT6.out.hL).mono ?_
   rintro e w9 ⟨rfl, e9⟩
   have e10 := e9.symm
   clear e9
   subst e10
   rw [hdoc.out]
   go_wp2_with fail
   go_ret
   exact ⟨rfl, hT6.out.hT.hB⟩
end Go.Proofs.Ytdnembnlomnceaa.fnReached
