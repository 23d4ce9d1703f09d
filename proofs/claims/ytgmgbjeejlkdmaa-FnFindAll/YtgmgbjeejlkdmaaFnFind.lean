/- FnFindAll, walked. -/
import Derived.Test.YtgmgbjeejlkdmaaDrawFind
import Derived.Test.YtgmgbjeejlkdmaaSamePaths
import Derived.Test.YtgmgbjeejlkdmaaTakeLit
import Derived.Test.YtgmgbjeejlkdmaaFindImpl
import Derived.Test.YtgmgbjeejlkdmaaFindSpec
import Derived.Test.YtgmgbjeejlkdmaaMatchTop
import Derived.Deep.RegionHeld3
import Derived.ProofKit
namespace Go.Proofs.Ytgmgbjeejlkdmaa.fnFindAll
open Go.RowKit Go.Deep
def USt (A : Nat) (ta ka : Value) (xa : TD) (wr : World) : Prop := TreeAt wr 0 4 ta ka xa ∧ Box wr A [ta, ka] 26
theorem USt.below {A : Nat} {ta ka : Value} {xa : TD} {wr w' : World} (h : USt A ta ka xa wr) (hb : Below wr.heap.size wr w') : USt A ta ka xa w' := ⟨h.1.below hb, h.2.below hb h.2.lt⟩
theorem USt.cells {A : Nat} {ta ka : Value} {xa : TD} {wr : World} (h : USt A ta ka xa wr) : wr.cell? ⟨A, 0, none⟩ = some ta ∧ wr.cell? ⟨A, 1, none⟩ = some ka := ⟨h.2.cell 0 rfl, h.2.cell 1 rfl⟩
theorem ints_pick {w : World} {lo n cap : Nat} {a : Option Addr} {xs : List (List Int)} (h : SeqAt 1 IntsAt w lo (.slice a n cap) xs) {i : Nat} (hi : i < xs.length) : ∃ b o k, a = some ⟨b, o, none⟩ ∧ b < w.heap.size ∧ w.cell? ⟨b, o + i, none⟩ = some k ∧ SeqAt 1 IntAt w lo k xs[i] := by
  obtain ⟨a', cap', e, hm, hx⟩ := h
  injection e with e1 e2 e3
  subst e1 e2 e3
  obtain ⟨b', o', e, h1, h2, hc⟩ := hx (by omega)
  obtain ⟨cs, _, lie, k, rfl, hk⟩ := hc i hi
  have := lie 0 (by simp)
  simp only [List.getElem?_cons_zero, Nat.add_zero, Nat.mul_one] at this
  exact ⟨b', o', k, e, h2, this, hk⟩
theorem samePath_b {w : World} {lo lo2 : Nat} {k k2 : Value} {xs : List Int} (hk : SeqAt 1 IntAt w lo k xs) (hk2 : SeqAt 1 IntAt w lo2 k2 xs) :
    Calls Try.prog 17 #[k, k2] w fun e w' => e = .returned (.bool true) ∧ Below w.heap.size w w' := (samePath_yes hk hk2).mono fun e w' ⟨h1, m, h2⟩ => ⟨h1, by rw [h2]; exact belowN_drew (Below.refl _ _) m⟩
theorem samePaths_b {w : World} {lo lo2 : Nat} {k k2 : Value} {xs : List (List Int)} (hk : SeqAt 1 IntsAt w lo k xs) (hk2 : SeqAt 1 IntsAt w lo2 k2 xs) :
    Calls Try.prog 12 #[k, k2] w fun e w' => e = .returned (.bool true) ∧ Below w.heap.size w w' := (samePaths_yes hk hk2).mono fun e w' ⟨h1, m, h2⟩ => ⟨h1, by rw [h2]; exact belowN_drew (Below.refl _ _) m⟩
/-- how many of the first ones fit -/
def cntF (fit : List Int → Bool) (ps : List (List Int)) (j : Nat) : Nat := ((ps.take j).filter fit).length
theorem cntF_yes {fit : List Int → Bool} {ps : List (List Int)} {j : Nat} (h : j < ps.length) (hf : fit ps[j] = true) : cntF fit ps (j + 1) = cntF fit ps j + 1 ∧ ∃ hk : cntF fit ps j < (ps.filter fit).length, (ps.filter fit)[cntF fit ps j] = ps[j] := by
  have e1 : (ps.take (j + 1)).filter fit = (ps.take j).filter fit ++ [ps[j]] := by rw [List.take_succ_eq_append_getElem h, List.filter_append]; simp [hf]
  have e2 : ps.filter fit = (ps.take j).filter fit ++ (ps[j] :: (ps.drop (j + 1)).filter fit) := by
    have : ps = ps.take j ++ (ps[j] :: ps.drop (j + 1)) := by rw [← List.drop_eq_getElem_cons h, List.take_append_drop]
    conv => lhs; rw [this]
    rw [List.filter_append, List.filter_cons, if_pos hf]
  refine ⟨by unfold cntF; rw [e1]; simp, ?_⟩
  unfold cntF
  refine ⟨by rw [e2]; simp, ?_⟩
  have hq : (ps.filter fit)[((ps.take j).filter fit).length]? = some ps[j] := by
    rw [e2, List.getElem?_append_right (Nat.le_refl _), Nat.sub_self]; rfl
  rw [List.getElem?_eq_some_iff] at hq
  exact hq.2
theorem cntF_no {fit : List Int → Bool} {ps : List (List Int)} {j : Nat} (h : j < ps.length) (hf : fit ps[j] = false) : cntF fit ps (j + 1) = cntF fit ps j := by
  unfold cntF
  rw [List.take_succ_eq_append_getElem h, List.filter_append]; simp [hf]
theorem cntF_all (fit : List Int → Bool) (ps : List (List Int)) : cntF fit ps ps.length = (ps.filter fit).length := by unfold cntF; rw [List.take_length]
theorem cntF_le (fit : List Int → Bool) (ps : List (List Int)) (j : Nat) : cntF fit ps j ≤ ps.length := by
  unfold cntF
  exact Nat.le_trans (List.length_filter_le _ _) (by rw [List.length_take]; omega)
theorem big_any {a : Option Addr} {n cap : Nat} (w : World) : Calls Try.prog 6 #[.slice a n cap] w fun e w' => e = .returned (.bool (decide ((1048576 : Int) < (n : Int)))) ∧ w' = w := by
  go_enter Try.func6, Try.ntmps6
  go_wp2
  go_ret
  exact ⟨rfl, rfl⟩
theorem two_b (b : Bool) : b = false ∨ b = true := by cases b <;> simp
set_option maxRecDepth 100000 in
set_option maxHeartbeats 8000000 in
theorem walk {a : Option Addr} {n cap : Nat} (w : World) (hlen : n ≤ maxLen) (hcode : n ≤ 1048576 → CodeAt w a n) :
    Calls Try.prog 4 #[.slice a n cap] w fun e w' => e = .returned (.bool true) ∧ Below w.heap.size w w' := by
  unfold maxLen at hlen
  by_cases hbig : (1048576 : Int) < (n : Int)
  · clear hcode
    go_enter Try.func4, Try.ntmps4
    go_wp2_with (go_at_call 6; refine (big_any _).mono ?_; rintro e w' ⟨rfl, rfl⟩; rw [decide_eq_true hbig])
    go_ret
    exact ⟨rfl, Below.refl _ _⟩
  have hc' : Hid (CodeAt w a n) := hcode (by omega)
  have hbe : Hid (decide ((1048576 : Int) < (n : Int)) = false) := decide_eq_false hbig
  clear hcode hbig hlen
  go_enter Try.func4, Try.ntmps4
  go_wp2_with (go_at_call 6; refine (big_any _).mono ?_; rintro e w' ⟨rfl, e9⟩; have e10 := e9.symm; clear e9; subst e10; rw [hbe.out])
  refine (drawFindAll_any hc'.out).mono ?_
  rintro e w2 ⟨⟨ta, ka, xa, ss, rs, cs, rfl, hta, lo, hsl, hs10⟩, hb2⟩
  obtain ⟨rfl, _⟩ := hta.tag
  obtain ⟨_, aa, ca, rfl⟩ := hta.form
  have hta' : Hid (TreeAt w2 0 4 (.string (strT xa)) (.slice aa (kidsOf xa).length ca) xa) := hta
  have hB2 : Hid (Below w.heap.size w w2) := hb2
  have hsl' : Hid (∀ w', Below w2.heap.size w2 w' → SeqAt 2 StepAt w' lo (.slice (some ⟨rs, 0, none⟩) ss.length cs) ss) := fun w' h => hsl.below StepAt_stays h
  clear hta hb2 hsl hc'
  have h24 : Hid (Below w2.heap.size w2 (w2.alloc (.cells #[.string (strT xa), .slice aa (kidsOf xa).length ca] 26))) := (Below.refl _ _).alloc (Nat.le_refl _) _
  have hG4 : Hid (USt w2.heap.size (.string (strT xa)) (.slice aa (kidsOf xa).length ca) xa (w2.alloc (.cells #[.string (strT xa), .slice aa (kidsOf xa).length ca] 26))) := ⟨hta'.out.below h24.out, Box.new w2 _ _⟩
  clear hta'
  go_upto_region 4 with fail
  generalize (w2.alloc (.cells #[.string (strT xa), .slice aa (kidsOf xa).length ca] 26)) = w4 at h24 hG4 ⊢
  have hA : Hid (w2.heap.size = w2.heap.size) := rfl
  generalize hAe : w2.heap.size = A at hG4 ⊢
  clear hA
  have hAe' : Hid (w2.heap.size = A) := hAe
  clear hAe
  obtain ⟨a0, a1⟩ := USt.cells hG4.out
  go_wp2_with fail
  refine (implFindAll_any (n := 4) (by exact hG4.out.1) (by exact hsl'.out _ h24.out)).mono ?_
  rintro e w5 ⟨⟨vf, fs, rfl, hs, _, _⟩, hb5⟩
  obtain ⟨FL, hFL0⟩ : ∃ FL, (findD (okB (szD 4 xa 30)) 4 xa ss) = FL := ⟨_, rfl⟩
  rw [hFL0] at hs
  have hFLe : Hid ((findD (okB (szD 4 xa 30)) 4 xa ss) = FL) := hFL0
  clear hFL0
  have hF5 : Hid (SeqAt 1 IntsAt w5 0 vf FL) := hs.at IntsOwn_at (fun _ _ => Nat.zero_le _)
  have hG5 : Hid (USt A (.string (strT xa)) (.slice aa (kidsOf xa).length ca) xa w5) := hG4.out.below hb5
  have h25 : Hid (Below w2.heap.size w2 w5) := h24.out.trans (hb5.mono h24.out.size)
  obtain ⟨af, cf, rfl⟩ := hF5.out.form
  clear hs hb5 hG4 h24 a0 a1
  obtain ⟨a0, a1⟩ := USt.cells hG5.out
  go_wp2_with fail
  refine (specFindAll_any (n := 4) (by exact hG5.out.1) (by exact hsl'.out _ h25.out)).mono ?_
  rintro e w6 ⟨⟨vg, fg, rfl, hs, _, _⟩, hb6⟩
  rw [hFLe.out] at hs
  have hS6 : Hid (SeqAt 1 IntsAt w6 0 vg FL) := hs.at IntsOwn_at (fun _ _ => Nat.zero_le _)
  have hF6 : Hid (SeqAt 1 IntsAt w6 0 (.slice af FL.length cf) FL) := hF5.out.below IntsAt_stays hb6
  have hG6 : Hid (USt A (.string (strT xa)) (.slice aa (kidsOf xa).length ca) xa w6) := hG5.out.below hb6
  have h26 : Hid (Below w2.heap.size w2 w6) := h25.out.trans (hb6.mono h25.out.size)
  obtain ⟨ag, cg, rfl⟩ := hS6.out.form
  clear hs hb6 hG5 h25 hF5 a0 a1
  go_wp2_with fail
  refine (samePaths_b hF6.out hS6.out).mono ?_
  rintro e w7 ⟨rfl, hb7⟩
  have hF7 : Hid (SeqAt 1 IntsAt w7 0 (.slice af FL.length cf) FL) := hF6.out.below IntsAt_stays hb7
  have hG7 : Hid (USt A (.string (strT xa)) (.slice aa (kidsOf xa).length ca) xa w7) := hG6.out.below hb7
  have h27 : Hid (Below w2.heap.size w2 w7) := h26.out.trans (hb7.mono h26.out.size)
  clear hb7 hG6 h26 hF6 hS6
  obtain ⟨a0, a1⟩ := USt.cells hG7.out
  go_wp2_with fail
  refine (specTreeOk_any (n := 4) (by exact hG7.out.1)).mono ?_
  rintro e w8 ⟨rfl, hb8⟩
  have hF8 : Hid (SeqAt 1 IntsAt w8 0 (.slice af FL.length cf) FL) := hF7.out.below IntsAt_stays hb8
  have hG8 : Hid (USt A (.string (strT xa)) (.slice aa (kidsOf xa).length ca) xa w8) := hG7.out.below hb8
  have h28 : Hid (Below w2.heap.size w2 w8) := h27.out.trans (hb8.mono h27.out.size)
  clear hb8 hG7 h27 hF7 a0 a1
  rcases two_b (okB (szD 4 xa 30)) with hok | hok
  · rw [hok]
    have hok' : Hid (okB (szD 4 xa 30) = false) := hok
    clear hok
    obtain ⟨a0, a1⟩ := USt.cells hG8.out
    go_wp2_with fail
    refine (specFindAll_any (n := 4) (by exact hG8.out.1) (by exact hsl'.out _ h28.out)).mono ?_
    rintro e wx ⟨⟨vh, fh, rfl, hs, _, _⟩, hbx⟩
    rw [hFLe.out] at hs
    have hSx : Hid (SeqAt 1 IntsAt wx 0 vh FL) := hs.at IntsOwn_at (fun _ _ => Nat.zero_le _)
    have hFx : Hid (SeqAt 1 IntsAt wx 0 (.slice af FL.length cf) FL) := hF8.out.below IntsAt_stays hbx
    have h2x : Hid (Below w2.heap.size w2 wx) := h28.out.trans (hbx.mono h28.out.size)
    obtain ⟨ah, ch, rfl⟩ := hSx.out.form
    clear hs hbx a0 a1
    go_wp2_with fail
    refine (samePaths_b hFx.out hSx.out).mono ?_
    rintro e wy ⟨rfl, hby⟩
    have h2y : Hid (Below w2.heap.size w2 wy) := h2x.out.trans (hby.mono h2x.out.size)
    clear hby
    go_wp2_with fail
    go_ret
    exact ⟨rfl, hB2.out.trans (h2y.out.mono hB2.out.size)⟩
  rw [hok]
  have hok' : Hid (okB (szD 4 xa 30) = true) := hok
  clear hok
  go_wp2_with fail
  refine (specSelOk_any (by exact hsl'.out _ h28.out)).mono ?_
  rintro e w9 ⟨rfl, hb9⟩
  have hF9 : Hid (SeqAt 1 IntsAt w9 0 (.slice af FL.length cf) FL) := hF8.out.below IntsAt_stays hb9
  have hG9 : Hid (USt A (.string (strT xa)) (.slice aa (kidsOf xa).length ca) xa w9) := hG8.out.below hb9
  have h29 : Hid (Below w2.heap.size w2 w9) := h28.out.trans (hb9.mono h28.out.size)
  clear hb9 hG8 h28 hF8
  rcases two_b (selB ss) with hsb | hsb
  · rw [hsb]
    have hsb' : Hid (selB ss = false) := hsb
    clear hsb
    obtain ⟨a0, a1⟩ := USt.cells hG9.out
    go_wp2_with fail
    refine (specFindAll_any (n := 4) (by exact hG9.out.1) (by exact hsl'.out _ h29.out)).mono ?_
    rintro e wx ⟨⟨vh, fh, rfl, hs, _, _⟩, hbx⟩
    rw [hFLe.out] at hs
    have hSx : Hid (SeqAt 1 IntsAt wx 0 vh FL) := hs.at IntsOwn_at (fun _ _ => Nat.zero_le _)
    have hFx : Hid (SeqAt 1 IntsAt wx 0 (.slice af FL.length cf) FL) := hF9.out.below IntsAt_stays hbx
    have h2x : Hid (Below w2.heap.size w2 wx) := h29.out.trans (hbx.mono h29.out.size)
    obtain ⟨ah, ch, rfl⟩ := hSx.out.form
    clear hs hbx a0 a1
    go_wp2_with fail
    refine (samePaths_b hFx.out hSx.out).mono ?_
    rintro e wy ⟨rfl, hby⟩
    have h2y : Hid (Below w2.heap.size w2 wy) := h2x.out.trans (hby.mono h2x.out.size)
    clear hby
    go_wp2_with fail
    go_ret
    exact ⟨rfl, hB2.out.trans (h2y.out.mono hB2.out.size)⟩
  rw [hsb]
  have hsb' : Hid (selB ss = true) := hsb
  clear hsb
  have hFA : Hid (FL = ((pathsD 4 xa []).filter (fitB xa ss))) := by show _ = _; rw [← hFLe.out]; exact findD_yes hok'.out hsb'.out
  rw [hFA.out] at hF9 ⊢
  clear hFLe
  obtain ⟨a0, a1⟩ := USt.cells hG9.out
  go_wp2_with fail
  refine (implPathsOf_any (n := 4) (by exact hG9.out.1)).mono ?_
  rintro e w10 ⟨⟨vp, fp, rfl, hs, _, _⟩, hb10⟩
  rw [pathsOfD_yes hok'.out] at hs
  have hP10 : Hid (SeqAt 1 IntsAt w10 0 vp (pathsD 4 xa [])) := hs.at IntsOwn_at (fun _ _ => Nat.zero_le _)
  have hF10 : Hid (SeqAt 1 IntsAt w10 0 (.slice af ((pathsD 4 xa []).filter (fitB xa ss)).length cf) ((pathsD 4 xa []).filter (fitB xa ss))) := hF9.out.below IntsAt_stays hb10
  have hG10 : Hid (USt A (.string (strT xa)) (.slice aa (kidsOf xa).length ca) xa w10) := hG9.out.below hb10
  have h210 : Hid (Below w2.heap.size w2 w10) := h29.out.trans (hb10.mono h29.out.size)
  obtain ⟨ap, cp, rfl⟩ := hP10.out.form
  clear hs hb10 hG9 h29 hF9 a0 a1
  have hL30 : (pathsD 4 xa []).length ≤ 30 := by rw [pathsD_len]; exact (right_of_ok2 hok'.out).cntT 4
  have hokP : Hid (∀ P ∈ (pathsD 4 xa []), okP xa P = true ∧ P.length ≤ 1048576) := fun P hP => ⟨by obtain ⟨r, e1, e2⟩ := pathsD_ok 4 xa [] _ hP; rw [List.nil_append] at e1; rw [e1]; exact e2, by have := pathsD_deep 4 xa [] _ hP; simp at this; omega⟩
  have hFL : ((pathsD 4 xa []).filter (fitB xa ss)).length ≤ (pathsD 4 xa []).length := List.length_filter_le _ _
  have hFL2 : Hid (((pathsD 4 xa []).filter (fitB xa ss)).length ≤ (pathsD 4 xa []).length) := hFL
  generalize hPS : (pathsD 4 xa []) = PS at hP10 hF10 hL30 hokP hFL2 ⊢
  clear hFL hPS hFA
  obtain ⟨FS, hFS0⟩ : ∃ FS, PS.filter (fitB xa ss) = FS := ⟨_, rfl⟩
  rw [hFS0] at hF10 ⊢
  have hFS : Hid (PS.filter (fitB xa ss) = FS) := hFS0
  rw [hFS0] at hFL2
  have hFL3 : FS.length ≤ PS.length := hFL2.out
  clear hFS0 hFL2
  go_wp2_with fail
  go_loopw [7, 8] (fun kk i wr => ∃ (j : Nat), j ≤ PS.length ∧ i = .int .i64 j ∧ kk = .int .i64 ((cntF (fitB xa ss) PS j : Nat) : Int) ∧ Hid (USt A (.string (strT xa)) (.slice aa (kidsOf xa).length ca) xa wr) ∧ Hid (SeqAt 1 IntsAt wr 0 (.slice ap PS.length cp) PS) ∧ Hid (SeqAt 1 IntsAt wr 0 (.slice af FS.length cf) FS) ∧ Hid (Below w2.heap.size w2 wr)) (fun _ i _ => PS.length - (intOf i).toNat)
  case atStart => exact ⟨0, Nat.zero_le _, rfl, rfl, hG10, hP10, hF10, h210⟩
  case round =>
    obtain ⟨j, hj, rfl, rfl, hGr, hPr, hFr, h2r⟩ := hrel
    obtain ⟨a0, a1⟩ := USt.cells hGr.out
    by_cases hlt : j < PS.length
    · obtain ⟨bp, op, kP, rfl, hbp, cP, hP⟩ := ints_pick hPr.out hlt
      obtain ⟨hoP, hPl⟩ := hokP.out PS[j] (List.getElem_mem hlt)
      have hoP' : Hid (okP xa PS[j] = true) := hoP
      have hPl' : Hid (PS[j].length ≤ 1048576) := hPl
      have hcl := cntF_le (fitB xa ss) PS j
      have hyes : Hid (fitB xa ss PS[j] = true → cntF (fitB xa ss) PS (j + 1) = cntF (fitB xa ss) PS j + 1 ∧ ∃ hk : cntF (fitB xa ss) PS j < FS.length, FS[cntF (fitB xa ss) PS j] = PS[j]) := fun h => by have q := cntF_yes hlt h; simp only [hFS.out] at q; exact q
      have hno : Hid (fitB xa ss PS[j] = false → cntF (fitB xa ss) PS (j + 1) = cntF (fitB xa ss) PS j) := fun h => cntF_no hlt h
      have hPj : Hid (SeqAt 1 IntAt wr 0 kP PS[j]) := hP
      have hmt : Hid (matchD (okB (szD 4 xa 30)) xa PS[j] ss = fitB xa ss PS[j]) := by show _ = _; simp only [matchD, hok'.out, hoP, hsb'.out, Bool.true_and]; rfl
      generalize hPe : PS[j] = P at hoP' hPl' hyes hno hPj hmt
      clear hP hoP hPl hPe
      obtain ⟨a9, c9, rfl⟩ := hPj.out.form
      have hlt' : (j : Int) < (PS.length : Int) := by omega
      have hj0 : (0 : Int) ≤ (j : Int) := by omega
      have hbp' : Hid (bp < wr.heap.size) := hbp
      clear hbp
      rcases two_b (fitB xa ss P) with hfit | hfit
      · rw [hfit] at hmt
        have hcs := hno.out hfit
        go_wp2_with fail
        go_region_held3 (fun w' => w'.cell? ⟨A, 0, none⟩ = some (.string (strT xa)) ∧ w'.cell? ⟨A, 1, none⟩ = some (.slice aa (kidsOf xa).length ca) ∧ w'.cell? ⟨bp, op + j, none⟩ = some (.slice a9 P.length c9)) (go_keep) (first | (go_at_call 23; refine (implMatches_any (n := 4) (by exact hGr.out.1.below (Below.drew (Below.refl _ _))) (by exact hPj.out.below intAt_stays (Below.drew (Below.refl _ _))) hPl'.out (by exact hsl'.out _ (h2r.out.drew))).mono ?_; rintro e w11 ⟨rfl, hb11⟩; rw [hmt.out]; have k11 := undrew hb11; have b0 := cell_on k11 a0; have b1 := cell_on k11 a1; have b2 := cell_on k11 cP; have k11' : Hid (Below wr.heap.size wr w11) := k11; clear hb11 k11))
        go_wp2_with fail
        go_roundw
        case rel => exact ⟨j + 1, by omega, by go_num, by rw [hcs], hGr.out.below k11'.out, hPr.out.below IntsAt_stays k11'.out, hFr.out.below IntsAt_stays k11'.out, h2r.out.trans (k11'.out.mono h2r.out.size)⟩
        case measure => simp [intOf]; omega
      · rw [hfit] at hmt
        obtain ⟨hcs, hkl, hke⟩ := hyes.out hfit
        obtain ⟨bf, of, kF, rfl, hbf, cF, hFk⟩ := ints_pick hFr.out hkl
        rw [hke] at hFk
        have hFk' : Hid (SeqAt 1 IntAt wr 0 kF P) := hFk
        obtain ⟨a7, c7, rfl⟩ := hFk.form
        have hcs' : Hid (cntF (fitB xa ss) PS (j + 1) = cntF (fitB xa ss) PS j + 1) := hcs
        have hkl' : ((cntF (fitB xa ss) PS j : Nat) : Int) < (FS.length : Int) := by omega
        have hkn : ¬ (FS.length : Int) ≤ ((cntF (fitB xa ss) PS j : Nat) : Int) := by omega
        have hkN0 : cntF (fitB xa ss) PS j < FS.length := hkl
        clear hFk hke
        generalize cntF (fitB xa ss) PS j = CK at cF hcs' hkl' hkn hcl hkN0 ⊢
        clear hcs hfit hkl hbf
        go_wp2_with fail
        go_region_held3 (fun w' => w'.cell? ⟨A, 0, none⟩ = some (.string (strT xa)) ∧ w'.cell? ⟨A, 1, none⟩ = some (.slice aa (kidsOf xa).length ca) ∧ w'.cell? ⟨bp, op + j, none⟩ = some (.slice a9 P.length c9)) (go_keep) (first | (go_at_call 23; refine (implMatches_any (n := 4) (by exact hGr.out.1.below (Below.drew (Below.refl _ _))) (by exact hPj.out.below intAt_stays (Below.drew (Below.refl _ _))) hPl'.out (by exact hsl'.out _ (h2r.out.drew))).mono ?_; rintro e w11 ⟨rfl, hb11⟩; rw [hmt.out]; have k11 := undrew hb11; have b0 := cell_on k11 a0; have b1 := cell_on k11 a1; have b2 := cell_on k11 cP; have b3 := cell_on k11 cF; have k11' : Hid (Below wr.heap.size wr w11) := k11; clear hb11 k11))
        clear a0 a1 cP cF
        go_wp2_with fail
        refine wp_region_held_drew (S := fun w' => w'.cell? ⟨bf, of + CK, none⟩ = some (.slice a7 P.length c7) ∧ w'.cell? ⟨bp, op + j, none⟩ = some (.slice a9 P.length c9)) (by kernel_rfl) ⟨b3, b2⟩ (fun hHeld => ?_)
        refine take_lit (i := 0) (d := 55) (v := ?_) rfl rfl (by kernel_rfl) (by kernel_rfl) (by kernel_rfl) (fun _ _ _ h => h) (Or.inl ⟨by rfl, ?_⟩) (by assumption) ?_
        rotate_left
        · (intro w hSw; (try dsimp only at hSw); first | (go_simp; done) | (go_simp; with_reducible rfl))
        simp only [List.set_cons_zero, List.set_cons_succ]
        refine take_lit (i := 1) (d := 56) (v := ?_) rfl rfl (by kernel_rfl) (by kernel_rfl) (by kernel_rfl) (fun _ _ _ h => h) (Or.inl ⟨by rfl, ?_⟩) (by assumption) ?_
        rotate_left
        · (intro w hSw; (try dsimp only at hSw); first | (go_simp; done) | (go_simp; with_reducible rfl))
        simp only [List.set_cons_zero, List.set_cons_succ]
        refine take_lit (i := 2) (d := 57) (v := ?_) rfl rfl (by kernel_rfl) (by kernel_rfl) (by kernel_rfl) (fun _ _ _ h => h) (Or.inl ⟨by rfl, ?_⟩) (by assumption) ?_
        rotate_left
        · (intro w hSw; (try dsimp only at hSw); first | (go_simp; done) | (go_simp; with_reducible rfl))
        simp only [List.set_cons_zero, List.set_cons_succ]
        refine take_lit (i := 3) (d := 58) (v := .bool false) rfl rfl (by kernel_rfl) (by kernel_rfl) (by kernel_rfl) (fun _ _ _ h => h) (Or.inl ⟨by rfl, ?_⟩) (by assumption) ?_
        · (intro w hSw; (try dsimp only at hSw); go_simp; first | done | omega | (simp; omega))
        simp only [List.set_cons_zero, List.set_cons_succ]
        refine take_lit (i := 4) (d := 59) (v := ?_) rfl rfl (by kernel_rfl) (by kernel_rfl) (by kernel_rfl) (fun _ _ _ h => h) (Or.inl ⟨by rfl, ?_⟩) (by assumption) ?_
        rotate_left
        · (intro w hSw; (try dsimp only at hSw); first | (go_simp; done) | (go_simp; with_reducible rfl))
        simp only [List.set_cons_zero, List.set_cons_succ]
        refine take_lit (i := 5) (d := 60) (v := ?_) rfl rfl (by kernel_rfl) (by kernel_rfl) (by kernel_rfl) (fun _ _ _ h => h) (Or.inl ⟨by rfl, ?_⟩) (by assumption) ?_
        rotate_left
        · (intro w hSw; (try dsimp only at hSw); first | (go_simp; done) | (go_simp; with_reducible rfl))
        simp only [List.set_cons_zero, List.set_cons_succ]
        refine take_lit (i := 6) (d := 61) (v := ?_) rfl rfl (by kernel_rfl) (by kernel_rfl) (by kernel_rfl) (fun _ _ _ h => h) (Or.inl ⟨by rfl, ?_⟩) (by assumption) ?_
        rotate_left
        · (intro w hSw; (try dsimp only at hSw); first | (go_simp; done) | (go_simp; with_reducible rfl))
        simp only [List.set_cons_zero, List.set_cons_succ]
        refine take_lit (i := 7) (d := 62) (v := ?_) rfl rfl (by kernel_rfl) (by kernel_rfl) (by kernel_rfl) (fun _ _ _ h => h) (Or.inl ⟨by rfl, ?_⟩) (by assumption) ?_
        rotate_left
        · (intro w hSw; (try dsimp only at hSw); first | (go_simp; done) | (go_simp; with_reducible rfl))
        simp only [List.set_cons_zero, List.set_cons_succ]
        refine take_lit (i := 8) (d := 63) (v := ?_) rfl rfl (by kernel_rfl) (by kernel_rfl) (by kernel_rfl) (fun _ _ _ h => h) (Or.inl ⟨by rfl, ?_⟩) (by assumption) ?_
        rotate_left
        · (intro w hSw; (try dsimp only at hSw); first | (go_simp; done) | (go_simp; with_reducible rfl))
        simp only [List.set_cons_zero, List.set_cons_succ]
        refine take_lit (i := 9) (d := 64) (v := ?_) rfl rfl (by kernel_rfl) (by kernel_rfl) (by kernel_rfl) (fun _ _ _ h => h) (Or.inl ⟨by rfl, ?_⟩) (by assumption) ?_
        rotate_left
        · (intro w hSw; (try dsimp only at hSw); first | (go_simp; done) | (go_simp; with_reducible rfl))
        simp only [List.set_cons_zero, List.set_cons_succ]
        refine take_lit (i := 10) (d := 65) (v := ?_) rfl rfl (by kernel_rfl) (by kernel_rfl) (by kernel_rfl) (fun _ _ _ h => h) (Or.inl ⟨by rfl, ?_⟩) (by assumption) ?_
        rotate_left
        · (intro w hSw; (try dsimp only at hSw); first | (go_simp; done) | (go_simp; with_reducible rfl))
        simp only [List.set_cons_zero, List.set_cons_succ]
        refine take_lit (i := 11) (d := 66) (v := ?_) rfl rfl (by kernel_rfl) (by kernel_rfl) (by kernel_rfl) (fun _ _ _ h => h) (Or.inl ⟨by rfl, ?_⟩) (by assumption) ?_
        rotate_left
        · (intro w hSw; (try dsimp only at hSw); first | (go_simp; done) | (go_simp; with_reducible rfl))
        simp only [List.set_cons_zero, List.set_cons_succ]
        refine take_lit (i := 12) (d := 67) (v := ?_) rfl rfl (by kernel_rfl) (by kernel_rfl) (by kernel_rfl) (fun _ _ _ h => h) (Or.inl ⟨by rfl, ?_⟩) (by assumption) ?_
        rotate_left
        · (intro w hSw; (try dsimp only at hSw); first | (go_simp; done) | (go_simp; with_reducible rfl))
        simp only [List.set_cons_zero, List.set_cons_succ]
        refine wpAnyH_ready (rs := [13]) (by kernel_rfl) (by simp) ?_
        refine AllReadyH.cons rfl (fun K hK => ?_) AllReadyH.nil
        go_simp
        refine (samePath_b (by exact hFk'.out.below intAt_stays k11'.out.drew) (by exact hPj.out.below intAt_stays k11'.out.drew)).mono ?_
        rintro e w1 ⟨rfl, hb1⟩
        have k12 := undrew hb1
        have k12' : Hid (Below wr.heap.size wr w1) := k11'.out.trans (k12.mono k11'.out.size)
        refine hK.out _ _ ⟨cell_on hb1 hHeld.1, cell_on hb1 hHeld.2⟩ (fun hHeld => ?_)
        clear hK K
        refine take_lit (i := 14) (d := 69) (v := ?_) rfl rfl (by kernel_rfl) (by kernel_rfl) (by kernel_rfl) (fun _ _ _ h => h) (Or.inl ⟨by rfl, ?_⟩) (by assumption) ?_
        rotate_left
        · (intro w hSw; (try dsimp only at hSw); first | (go_simp; done) | (go_simp; with_reducible rfl))
        simp only [List.set_cons_zero, List.set_cons_succ]
        refine take_lit (i := 15) (d := 70) (v := ?_) rfl rfl (by kernel_rfl) (by kernel_rfl) (by kernel_rfl) (fun _ _ _ h => h) (Or.inl ⟨by rfl, ?_⟩) (by assumption) ?_
        rotate_left
        · (intro w hSw; (try dsimp only at hSw); first | (go_simp; done) | (go_simp; with_reducible rfl))
        simp only [List.set_cons_zero, List.set_cons_succ]
        refine wpAnyH_done (by kernel_rfl) ?_ _
        have hwk : IntKind.i64.wrap ((CK : Int) + 1) = (CK : Int) + 1 := by simp [IntKind.wrap, IntKind.signed, IntKind.bits]; omega
        go_wp2_with fail
        go_roundw
        case rel => exact ⟨j + 1, by omega, by go_num, by rw [hcs'.out]; go_num, hGr.out.below k12'.out, hPr.out.below IntsAt_stays k12'.out, hFr.out.below IntsAt_stays k12'.out, h2r.out.trans (k12'.out.mono h2r.out.size)⟩
        case measure => simp [intOf]; omega
    · obtain rfl : j = PS.length := by omega
      rw [cntF_all, hFS.out]
      go_wp2_with fail
      go_ret
      exact ⟨by first | rfl | simp, hB2.out.trans (h2r.out.mono hB2.out.size)⟩
end Go.Proofs.Ytgmgbjeejlkdmaa.fnFindAll
