/- The walk of FnDepths. -/
import Derived.Test.YtcpacaoaepcjfaaDoorVmFnD
import Derived.Test.YtcpacaoaepcjfaaDoorTakeLit
import Derived.Deep.RegionHeld3
import Derived.Deep.DeepCutAuto
namespace Go.Proofs.YtcpacaoaepcjfaaDoor.fnDepths
open Go.RowKit
theorem cell_al {w : World} {b i : Nat} {v : Value} (h : w.cell? ⟨b, i, none⟩ = some v) (o : Obj) : (w.alloc o).cell? ⟨b, i, none⟩ = some v := cell_on ((Below.refl _ _).alloc (Nat.le_refl _) o) h
theorem cell_gr {w w' : World} {b i : Nat} {v : Value} {r : Option Nat} (h : w.cell? ⟨b, i, none⟩ = some v) (hg : w.grownBy w' r) (hne : some b ≠ r) : w'.cell? ⟨b, i, none⟩ = some v := by
  have hb : b < w.heap.size := (addr_of_cell h).2
  rw [World.cell?_of_block (w := w) (w' := w') (hg.block b hb hne)]; exact h
theorem row_news {w : World} {base r cp : Nat} {ps : List InstrD} (h : w.ownsRow base 30 3 (.slice (some ⟨r, 0, none⟩) ps.length cp) ps.length (flatIn ps)) (j : Nat) (u : Value) (hu : (flatIn ps)[j]? = some u) : w.cell? ((⟨r, 0, none⟩ : Addr).add j) = some u := by
  rcases h.2 with ⟨q, _⟩ | ⟨g, cap, cur, q, _, h2, _, _, _, h6⟩
  · cases q
  · injection q with q1 _ q3
    injection q1 with q1
    injection q1 with q1
    subst q1
    have h1 : cur.toList[j]? = some u := by
      rw [← h6, List.getElem?_take] at hu
      split at hu
      · exact hu
      · cases hu
    have h3 : cur[j]? = some u := by simpa using h1
    unfold Addr.add
    by_cases e : j = 0
    · subst e; simp [World.cell?, h2, h3]
    · rw [if_neg e]; simp [World.cell?, h2, h3]
theorem row_keep {w w' : World} {base r cp n : Nat} {xs : List Value} (h : w.ownsRow base 30 3 (.slice (some ⟨r, 0, none⟩) n cp) n xs) (hb : Below w.heap.size w w') : w'.ownsRow base 30 3 (.slice (some ⟨r, 0, none⟩) n cp) n xs := by
  refine ⟨h.1, ?_⟩
  rcases h.2 with q | ⟨g, cap, cur, q, h1, h2, h3⟩
  · exact Or.inl q
  · exact Or.inr ⟨g, cap, cur, q, h1, (hb.block g (Array.getElem?_eq_some_iff.1 h2).1).trans h2, h3⟩
theorem ok_at {w : World} {lo : Nat} {x : InstrD} (h : InOk x) : InstrAt w lo [.int .i64 x.vKind, .int .i64 x.vN, .string x.vName] x := ⟨rfl, h.1, h.2.1, Nat.le_trans h.2.2 (by unfold maxLen; omega), trivial⟩
theorem allB_bad {ps : List InstrD} {x : InstrD} (h : instrB x = false) : allB (ps ++ [x]) = false := by rw [allB_append]; simp [allB, h]
theorem ans_bad {ps : List InstrD} {x : InstrD} {b : Bool} {ys : List Int} (h : instrB x = false) (ha : Ans (ps ++ [x]) b ys) : b = false := by
  rcases ha with ⟨hr, _⟩ | ⟨_, hb, _⟩
  · rw [right_all (allB_bad h)] at hr; cases hr
  · exact hb
theorem ans_six {p : List InstrD} {b : Bool} {ys : List Int} (h : Ans p b ys) (i : Nat) : -1 ≤ labAt ys i ∧ labAt ys i ≤ 6 := by
  rcases h with ⟨_, ht⟩ | ⟨_, _, rfl⟩
  · cases b
    · rcases ht with ⟨q, _⟩ | ⟨_, rfl, _⟩
      · cases q
      · simp [labAt]
    · refine ⟨?_, told_six ht i⟩
      rcases ht with ⟨_, hc, _⟩ | ⟨q, _⟩
      · exact (closed_range hc i).1
      · cases q
  · simp [labAt]
theorem ans_top {p : List InstrD} {ys : List Int} (h : Ans p true ys) : ys.length = p.length ∧ 1 ≤ p.length ∧ labAt ys 0 = 0 := by
  rcases h with ⟨hr, ht⟩ | ⟨_, q, _⟩
  · rcases ht with ⟨_, hc, _⟩ | ⟨q, _⟩
    · refine ⟨hc.1, ?_, hc.2.1⟩
      simp only [rightB, Bool.and_eq_true, decide_eq_true_eq] at hr
      exact hr.1.1
    · cases q
  · cases q
set_option maxRecDepth 100000 in
set_option maxHeartbeats 8000000 in
theorem walk {a : Option Addr} {n cap : Nat} (w : World) (hlen : n ≤ maxLen) (hcode : n ≤ 1048576 → CodeAt w a n) (hsg : Forms w) :
    Calls Tryd.prog 3 #[.slice a n cap] w fun e w' => e = .returned (.bool true) ∧ Below w.heap.size w w' := by
  unfold maxLen at hlen
  by_cases hbig : (1048576 : Int) < (n : Int)
  · clear hcode
    go_enter Tryd.func3, Tryd.ntmps3
    go_wp2_with (go_at_call 5; refine (big_any _).mono ?_; rintro e w' ⟨rfl, rfl⟩; rw [decide_eq_true hbig])
    go_ret
    exact ⟨rfl, Below.refl _ _⟩
  have hc' : Hid (CodeAt w a n) := hcode (by omega)
  have hbe : Hid (decide ((1048576 : Int) < (n : Int)) = false) := decide_eq_false hbig
  have hsg' : Hid (∀ w', Below w.heap.size w w' → Forms w') := fun w' h => Forms.below hsg h (Forms.lt hsg)
  obtain ⟨iT, hiT, heT⟩ := Option.map_eq_some_iff.1 infoIn
  simp only [Prod.mk.injEq] at heT
  have hI : Hid (Tryd.prog.info? 30 = some iT) := hiT
  have hE : Hid (iT.zero = some (.agg #[.int .i64 0, .int .i64 0, .string ⟨#[]⟩]) ∧ iT.bytes = 32 ∧ iT.size = 3) := heT
  clear hcode hsg hiT heT hbig hlen
  go_enter Tryd.func3, Tryd.ntmps3
  go_wp2_with (go_at_call 5; refine (big_any _).mono ?_; rintro e w' ⟨rfl, e9⟩; have e10 := e9.symm; clear e9; subst e10; rw [hbe.out])
  refine (drawDepths_any hc'.out).mono ?_
  rintro e w2 ⟨⟨r, cp, ps, rfl, hD⟩, hB2⟩
  have hD' : Hid (Drawn w w2 r cp ps) := hD
  have hlps : ps.length ≤ 50 := hD.2.1
  have hP : Hid (∀ w', Below w2.heap.size w2 w' → SeqAt 3 InstrAt w' w.heap.size (.slice (some ⟨r, 0, none⟩) ps.length cp) ps) := fun w' h => SeqAt.below InstrAt_stays (seq_of_own hD.1 (by simp) (by omega) hD.2.2) h
  clear hD
  go_wp2_with fail
  refine (implDepths_any (hP.out _ (Below.refl _ _)) (hsg'.out _ hB2)).mono ?_
  rintro e w3 ⟨⟨bb, ys, kd, rfl, hans, hdr⟩, hb3⟩
  have hans' : Hid (Ans ps bb ys) := hans
  obtain ⟨hyl, hyi⟩ := ans_range hans
  obtain ⟨fd, hkd, hfd⟩ := hdr.own hyl hyi
  have hD3 : Hid (SeqOwn 1 IntOwn w3 kd ys fd) := hkd
  obtain ⟨ad, cd, rfl⟩ := hkd.form
  have h23 : Hid (Below w2.heap.size w2 w3) := hb3
  have hyl' : Hid (ys.length ≤ 20) := hyl
  clear hans hdr hkd hfd hyl hyi hb3
  go_wp2_with fail
  refine (specDepths_any (hP.out _ h23.out)).mono ?_
  rintro e w4 ⟨⟨b4, ys4, kw, rfl, hans4, hdr⟩, hb4⟩
  obtain ⟨rfl, rfl⟩ := ans_same hans'.out hans4
  obtain ⟨hyl, hyi⟩ := ans_range hans4
  obtain ⟨fw, hkw, hfw⟩ := hdr.own hyl hyi
  have hW4 : Hid (SeqOwn 1 IntOwn w4 kw ys fw) := hkw
  have hD4 : Hid (SeqOwn 1 IntOwn w4 (.slice ad ys.length cd) ys fd) := hD3.out.stays intOwn_stays (fun b q => hb4.block b (hD3.out.lt intOwn_lt b q))
  obtain ⟨aw, cw, rfl⟩ := hkw.form
  have h24 : Hid (Below w2.heap.size w2 w4) := h23.out.trans (hb4.mono h23.out.size)
  clear hans4 hdr hkw hfw hyl hyi hb4 hD3 h23
  have hB4 : Hid (Below w.heap.size w w4) := hB2.trans (h24.out.mono hB2.size)
  go_wp2_with fail
  refine (drawInstr_any (hc'.out.below hB4.out)).mono ?_
  rintro e w5 ⟨⟨x, rfl, hxo⟩, hb5⟩
  have hxo' : Hid (InOk x) := hxo
  have hD6 : Hid (SeqAt 1 IntAt (w5.alloc (.cells #[.int .i64 x.vKind, .int .i64 x.vN, .string x.vName] 30)) 0 (.slice ad ys.length cd) ys) := (hD4.out.at intOwn_at (fun _ _ => Nat.zero_le _)).below intAt_stays (hb5.trans (((Below.refl _ _).alloc (Nat.le_refl _) _).mono hb5.size))
  have hW6 : Hid (SeqAt 1 IntAt (w5.alloc (.cells #[.int .i64 x.vKind, .int .i64 x.vN, .string x.vName] 30)) 0 (.slice aw ys.length cw) ys) := (hW4.out.at intOwn_at (fun _ _ => Nat.zero_le _)).below intAt_stays (hb5.trans (((Below.refl _ _).alloc (Nat.le_refl _) _).mono hb5.size))
  have h26 : Hid (Below w2.heap.size w2 (w5.alloc (.cells #[.int .i64 x.vKind, .int .i64 x.vN, .string x.vName] 30))) := (h24.out.trans (hb5.mono h24.out.size)).alloc (Nat.le_trans h24.out.size hb5.size) _
  have bx6 : Hid (Box (w5.alloc (.cells #[.int .i64 x.vKind, .int .i64 x.vN, .string x.vName] 30)) w5.heap.size [.int .i64 x.vKind, .int .i64 x.vN, .string x.vName] 30) := Box.new w5 _ _
  have hB6 : Hid (Below w.heap.size w (w5.alloc (.cells #[.int .i64 x.vKind, .int .i64 x.vN, .string x.vName] 30))) := hB2.trans (h26.out.mono hB2.size)
  clear hxo hb5 hD4 hW4 h24 hB4 hc'
  go_upto_region 7 with fail
  generalize (w5.alloc (.cells #[.int .i64 x.vKind, .int .i64 x.vN, .string x.vName] 30)) = w6 at hD6 hW6 h26 bx6 hB6 ⊢
  generalize w5.heap.size = gb at bx6 ⊢
  have hgb : Hid (gb < w6.heap.size) := bx6.out.lt
  have z0 := bx6.out.cell 0 rfl
  have z1 := bx6.out.cell 1 rfl
  have z2 := bx6.out.cell 2 rfl
  have hbq : (bb != bb) = false := by simp
  generalize hib : instrB x = ib
  have hib' : Hid (instrB x = ib) := hib
  have hiq : (ib != ib) = false := by simp
  clear hib
  go_region_held3 (fun w' => w'.cell? ⟨gb, 0, none⟩ = some (.int .i64 x.vKind) ∧ w'.cell? ⟨gb, 1, none⟩ = some (.int .i64 x.vN) ∧ w'.cell? ⟨gb, 2, none⟩ = some (.string x.vName)) (go_keep)
    (first | (go_at_call 10; refine (sameInts_any (by exact hD6.out.below intAt_stays (Below.refl _ _).drew) (by exact hW6.out.below intAt_stays (Below.refl _ _).drew)).mono ?_; rintro e wa ⟨rfl, hba⟩; have hka : Hid (Below w6.heap.size w6 wa) := undrew hba; have ya0 := cell_on hba z0; have ya1 := cell_on hba z1; have ya2 := cell_on hba z2; clear hba) | (go_at_call 11; refine (implProgOk_any (by exact hP.out _ (h26.out.trans (hka.out.mono h26.out.size))) (by exact hsg'.out _ (hB6.out.trans (hka.out.mono hB6.out.size)))).mono ?_; rintro e wb ⟨⟨b5, ys5, rfl, hans5⟩, hbb⟩; have e5 := (ans_same hans'.out hans5).1; subst e5; have hkb : Hid (Below w6.heap.size w6 wb) := hka.out.trans (hbb.mono hka.out.size); have yb0 := cell_on hbb ya0; have yb1 := cell_on hbb ya1; have yb2 := cell_on hbb ya2; clear hbb hans5) | (go_at_call 12; refine (specProgOk_any (by exact hP.out _ (h26.out.trans (hkb.out.mono h26.out.size)))).mono ?_; rintro e wd ⟨⟨b6, ys6, rfl, hans6⟩, hbd⟩; have e6 := (ans_same hans'.out hans6).1; subst e6; have hkd : Hid (Below w6.heap.size w6 wd) := hkb.out.trans (hbd.mono hkb.out.size); have yd0 := cell_on hbd yb0; have yd1 := cell_on hbd yb1; have yd2 := cell_on hbd yb2; clear hbd hans6) | (go_at_call 13; refine (implInstrOk_any (lo := 0) (by exact ok_at hxo'.out) (by exact hsg'.out _ (hB6.out.trans (hkd.out.mono hB6.out.size)))).mono ?_; rintro e we ⟨rfl, hbe⟩; rw [hib'.out]; have hke : Hid (Below w6.heap.size w6 we) := hkd.out.trans (hbe.mono hkd.out.size); have ye0 := cell_on hbe yd0; have ye1 := cell_on hbe yd1; have ye2 := cell_on hbe yd2; clear hbe) | (go_at_call 14; refine (specInstrOk_any (lo := 0) (by exact ok_at hxo'.out)).mono ?_; rintro e wf ⟨rfl, hbf⟩; rw [hib'.out]; have hkf : Hid (Below w6.heap.size w6 wf) := hke.out.trans (hbf.mono hke.out.size); have yf0 := cell_on hbf ye0; have yf1 := cell_on hbf ye1; have yf2 := cell_on hbf ye2; clear hbf))
  have hDf : Hid (SeqAt 1 IntAt wf 0 (.slice ad ys.length cd) ys) := hD6.out.below intAt_stays hkf.out
  have h2f : Hid (Below w2.heap.size w2 wf) := h26.out.trans (hkf.out.mono h26.out.size)
  have hBf : Hid (Below w.heap.size w wf) := hB6.out.trans (hkf.out.mono hB6.out.size)
  have hgf : gb < wf.heap.size := Nat.lt_of_lt_of_le hgb.out hkf.out.size
  clear hka hkb hkd hke hkf hD6 hW6 h26 hB6 bx6 ya0 ya1 ya2 yb0 yb1 yb2 yd0 yd1 yd2 ye0 ye1 ye2 z0 z1 z2 hgb
  go_upto_region 9 with fail
  go_cut [60] (fun v wx => v = .bool false ∧ Hid (Below wf.heap.size wf wx))
  case first =>
    cases ib
    · have kp0 : Hid (Below wf.heap.size wf wf.drew) := (Below.refl _ _).drew
      refine wp_region_held_drew (S := fun w' => w'.cell? ⟨gb, 0, none⟩ = some (.int .i64 x.vKind) ∧ w'.cell? ⟨gb, 1, none⟩ = some (.int .i64 x.vN) ∧ w'.cell? ⟨gb, 2, none⟩ = some (.string x.vName)) (by kernel_rfl) ⟨yf0, yf1, yf2⟩ (fun hHeld => ?_)
      refine take_lit (i := 0) (d := 49) (v := ?_) rfl rfl (by kernel_rfl) (by kernel_rfl) (by kernel_rfl) (fun _ _ _ h => h) (Or.inl ⟨by rfl, ?_⟩) (by assumption) ?_
      rotate_left
      · (intro w hSw; (try dsimp only at hSw); first | (go_simp; done) | (go_simp; with_reducible rfl))
      simp only [List.set_cons_zero, List.set_cons_succ]
      refine wpAnyH_ready (rs := [1]) (by kernel_rfl) (by simp) ?_
      refine AllReadyH.cons rfl (fun K hK => ?_) AllReadyH.nil
      go_simp
      refine (implInstrOk_any (lo := 0) (by exact ok_at hxo'.out) (by exact hsg'.out _ (hBf.out.trans (kp0.out.mono hBf.out.size)))).mono ?_
      rintro e wg ⟨rfl, hbg⟩
      rw [hib'.out]
      have kpg : Hid (Below wf.heap.size wf wg) := kp0.out.trans (hbg.mono kp0.out.size)
      refine hK.out _ _ ⟨cell_on hbg hHeld.1, cell_on hbg hHeld.2.1, cell_on hbg hHeld.2.2⟩ (fun hHeld => ?_)
      clear hK K
      refine take_lit (i := 2) (d := 51) (v := ?_) rfl rfl (by kernel_rfl) (by kernel_rfl) (by kernel_rfl) (fun _ _ _ h => h) (Or.inl ⟨by rfl, ?_⟩) (by assumption) ?_
      rotate_left
      · (intro w hSw; (try dsimp only at hSw); first | (go_simp; done) | (go_simp; with_reducible rfl))
      simp only [List.set_cons_zero, List.set_cons_succ]
      refine take_lit (i := 3) (d := 52) (v := ?_) rfl rfl (by kernel_rfl) (by kernel_rfl) (by kernel_rfl) (fun _ _ _ h => h) (Or.inl ⟨by rfl, ?_⟩) (by assumption) ?_
      rotate_left
      · (intro w hSw; (try dsimp only at hSw); first | (go_simp; done) | (go_simp; with_reducible rfl))
      simp only [List.set_cons_zero, List.set_cons_succ]
      refine take_lit (i := 5) (d := 54) (v := ?_) rfl rfl (by kernel_rfl) (by kernel_rfl) (by kernel_rfl) (fun _ _ _ h => h) (Or.inl ⟨by rfl, ?_⟩) (by assumption) ?_
      rotate_left
      · (intro w hSw; (try dsimp only at hSw); first | (go_simp; done) | (go_simp; with_reducible rfl))
      simp only [List.set_cons_zero, List.set_cons_succ]
      refine take_lit (i := 7) (d := 56) (v := ?_) rfl rfl (by kernel_rfl) (by kernel_rfl) (by kernel_rfl) (fun _ _ _ h => h) (Or.inl ⟨by rfl, ?_⟩) (by assumption) ?_
      rotate_left
      · (intro w hSw; (try dsimp only at hSw); first | (go_simp; done) | (go_simp; with_reducible rfl))
      simp only [List.set_cons_zero, List.set_cons_succ]
      refine wpAnyH_ready (rs := [4, 8]) (by kernel_rfl) (by simp) ?_
      refine (AllReadyH.cons rfl (fun K hK => ?_) (AllReadyH.cons rfl (fun K hK => ?_) AllReadyH.nil))
      · go_simp
        have kp_1 : Hid (Below wf.heap.size wf (World.alloc wg (.cells #[] 30))) := kpg.out.alloc kpg.out.size _
        have ro_1r : World.ownsRow (World.alloc wg (.cells #[] 30)) wf.heap.size 30 3 (.slice (some ⟨(World.heap wg).size, 0, none⟩) 0 0) 0 [] := ⟨rfl, Or.inr ⟨_, _, #[], rfl, kpg.out.size, (MapKept.heap_alloc wg _).1, Nat.le_refl _, Nat.zero_le _, rfl, rfl⟩⟩
        have ro_1 : Hid (World.ownsRow (World.alloc wg (.cells #[] 30)) wf.heap.size 30 3 (.slice (some ⟨(World.heap wg).size, 0, none⟩) 0 0) 0 []) := ro_1r
        clear ro_1r
        refine hK.out _ _ ⟨cell_al hHeld.1 _, cell_al hHeld.2.1 _, cell_al hHeld.2.2 _⟩ (fun hHeld => ?_)
        clear hK K
        refine wpAnyH_ready (rs := [6, 8]) (by kernel_rfl) (by simp) ?_
        refine (AllReadyH.cons rfl (fun K hK => ?_) (AllReadyH.cons rfl (fun K hK => ?_) AllReadyH.nil))
        · rw [if_pos (by kernel_rfl)]
          refine wp_append_own _ _ _ 24 rfl (wf.heap.size) 30 iT (.agg #[.int .i64 0, .int .i64 0, .string ⟨#[]⟩]) 3 32 Tryd.underlying24 hI.out hE.out.1 hE.out.2.2 hE.out.2.1 rfl (by decide) _ (0) ([]) rfl ro_1.out ⟨r, 0, none⟩ ps.length cp (flatIn ps) rfl (flatIn_length _) (row_news (row_keep hD'.out.1 (h2f.out.trans (kp_1.out.mono h2f.out.size)))) (flatIn_one _) (by unfold maxLen; omega) (by omega) kp_1.out.size ?_
          intro v_2 u_2 hap_2 hgr_2 hnn_2
          have hrn_2 : wf.heap.size ≤ (World.heap wg).size := (row_own ro_1.out).1
          have kp_2 : Hid (Below wf.heap.size wf u_2) := Below.grown kp_1.out hgr_2 kp_1.out.size (own_block ro_1.out)
          obtain ⟨rr_2, cc_2, rfl⟩ : ∃ g c, v_2 = .slice (some ⟨g, 0, none⟩) ps.length c := by
            rcases hap_2.2 with ⟨q, _⟩ | ⟨g, c, cur, q, _⟩
            · exact absurd (hnn_2.1 q).1 (fun h => by cases h)
            · exact ⟨g, c, by rw [q]; simp⟩
          have ro_2 : Hid (World.ownsRow u_2 wf.heap.size 30 3 (.slice (some ⟨rr_2, 0, none⟩) ps.length cc_2) ps.length (flatIn ps)) := by have q := hap_2; simp only [Nat.zero_add, List.nil_append] at q; exact q
          refine hK.out _ _ ⟨cell_gr hHeld.1 hgr_2 (fun e => by have e' : some gb = some ((World.heap wg).size) := e; injection e' with e'; omega), cell_gr hHeld.2.1 hgr_2 (fun e => by have e' : some gb = some ((World.heap wg).size) := e; injection e' with e'; omega), cell_gr hHeld.2.2 hgr_2 (fun e => by have e' : some gb = some ((World.heap wg).size) := e; injection e' with e'; omega)⟩ (fun hHeld => ?_)
          clear hK K
          refine wpAnyH_ready (rs := [8]) (by kernel_rfl) (by simp) ?_
          refine AllReadyH.cons rfl (fun K hK => ?_) AllReadyH.nil
          go_simp
          have kp_3 : Hid (Below wf.heap.size wf (World.alloc u_2 (.cells #[.int .i64 x.vKind, .int .i64 x.vN, .string x.vName] 30))) := kp_2.out.alloc kp_2.out.size _
          have bo_3 : Hid (Box (World.alloc u_2 (.cells #[.int .i64 x.vKind, .int .i64 x.vN, .string x.vName] 30)) (World.heap u_2).size [.int .i64 x.vKind, .int .i64 x.vN, .string x.vName] 30) := Box.new u_2 _ _
          have ro_3 : Hid (World.ownsRow (World.alloc u_2 (.cells #[.int .i64 x.vKind, .int .i64 x.vN, .string x.vName] 30)) wf.heap.size 30 3 (.slice (some ⟨rr_2, 0, none⟩) ps.length cc_2) ps.length (flatIn ps)) := ro_2.out.alloc _
          refine hK.out _ _ ⟨cell_al hHeld.1 _, cell_al hHeld.2.1 _, cell_al hHeld.2.2 _⟩ (fun hHeld => ?_)
          clear hK K
          refine wpAnyH_ready (rs := [9]) (by kernel_rfl) (by simp) ?_
          refine AllReadyH.cons rfl (fun K hK => ?_) AllReadyH.nil
          rw [if_pos (by kernel_rfl)]
          refine wp_append_own _ _ _ 24 rfl (wf.heap.size) 30 iT (.agg #[.int .i64 0, .int .i64 0, .string ⟨#[]⟩]) 3 32 Tryd.underlying24 hI.out hE.out.1 hE.out.2.2 hE.out.2.1 rfl (by decide) _ (ps.length) (flatIn ps) rfl ro_3.out ⟨(World.heap u_2).size, 0, none⟩ 1 1 (flatIn [x]) rfl rfl (news_box bo_3.out) (flatIn_one _) (by unfold maxLen; omega) (by omega) kp_3.out.size ?_
          intro v_4 u_4 hap_4 hgr_4 hnn_4
          have hrn_4 : wf.heap.size ≤ rr_2 := (row_own ro_3.out).1
          have kp_4 : Hid (Below wf.heap.size wf u_4) := Below.grown kp_3.out hgr_4 kp_3.out.size (own_block ro_3.out)
          have sq_4 : Hid (SeqAt 3 InstrAt u_4 wf.heap.size v_4 (ps ++ [x])) := seq_of_own (by rw [flatIn_append, List.length_append]; exact hap_4) (fun q => absurd (hnn_4.1 q).1 (fun h => by cases h)) (by simp; omega) (ok_app hD'.out.2.2 (by simpa using hxo'.out))
          obtain ⟨qs_4, hqr_4⟩ : ∃ qs, ps ++ [x] = qs := ⟨_, rfl⟩
          rw [hqr_4] at sq_4
          have hqs : Hid (ps ++ [x] = qs_4) := hqr_4
          clear hqr_4 hap_4 hnn_4
          obtain ⟨ax_4, cx_4, rfl⟩ := sq_4.out.form
          refine hK.out _ _ ⟨cell_gr hHeld.1 hgr_4 (fun e => by have e' : some gb = some (rr_2) := e; injection e' with e'; omega), cell_gr hHeld.2.1 hgr_4 (fun e => by have e' : some gb = some (rr_2) := e; injection e' with e'; omega), cell_gr hHeld.2.2 hgr_4 (fun e => by have e' : some gb = some (rr_2) := e; injection e' with e'; omega)⟩ (fun hHeld => ?_)
          clear hK K
          refine wpAnyH_ready (rs := [10]) (by kernel_rfl) (by simp) ?_
          refine AllReadyH.cons rfl (fun K hK => ?_) AllReadyH.nil
          go_simp
          refine (implProgOk_any sq_4.out (hsg'.out _ (hBf.out.trans (kp_4.out.mono hBf.out.size)))).mono ?_
          rintro e u_5 ⟨⟨bp_5, yp_5, rfl, hap_5⟩, hbp_5⟩
          rw [← hqs.out] at hap_5
          have ebp_5 := ans_bad hib'.out hap_5
          subst ebp_5
          have kp_5 : Hid (Below wf.heap.size wf u_5) := kp_4.out.trans (hbp_5.mono kp_4.out.size)
          refine hK.out _ _ ⟨cell_on hbp_5 hHeld.1, cell_on hbp_5 hHeld.2.1, cell_on hbp_5 hHeld.2.2⟩ (fun hHeld => ?_)
          clear hK K
          refine take_lit (i := 11) (d := 60) (v := ?_) rfl rfl (by kernel_rfl) (by kernel_rfl) (by kernel_rfl) (fun _ _ _ h => h) (Or.inl ⟨by rfl, ?_⟩) (by assumption) ?_
          rotate_left
          · (intro w hSw; (try dsimp only at hSw); first | (go_simp; done) | (go_simp; with_reducible rfl))
          simp only [List.set_cons_zero, List.set_cons_succ]
          refine wpAnyH_done (by kernel_rfl) ?_ _
          go_wp2_with fail
          go_meet
          exact ⟨rfl, kp_5⟩
        · go_simp
          have kp_2 : Hid (Below wf.heap.size wf (World.alloc (World.alloc wg (.cells #[] 30)) (.cells #[.int .i64 x.vKind, .int .i64 x.vN, .string x.vName] 30))) := kp_1.out.alloc kp_1.out.size _
          have bo_2 : Hid (Box (World.alloc (World.alloc wg (.cells #[] 30)) (.cells #[.int .i64 x.vKind, .int .i64 x.vN, .string x.vName] 30)) ((World.heap wg).size + 1) [.int .i64 x.vKind, .int .i64 x.vN, .string x.vName] 30) := box_new1 wg _ _ _
          have ro_2 : Hid (World.ownsRow (World.alloc (World.alloc wg (.cells #[] 30)) (.cells #[.int .i64 x.vKind, .int .i64 x.vN, .string x.vName] 30)) wf.heap.size 30 3 (.slice (some ⟨(World.heap wg).size, 0, none⟩) 0 0) 0 []) := ro_1.out.alloc _
          refine hK.out _ _ ⟨cell_al hHeld.1 _, cell_al hHeld.2.1 _, cell_al hHeld.2.2 _⟩ (fun hHeld => ?_)
          clear hK K
          refine wpAnyH_ready (rs := [6]) (by kernel_rfl) (by simp) ?_
          refine AllReadyH.cons rfl (fun K hK => ?_) AllReadyH.nil
          rw [if_pos (by kernel_rfl)]
          refine wp_append_own _ _ _ 24 rfl (wf.heap.size) 30 iT (.agg #[.int .i64 0, .int .i64 0, .string ⟨#[]⟩]) 3 32 Tryd.underlying24 hI.out hE.out.1 hE.out.2.2 hE.out.2.1 rfl (by decide) _ (0) ([]) rfl ro_2.out ⟨r, 0, none⟩ ps.length cp (flatIn ps) rfl (flatIn_length _) (row_news (row_keep hD'.out.1 (h2f.out.trans (kp_2.out.mono h2f.out.size)))) (flatIn_one _) (by unfold maxLen; omega) (by omega) kp_2.out.size ?_
          intro v_3 u_3 hap_3 hgr_3 hnn_3
          have hrn_3 : wf.heap.size ≤ (World.heap wg).size := (row_own ro_2.out).1
          have kp_3 : Hid (Below wf.heap.size wf u_3) := Below.grown kp_2.out hgr_3 kp_2.out.size (own_block ro_2.out)
          obtain ⟨rr_3, cc_3, rfl⟩ : ∃ g c, v_3 = .slice (some ⟨g, 0, none⟩) ps.length c := by
            rcases hap_3.2 with ⟨q, _⟩ | ⟨g, c, cur, q, _⟩
            · exact absurd (hnn_3.1 q).1 (fun h => by cases h)
            · exact ⟨g, c, by rw [q]; simp⟩
          have ro_3 : Hid (World.ownsRow u_3 wf.heap.size 30 3 (.slice (some ⟨rr_3, 0, none⟩) ps.length cc_3) ps.length (flatIn ps)) := by have q := hap_3; simp only [Nat.zero_add, List.nil_append] at q; exact q
          have bo_3 : Hid (Box u_3 ((World.heap wg).size + 1) [.int .i64 x.vKind, .int .i64 x.vN, .string x.vName] 30) := (hgr_3.block _ bo_2.out.lt (fun e => by have e' : some ((World.heap wg).size + 1) = some ((World.heap wg).size) := e; injection e' with e'; omega)).trans bo_2.out
          refine hK.out _ _ ⟨cell_gr hHeld.1 hgr_3 (fun e => by have e' : some gb = some ((World.heap wg).size) := e; injection e' with e'; omega), cell_gr hHeld.2.1 hgr_3 (fun e => by have e' : some gb = some ((World.heap wg).size) := e; injection e' with e'; omega), cell_gr hHeld.2.2 hgr_3 (fun e => by have e' : some gb = some ((World.heap wg).size) := e; injection e' with e'; omega)⟩ (fun hHeld => ?_)
          clear hK K
          refine wpAnyH_ready (rs := [9]) (by kernel_rfl) (by simp) ?_
          refine AllReadyH.cons rfl (fun K hK => ?_) AllReadyH.nil
          rw [if_pos (by kernel_rfl)]
          refine wp_append_own _ _ _ 24 rfl (wf.heap.size) 30 iT (.agg #[.int .i64 0, .int .i64 0, .string ⟨#[]⟩]) 3 32 Tryd.underlying24 hI.out hE.out.1 hE.out.2.2 hE.out.2.1 rfl (by decide) _ (ps.length) (flatIn ps) rfl ro_3.out ⟨((World.heap wg).size + 1), 0, none⟩ 1 1 (flatIn [x]) rfl rfl (news_box bo_3.out) (flatIn_one _) (by unfold maxLen; omega) (by omega) kp_3.out.size ?_
          intro v_4 u_4 hap_4 hgr_4 hnn_4
          have hrn_4 : wf.heap.size ≤ rr_3 := (row_own ro_3.out).1
          have kp_4 : Hid (Below wf.heap.size wf u_4) := Below.grown kp_3.out hgr_4 kp_3.out.size (own_block ro_3.out)
          have sq_4 : Hid (SeqAt 3 InstrAt u_4 wf.heap.size v_4 (ps ++ [x])) := seq_of_own (by rw [flatIn_append, List.length_append]; exact hap_4) (fun q => absurd (hnn_4.1 q).1 (fun h => by cases h)) (by simp; omega) (ok_app hD'.out.2.2 (by simpa using hxo'.out))
          obtain ⟨qs_4, hqr_4⟩ : ∃ qs, ps ++ [x] = qs := ⟨_, rfl⟩
          rw [hqr_4] at sq_4
          have hqs : Hid (ps ++ [x] = qs_4) := hqr_4
          clear hqr_4 hap_4 hnn_4
          obtain ⟨ax_4, cx_4, rfl⟩ := sq_4.out.form
          refine hK.out _ _ ⟨cell_gr hHeld.1 hgr_4 (fun e => by have e' : some gb = some (rr_3) := e; injection e' with e'; omega), cell_gr hHeld.2.1 hgr_4 (fun e => by have e' : some gb = some (rr_3) := e; injection e' with e'; omega), cell_gr hHeld.2.2 hgr_4 (fun e => by have e' : some gb = some (rr_3) := e; injection e' with e'; omega)⟩ (fun hHeld => ?_)
          clear hK K
          refine wpAnyH_ready (rs := [10]) (by kernel_rfl) (by simp) ?_
          refine AllReadyH.cons rfl (fun K hK => ?_) AllReadyH.nil
          go_simp
          refine (implProgOk_any sq_4.out (hsg'.out _ (hBf.out.trans (kp_4.out.mono hBf.out.size)))).mono ?_
          rintro e u_5 ⟨⟨bp_5, yp_5, rfl, hap_5⟩, hbp_5⟩
          rw [← hqs.out] at hap_5
          have ebp_5 := ans_bad hib'.out hap_5
          subst ebp_5
          have kp_5 : Hid (Below wf.heap.size wf u_5) := kp_4.out.trans (hbp_5.mono kp_4.out.size)
          refine hK.out _ _ ⟨cell_on hbp_5 hHeld.1, cell_on hbp_5 hHeld.2.1, cell_on hbp_5 hHeld.2.2⟩ (fun hHeld => ?_)
          clear hK K
          refine take_lit (i := 11) (d := 60) (v := ?_) rfl rfl (by kernel_rfl) (by kernel_rfl) (by kernel_rfl) (fun _ _ _ h => h) (Or.inl ⟨by rfl, ?_⟩) (by assumption) ?_
          rotate_left
          · (intro w hSw; (try dsimp only at hSw); first | (go_simp; done) | (go_simp; with_reducible rfl))
          simp only [List.set_cons_zero, List.set_cons_succ]
          refine wpAnyH_done (by kernel_rfl) ?_ _
          go_wp2_with fail
          go_meet
          exact ⟨rfl, kp_5⟩
      · go_simp
        have kp_1 : Hid (Below wf.heap.size wf (World.alloc wg (.cells #[.int .i64 x.vKind, .int .i64 x.vN, .string x.vName] 30))) := kpg.out.alloc kpg.out.size _
        have bo_1 : Hid (Box (World.alloc wg (.cells #[.int .i64 x.vKind, .int .i64 x.vN, .string x.vName] 30)) (World.heap wg).size [.int .i64 x.vKind, .int .i64 x.vN, .string x.vName] 30) := Box.new wg _ _
        refine hK.out _ _ ⟨cell_al hHeld.1 _, cell_al hHeld.2.1 _, cell_al hHeld.2.2 _⟩ (fun hHeld => ?_)
        clear hK K
        refine wpAnyH_ready (rs := [4]) (by kernel_rfl) (by simp) ?_
        refine AllReadyH.cons rfl (fun K hK => ?_) AllReadyH.nil
        go_simp
        have kp_2 : Hid (Below wf.heap.size wf (World.alloc (World.alloc wg (.cells #[.int .i64 x.vKind, .int .i64 x.vN, .string x.vName] 30)) (.cells #[] 30))) := kp_1.out.alloc kp_1.out.size _
        have ro_2r : World.ownsRow (World.alloc (World.alloc wg (.cells #[.int .i64 x.vKind, .int .i64 x.vN, .string x.vName] 30)) (.cells #[] 30)) wf.heap.size 30 3 (.slice (some ⟨(World.heap (World.alloc wg (.cells #[.int .i64 x.vKind, .int .i64 x.vN, .string x.vName] 30))).size, 0, none⟩) 0 0) 0 [] := ⟨rfl, Or.inr ⟨_, _, #[], rfl, kp_1.out.size, (MapKept.heap_alloc (World.alloc wg (.cells #[.int .i64 x.vKind, .int .i64 x.vN, .string x.vName] 30)) _).1, Nat.le_refl _, Nat.zero_le _, rfl, rfl⟩⟩
        simp only [World.size_alloc] at ro_2r
        have ro_2 : Hid (World.ownsRow (World.alloc (World.alloc wg (.cells #[.int .i64 x.vKind, .int .i64 x.vN, .string x.vName] 30)) (.cells #[] 30)) wf.heap.size 30 3 (.slice (some ⟨((World.heap wg).size + 1), 0, none⟩) 0 0) 0 []) := ro_2r
        clear ro_2r
        have bo_2 : Hid (Box (World.alloc (World.alloc wg (.cells #[.int .i64 x.vKind, .int .i64 x.vN, .string x.vName] 30)) (.cells #[] 30)) (World.heap wg).size [.int .i64 x.vKind, .int .i64 x.vN, .string x.vName] 30) := bo_1.out.alloc _
        refine hK.out _ _ ⟨cell_al hHeld.1 _, cell_al hHeld.2.1 _, cell_al hHeld.2.2 _⟩ (fun hHeld => ?_)
        clear hK K
        refine wpAnyH_ready (rs := [6]) (by kernel_rfl) (by simp) ?_
        refine AllReadyH.cons rfl (fun K hK => ?_) AllReadyH.nil
        rw [if_pos (by kernel_rfl)]
        refine wp_append_own _ _ _ 24 rfl (wf.heap.size) 30 iT (.agg #[.int .i64 0, .int .i64 0, .string ⟨#[]⟩]) 3 32 Tryd.underlying24 hI.out hE.out.1 hE.out.2.2 hE.out.2.1 rfl (by decide) _ (0) ([]) rfl ro_2.out ⟨r, 0, none⟩ ps.length cp (flatIn ps) rfl (flatIn_length _) (row_news (row_keep hD'.out.1 (h2f.out.trans (kp_2.out.mono h2f.out.size)))) (flatIn_one _) (by unfold maxLen; omega) (by omega) kp_2.out.size ?_
        intro v_3 u_3 hap_3 hgr_3 hnn_3
        have hrn_3 : wf.heap.size ≤ ((World.heap wg).size + 1) := (row_own ro_2.out).1
        have kp_3 : Hid (Below wf.heap.size wf u_3) := Below.grown kp_2.out hgr_3 kp_2.out.size (own_block ro_2.out)
        obtain ⟨rr_3, cc_3, rfl⟩ : ∃ g c, v_3 = .slice (some ⟨g, 0, none⟩) ps.length c := by
          rcases hap_3.2 with ⟨q, _⟩ | ⟨g, c, cur, q, _⟩
          · exact absurd (hnn_3.1 q).1 (fun h => by cases h)
          · exact ⟨g, c, by rw [q]; simp⟩
        have ro_3 : Hid (World.ownsRow u_3 wf.heap.size 30 3 (.slice (some ⟨rr_3, 0, none⟩) ps.length cc_3) ps.length (flatIn ps)) := by have q := hap_3; simp only [Nat.zero_add, List.nil_append] at q; exact q
        have bo_3 : Hid (Box u_3 (World.heap wg).size [.int .i64 x.vKind, .int .i64 x.vN, .string x.vName] 30) := (hgr_3.block _ bo_2.out.lt (fun e => by have e' : some (World.heap wg).size = some (((World.heap wg).size + 1)) := e; injection e' with e'; omega)).trans bo_2.out
        refine hK.out _ _ ⟨cell_gr hHeld.1 hgr_3 (fun e => by have e' : some gb = some (((World.heap wg).size + 1)) := e; injection e' with e'; omega), cell_gr hHeld.2.1 hgr_3 (fun e => by have e' : some gb = some (((World.heap wg).size + 1)) := e; injection e' with e'; omega), cell_gr hHeld.2.2 hgr_3 (fun e => by have e' : some gb = some (((World.heap wg).size + 1)) := e; injection e' with e'; omega)⟩ (fun hHeld => ?_)
        clear hK K
        refine wpAnyH_ready (rs := [9]) (by kernel_rfl) (by simp) ?_
        refine AllReadyH.cons rfl (fun K hK => ?_) AllReadyH.nil
        rw [if_pos (by kernel_rfl)]
        refine wp_append_own _ _ _ 24 rfl (wf.heap.size) 30 iT (.agg #[.int .i64 0, .int .i64 0, .string ⟨#[]⟩]) 3 32 Tryd.underlying24 hI.out hE.out.1 hE.out.2.2 hE.out.2.1 rfl (by decide) _ (ps.length) (flatIn ps) rfl ro_3.out ⟨(World.heap wg).size, 0, none⟩ 1 1 (flatIn [x]) rfl rfl (news_box bo_3.out) (flatIn_one _) (by unfold maxLen; omega) (by omega) kp_3.out.size ?_
        intro v_4 u_4 hap_4 hgr_4 hnn_4
        have hrn_4 : wf.heap.size ≤ rr_3 := (row_own ro_3.out).1
        have kp_4 : Hid (Below wf.heap.size wf u_4) := Below.grown kp_3.out hgr_4 kp_3.out.size (own_block ro_3.out)
        have sq_4 : Hid (SeqAt 3 InstrAt u_4 wf.heap.size v_4 (ps ++ [x])) := seq_of_own (by rw [flatIn_append, List.length_append]; exact hap_4) (fun q => absurd (hnn_4.1 q).1 (fun h => by cases h)) (by simp; omega) (ok_app hD'.out.2.2 (by simpa using hxo'.out))
        obtain ⟨qs_4, hqr_4⟩ : ∃ qs, ps ++ [x] = qs := ⟨_, rfl⟩
        rw [hqr_4] at sq_4
        have hqs : Hid (ps ++ [x] = qs_4) := hqr_4
        clear hqr_4 hap_4 hnn_4
        obtain ⟨ax_4, cx_4, rfl⟩ := sq_4.out.form
        refine hK.out _ _ ⟨cell_gr hHeld.1 hgr_4 (fun e => by have e' : some gb = some (rr_3) := e; injection e' with e'; omega), cell_gr hHeld.2.1 hgr_4 (fun e => by have e' : some gb = some (rr_3) := e; injection e' with e'; omega), cell_gr hHeld.2.2 hgr_4 (fun e => by have e' : some gb = some (rr_3) := e; injection e' with e'; omega)⟩ (fun hHeld => ?_)
        clear hK K
        refine wpAnyH_ready (rs := [10]) (by kernel_rfl) (by simp) ?_
        refine AllReadyH.cons rfl (fun K hK => ?_) AllReadyH.nil
        go_simp
        refine (implProgOk_any sq_4.out (hsg'.out _ (hBf.out.trans (kp_4.out.mono hBf.out.size)))).mono ?_
        rintro e u_5 ⟨⟨bp_5, yp_5, rfl, hap_5⟩, hbp_5⟩
        rw [← hqs.out] at hap_5
        have ebp_5 := ans_bad hib'.out hap_5
        subst ebp_5
        have kp_5 : Hid (Below wf.heap.size wf u_5) := kp_4.out.trans (hbp_5.mono kp_4.out.size)
        refine hK.out _ _ ⟨cell_on hbp_5 hHeld.1, cell_on hbp_5 hHeld.2.1, cell_on hbp_5 hHeld.2.2⟩ (fun hHeld => ?_)
        clear hK K
        refine take_lit (i := 11) (d := 60) (v := ?_) rfl rfl (by kernel_rfl) (by kernel_rfl) (by kernel_rfl) (fun _ _ _ h => h) (Or.inl ⟨by rfl, ?_⟩) (by assumption) ?_
        rotate_left
        · (intro w hSw; (try dsimp only at hSw); first | (go_simp; done) | (go_simp; with_reducible rfl))
        simp only [List.set_cons_zero, List.set_cons_succ]
        refine wpAnyH_done (by kernel_rfl) ?_ _
        go_wp2_with fail
        go_meet
        exact ⟨rfl, kp_5⟩
    · have kp0 : Hid (Below wf.heap.size wf wf.drew) := (Below.refl _ _).drew
      refine wp_region_held_drew (S := fun w' => w'.cell? ⟨gb, 0, none⟩ = some (.int .i64 x.vKind) ∧ w'.cell? ⟨gb, 1, none⟩ = some (.int .i64 x.vN) ∧ w'.cell? ⟨gb, 2, none⟩ = some (.string x.vName)) (by kernel_rfl) ⟨yf0, yf1, yf2⟩ (fun hHeld => ?_)
      refine take_lit (i := 0) (d := 49) (v := ?_) rfl rfl (by kernel_rfl) (by kernel_rfl) (by kernel_rfl) (fun _ _ _ h => h) (Or.inl ⟨by rfl, ?_⟩) (by assumption) ?_
      rotate_left
      · (intro w hSw; (try dsimp only at hSw); first | (go_simp; done) | (go_simp; with_reducible rfl))
      simp only [List.set_cons_zero, List.set_cons_succ]
      refine wpAnyH_ready (rs := [1]) (by kernel_rfl) (by simp) ?_
      refine AllReadyH.cons rfl (fun K hK => ?_) AllReadyH.nil
      go_simp
      refine (implInstrOk_any (lo := 0) (by exact ok_at hxo'.out) (by exact hsg'.out _ (hBf.out.trans (kp0.out.mono hBf.out.size)))).mono ?_
      rintro e w1 ⟨rfl, hb1⟩
      rw [hib'.out]
      have kp1 : Hid (Below wf.heap.size wf w1) := kp0.out.trans (hb1.mono kp0.out.size)
      refine hK.out _ _ ⟨cell_on hb1 hHeld.1, cell_on hb1 hHeld.2.1, cell_on hb1 hHeld.2.2⟩ (fun hHeld => ?_)
      clear hK K
      refine take_lit (i := 2) (d := 51) (v := ?_) rfl rfl (by kernel_rfl) (by kernel_rfl) (by kernel_rfl) (fun _ _ _ h => h) (Or.inl ⟨by rfl, ?_⟩) (by assumption) ?_
      rotate_left
      · (intro w hSw; (try dsimp only at hSw); first | (go_simp; done) | (go_simp; with_reducible rfl))
      simp only [List.set_cons_zero, List.set_cons_succ]
      refine take_lit (i := 3) (d := 52) (v := ?_) rfl rfl (by kernel_rfl) (by kernel_rfl) (by kernel_rfl) (fun _ _ _ h => h) (Or.inl ⟨by rfl, ?_⟩) (by assumption) ?_
      rotate_left
      · (intro w hSw; (try dsimp only at hSw); first | (go_simp; done) | (go_simp; with_reducible rfl))
      simp only [List.set_cons_zero, List.set_cons_succ]
      refine take_lit (i := 4) (d := 53) (v := undef) rfl rfl (by kernel_rfl) (by kernel_rfl) (by kernel_rfl) (fun _ _ _ h => h) (Or.inr ⟨by rfl, rfl⟩) (by assumption) ?_
      simp only [List.set_cons_zero, List.set_cons_succ]
      refine take_lit (i := 5) (d := 54) (v := undef) rfl rfl (by kernel_rfl) (by kernel_rfl) (by kernel_rfl) (fun _ _ _ h => h) (Or.inr ⟨by rfl, rfl⟩) (by assumption) ?_
      simp only [List.set_cons_zero, List.set_cons_succ]
      refine take_lit (i := 6) (d := 55) (v := undef) rfl rfl (by kernel_rfl) (by kernel_rfl) (by kernel_rfl) (fun _ _ _ h => h) (Or.inr ⟨by rfl, rfl⟩) (by assumption) ?_
      simp only [List.set_cons_zero, List.set_cons_succ]
      refine take_lit (i := 7) (d := 56) (v := undef) rfl rfl (by kernel_rfl) (by kernel_rfl) (by kernel_rfl) (fun _ _ _ h => h) (Or.inr ⟨by rfl, rfl⟩) (by assumption) ?_
      simp only [List.set_cons_zero, List.set_cons_succ]
      refine take_lit (i := 8) (d := 57) (v := undef) rfl rfl (by kernel_rfl) (by kernel_rfl) (by kernel_rfl) (fun _ _ _ h => h) (Or.inr ⟨by rfl, rfl⟩) (by assumption) ?_
      simp only [List.set_cons_zero, List.set_cons_succ]
      refine take_lit (i := 9) (d := 58) (v := undef) rfl rfl (by kernel_rfl) (by kernel_rfl) (by kernel_rfl) (fun _ _ _ h => h) (Or.inr ⟨by rfl, rfl⟩) (by assumption) ?_
      simp only [List.set_cons_zero, List.set_cons_succ]
      refine take_lit (i := 10) (d := 59) (v := undef) rfl rfl (by kernel_rfl) (by kernel_rfl) (by kernel_rfl) (fun _ _ _ h => h) (Or.inr ⟨by rfl, rfl⟩) (by assumption) ?_
      simp only [List.set_cons_zero, List.set_cons_succ]
      refine take_lit (i := 11) (d := 60) (v := ?_) rfl rfl (by kernel_rfl) (by kernel_rfl) (by kernel_rfl) (fun _ _ _ h => h) (Or.inl ⟨by rfl, ?_⟩) (by assumption) ?_
      rotate_left
      · (intro w hSw; (try dsimp only at hSw); first | (go_simp; done) | (go_simp; with_reducible rfl))
      simp only [List.set_cons_zero, List.set_cons_succ]
      refine wpAnyH_done (by kernel_rfl) ?_ _
      go_wp2_with fail
      go_meet
      exact ⟨rfl, kp1⟩
  case rest =>
    obtain ⟨rfl, hkc⟩ := hcut
    have hDc : Hid (SeqAt 1 IntAt wc 0 (.slice ad ys.length cd) ys) := hDf.out.below intAt_stays hkc.out
    have hBc : Hid (Below w.heap.size w wc) := hBf.out.trans (hkc.out.mono hBf.out.size)
    obtain ⟨ad', cd', hde, hdm, hdx⟩ := hDc.out
    injection hde with hde1 _ hde3
    subst hde1 hde3
    have hdx' : Hid (0 < ys.length → ∃ b off, ad = some ⟨b, off, none⟩ ∧ 0 ≤ b ∧ b < wc.heap.size ∧ ∀ i, (h : i < ys.length) → ∃ cs, cs.length = 1 ∧ Lie wc b (off + i * 1) cs ∧ IntAt wc 0 cs ys[i]) := hdx
    clear hdx hdm hDc hDf hBf h2f hkc hP hD' yf0 yf1 yf2
    go_wp2_with fail
    have hyl2 : ys.length ≤ 20 := hyl'.out
    go_loopw [9] (fun i wr => ∃ j : Nat, j ≤ ys.length ∧ i = .int .i64 j ∧ Hid (wr = wc)) (fun i _ => ys.length - (intOf i).toNat)
    case atStart => exact ⟨0, Nat.zero_le _, rfl, rfl⟩
    case round =>
      obtain ⟨j, hj, rfl, hwe⟩ := hrel
      have hwe' := hwe.out
      subst hwe'
      by_cases hlt : j < ys.length
      · obtain ⟨b, off, rfl, _, hbw, hc⟩ := hdx'.out (by omega)
        obtain ⟨cs, _, lie, rfl, _⟩ := hc j hlt
        have y0 := lie 0 (by simp)
        simp only [List.getElem?_cons_zero, Nat.add_zero, Nat.mul_one] at y0
        obtain ⟨hr1, hr2⟩ := ans_six hans'.out j
        rw [← lab_get hlt] at hr1 hr2
        generalize ys[j] = Y at y0 hr1 hr2
        have hlt' : (j : Int) < (ys.length : Int) := by omega
        have hn1 : ¬ Y < -1 := by omega
        have hn2 : ¬ 6 < Y := by omega
        clear lie hc hbw
        go_wp2_with fail
        go_roundw
        case rel => exact ⟨j + 1, by omega, by go_num, by first | exact rfl | exact trivial⟩
        case measure => simp [intOf]; omega
      · rcases (show bb = false ∨ bb = true by cases bb <;> simp) with rfl | rfl
        · go_wp2_with fail
          go_ret
          exact ⟨rfl, hBc.out⟩
        · obtain ⟨hyp, hp1, hy0⟩ := ans_top hans'.out
          have hpos : 0 < ys.length := by omega
          have hle : ((ys.length : Int) == (ps.length : Int)) = true := by simp [hyp]
          clear hyp hp1
          obtain ⟨b, off, rfl, _, hbw, hc⟩ := hdx'.out hpos
          obtain ⟨cs, _, lie, rfl, _⟩ := hc 0 hpos
          have y0 := lie 0 (by simp)
          rw [lab_get, hy0] at y0
          simp only [List.getElem?_cons_zero, Nat.add_zero, Nat.zero_mul] at y0
          have hl0 : (0 : Int) < (ys.length : Int) := by omega
          clear lie hc hbw
          go_wp2_with fail
          go_ret
          exact ⟨rfl, hBc.out⟩
end Go.Proofs.YtcpacaoaepcjfaaDoor.fnDepths
