/- What comeTo of the program does. -/
import Derived.Test.YtdapgihghbmlfaaGreatDoorVmRep
import Derived.Deep.DeepCutAuto
namespace Go.Proofs.YtdapgihghbmlfaaGreatDoor
open Go.RowKit
theorem allB_at {p : List InstrD} (h : allB p = true) {a : Nat} {x : InstrD} (hx : p[a]? = some x) : instrB x = true := by
  obtain ⟨h1, h2⟩ := List.getElem?_eq_some_iff.1 hx
  rw [← h2]; exact allB_get h a h1
theorem kind_of {x : InstrD} (h : instrB x = true) : 1 ≤ x.vKind ∧ x.vKind ≤ 15 := by
  rcases Classical.em (1 ≤ x.vKind ∧ x.vKind ≤ 15) with q | q
  · exact q
  · rw [instrB_none q] at h; cases h
theorem Out.drow {w w' : World} {g b : Nat} {cs : List Value} {T : TypeId} (h : Out [g] w w') (hb : Box w b cs T) (hne : b ≠ g) : Box w' b cs T := (h.keep hb.lt (by simpa using hne)).trans hb
theorem Out.below0 {w0 w w' : World} {g : Nat} (h : Out [g] w w') (hw : Below w0.heap.size w0 w) (hg : w0.heap.size ≤ g) : Below w0.heap.size w0 w' := hw.trans (h.below hw.size (by simpa using hg))
/-- what comeTo answers -/
def ComeR (p : List InstrD) (xs : List Int) (a : Nat) (d : Int) (g : Nat) (e : Ending) (w' : World) : Prop := ∃ b ys, e = .returned (.bool b) ∧ Come p xs a d b ys ∧ DRow w' g ys
theorem ComeR.mk {p : List InstrD} {xs : List Int} {a : Nat} {d : Int} {g : Nat} {w' : World} (b : Bool) (ys : List Int) (h : Come p xs a d b ys) (hr : DRow w' g ys) : ComeR p xs a d g (.returned (.bool b)) w' := ⟨b, ys, rfl, h, hr⟩
set_option maxHeartbeats 4000000 in
theorem comeTo_any (c : Nat) : ∀ {w0 w : World} {lo g cap : Nat} {kp : Value} {p : List InstrD} {xs : List Int} (a : Nat) (d : Int), SeqAt 3 InstrAt w0 lo kp p → allB p = true → p.length ≤ 20 → Forms w0 → Below w0.heap.size w0 w → w0.heap.size ≤ g → DRow w g xs → xs.length = p.length →
    a ≤ 40 → 0 ≤ d → d ≤ 6 → xs.count (-1) ≤ c →
    Calls Tryz.prog 43 #[kp, .slice (some ⟨g, 0, none⟩) p.length cap, .int .i64 (a : Int), .int .i64 d] w fun e w' => ComeR p xs a d g e w' ∧ Out [g] w w' := by
  induction c using Nat.strongRecOn with
  | _ c ih =>
  intro w0 w lo g cap kp p xs a d hp hI hl hf hw hg hr hx ha hd0 hd6 hc
  have ih' : Hid _ := ih
  clear ih
  have hp' : Hid (SeqAt 3 InstrAt w0 lo kp p) := hp
  have hI' : Hid (allB p = true) := hI
  have hf' : Hid (Forms w0) := hf
  have hw' : Hid (Below w0.heap.size w0 w) := hw
  have hr' : Hid (DRow w g xs) := hr
  have hx' : Hid (xs.length = p.length) := hx
  have hc' : Hid (xs.count (-1) ≤ c) := hc
  have hl' : Hid (p.length ≤ 20) := hl
  have hg' : Hid (w0.heap.size ≤ g) := hg
  have hgw : g < w.heap.size := hr.lt
  obtain ⟨pa, pcap, rfl, hm, hrow⟩ := hp
  unfold maxLen at hm
  by_cases hap : ¬ a < p.length
  · have hap' : (p.length : Int) ≤ (a : Int) := by omega
    clear hrow hI hf hw hr hx hc hp' ih' hg hl
    go_enter Tryz.func43, Tryz.ntmps43
    go_wp2_with fail
    go_ret
    exact ⟨ComeR.mk false xs (come_stop hap) hr'.out, Out.refl _ _⟩
  have hap : a < p.length := by omega
  have hax : a < xs.length := by omega
  have hltI : (a : Int) < (p.length : Int) := by omega
  have hnle : ¬ (p.length : Int) ≤ (a : Int) := by omega
  have ca := hr.cell hax
  have ua := hr.unfrozen a
  by_cases hs : labAt xs a ≠ -1
  · have hs' : Hid (labAt xs a ≠ -1) := hs
    have hse : (labAt xs a != -1) = true := by simpa using hs
    generalize hL : labAt xs a = L at ca hse
    have hL' : Hid (labAt xs a = L) := hL
    clear hrow hI hf hw hr hx hc hp' ih' hL hs hg hl
    by_cases hd : L = d
    · have hde : (L == d) = true := by simpa using hd
      have hd' : Hid (L = d) := hd
      clear hd
      go_enter Tryz.func43, Tryz.ntmps43
      go_wp2_with fail
      go_ret
      exact ⟨ComeR.mk true xs (by have := come_seen (d := d) hap hs'.out; rwa [hL'.out, decide_eq_true hd'.out] at this) hr'.out, Out.refl _ _⟩
    · have hde : (L == d) = false := by simpa using hd
      have hd' : Hid (¬ L = d) := hd
      clear hd
      go_enter Tryz.func43, Tryz.ntmps43
      go_wp2_with fail
      go_ret
      exact ⟨ComeR.mk false xs (by have := come_seen (d := d) hap hs'.out; rwa [hL'.out, decide_eq_false hd'.out] at this) hr'.out, Out.refl _ _⟩
  have hs : labAt xs a = -1 := by omega
  have hs' : Hid (labAt xs a = -1) := hs
  rw [hs] at ca
  obtain ⟨b, off, rfl, hlo, hbw, hcells⟩ := hrow (by omega)
  obtain ⟨cs, hcl, lie, hat⟩ := hcells a hap
  have hpx : Hid (p[a]? = some p[a]) := List.getElem?_eq_getElem hap
  have hix : Hid (instrB p[a] = true) := allB_get hI a hap
  generalize p[a] = x at hat hpx hix
  have hat' : Hid (InstrAt w0 lo cs x) := hat
  obtain ⟨rfl, rKind, rN, rName, _⟩ := hat
  have z0 := lie 0 (by simp)
  have z1 := lie 1 (by simp)
  have z2 := lie 2 (by simp)
  simp only [List.getElem?_cons_zero, List.getElem?_cons_succ, Nat.add_zero] at z0 z1 z2
  have Z : Hid (∀ w', Below w0.heap.size w0 w' → w'.cell? ⟨b, off + a * 3, none⟩ = some (.int .i64 x.vKind) ∧ w'.cell? ⟨b, off + a * 3 + 1, none⟩ = some (.int .i64 x.vN) ∧ w'.cell? ⟨b, off + a * 3 + 2, none⟩ = some (.string x.vName)) := fun w' h => ⟨(h.cell (p := ⟨b, off + a * 3, none⟩) (by exact hbw)).trans z0, (h.cell (p := ⟨b, off + a * 3 + 1, none⟩) (by exact hbw)).trans z1, (h.cell (p := ⟨b, off + a * 3 + 2, none⟩) (by exact hbw)).trans z2⟩
  clear z0 z1 z2 lie hcl hcells hrow rKind rN rName hI hx hc hr hbw hlo hs
  have hk15 : Hid (1 ≤ x.vKind ∧ x.vKind ≤ 15) := kind_of hix.out
  have hB1 : Hid (Below w0.heap.size w0 (w.setCell ⟨g, a, none⟩ (.int .i64 d))) := hw.setCell (by exact hg) _
  have hr1 : Hid (DRow (w.setCell ⟨g, a, none⟩ (.int .i64 d)) g (xs.set a d)) := hr'.out.set a hax d
  have ho1 : Hid (Out [g] w (w.setCell ⟨g, a, none⟩ (.int .i64 d))) := (Out.refl [g] w).set (by simp) _
  clear hw hg hl
  go_enter Tryz.func43, Tryz.ntmps43
  go_upto_region 6 with fail
  generalize (w.setCell ⟨g, a, none⟩ (.int .i64 d)) = w1 at hB1 hr1 ho1 ⊢
  obtain ⟨z0, z1, z2⟩ := Z.out w1 hB1.out
  clear ca ua z1 z2
  go_wp2_with fail
  refine (formOf_any _ _ (Forms.below hf'.out hB1.out (Forms.lt hf'.out))).mono ?_
  rintro e w2 ⟨rfl, hb2⟩
  rw [formV_is hk15.out]
  have hB2 : Hid (Below w0.heap.size w0 w2) := hB1.out.trans (hb2.mono hB1.out.size)
  have hr2 : Hid (DRow w2 g (xs.set a d)) := hr1.out.below hb2
  have ho2 : Hid (Out [g] w w2) := ho1.out.trans (.of_below hb2)
  clear hb2 z0
  have hta := takesT_range x.vKind
  have hga := givesT_range x.vKind
  have haft : Hid (aft x d = d - takesT x.vKind + givesT x.vKind) := rfl
  have htk' : Hid (takesT x.vKind = takesT x.vKind) := rfl
  generalize hwd : wordT x.vKind = wd
  generalize hop : opT x.vKind = op
  generalize htk : takesT x.vKind = tk at hta haft
  generalize hgv : givesT x.vKind = gv at hga haft
  have htk1 : Hid (takesT x.vKind = tk) := htk
  clear hwd hop htk hgv htk'
  have hw1 := wrap_small (n := d - tk) (by omega) (by omega)
  have hw2 := wrap_small (n := d - tk + gv) (by omega) (by omega)
  have hB3 : Hid (∀ ob, Below w0.heap.size w0 (w2.alloc ob)) := fun ob => hB2.out.alloc hB2.out.size ob
  have hr3 : Hid (∀ ob, DRow (w2.alloc ob) g (xs.set a d)) := fun ob => hr2.out.below ((Below.refl _ _).alloc (Nat.le_refl _) ob)
  have ho3 : Hid (∀ ob, Out [g] w (w2.alloc ob)) := fun ob => ho2.out.trans (.of_below ((Below.refl _ _).alloc (Nat.le_refl _) ob))
  by_cases hbad : d < tk ∨ 6 < d - tk + gv
  · have HC : Hid (Come p xs a d false (xs.set a d)) := come_bad hax hpx.out hs'.out hd0 (by rw [haft.out, htk1.out]; exact hbad)
    rcases Classical.em (d < tk) with q | q
    · clear hbad
      go_wp2_with fail
      go_ret
      exact ⟨ComeR.mk false _ HC.out (hr3.out _), ho3.out _⟩
    · have q2 : 6 < d - tk + gv := by omega
      clear hbad
      go_wp2_with fail
      go_ret
      exact ⟨ComeR.mk false _ HC.out (hr3.out _), ho3.out _⟩
  have q1 : ¬ d < tk := by omega
  have q2 : ¬ 6 < d - tk + gv := by omega
  have hok : Hid (takesT x.vKind ≤ d ∧ aft x d ≤ 6) := ⟨by rw [htk1.out]; omega, by rw [haft.out]; omega⟩
  clear hbad
  go_upto_region 10 with fail
  have hB4 : Hid (Below w0.heap.size w0 (w2.alloc (.cells #[.int .i64 x.vKind, .string wd, .int .i64 op, .int .i64 tk, .int .i64 gv] 56))) := hB3.out _
  have hr4 : Hid (DRow (w2.alloc (.cells #[.int .i64 x.vKind, .string wd, .int .i64 op, .int .i64 tk, .int .i64 gv] 56)) g (xs.set a d)) := hr3.out _
  have ho4 : Hid (Out [g] w (w2.alloc (.cells #[.int .i64 x.vKind, .string wd, .int .i64 op, .int .i64 tk, .int .i64 gv] 56))) := ho3.out _
  generalize (w2.alloc (.cells #[.int .i64 x.vKind, .string wd, .int .i64 op, .int .i64 tk, .int .i64 gv] 56)) = w3 at hB4 hr4 ho4 ⊢
  clear hB3 hr3 ho3 hB2 hr2 ho2 hB1 hr1 ho1
  obtain ⟨z0, z1, z2⟩ := Z.out w3 hB4.out
  go_wp2_with fail
  refine (placesBehind_any (x := x) (lo := lo) (a : Int) (by omega) (by omega) (InstrAt_stays _ _ lo lo _ _ (.of_below hB4.out) hat'.out)).mono ?_
  rintro e w4 ⟨⟨v, rfl, hnr⟩, hb4⟩
  have hB5 : Hid (Below w0.heap.size w0 w4) := hB4.out.trans (hb4.mono hB4.out.size)
  have hr5 : Hid (DRow w4 g (xs.set a d)) := hr4.out.below hb4
  have ho5 : Hid (Out [g] w w4) := ho4.out.trans (.of_below hb4)
  have hg3 : Hid (g < w3.heap.size) := hr4.out.lt
  clear hb4 z0 z1 z2 hB4 hr4 ho4
  obtain ⟨an, cn, rfl, hnr⟩ := hnr
  have hnr' : Hid (0 < (nexts x a).length → ∃ g, an = some ⟨g, 0, none⟩ ∧ w3.heap.size ≤ g ∧ Box w4 g ((nexts x a).map fun n => .int .i64 n) 2) := hnr
  have hnl : Hid (∀ n ∈ nexts x a, 0 ≤ n ∧ n ≤ (a : Int) + 20) := fun n hn => nexts_range hix.out a hn
  have hn2 := nexts_len x a
  have hcs : Hid ((xs.set a d).count (-1) < c) := by have := count_set hax hs'.out (d := d) (by omega); have := hc'.out; show _ < _; omega
  have haf : Hid (aft x d = d - tk + gv ∧ 0 ≤ aft x d) := ⟨haft.out, aft_nonneg hok.out.1⟩
  clear hnr
  generalize hNL : nexts x a = NL at hnr' hnl hn2
  have hNL' : Hid (nexts x a = NL) := hNL
  clear hNL
  go_wp2_with fail
  go_loopw [64] (fun i wr => ∃ (j : Nat) (ys : List Int), j ≤ NL.length ∧ i = .int .i64 j ∧ Hid (Mid p xs a d x ys j) ∧ Hid (DRow wr g ys) ∧ Hid (Out [g] w4 wr)) (fun i _ => NL.length - (intOf i).toNat)
  case atStart => exact ⟨0, _, by omega, rfl, mid_start hax, hr5, Out.refl _ _⟩
  case round =>
    obtain ⟨j, ys, hj, rfl, hmid, hrow, hout⟩ := hrel
    by_cases hlt : j < NL.length
    · obtain ⟨gn, rfl, hgn, hbx⟩ := hnr'.out (by omega)
      have hne : gn ≠ g := by have := hg3.out; omega
      have hbx' := Out.drow hout.out hbx hne
      obtain ⟨hn0, hn20⟩ := hnl.out NL[j] (List.getElem_mem hlt)
      have hnj : Hid ((nexts x a)[j]? = some NL[j]) := by show _ = _; rw [hNL'.out]; exact List.getElem?_eq_getElem hlt
      have zn := hbx'.cell j (v := .int .i64 NL[j]) (by simp [hlt])
      generalize NL[j] = n at hn0 hn20 hnj zn
      obtain ⟨m, rfl⟩ : ∃ m : Nat, n = (m : Int) := ⟨n.toNat, by omega⟩
      have hBr : Hid (Below w0.heap.size w0 wr) := Out.below0 hout.out hB5.out hg'.out
      have hcy : Hid (ys.count (-1) ≤ (xs.set a d).count (-1)) := Ext.count hmid.out.1
      have hly : Hid (ys.length = p.length) := by have := hmid.out.1.1; show _ = _; rw [this]; simpa using hx'.out
      have hlt' : (j : Int) < (NL.length : Int) := by omega
      have hx20 := hl'.out
      clear hbx hbx' hx20
      go_wp2_with fail
      refine (ih'.out _ hcs.out (lo := lo) (cap := cap) m (d - tk + gv) hp'.out hI'.out hl'.out hf'.out hBr.out hg'.out hrow.out hly.out (by have := hl'.out; omega) (by have := haf.out; omega) (by omega) hcy.out).mono ?_
      rintro e w6 ⟨⟨bb, zs, rfl, hcome, hrow6⟩, hout6⟩
      have hcome' : Hid (Come p ys ((m : Int)).toNat (aft x d) bb zs) := by rw [haf.out.1]; exact hcome
      have hrow6' : Hid (DRow w6 g zs) := hrow6
      have hout6' : Hid (Out [g] w4 w6) := hout.out.trans hout6
      clear hcome hrow6 hout6 zn
      cases bb
      · have HC : Hid (Come p xs a d false zs) := mid_false hmid.out hax hs'.out hpx.out hd0 hnj.out hcome'.out
        go_wp2_with fail
        go_ret
        exact ⟨ComeR.mk false _ HC.out hrow6'.out, ho5.out.trans hout6'.out⟩
      · have HM : Hid (Mid p xs a d x zs (j + 1)) := mid_step hmid.out hpx.out hd0 hok.out.1 hnj.out hcome'.out
        go_wp2_with fail
        go_roundw
        case rel => exact ⟨j + 1, zs, by omega, by go_num, HM, hrow6', hout6'⟩
        case measure => simp [intOf]; omega
    · obtain rfl : j = NL.length := by omega
      have HC : Hid (Come p xs a d true ys) := mid_end (by rw [hNL'.out]; exact hmid.out) hax hs'.out hpx.out hd0 hok.out.1 hok.out.2 hap
      go_wp2_with fail
      go_ret
      exact ⟨ComeR.mk true _ HC.out hrow.out, ho5.out.trans hout.out⟩
end Go.Proofs.YtdapgihghbmlfaaGreatDoor
