/- What l13Depths, DepthsOf and ProgOk of the specification return. -/
import Derived.Test.YtdapgihghbmlfaaGreatDoorVmDepS
import Derived.Deep.DeepCutAuto
namespace Go.Proofs.YtdapgihghbmlfaaGreatDoor
open Go.RowKit
theorem own_block {w : World} {base e size n : Nat} {v : Value} {xs : List Value} (h : w.ownsRow base e size v n xs) : ∀ k, v.ownBlock = some k → base ≤ k := by
  intro k hk
  rcases h.2 with ⟨rfl, _⟩ | ⟨g, cap, cur, rfl, h1, _⟩
  · cases hk
  · cases hk; exact h1
/-- the relation of the outer loop -/
def RelO (p : List InstrD) (w : World) (g : Nat) (m : Value) (wr : World) : Prop := ∃ more xs, m = .bool more ∧ Pass p xs ∧ DRow wr g xs ∧ Below w.heap.size w wr ∧ (more = false → ∀ i, i < p.length → labAt xs i ≠ -1 → OkAt p xs i)
def RelM (p : List InstrD) (w : World) (g c0 : Nat) (m i : Value) (wr : World) : Prop := ∃ more xs j, m = .bool more ∧ i = .int .i64 ((j : Nat) : Int) ∧ j ≤ p.length ∧ OutM p c0 j more xs ∧ DRow wr g xs ∧ Below w.heap.size w wr
def RelI (p : List InstrD) (w w4 : World) (g c0 j : Nat) (x : InstrD) (d : Int) (m i : Value) (wr : World) : Prop := ∃ more xs k, m = .bool more ∧ i = .int .i64 ((k : Nat) : Int) ∧ k ≤ (nexts x j).length ∧ InM p c0 j x d more xs k ∧ DRow wr g xs ∧ Out [g] w4 wr ∧ Below w.heap.size w wr
set_option maxRecDepth 100000 in
set_option maxHeartbeats 8000000 in
theorem l13Depths_any {w : World} {lo : Nat} {kp : Value} {p : List InstrD} (hp : SeqAt 3 InstrAt w lo kp p) (hr : rightB p = true) :
    Calls Tryz.prog 57 #[kp] w fun e w' => DepR p w.heap.size e w' ∧ Below w.heap.size w w' := by
  have hp' : Hid (SeqAt 3 InstrAt w lo kp p) := hp
  have hr' : Hid (rightB p = true) := hr
  obtain ⟨⟨h1, h20⟩, hA⟩ : (1 ≤ p.length ∧ p.length ≤ 20) ∧ allB p = true := by simpa [rightB] using hr
  have hA' : Hid (allB p = true) := hA
  obtain ⟨a, cap, rfl, hm, hx⟩ := hp
  obtain ⟨b, off, rfl, hlo, hbw, hc⟩ := hx (by omega)
  have hc' : Hid (∀ i, (h : i < p.length) → ∃ cs, cs.length = 3 ∧ Lie w b (off + i * 3) cs ∧ InstrAt w lo cs p[i]) := hc
  clear hc hx hm hr hA
  obtain ⟨iI, hiI, heI⟩ := Option.map_eq_some_iff.1 infoI
  simp only [Prod.mk.injEq] at heI
  have hI : Hid (Tryz.prog.info? 2 = some iI) := hiI
  have hE : Hid (iI.zero = some (.int .i64 0) ∧ iI.bytes = 8 ∧ iI.size = 1) := heI
  clear hiI heI
  have hr0 : Hid ((w.alloc (.cells #[] 2)).ownsRow w.heap.size 2 1 (.slice (some ⟨w.heap.size, 0, none⟩) 0 0) 0 []) := row_start (Nat.le_refl _)
  have hb0 : Hid (Below w.heap.size w (w.alloc (.cells #[] 2))) := (Below.refl _ _).alloc (Nat.le_refl _) _
  go_enter Tryz.func57, Tryz.ntmps57
  go_wp2_with fail
  go_loopw [4, 5] (fun v i wr => ∃ (j : Nat), j ≤ p.length ∧ i = .int .i64 j ∧ Hid (wr.ownsRow w.heap.size 2 1 v j (List.replicate j (.int .i64 (-1)))) ∧ Hid (∃ g cap, v = .slice (some ⟨g, 0, none⟩) j cap) ∧ Hid (Below w.heap.size w wr)) (fun _ i _ => p.length - (intOf i).toNat)
  case atStart => exact ⟨0, by omega, rfl, hr0, ⟨_, _, rfl⟩, hb0⟩
  case round =>
    obtain ⟨j, hj, rfl, hown, hform, hb⟩ := hrel
    obtain ⟨g, cp, rfl⟩ := hform.out
    clear hform
    have hz := hb.out.size
    by_cases hlt : j < p.length
    · obtain ⟨L, hL⟩ : ∃ L, List.replicate j (Value.int .i64 (-1)) = L := ⟨_, rfl⟩
      have hownL : Hid (wr.ownsRow w.heap.size 2 1 (.slice (some ⟨g, 0, none⟩) j cp) j L) := by rw [← hL]; exact hown
      have hL' : Hid (List.replicate j (Value.int .i64 (-1)) = L) := hL
      clear hL hown
      go_wp2_with (at_builtin; refine wpList_append_own _ rfl _ _ 42 rfl (w.heap.size) 2 iI (.int .i64 0) 1 8 Tryz.underlying42 hI.out hE.out.1 hE.out.2.2 hE.out.2.1 rfl (by decide) _ j L rfl (hownL.out.alloc _) ⟨wr.heap.size, 0, none⟩ 1 1 [.int .i64 (-1)] rfl rfl (by intro q u hq; match q, hq with | 0, hq => simp at hq; subst hq; simp [Addr.add]) (by simp [Value.oneCell']) (by unfold maxLen; omega) (by omega) (by simp; omega) ?_)
      intro v' w1 hown' hgrow hnn
      have hb3 : Below w.heap.size w w1 := (hb.out.alloc hz _).grown hgrow (by simp; omega) (own_block hownL.out)
      obtain ⟨gv', capv', rfl⟩ : ∃ g c, v' = .slice (some ⟨g, 0, none⟩) (j + 1) c := by
        rcases hown'.2 with ⟨q, _⟩ | ⟨g, c, cur, q, _⟩
        · exact absurd q hnn
        · exact ⟨g, c, q⟩
      have hown1 : Hid (w1.ownsRow w.heap.size 2 1 (.slice (some ⟨gv', 0, none⟩) (j + 1) capv') (j + 1) (L ++ [.int .i64 (-1)])) := hown'
      have hb3' : Hid (Below w.heap.size w w1) := hb3
      clear hown' hgrow hnn hb3
      go_wp2_with fail
      go_roundw
      case rel => exact ⟨j + 1, by omega, by go_num, by rw [List.replicate_succ', hL'.out]; exact hown1.out, ⟨_, _, rfl⟩, hb3'⟩
      case measure => simp [intOf]; omega
    · obtain rfl : j = p.length := by omega
      obtain ⟨hrow, hgb, hcp⟩ := row_owned hown.out
      have hrow0 : Hid (DRow (wr.setCell ⟨g, 0, none⟩ (.int .i64 0)) g ((List.replicate p.length (-1)).set 0 0)) := hrow.set 0 (by simp; omega) 0
      have hB0 : Hid (Below w.heap.size w (wr.setCell ⟨g, 0, none⟩ (.int .i64 0))) := hb.out.setCell (by exact hgb) _
      have hgb' : Hid (w.heap.size ≤ g ∧ p.length ≤ cp) := ⟨hgb, hcp⟩
      have c0 := hrow.cell (i := 0) (by simp; omega)
      have u0 := hrow.unfrozen 0
      have h1' : (0 : Int) < (p.length : Int) := by omega
      clear hown hrow hgb hcp hz hlt
      go_wp2_with fail
      generalize (wr.setCell ⟨g, 0, none⟩ (.int .i64 0)) = wz at hrow0 hB0 ⊢
      clear c0 u0 hb
      have hps : Hid (Pass p ((List.replicate p.length (-1)).set 0 0)) := pass_start (by omega)
      go_loopw [6] (fun m wr => Hid (RelO p w g m wr)) (fun m wr => 2 * cntG wr g p.length + mB m)
      case atStart => exact ⟨true, _, rfl, hps.out, hrow0.out, hB0.out, fun e => by cases e⟩
      case round =>
        obtain ⟨more, xs, rfl, hpass, hrow, hB, hdone⟩ := hrel.out
        have hpass' : Hid (Pass p xs) := hpass
        have hrow' : Hid (DRow wr g xs) := hrow
        have hB' : Hid (Below w.heap.size w wr) := hB
        have hdone' : Hid (more = false → ∀ i, i < p.length → labAt xs i ≠ -1 → OkAt p xs i) := hdone
        clear hrel hpass hrow hB hdone
        rcases (show more = false ∨ more = true by cases more <;> simp) with rfl | rfl
        · have HA : Hid (Ans p true xs) := Or.inl ⟨hr'.out, pass_done hpass'.out (hdone'.out rfl)⟩
          go_wp2_with fail
          go_ret2
          exact ⟨DepR.yes HA.out hgb'.out.1 hpass'.out.1 hgb'.out.2 hrow'.out, hB'.out⟩
        · have hcnt : Hid (cntG wr g p.length = xs.count (-1)) := by have := cntG_row hrow'.out; rw [hpass'.out.1] at this; exact this
          go_wp2_with fail
          go_loopw [6, 7] (fun m i wr => Hid (RelM p w g (xs.count (-1)) m i wr)) (fun _ i _ => p.length - (intOf i).toNat)
          case atStart => exact ⟨false, xs, 0, rfl, rfl, by omega, ⟨hpass'.out, fun e => (by cases e), fun _ => ⟨Nat.le_refl _, fun i hi => absurd hi (by omega)⟩⟩, hrow'.out, hB'.out⟩
          case round =>
            obtain ⟨more, ys, j, rfl, rfl, hj, hom, hrow, hB⟩ := hrel.out
            have hom' : Hid (OutM p (xs.count (-1)) j more ys) := hom
            have hrowY : Hid (DRow wr g ys) := hrow
            have hBY : Hid (Below w.heap.size w wr) := hB
            have hylen : ys.length = p.length := hom.1.1
            have hsgn := hom.1.2.2.1 j
            clear hrel hom hB
            by_cases hlt : j < p.length
            · have hlt' : (j : Int) < (p.length : Int) := by omega
              have cj := hrow.cell (i := j) (by omega)
              clear hrow
              rcases hsgn with hneg | hpos
              · have hN : Hid (OutM p (xs.count (-1)) (j + 1) more ys) := outM_skip hom'.out hneg
                rw [hneg] at cj
                clear hneg hylen
                go_wp2_with fail
                go_roundw
                case rel => exact ⟨more, ys, j + 1, rfl, by go_num, by omega, hN.out, hrowY.out, hBY.out⟩
                case measure => simp [intOf]; omega
              · have hd0 : Hid (labAt ys j = labAt ys j) := rfl
                generalize hd : labAt ys j = d at cj hpos hd0
                have hd' : Hid (labAt ys j = d) := hd
                obtain ⟨cs, hcl, lie, hat⟩ := hc'.out j hlt
                have hpx : Hid (p[j]? = some p[j]) := List.getElem?_eq_getElem hlt
                have hix : Hid (instrB p[j] = true) := allB_get hA'.out j hlt
                generalize p[j] = x at hat hpx hix
                obtain ⟨rfl, _⟩ := hat
                have z0 := lie 0 (by simp)
                simp only [List.getElem?_cons_zero, Nat.add_zero] at z0
                have y0 := (hBY.out.cell (p := ⟨b, off + j * 3, none⟩) (by exact hbw)).trans z0
                have hta := takesT_range x.vKind
                have hga := givesT_range x.vKind
                have haft : Hid (aft x d = d - takesT x.vKind + givesT x.vKind) := rfl
                generalize htk : takesT x.vKind = tk at hta haft
                generalize hgv : givesT x.vKind = gv at hga haft
                have htk1 : Hid (takesT x.vKind = tk) := htk
                have hgv1 : Hid (givesT x.vKind = gv) := hgv
                have hpos' : 0 ≤ d := hpos.1
                have hd6 : d ≤ 6 := hpos.2
                have hw1 := wrap_small (n := d - tk) (by omega) (by omega)
                have hw2 := wrap_small (n := d - tk + gv) (by omega) (by omega)
                clear lie hcl z0 hd hd0 hpos hylen htk hgv
                by_cases hbad : d < tk ∨ 6 < d - tk + gv
                · have HA : Hid (Ans p false []) := Or.inl ⟨hr'.out, pass_small hom'.out.1 hpx.out (by rw [hd'.out]; exact hpos') (by rw [hd'.out, haft.out, htk1.out]; exact hbad)⟩
                  rcases Classical.em (d < tk) with q | q
                  · clear hbad
                    go_wp2_with (go_at_call 46; refine (l13Need_any _ _).mono ?_; rintro e w' ⟨rfl, e9⟩; have e10 := e9.symm; clear e9; subst e10; rw [htk1.out, hgv1.out])
                    go_ret2
                    exact ⟨DepR.no HA.out, hBY.out⟩
                  · have q2 : 6 < d - tk + gv := by omega
                    clear hbad
                    go_wp2_with (go_at_call 46; refine (l13Need_any _ _).mono ?_; rintro e w' ⟨rfl, e9⟩; have e10 := e9.symm; clear e9; subst e10; rw [htk1.out, hgv1.out])
                    go_ret2
                    exact ⟨DepR.no HA.out, hBY.out⟩
                have q1 : ¬ d < tk := by omega
                have q2 : ¬ 6 < d - tk + gv := by omega
                have hok : Hid (takesT x.vKind ≤ d ∧ aft x d ≤ 6) := ⟨by rw [htk1.out]; omega, by rw [haft.out]; omega⟩
                have hg0 : Hid (g < wr.heap.size) := hrowY.out.lt
                clear hbad
                go_wp2_with (first | (go_at_call 46; refine (l13Need_any _ _).mono ?_; rintro e w' ⟨rfl, e9⟩; have e10 := e9.symm; clear e9; subst e10; rw [htk1.out, hgv1.out]) | (go_at_call 77; refine (l13Nexts_any j hlt h20 (hp'.out.below InstrAt_stays hBY.out)).mono ?_; rintro e w4 ⟨⟨v, rfl, hnr⟩, hb4⟩; obtain ⟨an, cn, rfl, hnr⟩ := hnr))
                have hxe : p[j] = x := Option.some.inj ((List.getElem?_eq_getElem hlt).symm.trans hpx.out)
                rw [hxe] at hnr ⊢
                have hnr' : Hid (0 < (nexts x j).length → ∃ g, an = some ⟨g, 0, none⟩ ∧ wr.heap.size ≤ g ∧ Box w4 g ((nexts x j).map fun n => .int .i64 n) 2) := hnr
                have hB5 : Hid (Below w.heap.size w w4) := hBY.out.trans (hb4.mono hBY.out.size)
                have hrow5 : Hid (DRow w4 g ys) := hrowY.out.below hb4
                have hnl : Hid (∀ n ∈ nexts x j, 0 ≤ n ∧ n ≤ (j : Int) + 20) := fun n hn => nexts_range hix.out j hn
                have hn2 := nexts_len x j
                have hst : Hid (InM p (xs.count (-1)) j x d more ys 0) := inM_start hom'.out hd'.out
                clear hnr hb4 cj y0 hxe
                generalize hNL : nexts x j = NL at hnr' hnl hn2
                have hNL' : Hid (nexts x j = NL) := hNL
                clear hNL
                go_loopw [6, 12] (fun m i wr => Hid (RelI p w w4 g (xs.count (-1)) j x d m i wr)) (fun _ i _ => NL.length - (intOf i).toNat)
                case atStart => exact ⟨more, ys, 0, rfl, rfl, by omega, hst.out, hrow5.out, Out.refl _ _, hB5.out⟩
                case round =>
                  obtain ⟨mo, zs, k, rfl, rfl, hk, him, hrowz, hout, hBz⟩ := hrel.out
                  rw [hNL'.out] at hk
                  have him' : Hid (InM p (xs.count (-1)) j x d mo zs k) := him
                  have hrowz' : Hid (DRow wr g zs) := hrowz
                  have hout' : Hid (Out [g] w4 wr) := hout
                  have hBz' : Hid (Below w.heap.size w wr) := hBz
                  have hzl : Hid (zs.length = p.length) := him.1.1
                  clear hrel him hBz hout
                  by_cases hkl : k < NL.length
                  · obtain ⟨gn, rfl, hgn, hbx⟩ := hnr'.out (by omega)
                    have hne : gn ≠ g := by have := hg0.out; omega
                    have hbx' := Out.drow hout'.out hbx hne
                    obtain ⟨hn0, hn20⟩ := hnl.out NL[k] (List.getElem_mem hkl)
                    have hnj : Hid ((nexts x j)[k]? = some NL[k]) := by show _ = _; rw [hNL'.out]; exact List.getElem?_eq_getElem hkl
                    have zn := hbx'.cell k (v := .int .i64 NL[k]) (by simp [hkl])
                    generalize NL[k] = n at hn0 hn20 hnj zn
                    obtain ⟨m, rfl⟩ : ∃ m : Nat, n = (m : Int) := ⟨n.toNat, by omega⟩
                    have hkl' : (k : Int) < (NL.length : Int) := by omega
                    clear hbx hbx' hn0
                    by_cases hfar : ¬ m < p.length
                    · have HA : Hid (Ans p false []) := Or.inl ⟨hr'.out, pass_far him'.out.1 hpx.out (by rw [him'.out.2.1]; exact hpos') (List.mem_of_getElem? hnj.out) (Or.inl (by simpa using hfar))⟩
                      have hfar' : (p.length : Int) ≤ (m : Int) := by omega
                      clear hfar hrowz
                      go_wp2_with fail
                      go_ret2
                      exact ⟨DepR.no HA.out, hBz'.out⟩
                    have hml : m < p.length := by omega
                    have hmlI : (m : Int) < (p.length : Int) := by omega
                    have hnfar : ¬ (p.length : Int) ≤ (m : Int) := by omega
                    have hmz : m < zs.length := by have := hzl.out; omega
                    have cm := hrowz.cell hmz
                    have um := hrowz.unfrozen m
                    have hsg := him'.out.1.2.2.1 m
                    have hrowS : Hid (DRow (wr.setCell ⟨g, m, none⟩ (.int .i64 (d - tk + gv))) g (zs.set m (d - tk + gv))) := hrowz'.out.set m hmz _
                    have houtS : Hid (Out [g] w4 (wr.setCell ⟨g, m, none⟩ (.int .i64 (d - tk + gv)))) := hout'.out.set (by simp) _
                    have hBS : Hid (Below w.heap.size w (wr.setCell ⟨g, m, none⟩ (.int .i64 (d - tk + gv)))) := hBz'.out.setCell (by exact hgb'.out.1) _
                    clear hfar hrowz
                    rcases hsg with hneg | ⟨hge, _⟩
                    · have HN : Hid (InM p (xs.count (-1)) j x d true (zs.set m (d - tk + gv)) (k + 1)) := by
                        have := inM_new him'.out (inM_count him'.out) hpx.out hpos' hok.out.1 hok.out.2 hnj.out (by simpa using hml) (by simpa using hneg)
                        rw [haft.out] at this
                        simp only [Int.toNat_natCast] at this
                        exact this
                      rw [hneg] at cm
                      clear hneg
                      rcases (show mo = false ∨ mo = true by cases mo <;> simp) with rfl | rfl
                      · go_wp2_with fail
                        go_roundw
                        case rel => exact ⟨true, _, k + 1, rfl, by go_num, by rw [hNL'.out]; omega, HN.out, hrowS.out, houtS.out, hBS.out⟩
                        case measure => simp [intOf]; omega
                      · go_wp2_with fail
                        go_roundw
                        case rel => exact ⟨true, _, k + 1, rfl, by go_num, by rw [hNL'.out]; omega, HN.out, hrowS.out, houtS.out, hBS.out⟩
                        case measure => simp [intOf]; omega
                    · by_cases hsame : labAt zs m = d - tk + gv
                      · have HN : Hid (InM p (xs.count (-1)) j x d mo (zs.set m (d - tk + gv)) (k + 1)) := by
                          have := inM_old him'.out hnj.out (by simpa using hml) (by rw [haft.out]; simpa using hsame)
                          rw [haft.out] at this
                          simp only [Int.toNat_natCast] at this
                          exact this
                        have hge' : 0 ≤ d - tk + gv := by omega
                        have hlt0 : ¬ d - tk + gv < 0 := by omega
                        rw [hsame] at cm
                        clear hsame hge
                        rcases (show mo = false ∨ mo = true by cases mo <;> simp) with rfl | rfl
                        · go_wp2_with fail
                          go_roundw
                          case rel => exact ⟨false, _, k + 1, rfl, by go_num, by rw [hNL'.out]; omega, HN.out, hrowS.out, houtS.out, hBS.out⟩
                          case measure => simp [intOf]; omega
                        · go_wp2_with fail
                          go_roundw
                          case rel => exact ⟨true, _, k + 1, rfl, by go_num, by rw [hNL'.out]; omega, HN.out, hrowS.out, houtS.out, hBS.out⟩
                          case measure => simp [intOf]; omega
                      · have HA : Hid (Ans p false []) := Or.inl ⟨hr'.out, pass_far him'.out.1 hpx.out (by rw [him'.out.2.1]; exact hpos') (List.mem_of_getElem? hnj.out) (Or.inr (by rw [him'.out.2.1, haft.out]; simpa using ⟨hge, hsame⟩))⟩
                        generalize labAt zs m = lz at cm hsame hge
                        have hsame' : (lz != d - tk + gv) = true := by simpa using hsame
                        go_wp2_with fail
                        go_ret2
                        exact ⟨DepR.no HA.out, hBz'.out⟩
                  · obtain rfl : k = NL.length := by omega
                    have hN : Hid (OutM p (xs.count (-1)) (j + 1) mo zs) := inM_end (by rw [hNL'.out]; exact him'.out) hpx.out hpos' hok.out.1 hok.out.2
                    clear hrowz
                    go_wp2_with fail
                    go_roundw
                    case rel => exact ⟨mo, zs, j + 1, rfl, by go_num, by omega, hN.out, hrowz'.out, hBz'.out⟩
                    case measure => simp [intOf]; omega
            · obtain rfl : j = p.length := by omega
              have hc2 : Hid (cntG wr g p.length = ys.count (-1)) := by have := cntG_row hrowY.out; rw [hylen] at this; exact this
              clear hrow hsgn hylen
              go_wp2_with fail
              go_roundw
              case rel => exact ⟨more, ys, rfl, hom'.out.1, hrowY.out, hBY.out, fun e => (hom'.out.2.2 e).2⟩
              case measure =>
                rw [hc2.out, hcnt.out]
                rcases (show more = false ∨ more = true by cases more <;> simp) with rfl | rfl
                · have := (hom'.out.2.2 rfl).1
                  simp [mB]
                  omega
                · have := hom'.out.2.1 rfl
                  simp [mB]
                  omega
set_option maxHeartbeats 4000000 in
theorem specDepths_any {w : World} {lo : Nat} {kp : Value} {p : List InstrD} (hp : SeqAt 3 InstrAt w lo kp p) :
    Calls Tryz.prog 39 #[kp] w fun e w' => DepR p w.heap.size e w' ∧ Below w.heap.size w w' := by
  have hp' : Hid (SeqAt 3 InstrAt w lo kp p) := hp
  obtain ⟨a, cap, rfl, hm, hx⟩ := hp
  unfold maxLen at hm
  have hx' : Hid (0 < p.length → ∃ b off, a = some ⟨b, off, none⟩ ∧ lo ≤ b ∧ b < w.heap.size ∧ ∀ i, (h : i < p.length) → ∃ cs, cs.length = 3 ∧ Lie w b (off + i * 3) cs ∧ InstrAt w lo cs p[i]) := hx
  clear hx
  by_cases h1 : p.length < 1
  · have H : Hid (Ans p false []) := Or.inr ⟨right_short h1, rfl, rfl⟩
    have h1' : (p.length : Int) < 1 := by omega
    go_enter Tryz.func39, Tryz.ntmps39
    go_wp2_with fail
    go_ret2
    exact ⟨DepR.no H.out, Below.refl _ _⟩
  by_cases h2 : 20 < p.length
  · have H : Hid (Ans p false []) := Or.inr ⟨right_long h2, rfl, rfl⟩
    have h1' : ¬ (p.length : Int) < 1 := by omega
    have h2' : (20 : Int) < (p.length : Int) := by omega
    go_enter Tryz.func39, Tryz.ntmps39
    go_wp2_with fail
    go_ret2
    exact ⟨DepR.no H.out, Below.refl _ _⟩
  have h1' : ¬ (p.length : Int) < 1 := by omega
  have h2' : ¬ (20 : Int) < (p.length : Int) := by omega
  obtain ⟨b, off, rfl, hlo, hbw, hc⟩ := hx'.out (by omega)
  have hc' : Hid (∀ i, (h : i < p.length) → ∃ cs, cs.length = 3 ∧ Lie w b (off + i * 3) cs ∧ InstrAt w lo cs p[i]) := hc
  clear hc hx'
  go_enter Tryz.func39, Tryz.ntmps39
  go_wp2_with fail
  go_loopw [4] (fun i wr => ∃ j : Nat, j ≤ p.length ∧ i = .int .i64 j ∧ Hid (Below w.heap.size w wr) ∧ Hid (allB (p.take j) = true)) (fun i _ => p.length - (intOf i).toNat)
  case atStart => exact ⟨0, Nat.zero_le _, rfl, Below.refl _ _, rfl⟩
  case round =>
    obtain ⟨j, hj, rfl, hb, hall⟩ := hrel
    by_cases hlt : j < p.length
    · obtain ⟨cs, hcl, lie, hr⟩ := hc'.out j hlt
      have lie1 := Lie.keep (lo := lo) (lo' := lo) lie (.of_below hb.out) hlo hbw
      have HS : Hid (allB (p.take (j + 1)) = instrB p[j]) := by show _ = _; rw [allB_take p j hlt, hall.out, Bool.true_and]
      generalize p[j] = X at hr HS
      have hr' : Hid (InstrAt wr lo cs X) := InstrAt_stays _ _ lo lo _ _ (.of_below hb.out) hr
      obtain ⟨rfl, _⟩ := hr
      have y0 := lie1 0 (by simp)
      have y1 := lie1 1 (by simp)
      have y2 := lie1 2 (by simp)
      simp only [List.getElem?_cons_zero, List.getElem?_cons_succ, Nat.add_zero] at y0 y1 y2
      have hlt' : (j : Int) < (p.length : Int) := by omega
      clear lie lie1 hcl
      cases hi : instrB X
      · rw [hi] at HS
        have hi' : Hid (instrB X = false) := hi
        have HA : Hid (Ans p false []) := Or.inr ⟨right_all (allB_take_false p (j + 1) HS.out), rfl, rfl⟩
        clear hi
        go_wp2_with (go_at_call 56; refine (specInstrOk_any hr'.out).mono ?_; rintro e w3 ⟨rfl, hb3⟩; rw [hi'.out])
        go_ret2
        exact ⟨DepR.no HA.out, hb.out.trans (hb3.mono hb.out.size)⟩
      · rw [hi] at HS
        have hi' : Hid (instrB X = true) := hi
        clear hi
        go_wp2_with (go_at_call 56; refine (specInstrOk_any hr'.out).mono ?_; rintro e w3 ⟨rfl, hb3⟩; rw [hi'.out])
        go_roundw
        case rel => exact ⟨j + 1, by omega, by go_num, hb.out.trans (hb3.mono hb.out.size), HS⟩
        case measure => simp [intOf]; omega
    · obtain rfl : j = p.length := by omega
      have hAll : Hid (allB p = true) := by show _ = _; have := hall.out; rwa [List.take_of_length_le (by omega)] at this
      have hright : Hid (rightB p = true) := right_yes (by omega) (by omega) hAll.out
      clear hall hc'
      go_wp2_with (go_at_call 57; refine (l13Depths_any (hp'.out.below InstrAt_stays hb.out) hright.out).mono ?_; rintro e w3 ⟨⟨bb, ys, k, rfl, hans, hrow⟩, hb3⟩)
      have hans' : Hid (Ans p bb ys) := hans
      have hrow' : Hid (DepRow w3 w.heap.size k ys) := by
        rcases hrow with q | ⟨g, c, q1, q2, q3⟩
        · exact Or.inl q
        · exact Or.inr ⟨g, c, q1, Nat.le_trans hb.out.size q2, q3⟩
      have hb3' : Hid (Below w.heap.size w w3) := hb.out.trans (hb3.mono hb.out.size)
      clear hans hrow hb3
      go_wp2_with fail
      go_ret2
      exact ⟨⟨bb, ys, k, rfl, hans'.out, hrow'.out⟩, hb3'.out⟩
theorem specProgOk_any {w : World} {lo : Nat} {kp : Value} {p : List InstrD} (hp : SeqAt 3 InstrAt w lo kp p) :
    Calls Tryz.prog 18 #[kp] w fun e w' => OkR p e ∧ Below w.heap.size w w' := by
  have hp' : Hid (SeqAt 3 InstrAt w lo kp p) := hp
  obtain ⟨a, cap, rfl⟩ := hp.form
  clear hp
  go_enter Tryz.func18, Tryz.ntmps18
  go_wp2_with fail
  refine (specDepths_any hp'.out).mono ?_
  rintro e w1 ⟨⟨b, ys, k, rfl, hans, _⟩, hb1⟩
  have hans' : Hid (Ans p b ys) := hans
  have hb1' : Hid (Below w.heap.size w w1) := hb1
  clear hans hb1
  go_wp2_with fail
  go_ret
  exact ⟨OkR.mk hans'.out, hb1'.out⟩
end Go.Proofs.YtdapgihghbmlfaaGreatDoor
