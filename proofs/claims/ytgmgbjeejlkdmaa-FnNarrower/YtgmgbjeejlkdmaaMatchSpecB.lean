/- l9Match and Matches of the specification, walked. -/
import Derived.Test.YtgmgbjeejlkdmaaMatchSpec
import Derived.Test.YtgmgbjeejlkdmaaTakeLit
namespace Go.Proofs.Ytgmgbjeejlkdmaa
open Go.RowKit
def LMs {H : Type} (st : Nat → StepD) (m : Nat) (d : DataW H) (path : List Int) (n : Nat) : Prop := okP d path = true → LM st m d path n
set_option maxRecDepth 100000 in
set_option maxHeartbeats 8000000 in
theorem lm_step {H : Type} (st : Nat → StepD) (m : Nat) (d : DataW H) (path : List Int) (n : Nat) (ih0 : ∀ n', n' < n → LMs st m d path n') : LMs st m d path n := by
  intro hok w lo lo2 lo3 t k kp kl l p ht hp hpp hl hln hst
  obtain ⟨rfl, _⟩ := ht.tag
  obtain ⟨_, a0, cap0, rfl⟩ := ht.form
  have ht0 : Hid (TreeAt w lo m _ _ d) := ht
  have hp0 : Hid (SeqAt 1 IntAt w lo2 kp (path.take p)) := hp
  have hl0 : Hid (SeqAt 2 StepAt w lo3 kl l) := hl
  have ih : Hid (∀ n', n' < n → LM st m d path n') := fun n' h => ih0 n' h hok
  have hok' : Hid (okP d path = true) := hok
  have hst' : Hid (∀ i, (h : i < l.length) → l[i] = st i) := hst
  have hln' : Hid (l.length = n + 1) := hln
  have hpl : (path.take p).length = p := by rw [List.length_take]; omega
  obtain ⟨ap, capp, rfl, hpm, _⟩ := hp
  rw [hpl] at hpm hp0
  obtain ⟨al, capl, rfl, hlm, hlx⟩ := hl
  obtain ⟨bl, offl, rfl, hlo3, hbl, hlc⟩ := hlx (by omega)
  obtain ⟨cs, _, liel, hrl⟩ := hlc n (by omega)
  rw [hst n (by omega)] at hrl
  obtain ⟨rfl, _⟩ := hrl
  unfold maxLen at hpm hlm
  have hwr : IntKind.i64.wrap ((l.length : Int) - 1) = (n : Int) := by rw [IntKind.wrap_i64]; omega
  have hnl : (n : Int) < (l.length : Int) := by omega
  have hn0 : (0 : Int) ≤ (n : Int) := by omega
  have hcapl : n ≤ capl := by omega
  have hcapp : p ≤ capp := by omega
  have hwp : IntKind.i64.wrap ((p : Int) - 1) = (p : Int) - 1 := by rw [IntKind.wrap_i64]; omega
  rw [hpl]
  have hb0 : Hid (Below w.heap.size w (w.alloc (.cells #[.string (strT d), .slice a0 (kidsOf d).length cap0] 26))) := (Below.refl _ _).alloc (Nat.le_refl _) _
  have bx0 : Hid (Box (w.alloc (.cells #[.string (strT d), .slice a0 (kidsOf d).length cap0] 26)) w.heap.size [.string (strT d), .slice a0 (kidsOf d).length cap0] 26) := Box.new w _ _
  have liel' : Hid (Lie w bl (offl + n * 2) [.string (st n).vTag, .bool (st n).vDeep]) := liel
  clear ht hlx hlc hst ih0 hok hln hpl liel
  go_enter Try.func42, Try.ntmps42
  go_wp2_with fail
  refine (l9At_any (ht0.out.below hb0.out) (hp0.out.below intAt_stays hb0.out)).mono ?_
  rintro e w1 ⟨hres, hb1⟩
  have hB1 : Hid (Below w.heap.size w w1) := hb0.out.trans (hb1.mono hb0.out.size)
  have bx1 : Hid (Box w1 w.heap.size [.string (strT d), .slice a0 (kidsOf d).length cap0] 26) := bx0.out.below hb1 bx0.out.lt
  clear hb1
  obtain ⟨ax, cx, rfl⟩ : ∃ ax cx, e = .returned (.tuple #[.agg #[.string (strT (endP d (path.take p))), .slice ax (kidsOf (endP d (path.take p))).length cx], .bool true]) := by
    rcases hres with ⟨_, mm, ax, cx, e1, _⟩ | ⟨hno, _⟩
    · exact ⟨ax, cx, e1⟩
    · rw [okP_take hok'.out p] at hno; cases hno
  clear hres
  generalize hX : endP d (path.take p) = X
  have hX' : Hid (tgP d path p = strT X) := by show strT _ = _; rw [hX]
  clear hX
  have hz1 : w.heap.size < w1.heap.size := bx1.out.lt
  have hBx : Hid (Below w.heap.size w (w1.alloc (.cells #[.string (strT X), .slice ax (kidsOf X).length cx] 26))) := hB1.out.alloc hB1.out.size _
  have bxx : Hid (Box (w1.alloc (.cells #[.string (strT X), .slice ax (kidsOf X).length cx] 26)) w.heap.size [.string (strT d), .slice a0 (kidsOf d).length cap0] 26) := bx1.out.alloc _
  have byy : Hid (Box (w1.alloc (.cells #[.string (strT X), .slice ax (kidsOf X).length cx] 26)) w1.heap.size [.string (strT X), .slice ax (kidsOf X).length cx] 26) := Box.new w1 _ _
  go_wp2_with fail
  generalize (w1.alloc (.cells #[.string (strT X), .slice ax (kidsOf X).length cx] 26)) = W at hBx bxx byy
  have lieW := Lie.keep (lo := lo3) (lo' := lo3) liel'.out (.of_below hBx.out) hlo3 hbl
  have z0 := lieW 0 (by simp)
  have z1 := lieW 1 (by simp)
  simp only [List.getElem?_cons_zero, List.getElem?_cons_succ, Nat.add_zero] at z0 z1
  have y0 := byy.out.cell 0 rfl
  have x0 := bxx.out.cell 0 rfl
  have x1 := bxx.out.cell 1 rfl
  clear lieW byy bx1 hB1 bx0 hb0
  by_cases he : (st n).vTag = ⟨#[]⟩
  · have htm : Hid (tagM (st n) (tgP d path p) = true) := by show _ = _; unfold tagM; rw [decide_eq_true he]; rfl
    rw [he] at z0
    clear he
    go_quiet (fail)
    have hBq : Hid (Below w.heap.size w (W.drewN nq)) := below_drewN hBx.out _
    have bxq : Hid (Box (W.drewN nq) w.heap.size [.string (strT d), .slice a0 (kidsOf d).length cap0] 26) := bxx.out
    generalize W.drewN nq = V at hBq bxq
    clear bxx hBx x0 x1 y0 z0 z1
    by_cases hnz : n = 0
    · subst hnz
      have HZ : Hid (mB st (tgP d path) 0 p = true) := htm.out
      go_wp2_with fail
      go_ret
      exact ⟨by rw [HZ.out]; rfl, hBq.out⟩
    have hnz' : ¬ (n : Int) = 0 := by omega
    have hnzb : ((n : Int) == 0) = false := by simpa using hnz'
    obtain ⟨n', hn'⟩ : ∃ n', n = n' + 1 := ⟨n - 1, by omega⟩
    have hn1 : Hid (n = n' + 1) := hn'
    have H : Hid (mB st (tgP d path) n p = upB (mB st (tgP d path) n') (st n).vDeep p) := by show _ = _; rw [hn']; rw [hn'] at htm; exact mB_yes htm.out
    clear hn' hnz
    go_wp2_with fail
    go_loopw [10] (fun i wr => ∃ q : Nat, q ≤ p ∧ i = .int .i64 ((q : Int) - 1) ∧ Hid (Below w.heap.size w wr) ∧ Hid (Box wr w.heap.size [.string (strT d), .slice a0 (kidsOf d).length cap0] 26) ∧ Hid (upB (mB st (tgP d path) n') (st n).vDeep p = upB (mB st (tgP d path) n') (st n).vDeep q)) (fun i _ => (intOf i + 1).toNat)
    case atStart => exact ⟨p, Nat.le_refl _, rfl, hBq, bxq, rfl⟩
    case round =>
      obtain ⟨qq, hqq, rfl, hb, bx, hup0⟩ := hrel
      rcases Nat.eq_zero_or_pos qq with e | e
      · subst e
        have hup : Hid (upB (mB st (tgP d path) n') (st n).vDeep p = false) := hup0.out
        rw [show ((0 : Nat) : Int) - 1 = -1 by omega]
        go_wp2_with fail
        go_ret
        exact ⟨by rw [H.out, hup.out]; rfl, hb.out⟩
      · obtain ⟨q, rfl⟩ : ∃ q, qq = q + 1 := ⟨qq - 1, by omega⟩
        rw [show ((q + 1 : Nat) : Int) - 1 = (q : Int) by omega]
        have hup : Hid (upB (mB st (tgP d path) n') (st n).vDeep p = upB (mB st (tgP d path) n') (st n).vDeep (q + 1)) := hup0
        have hq : q < p := by omega
        clear hup0 hqq e
        have c0 := bx.out.cell 0 rfl
        have c1 := bx.out.cell 1 rfl
        have hlt : w.heap.size < wr.heap.size := bx.out.lt
        have hq0 : (0 : Int) ≤ (q : Int) := by omega
        have lieR := Lie.keep (lo := lo3) (lo' := lo3) liel'.out (.of_below hb.out) hlo3 hbl
        have z1 := lieR 1 (by simp)
        simp only [List.getElem?_cons_zero, List.getElem?_cons_succ] at z1
        clear lieR
        have hcp := cut_ints (a := ap) (n := p) (cap := capp) (j := q) (by omega)
        have hcl := cut_steps (a := some ⟨bl, offl, none⟩) (n := l.length) (cap := capl) (j := n) hcapl
        have hwq : IntKind.i64.wrap ((q : Int) - 1) = (q : Int) - 1 := by rw [IntKind.wrap_i64]; omega
        have hcall : Hid (∀ W : World, Below w.heap.size w W → Calls Try.prog 42 #[.agg #[.string (strT d), .slice a0 (kidsOf d).length cap0], .slice ap q capp, .slice (some ⟨bl, offl, none⟩) n capl] W fun e w' => e = .returned (.bool (mB st (tgP d path) n' q)) ∧ Below W.heap.size W w') := fun W hW => by
          have hpt : (path.take p).take q = path.take q := by rw [List.take_take]; congr 1; omega
          have hpl2 : (path.take p).length = p := by rw [List.length_take]; omega
          have hll : (l.take n).length = n' + 1 := by rw [List.length_take, hln'.out, ← hn1.out]; omega
          have hp2 := (SeqAt.take (xs := path.take p) (by rw [hpl2]; exact hp0.out) q (by omega)).below intAt_stays hW
          rw [hpt] at hp2
          exact ih.out n' (by have := hn1.out; omega) W lo lo2 lo3 _ _ _ _ (l.take n) q (ht0.out.below hW) hp2 (by omega) ((SeqAt.take hl0.out n (by rw [hln'.out]; omega)).below StepAt_stays hW) hll (fun i hi => by rw [List.getElem_take]; exact hst'.out i (by rw [hll] at hi; rw [hln'.out]; have := hn1.out; omega))
        rcases two_b2 (mB st (tgP d path) n' q) with hr | hr
        · have hr' : Hid (mB st (tgP d path) n' q = false) := hr
          rw [hr] at hcall
          clear hr
          rcases two_b2 (st n).vDeep with hd | hd
          · have hs : Hid (upB (mB st (tgP d path) n') (st n).vDeep (q + 1) = false) := by show _ = _; rw [hd]; exact upB_stop hr'.out
            rw [hd] at z1
            clear hd
            go_wp2_with fail
            go_region_held3 (fun w' => w'.cell? ⟨w.heap.size, 0, none⟩ = some (.string (strT d)) ∧ w'.cell? ⟨w.heap.size, 1, none⟩ = some (.slice a0 (kidsOf d).length cap0)) (go_keep)
              (first | (go_at_call 42; refine (hcall.out _ (by exact hb.out.drew)).mono ?_; rintro e w5 ⟨rfl, hb5⟩; have hb5' := undrew hb5; have bx5 : Hid (Box w5 w.heap.size [.string (strT d), .slice a0 (kidsOf d).length cap0] 26) := Box.below bx.out hb5' hlt; have k0 := bx5.out.cell 0 rfl; have k1 := bx5.out.cell 1 rfl; have hB5 : Hid (Below w.heap.size w w5) := hb.out.trans (hb5'.mono hb.out.size); have y1 : w5.cell? ⟨bl, offl + n * 2 + 1, none⟩ = _ := (hb5'.cell (p := ⟨bl, offl + n * 2 + 1, none⟩) (by show bl < _; omega)).trans z1; clear hb5 hb5'))
            go_wp2_with fail
            go_ret
            exact ⟨by rw [H.out, hup.out, hs.out]; rfl, hB5.out⟩
          · have hs : Hid (upB (mB st (tgP d path) n') (st n).vDeep (q + 1) = upB (mB st (tgP d path) n') (st n).vDeep q) := by show _ = _; rw [hd]; exact upB_on hr'.out
            rw [hd] at z1
            clear hd
            go_wp2_with fail
            go_region_held3 (fun w' => w'.cell? ⟨w.heap.size, 0, none⟩ = some (.string (strT d)) ∧ w'.cell? ⟨w.heap.size, 1, none⟩ = some (.slice a0 (kidsOf d).length cap0)) (go_keep)
              (first | (go_at_call 42; refine (hcall.out _ (by exact hb.out.drew)).mono ?_; rintro e w5 ⟨rfl, hb5⟩; have hb5' := undrew hb5; have bx5 : Hid (Box w5 w.heap.size [.string (strT d), .slice a0 (kidsOf d).length cap0] 26) := Box.below bx.out hb5' hlt; have k0 := bx5.out.cell 0 rfl; have k1 := bx5.out.cell 1 rfl; have hB5 : Hid (Below w.heap.size w w5) := hb.out.trans (hb5'.mono hb.out.size); have y1 : w5.cell? ⟨bl, offl + n * 2 + 1, none⟩ = _ := (hb5'.cell (p := ⟨bl, offl + n * 2 + 1, none⟩) (by show bl < _; omega)).trans z1; clear hb5 hb5'))
            go_wp2_with fail
            go_roundw
            case rel => exact ⟨q, by omega, rfl, hB5, bx5, by show _ = _; rw [hup.out, hs.out]⟩
            case measure => simp [intOf]
        · have hs : Hid (upB (mB st (tgP d path) n') (st n).vDeep (q + 1) = true) := upB_hit hr
          rw [hr] at hcall
          clear hr
          go_wp2_with fail
          go_region_held3 (fun w' => w'.cell? ⟨w.heap.size, 0, none⟩ = some (.string (strT d)) ∧ w'.cell? ⟨w.heap.size, 1, none⟩ = some (.slice a0 (kidsOf d).length cap0)) (go_keep)
            (first | (go_at_call 42; refine (hcall.out _ (by exact hb.out.drew)).mono ?_; rintro e w5 ⟨rfl, hb5⟩; have hb5' := undrew hb5; have bx5 : Hid (Box w5 w.heap.size [.string (strT d), .slice a0 (kidsOf d).length cap0] 26) := Box.below bx.out hb5' hlt; have k0 := bx5.out.cell 0 rfl; have k1 := bx5.out.cell 1 rfl; have hB5 : Hid (Below w.heap.size w w5) := hb.out.trans (hb5'.mono hb.out.size); have y1 : w5.cell? ⟨bl, offl + n * 2 + 1, none⟩ = _ := (hb5'.cell (p := ⟨bl, offl + n * 2 + 1, none⟩) (by show bl < _; omega)).trans z1; clear hb5 hb5'))
          go_wp2_with fail
          go_ret
          exact ⟨by rw [H.out, hup.out, hs.out]; rfl, hB5.out⟩
  · have hne := em_ne he
    have hne0 := em_list (fun q => he (em_eq q))
    have hne1 := em_no he
    by_cases hq : (st n).vTag = strT X
    · have htm : Hid (tagM (st n) (tgP d path p) = true) := by show _ = _; unfold tagM; rw [hX'.out, decide_eq_true hq.symm]; simp
      rw [hq] at z0 hne hne0 hne1
      clear he hq
      go_quiet (fail)
      have hBq : Hid (Below w.heap.size w (W.drewN nq)) := below_drewN hBx.out _
      have bxq : Hid (Box (W.drewN nq) w.heap.size [.string (strT d), .slice a0 (kidsOf d).length cap0] 26) := bxx.out
      generalize W.drewN nq = V at hBq bxq
      clear bxx hBx x0 x1 y0 z0 z1
      by_cases hnz : n = 0
      · subst hnz
        have HZ : Hid (mB st (tgP d path) 0 p = true) := htm.out
        go_wp2_with fail
        go_ret
        exact ⟨by rw [HZ.out]; rfl, hBq.out⟩
      have hnz' : ¬ (n : Int) = 0 := by omega
      have hnzb : ((n : Int) == 0) = false := by simpa using hnz'
      obtain ⟨n', hn'⟩ : ∃ n', n = n' + 1 := ⟨n - 1, by omega⟩
      have hn1 : Hid (n = n' + 1) := hn'
      have H : Hid (mB st (tgP d path) n p = upB (mB st (tgP d path) n') (st n).vDeep p) := by show _ = _; rw [hn']; rw [hn'] at htm; exact mB_yes htm.out
      clear hn' hnz
      go_wp2_with fail
      go_loopw [10] (fun i wr => ∃ q : Nat, q ≤ p ∧ i = .int .i64 ((q : Int) - 1) ∧ Hid (Below w.heap.size w wr) ∧ Hid (Box wr w.heap.size [.string (strT d), .slice a0 (kidsOf d).length cap0] 26) ∧ Hid (upB (mB st (tgP d path) n') (st n).vDeep p = upB (mB st (tgP d path) n') (st n).vDeep q)) (fun i _ => (intOf i + 1).toNat)
      case atStart => exact ⟨p, Nat.le_refl _, rfl, hBq, bxq, rfl⟩
      case round =>
        obtain ⟨qq, hqq, rfl, hb, bx, hup0⟩ := hrel
        rcases Nat.eq_zero_or_pos qq with e | e
        · subst e
          have hup : Hid (upB (mB st (tgP d path) n') (st n).vDeep p = false) := hup0.out
          rw [show ((0 : Nat) : Int) - 1 = -1 by omega]
          go_wp2_with fail
          go_ret
          exact ⟨by rw [H.out, hup.out]; rfl, hb.out⟩
        · obtain ⟨q, rfl⟩ : ∃ q, qq = q + 1 := ⟨qq - 1, by omega⟩
          rw [show ((q + 1 : Nat) : Int) - 1 = (q : Int) by omega]
          have hup : Hid (upB (mB st (tgP d path) n') (st n).vDeep p = upB (mB st (tgP d path) n') (st n).vDeep (q + 1)) := hup0
          have hq : q < p := by omega
          clear hup0 hqq e
          have c0 := bx.out.cell 0 rfl
          have c1 := bx.out.cell 1 rfl
          have hlt : w.heap.size < wr.heap.size := bx.out.lt
          have hq0 : (0 : Int) ≤ (q : Int) := by omega
          have lieR := Lie.keep (lo := lo3) (lo' := lo3) liel'.out (.of_below hb.out) hlo3 hbl
          have z1 := lieR 1 (by simp)
          simp only [List.getElem?_cons_zero, List.getElem?_cons_succ] at z1
          clear lieR
          have hcp := cut_ints (a := ap) (n := p) (cap := capp) (j := q) (by omega)
          have hcl := cut_steps (a := some ⟨bl, offl, none⟩) (n := l.length) (cap := capl) (j := n) hcapl
          have hwq : IntKind.i64.wrap ((q : Int) - 1) = (q : Int) - 1 := by rw [IntKind.wrap_i64]; omega
          have hcall : Hid (∀ W : World, Below w.heap.size w W → Calls Try.prog 42 #[.agg #[.string (strT d), .slice a0 (kidsOf d).length cap0], .slice ap q capp, .slice (some ⟨bl, offl, none⟩) n capl] W fun e w' => e = .returned (.bool (mB st (tgP d path) n' q)) ∧ Below W.heap.size W w') := fun W hW => by
            have hpt : (path.take p).take q = path.take q := by rw [List.take_take]; congr 1; omega
            have hpl2 : (path.take p).length = p := by rw [List.length_take]; omega
            have hll : (l.take n).length = n' + 1 := by rw [List.length_take, hln'.out, ← hn1.out]; omega
            have hp2 := (SeqAt.take (xs := path.take p) (by rw [hpl2]; exact hp0.out) q (by omega)).below intAt_stays hW
            rw [hpt] at hp2
            exact ih.out n' (by have := hn1.out; omega) W lo lo2 lo3 _ _ _ _ (l.take n) q (ht0.out.below hW) hp2 (by omega) ((SeqAt.take hl0.out n (by rw [hln'.out]; omega)).below StepAt_stays hW) hll (fun i hi => by rw [List.getElem_take]; exact hst'.out i (by rw [hll] at hi; rw [hln'.out]; have := hn1.out; omega))
          rcases two_b2 (mB st (tgP d path) n' q) with hr | hr
          · have hr' : Hid (mB st (tgP d path) n' q = false) := hr
            rw [hr] at hcall
            clear hr
            rcases two_b2 (st n).vDeep with hd | hd
            · have hs : Hid (upB (mB st (tgP d path) n') (st n).vDeep (q + 1) = false) := by show _ = _; rw [hd]; exact upB_stop hr'.out
              rw [hd] at z1
              clear hd
              go_wp2_with fail
              go_region_held3 (fun w' => w'.cell? ⟨w.heap.size, 0, none⟩ = some (.string (strT d)) ∧ w'.cell? ⟨w.heap.size, 1, none⟩ = some (.slice a0 (kidsOf d).length cap0)) (go_keep)
                (first | (go_at_call 42; refine (hcall.out _ (by exact hb.out.drew)).mono ?_; rintro e w5 ⟨rfl, hb5⟩; have hb5' := undrew hb5; have bx5 : Hid (Box w5 w.heap.size [.string (strT d), .slice a0 (kidsOf d).length cap0] 26) := Box.below bx.out hb5' hlt; have k0 := bx5.out.cell 0 rfl; have k1 := bx5.out.cell 1 rfl; have hB5 : Hid (Below w.heap.size w w5) := hb.out.trans (hb5'.mono hb.out.size); have y1 : w5.cell? ⟨bl, offl + n * 2 + 1, none⟩ = _ := (hb5'.cell (p := ⟨bl, offl + n * 2 + 1, none⟩) (by show bl < _; omega)).trans z1; clear hb5 hb5'))
              go_wp2_with fail
              go_ret
              exact ⟨by rw [H.out, hup.out, hs.out]; rfl, hB5.out⟩
            · have hs : Hid (upB (mB st (tgP d path) n') (st n).vDeep (q + 1) = upB (mB st (tgP d path) n') (st n).vDeep q) := by show _ = _; rw [hd]; exact upB_on hr'.out
              rw [hd] at z1
              clear hd
              go_wp2_with fail
              go_region_held3 (fun w' => w'.cell? ⟨w.heap.size, 0, none⟩ = some (.string (strT d)) ∧ w'.cell? ⟨w.heap.size, 1, none⟩ = some (.slice a0 (kidsOf d).length cap0)) (go_keep)
                (first | (go_at_call 42; refine (hcall.out _ (by exact hb.out.drew)).mono ?_; rintro e w5 ⟨rfl, hb5⟩; have hb5' := undrew hb5; have bx5 : Hid (Box w5 w.heap.size [.string (strT d), .slice a0 (kidsOf d).length cap0] 26) := Box.below bx.out hb5' hlt; have k0 := bx5.out.cell 0 rfl; have k1 := bx5.out.cell 1 rfl; have hB5 : Hid (Below w.heap.size w w5) := hb.out.trans (hb5'.mono hb.out.size); have y1 : w5.cell? ⟨bl, offl + n * 2 + 1, none⟩ = _ := (hb5'.cell (p := ⟨bl, offl + n * 2 + 1, none⟩) (by show bl < _; omega)).trans z1; clear hb5 hb5'))
              go_wp2_with fail
              go_roundw
              case rel => exact ⟨q, by omega, rfl, hB5, bx5, by show _ = _; rw [hup.out, hs.out]⟩
              case measure => simp [intOf]
          · have hs : Hid (upB (mB st (tgP d path) n') (st n).vDeep (q + 1) = true) := upB_hit hr
            rw [hr] at hcall
            clear hr
            go_wp2_with fail
            go_region_held3 (fun w' => w'.cell? ⟨w.heap.size, 0, none⟩ = some (.string (strT d)) ∧ w'.cell? ⟨w.heap.size, 1, none⟩ = some (.slice a0 (kidsOf d).length cap0)) (go_keep)
              (first | (go_at_call 42; refine (hcall.out _ (by exact hb.out.drew)).mono ?_; rintro e w5 ⟨rfl, hb5⟩; have hb5' := undrew hb5; have bx5 : Hid (Box w5 w.heap.size [.string (strT d), .slice a0 (kidsOf d).length cap0] 26) := Box.below bx.out hb5' hlt; have k0 := bx5.out.cell 0 rfl; have k1 := bx5.out.cell 1 rfl; have hB5 : Hid (Below w.heap.size w w5) := hb.out.trans (hb5'.mono hb.out.size); have y1 : w5.cell? ⟨bl, offl + n * 2 + 1, none⟩ = _ := (hb5'.cell (p := ⟨bl, offl + n * 2 + 1, none⟩) (by show bl < _; omega)).trans z1; clear hb5 hb5'))
            go_wp2_with fail
            go_ret
            exact ⟨by rw [H.out, hup.out, hs.out]; rfl, hB5.out⟩
    · have htm : Hid (tagM (st n) (tgP d path p) = false) := by show _ = _; unfold tagM; rw [hX'.out, decide_eq_false he, decide_eq_false (fun e => hq e.symm)]; rfl
      have h1 := eq_list2 hq
      have h2 := eq_ne2 hq
      have h3 : ((st n).vTag.toList == (strT X).toList) = false := by simpa using h1
      clear he hq
      go_quiet (fail)
      go_wp2_with fail
      go_ret
      exact ⟨by rw [mB_no htm.out]; rfl, below_drewN hBx.out _⟩
end Go.Proofs.Ytgmgbjeejlkdmaa
