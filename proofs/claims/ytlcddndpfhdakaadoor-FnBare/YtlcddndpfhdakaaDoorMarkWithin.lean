/- What markWithin and MarkOk of the program return. -/
import Derived.Test.YtlcddndpfhdakaaDoorMarkImpl
namespace Go.Proofs.YtlcddndpfhdakaaDoor
open Go.RowKit
theorem MarkAt.below {n : Nat} {w w' : World} {lo : Nat} {cs : List Value} {x : MarkD} (h : MarkAt n w lo cs x) (hb : Below w.heap.size w w') : MarkAt n w' lo cs x := MarkAt_stays n _ _ lo lo _ _ (.of_below hb) h
def resQ : Option Int → Value
  | none => .tuple #[.int .i64 0, .bool false]
  | some m => .tuple #[.int .i64 m, .bool true]
def SwM (n : Nat) : Prop := ∀ (w : World) (lo : Nat) (cs : List Value) (x : MarkD) (room : Int), MarkAt n w lo cs x → 0 ≤ room → room ≤ 30 →
  Calls Tryd.prog 30 #[.agg cs.toArray, .int .i64 room] w fun e w' => e = .returned (resQ (mzD n x room)) ∧ Below w.heap.size w w'
set_option maxHeartbeats 1000000 in
theorem swM_of (n : Nat) (hS : Hid (SwM n)) : SwM (n + 1) := by
  intro w lo cs x room hx h0 h1
  have hx' : Hid (MarkAt (n + 1) w lo cs x) := hx
  obtain ⟨k2, k3, rfl, s2, s3, rTag, rText, _⟩ := hx
  obtain ⟨a2, cap2, rfl⟩ := s2.form
  clear s2
  obtain ⟨a3, cap3, rfl, hm, hk⟩ := s3
  have hk' : Hid _ := hk
  unfold maxLen at hm
  clear hk
  have hb0 : Below w.heap.size w (w.alloc (.cells #[.string x.vTag, .string x.vText, .slice a2 x.vAttrs.length cap2, .slice a3 x.vKids.length cap3] 27)) := (Below.refl _ _).alloc (Nat.le_refl _) _
  have bx0 : Hid (Box (w.alloc (.cells #[.string x.vTag, .string x.vText, .slice a2 x.vAttrs.length cap2, .slice a3 x.vKids.length cap3] 27)) w.heap.size [.string x.vTag, .string x.vText, .slice a2 x.vAttrs.length cap2, .slice a3 x.vKids.length cap3] 27) := Box.new w _ _
  by_cases hr : room < 1
  · have H1 : Hid (mzD (n + 1) x room = none) := mzD_no (.inl hr)
    go_enter Tryd.func30, Tryd.ntmps30
    go_wp2_with fail
    go_ret2
    exact ⟨by rw [H1.out]; rfl, hb0⟩
  go_enter Tryd.func30, Tryd.ntmps30
  go_wp2_with fail
  refine (markItselfOk_any (MarkAt.below hx'.out hb0)).mono ?_
  rintro e w1 ⟨rfl, hb1⟩
  have hB1 : Below w.heap.size w w1 := hb0.trans (hb1.mono hb0.size)
  have bx1 : Hid (Box w1 w.heap.size [.string x.vTag, .string x.vText, .slice a2 x.vAttrs.length cap2, .slice a3 x.vKids.length cap3] 27) := bx0.out.below hb1 bx0.out.lt
  have c0 := bx1.out.cell 0 rfl
  have c1 := bx1.out.cell 1 rfl
  have c2 := bx1.out.cell 2 rfl
  have c3 := bx1.out.cell 3 rfl
  clear hb1 bx0 hb0
  cases hs : selfB x
  · have H1 : Hid (mzD (n + 1) x room = none) := mzD_no (.inr hs)
    clear hs
    go_wp2_with fail
    go_ret2
    exact ⟨by rw [H1.out]; rfl, hB1⟩
  have H1 : Hid (mzD (n + 1) x room = mzF (mzD n) false x.vKids room 1) := mzD_yes (by omega) hs
  clear hs
  go_wp2_with fail
  go_loopw [6, 21] (fun z i wr => ∃ (j : Nat) (m : Int), j ≤ x.vKids.length ∧ i = .int .i64 j ∧ z = .int .i64 m ∧ 1 ≤ m ∧ m ≤ room ∧ Hid (Below w1.heap.size w1 wr) ∧
      Hid (mzF (mzD n) false x.vKids room 1 = mzF (mzD n) (prevT x.vKids j) (x.vKids.drop j) room m)) (fun _ i _ => x.vKids.length - (intOf i).toNat)
  case atStart => exact ⟨0, 1, by omega, rfl, rfl, by omega, by omega, Below.refl _ _, rfl⟩
  case round =>
    obtain ⟨j, m, hj, rfl, rfl, hm1, hm2, hb, hsz⟩ := hrel
    have hbw : Below w.heap.size w wr := hB1.trans (hb.out.mono hB1.size)
    have bxr : Hid (Box wr w.heap.size [.string x.vTag, .string x.vText, .slice a2 x.vAttrs.length cap2, .slice a3 x.vKids.length cap3] 27) := bx1.out.below hb.out bx1.out.lt
    by_cases hlt : j < x.vKids.length
    · obtain ⟨b, off, rfl, hlo, hbb, hc⟩ := hk'.out (by omega)
      obtain ⟨cs, hcl, lie, hr⟩ := hc j hlt
      have lie1 := Lie.keep (lo := lo) (lo' := lo) lie (.of_below hbw) hlo hbb
      have hr2 := MarkAt.below hr hbw
      have f1 := @mzF_none (mzD n) x.vKids j hlt room m
      have f2 := fun q => @mzF_side (mzD n) x.vKids j hlt room m q
      have f3 := fun q => @mzF_some (mzD n) x.vKids j hlt room m q
      generalize hX : x.vKids[j] = X at hr2 f1 f2 f3
      have hX' : Hid _ := hX
      have hr3 : Hid (MarkAt n wr lo cs X) := hr2
      have f1' : Hid (mzD n X (room - m) = none → mzF (mzD n) (prevT x.vKids j) (x.vKids.drop j) room m = none) := f1
      have f2' : Hid (∀ q, mzD n X (room - m) = some q → prevT x.vKids j = true → isT X = true → mzF (mzD n) (prevT x.vKids j) (x.vKids.drop j) room m = none) := f2
      have f3' : Hid (∀ q, mzD n X (room - m) = some q → (prevT x.vKids j && isT X) = false → mzF (mzD n) (prevT x.vKids j) (x.vKids.drop j) room m = mzF (mzD n) (prevT x.vKids (j + 1)) (x.vKids.drop (j + 1)) room (m + q)) := f3
      clear hX hr lie f1 f2 f3
      obtain ⟨p2, p3, rfl, t2, t3, qTag, qText, _⟩ := MarkAt.opened hr2
      obtain ⟨b2, d2, rfl⟩ := t2.form
      obtain ⟨b3, d3, rfl⟩ := t3.form
      have z0 := lie1 0 (by simp)
      have z1 := lie1 1 (by simp)
      have z2 := lie1 2 (by simp)
      have z3 := lie1 3 (by simp)
      simp only [List.getElem?_cons_zero, List.getElem?_cons_succ, Nat.add_zero] at z0 z1 z2 z3
      have hc' : Hid (∀ i, (h : i < x.vKids.length) → ∃ cs, cs.length = 4 ∧ Lie w b (off + i * 4) cs ∧ MarkAt n w lo cs x.vKids[i]) := hc
      clear lie1 hcl t2 t3 qTag qText hk' hc c0 c1 c2 c3
      go_wp2_with fail
      have hbr : Below wr.heap.size wr (wr.alloc (.cells #[.string X.vTag, .string X.vText, .slice b2 X.vAttrs.length d2, .slice b3 X.vKids.length d3] 27)) := (Below.refl _ _).alloc (Nat.le_refl _) _
      have by0 : Hid (Box (wr.alloc (.cells #[.string X.vTag, .string X.vText, .slice b2 X.vAttrs.length d2, .slice b3 X.vKids.length d3] 27)) wr.heap.size [.string X.vTag, .string X.vText, .slice b2 X.vAttrs.length d2, .slice b3 X.vKids.length d3] 27) := Box.new wr _ _
      refine (hS.out _ lo _ X _ (MarkAt.below hr3.out hbr) (by omega) (by omega)).mono ?_
      rintro e w2 ⟨rfl, hb2⟩
      have hB2 : Below wr.heap.size wr w2 := hbr.trans (hb2.mono hbr.size)
      have hB2' : Hid (Below w1.heap.size w1 w2) := hb.out.trans (hB2.mono hb.out.size)
      have hBw2 : Hid (Below w.heap.size w w2) := hbw.trans (hB2.mono hbw.size)
      have by2 : Hid (Box w2 wr.heap.size [.string X.vTag, .string X.vText, .slice b2 X.vAttrs.length d2, .slice b3 X.vKids.length d3] 27) := by0.out.below hb2 by0.out.lt
      have bx2 : Hid (Box w2 w.heap.size [.string x.vTag, .string x.vText, .slice a2 x.vAttrs.length cap2, .slice (some ⟨b, off, none⟩) x.vKids.length cap3] 27) := bxr.out.below hB2 bxr.out.lt
      clear hb2 hB2 hbr z0 z1 z2 z3 by0
      cases hq : mzD n X (room - m) with
      | none =>
        have H2 : Hid _ := f1'.out hq
        clear hq
        rw [show resQ none = .tuple #[.int .i64 0, .bool false] from rfl]
        go_wp2_with fail
        go_ret2
        exact ⟨by rw [H1.out, hsz.out, H2.out]; rfl, hBw2.out⟩
      | some q =>
        have hqr := mzD_range _ _ _ _ hq
        have hq' : Hid _ := hq
        clear hq
        rw [show resQ (some q) = .tuple #[.int .i64 q, .bool true] from rfl]
        have y0 := by2.out.cell 0 rfl
        have y1 := by2.out.cell 1 rfl
        have y2 := by2.out.cell 2 rfl
        have y3 := by2.out.cell 3 rfl
        cases j with
        | zero =>
          have H2 : Hid _ := f3'.out q hq'.out rfl
          go_wp2_with fail
          go_roundw
          case rel => exact ⟨0 + 1, m + q, by omega, by go_num, rfl, by omega, by omega, hB2', by show _ = _; rw [hsz.out, H2.out]⟩
          case measure => simp [intOf]; omega
        | succ i =>
          have hi0 : (0 : Int) < ((i + 1 : Nat) : Int) := by omega
          go_wp2_with fail
          refine (isText_any _ _ _ _ _).mono ?_
          rintro e w3 ⟨rfl, hb3⟩
          have hB3' : Hid (Below w1.heap.size w1 w3) := hB2'.out.trans (hb3.mono hB2'.out.size)
          have hBw3 : Hid (Below w.heap.size w w3) := hBw2.out.trans (hb3.mono hBw2.out.size)
          have bx3 : Hid (Box w3 w.heap.size [.string x.vTag, .string x.vText, .slice a2 x.vAttrs.length cap2, .slice (some ⟨b, off, none⟩) x.vKids.length cap3] 27) := bx2.out.below hb3 bx2.out.lt
          clear hb3 y0 y1 y2 y3
          by_cases hT : X.vTag.size = 0
          · have hT' : Hid (isT X = true) := decide_eq_true hT
            rw [decide_eq_true hT]
            clear hT
            obtain ⟨cs0, hcl0, lie0, hr0⟩ := hc'.out i (by omega)
            have lie2 := Lie.keep (lo := lo) (lo' := lo) lie0 (.of_below hBw3.out) hlo hbb
            have hp : Hid (prevT x.vKids (i + 1) = isT x.vKids[i]) := prevT_succ (by omega)
            have hr4 := MarkAt.below hr0 hBw3.out
            generalize x.vKids[i] = Y at hr4 hp
            obtain ⟨p2, p3, rfl, t2, t3, qTag, qText, _⟩ := MarkAt.opened hr4
            have z0 := lie2 0 (by simp)
            have z1 := lie2 1 (by simp)
            have z2 := lie2 2 (by simp)
            have z3 := lie2 3 (by simp)
            simp only [List.getElem?_cons_zero, List.getElem?_cons_succ, Nat.add_zero] at z0 z1 z2 z3
            have c0 := bx3.out.cell 0 rfl
            have c1 := bx3.out.cell 1 rfl
            have c2 := bx3.out.cell 2 rfl
            have c3 := bx3.out.cell 3 rfl
            clear lie0 lie2 hr4 t2 t3 qTag qText hr0 hcl0
            have hsub : ((i + 1 : Nat) : Int) - 1 = (i : Int) := by omega
            go_wp2_with fail
            refine (isText_any _ _ _ _ _).mono ?_
            rintro e w4 ⟨rfl, hb4⟩
            have hB4' : Hid (Below w1.heap.size w1 w4) := hB3'.out.trans (hb4.mono hB3'.out.size)
            have hBw4 : Hid (Below w.heap.size w w4) := hBw3.out.trans (hb4.mono hBw3.out.size)
            clear hb4 z0 z1 z2 z3 c0 c1 c2 c3
            by_cases hY : Y.vTag.size = 0
            · have H2 : Hid _ := f2'.out q hq'.out (by rw [hp.out]; exact decide_eq_true hY) hT'.out
              rw [decide_eq_true hY]
              clear hY
              go_wp2_with fail
              go_ret2
              exact ⟨by rw [H1.out, hsz.out, H2.out]; rfl, hBw4.out⟩
            · have H2 : Hid _ := f3'.out q hq'.out (by rw [hp.out, show isT Y = false from decide_eq_false hY]; rfl)
              rw [decide_eq_false hY]
              clear hY
              go_wp2_with fail
              go_roundw
              case rel => exact ⟨i + 1 + 1, m + q, by omega, by go_num, rfl, by omega, by omega, hB4', by show _ = _; rw [hsz.out, H2.out]⟩
              case measure => simp [intOf]; omega
          · have H2 : Hid _ := f3'.out q hq'.out (by rw [show isT X = false from decide_eq_false hT]; simp)
            rw [decide_eq_false hT]
            clear hT
            go_wp2_with fail
            go_roundw
            case rel => exact ⟨i + 1 + 1, m + q, by omega, by go_num, rfl, by omega, by omega, hB3', by show _ = _; rw [hsz.out, H2.out]⟩
            case measure => simp [intOf]; omega
    · have H2 : Hid _ := mzF_end (f := mzD n) (room := room) (size := m) hlt
      clear c0 c1 c2 c3
      go_wp2_with fail
      go_ret2
      refine ⟨?_, hbw⟩
      rw [H1.out, hsz.out, H2.out]; rfl
theorem swM_all : ∀ n, SwM n := by
  intro n
  induction n with
  | zero => exact fun _ _ _ _ _ h _ _ => h.elim
  | succ n ih => exact swM_of n ih
def okM : Option Int → Bool
  | none => false
  | some _ => true
set_option maxHeartbeats 400000 in
theorem implMarkOk_any {n : Nat} {w : World} {lo : Nat} {cs : List Value} {x : MarkD} (hx : MarkAt n w lo cs x) :
    Calls Tryd.prog 11 #[.agg cs.toArray] w fun e w' => e = .returned (.bool (okM (mzD n x 30))) ∧ Below w.heap.size w w' := by
  have hx' : Hid (MarkAt n w lo cs x) := hx
  obtain ⟨k2, k3, rfl, _⟩ := MarkAt.opened hx
  have hb0 : Below w.heap.size w (w.alloc (.cells #[.string x.vTag, .string x.vText, k2, k3] 27)) := (Below.refl _ _).alloc (Nat.le_refl _) _
  go_enter Tryd.func11, Tryd.ntmps11
  go_wp2_with fail
  refine (swM_all n _ lo _ x _ (MarkAt.below hx'.out hb0) (by omega) (by omega)).mono ?_
  rintro e w1 ⟨rfl, hb1⟩
  cases hq : mzD n x 30 with
  | none =>
    rw [show resQ none = .tuple #[.int .i64 0, .bool false] from rfl]
    have HQ : Hid _ := hq
    clear hq
    go_wp2_with fail
    go_ret
    exact ⟨by rw [HQ.out]; rfl, hb0.trans (hb1.mono hb0.size)⟩
  | some q =>
    have HQ : Hid _ := hq
    clear hq
    rw [show resQ (some q) = .tuple #[.int .i64 q, .bool true] from rfl]
    go_wp2_with fail
    go_ret
    exact ⟨by rw [HQ.out]; rfl, hb0.trans (hb1.mono hb0.size)⟩
end Go.Proofs.YtlcddndpfhdakaaDoor
