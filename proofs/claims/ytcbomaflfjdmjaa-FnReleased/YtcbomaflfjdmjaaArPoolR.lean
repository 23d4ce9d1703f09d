/- poolOf, rightPool and living of the program, walked once more: they also tell the row of what is free. -/
import Derived.Test.YtcbomaflfjdmjaaArLive
namespace Go.Proofs.Ytcbomaflfjdmjaa
open Go.RowKit
theorem ownsRow_below {w w' : World} {base e s n : Nat} {v : Value} {xs : List Value} (h : w.ownsRow base e s v n xs) (hb : Below w.heap.size w w') : w'.ownsRow base e s v n xs := by
  refine ⟨h.1, ?_⟩
  rcases h.2 with q | ⟨g, cap, cur, e1, e2, e3, e4⟩
  · exact Or.inl q
  · exact Or.inr ⟨g, cap, cur, e1, e2, (hb.block g (Array.getElem?_eq_some_iff.1 e3).1).trans e3, e4⟩
theorem ownsRow_low {w : World} {base base' e s n : Nat} {v : Value} {xs : List Value} (h : w.ownsRow base e s v n xs) (hb : base' ≤ base) : w.ownsRow base' e s v n xs := by
  refine ⟨h.1, ?_⟩
  rcases h.2 with q | ⟨g, cap, cur, e1, e2, e4⟩
  · exact Or.inl q
  · exact Or.inr ⟨g, cap, cur, e1, Nat.le_trans hb e2, e4⟩
theorem ownsRow_lt {w : World} {base e s n b : Nat} {v : Value} {xs : List Value} (h : w.ownsRow base e s v n xs) (hb : v.ownBlock = some b) : base ≤ b ∧ b < w.heap.size := by
  rcases h.2 with ⟨rfl, _⟩ | ⟨g, cap, cur, rfl, e2, e3, _⟩
  · cases hb
  · simp only [Value.ownBlock, Option.some.injEq] at hb
    subst hb
    exact ⟨e2, (Array.getElem?_eq_some_iff.1 e3).1⟩
/-- the row of what is free: whole, apart from the pool's block and its slots -/
def RowF (w : World) (base : Nat) (fk : Value) (fr : List Int) (g : Nat) (fs : List Nat) : Prop := w.ownsRow base 2 1 fk fr.length (fr.map fun n => Value.int .i64 n) ∧ ∀ b, fk.ownBlock = some b → b ≠ g ∧ b ∉ fs
theorem RowF.low {w : World} {base base' g : Nat} {fk : Value} {fr : List Int} {fs : List Nat} (h : RowF w base fk fr g fs) (hb : base' ≤ base) : RowF w base' fk fr g fs := ⟨ownsRow_low h.1 hb, h.2⟩
theorem RowF.below {w w' : World} {base g : Nat} {fk : Value} {fr : List Int} {fs : List Nat} (h : RowF w base fk fr g fs) (hb : Below w.heap.size w w') : RowF w' base fk fr g fs := ⟨ownsRow_below h.1 hb, h.2⟩
theorem RowF.stays {w w' : World} {base g : Nat} {fk : Value} {fr : List Int} {fs : List Nat} (h : RowF w base fk fr g fs) (hb : ∀ b, fk.ownBlock = some b → w'.heap[b]? = w.heap[b]?) : RowF w' base fk fr g fs := by
  refine ⟨⟨h.1.1, ?_⟩, h.2⟩
  rcases h.1.2 with q | ⟨g, cap, cur, e1, e2, e3, e4⟩
  · exact Or.inl q
  · exact Or.inr ⟨g, cap, cur, e1, e2, (hb g (by rw [e1]; rfl)).trans e3, e4⟩
set_option maxRecDepth 100000 in
set_option maxHeartbeats 2000000 in
theorem poolOfR_any {w : World} {lo : Nat} {cs : List Value} {x : ArenaD} (hx : ArenaAt w lo cs x) (hl0 : x.vSlots.length ≤ 12) (hl1 : x.vFree.length ≤ 12) :
    Calls Try.prog 48 #[.agg cs.toArray] w fun e w' => (∃ g k fk fs ffs, e = .returned (.pointer (some ⟨g, 0, none⟩)) ∧ PoolAt w' w.heap.size g x.vSlots x.vFree k fk fs ffs ∧ RowF w' w.heap.size fk x.vFree g fs) ∧ Below w.heap.size w w' := by
  obtain ⟨k0, k1, rfl, s0, s1, _⟩ := hx
  have s1' : Hid (SeqAt 1 IntAt w lo k1 x.vFree) := s1
  obtain ⟨a0, c0, rfl, hm0, hx0⟩ := s0
  have hx0' : Hid _ := hx0
  obtain ⟨a1, c1, rfl⟩ := s1.form
  unfold maxLen at hm0
  clear hx0 s1
  have hb0 : Below w.heap.size w (w.alloc (.cells (List.toArray [.slice a0 x.vSlots.length c0, .slice a1 x.vFree.length c1]) 27)) := (Below.refl _ _).alloc (Nat.le_refl _) _
  have bx0 : Hid (Box (w.alloc (.cells (List.toArray [.slice a0 x.vSlots.length c0, .slice a1 x.vFree.length c1]) 27)) w.heap.size [.slice a0 x.vSlots.length c0, .slice a1 x.vFree.length c1] 27) := Box.new w _ _
  go_enter Try.func48, Try.ntmps48
  go_wp2_with fail
  refine (listCopyI_row (s1'.out.below intAt_stays hb0) (by omega)).mono ?_
  rintro e w1 ⟨⟨fk, rfl, hrowF, hiF⟩, hb1⟩
  obtain ⟨ffs, hF, hFl⟩ := seqOwn_of_row hrowF hiF
  obtain ⟨af, cf, rfl⟩ := hF.form
  have hB1 : Below w.heap.size w w1 := hb0.trans (hb1.mono hb0.size)
  have bx1 : Hid (Box w1 w.heap.size [.slice a0 x.vSlots.length c0, .slice a1 x.vFree.length c1] 27) := bx0.out.below hb1 bx0.out.lt
  have y0 := bx1.out.cell 0 rfl
  have hrowH : Hid (w1.ownsRow w.heap.size 2 1 (.slice af x.vFree.length cf) x.vFree.length (x.vFree.map fun n => Value.int .i64 n)) := ownsRow_low hrowF (by simp)
  clear hrowF
  have hF' : Hid (SeqOwn 1 IntOwn w1 (.slice af x.vFree.length cf) x.vFree ffs) := hF
  have hFl' : Hid (∀ b ∈ ffs, w.heap.size ≤ b ∧ b < w1.heap.size) := fun b q => ⟨by have := hFl b q; simp at this; omega, hF.lt intOwn_lt b q⟩
  have hs1 := hB1.size
  have hz1 : w.heap.size < w1.heap.size := bx1.out.lt
  clear hF hFl bx0 hb1
  obtain ⟨iT, hiT0, hiz⟩ := Option.map_eq_some_iff.1 infoP
  have hiT : Hid (Try.prog.info? 61 = some iT) := hiT0
  have heT : Hid (iT.zero = some (.pointer none) ∧ iT.size = 1 ∧ iT.bytes = 8) := by
    injection hiz with e1 e2
    injection e2 with e2 e3
    exact ⟨e1, e2, e3⟩
  clear hiT0 hiz
  have hBp : Below w.heap.size w (w1.alloc (.cells (List.toArray [.slice none 0 0, .slice af x.vFree.length cf]) 59)) := hB1.alloc hB1.size _
  have bxp : Hid (Box (w1.alloc (.cells (List.toArray [.slice none 0 0, .slice af x.vFree.length cf]) 59)) w1.heap.size [.slice none 0 0, .slice af x.vFree.length cf] 59) := Box.new w1 _ _
  go_wp2_with fail
  go_loopw [14] (fun i wr => ∃ (j : Nat) (v : Value) (bss : List (List Nat)) (css : List (List Value)), j ≤ x.vSlots.length ∧ i = .int .i64 j ∧ Below w.heap.size w wr ∧ Below (w1.heap.size) w1 wr ∧ Hid (Box wr w1.heap.size [v, .slice af x.vFree.length cf] 59) ∧ Hid (GrowOwn 61 1 PSlot (w1.heap.size + 1) wr v (x.vSlots.take j) bss css)) (fun i _ => x.vSlots.length - (intOf i).toNat)
  case atStart => exact ⟨0, _, _, _, by omega, rfl, hBp, (Below.refl _ _).alloc (Nat.le_refl _) _, bxp, GrowOwn.nil⟩
  case round =>
    obtain ⟨j, v, bss, css, hj, rfl, hb, hb1, bx, hgr⟩ := hrel
    have y1 := bx.out.cell 0 rfl
    have hfz := bx.out.unfrozen
    have hsz := hb1.size
    have hlt1 : w1.heap.size < wr.heap.size := bx.out.lt
    by_cases hlt : j < x.vSlots.length
    · obtain ⟨b, off, rfl, hlo, hbw, hc⟩ := hx0'.out (by omega)
      obtain ⟨cs, hcl, lie, hr⟩ := hc j hlt
      have lie1 := Lie.keep (lo := lo) (lo' := lo) lie (.of_below hb) hlo hbw
      have htk : Hid (x.vSlots.take (j + 1) = x.vSlots.take j ++ [x.vSlots[j]]) := List.take_succ_eq_append_getElem hlt
      generalize x.vSlots[j] = X at hr htk
      obtain ⟨rfl, rGen, rData, _⟩ := hr
      have hlt2 : (x.vSlots.take j).length = j := by simp; omega
      obtain ⟨av, cv, rfl⟩ : ∃ a cap, v = .slice a j cap := by obtain ⟨a, cap, e⟩ := hgr.out.len; rw [hlt2] at e; exact ⟨a, cap, e⟩
      have hlt3 : Hid _ := hlt2
      clear hlt2
      have z0 := lie1 0 (by simp)
      have z1 := lie1 1 (by simp)
      have z2 := lie1 2 (by simp)
      simp only [List.getElem?_cons_zero, List.getElem?_cons_succ, Nat.add_zero] at z0 z1 z2
      clear lie lie1 hcl hx0' hc
      have ns : Hid (Box ((wr.alloc (.cells (slotC X).toArray 63)).alloc (.cells #[.pointer (some ⟨wr.heap.size, 0, none⟩)] 61)) wr.heap.size (slotC X) 63) := (Box.new wr _ _).alloc _
      have hb2 : Below wr.heap.size wr ((wr.alloc (.cells (slotC X).toArray 63)).alloc (.cells #[.pointer (some ⟨wr.heap.size, 0, none⟩)] 61)) := ((Below.refl _ _).alloc (Nat.le_refl _) _).alloc (by simp) _
      have bx2 : Hid (Box ((wr.alloc (.cells (slotC X).toArray 63)).alloc (.cells #[.pointer (some ⟨wr.heap.size, 0, none⟩)] 61)) w1.heap.size [.slice av j cv, .slice af x.vFree.length cf] 59) := (bx.out.alloc _).alloc _
      go_wp2_with (at_builtin; refine wpList_append_grow pslot_stays rfl _ _ 57 rfl (w1.heap.size + 1) iT _ _ Try.underlying57 hiT.out heT.out.1 heT.out.2.1 heT.out.2.2 rfl (by decide) (y := X) (fs := [wr.heap.size]) (cs := [.pointer (some ⟨wr.heap.size, 0, none⟩)]) rfl hgr.out hb2 (by omega) _ _ rfl rfl (by intro q u hq; match q, hq with | 0, hq => simp at hq; subst hq; simp [Addr.add]) (by simp [Value.oneCell']) ⟨_, rfl, ns.out, rGen, rData, rfl⟩ (by simp) (by simp) (by simp; omega) (by rw [hlt3.out]; unfold maxLen; omega) (by rw [hlt3.out]; omega) ?_; intro g cap w3 hgr3 hg3 hb3; rw [hlt3.out] at hgr3 ⊢; have bx3 : Hid (Box w3 w1.heap.size [.slice av j cv, .slice af x.vFree.length cf] 59) := (hb3.block _ (by omega)).trans bx2.out; have y3 := bx3.out.cell 0 rfl; have u3 := bx3.out.unfrozen)
      have bx4 : Hid (Box (w3.setCell ⟨w1.heap.size, 0, none⟩ (.slice (some ⟨g, 0, none⟩) (j + 1) cap)) w1.heap.size [.slice (some ⟨g, 0, none⟩) (j + 1) cap, .slice af x.vFree.length cf] 59) := bx3.out.set _
      have hgr4 := hgr3.set pslot_stays (g := w1.heap.size) (i := 0) (u := .slice (some ⟨g, 0, none⟩) (j + 1) cap) (by omega)
      have hb4 : Below (w1.heap.size) w1 w3 := (hb1.trans (hb2.mono (by omega))).trans (hb3.mono (by omega))
      go_roundw
      case rel => exact ⟨j + 1, _, _, _, by omega, by go_num, (hB1.trans (hb4.mono hB1.size)).setCell (by exact hs1) _, hb4.setCell (by exact Nat.le_refl _) _, bx4, by rw [htk.out]; exact hgr4⟩
      case measure => simp [intOf]; omega
    · obtain rfl : j = x.vSlots.length := by omega
      rw [List.take_of_length_le (Nat.le_refl _)] at hgr
      obtain ⟨fs, hS, hSl⟩ := hgr.out.done
      go_wp2_with fail
      go_ret
      refine ⟨⟨w1.heap.size, v, _, fs, ffs, rfl, ⟨bx.out, by omega, hS, hF'.out.below intOwn_stays intOwn_lt hb1, fun b q => ?_, fun b q => (hFl'.out b q).1, fun q => ?_, fun q => ?_, fun b q1 q2 => ?_⟩, ⟨ownsRow_below hrowH.out hb1, fun b e => by have h5 := (ownsRow_lt hrowH.out e).2; exact ⟨by omega, fun q => by have := hSl b q; omega⟩⟩⟩, hb⟩
      · have := hSl b q; omega
      · have := hSl _ q; omega
      · have := (hFl'.out _ q).2; omega
      · have := hSl b q1; have := (hFl'.out b q2).2; omega
def RightAnsR (w w' : World) (x : ArenaD) (e : Ending) : Prop :=
  (¬ RightI x ∧ ∃ v, e = .returned (.tuple #[.pointer v, .bool false])) ∨ (RightI x ∧ ∃ g k fk fs ffs, e = .returned (.tuple #[.pointer (some ⟨g, 0, none⟩), .bool true]) ∧ PoolAt w' w.heap.size g x.vSlots x.vFree k fk fs ffs ∧ RowF w' w.heap.size fk x.vFree g fs)
set_option maxRecDepth 100000 in
set_option maxHeartbeats 2000000 in
theorem rightPoolR_any {w : World} {lo : Nat} {cs : List Value} {x : ArenaD} (hx : ArenaAt w lo cs x) :
    Calls Try.prog 29 #[.agg cs.toArray] w fun e w' => RightAnsR w w' x e ∧ Below w.heap.size w w' := by
  have hx' : Hid (ArenaAt w lo cs x) := hx
  obtain ⟨k0, k1, rfl, s0, s1, _⟩ := hx
  obtain ⟨a0, c0, rfl, hm0, hx0⟩ := s0
  have hx0' : Hid _ := hx0
  obtain ⟨a1, c1, rfl, hm1, _⟩ := s1
  unfold maxLen at hm0 hm1
  clear hx0
  have hb0 : Below w.heap.size w (w.alloc (.cells (List.toArray [.slice a0 x.vSlots.length c0, .slice a1 x.vFree.length c1]) 27)) := (Below.refl _ _).alloc (Nat.le_refl _) _
  have bx0 : Hid (Box (w.alloc (.cells (List.toArray [.slice a0 x.vSlots.length c0, .slice a1 x.vFree.length c1]) 27)) w.heap.size [.slice a0 x.vSlots.length c0, .slice a1 x.vFree.length c1] 27) := Box.new w _ _
  go_enter Try.func29, Try.ntmps29
  go_wp2_with fail
  refine (slotCountOk_any _ _).mono ?_
  rintro e w1 ⟨rfl, rfl⟩
  cases hc : inB (x.vSlots.length : Int) 1 12 with
  | false =>
    have H : Hid (¬ RightI x) := fun q => by
      have h1 := q.1
      have h2 := q.2.1
      simp [inB] at hc
      omega
    clear hc
    go_wp2_with fail
    go_ret2
    exact ⟨Or.inl ⟨H.out, _, rfl⟩, hb0⟩
  | true =>
  have hc1 : 1 ≤ x.vSlots.length ∧ x.vSlots.length ≤ 12 := by simp [inB] at hc; omega
  clear hc
  obtain ⟨hn1, hn2⟩ := hc1
  by_cases hfl : x.vSlots.length < x.vFree.length
  · have H : Hid (¬ RightI x) := fun q => by have := q.2.2.1; omega
    have hfl' : (x.vFree.length : Int) > (x.vSlots.length : Int) := by omega
    go_wp2_with fail
    go_ret2
    exact ⟨Or.inl ⟨H.out, _, rfl⟩, hb0⟩
  have hfl' : ¬ (x.vFree.length : Int) > (x.vSlots.length : Int) := by omega
  go_wp2_with fail
  go_loopw [24] (fun i wr => ∃ (j : Nat), j ≤ x.vSlots.length ∧ i = .int .i64 j ∧ Hid (SlotsI x.vSlots j) ∧ Below w.heap.size w wr ∧ Hid (Box wr w.heap.size [.slice a0 x.vSlots.length c0, .slice a1 x.vFree.length c1] 27)) (fun i _ => x.vSlots.length - (intOf i).toNat)
  case atStart => exact ⟨0, by omega, rfl, fun i _ h => absurd h (by omega), hb0, bx0⟩
  case round =>
    obtain ⟨j, hj, rfl, hsp, hb, bx⟩ := hrel
    by_cases hlt : j < x.vSlots.length
    · obtain ⟨b, off, rfl, hlo, hbw, hc⟩ := hx0'.out (by omega)
      obtain ⟨cs, hcl, lie, hr⟩ := hc j hlt
      have lie1 := Lie.keep (lo := lo) (lo' := lo) lie (.of_below hb) hlo hbw
      have hstep : Hid (SlotP x.vSlots[j] → SlotsI x.vSlots (j + 1)) := fun q => hsp.out.step hlt q
      have hfall : Hid (¬ SlotP x.vSlots[j] → ¬ RightI x) := fun q r => q (r.2.2.2.1 j hlt)
      generalize x.vSlots[j] = X at hr hstep hfall
      have hA : Hid (SlotAt (wr.alloc (.cells (slotC X).toArray 63)) lo (slotC X) X) := by
        obtain ⟨e, r⟩ := hr
        exact ⟨rfl, r⟩
      have hbA : Below w.heap.size w (wr.alloc (.cells (slotC X).toArray 63)) := hb.alloc hb.size _
      have bxA : Hid (Box (wr.alloc (.cells (slotC X).toArray 63)) w.heap.size [.slice (some ⟨b, off, none⟩) x.vSlots.length c0, .slice a1 x.vFree.length c1] 27) := bx.out.alloc _
      obtain ⟨rfl, rGen, rData, _⟩ := hr
      have z0 := lie1 0 (by simp)
      have z1 := lie1 1 (by simp)
      have z2 := lie1 2 (by simp)
      simp only [List.getElem?_cons_zero, List.getElem?_cons_succ, Nat.add_zero] at z0 z1 z2
      clear lie lie1 hcl hx0' hc rGen rData
      go_wp2_with fail
      refine (slotOk_any hA.out).mono ?_
      rintro e w1 ⟨rfl, hb1⟩
      have hb2 : Below w.heap.size w w1 := hbA.trans (hb1.mono hbA.size)
      have bx1 : Hid (Box w1 w.heap.size [.slice (some ⟨b, off, none⟩) x.vSlots.length c0, .slice a1 x.vFree.length c1] 27) := bxA.out.below hb1 bxA.out.lt
      cases hs : slotB X with
      | false =>
        have H : Hid (¬ RightI x) := hfall.out (slotB_no hs)
        go_wp2_with fail
        go_ret2
        exact ⟨Or.inl ⟨H.out, _, rfl⟩, hb2⟩
      | true =>
        have H : Hid (SlotsI x.vSlots (j + 1)) := hstep.out (slotB_iff.1 hs)
        go_wp2_with fail
        go_roundw
        case rel => exact ⟨j + 1, by omega, by go_num, H, hb2, bx1⟩
        case measure => simp [intOf]; omega
    · obtain rfl : j = x.vSlots.length := by omega
      have y0 := bx.out.cell 0 rfl
      have y1 := bx.out.cell 1 rfl
      have hsz := hb.size
      go_wp2_with fail
      refine (poolOfR_any (ArenaAt_stays _ _ _ lo _ _ (.of_below hb) hx'.out) hn2 (by omega)).mono ?_
      rintro e w1 ⟨⟨g, k, fk, fs, ffs, rfl, hP, hrw⟩, hb1⟩
      have hb2 : Below w.heap.size w w1 := hb.trans (hb1.mono hb.size)
      have hP' : Hid (PoolAt w1 wr.heap.size g x.vSlots x.vFree k fk fs ffs) := hP
      have hrw' : Hid (RowF w1 wr.heap.size fk x.vFree g fs) := hrw
      clear hP hrw
      go_wp2_with fail
      refine (freeOk_any hP'.out hn2 (by omega)).mono ?_
      rintro e w2 ⟨⟨r, rfl, hr⟩, hb3⟩
      have hr' : Hid (r = true ↔ FreeAll x.vSlots x.vFree) := hr
      clear hr
      have hb4 : Below w.heap.size w w2 := hb2.trans (hb3.mono hb2.size)
      have hP2 := hP'.out.below hb3
      go_wp2_with fail
      go_ret2
      refine ⟨?_, hb4⟩
      cases r with
      | false => exact Or.inl ⟨fun q => (by have := hr'.out.2 ⟨q.2.2.2.2.1, q.2.2.2.2.2⟩; cases this), _, rfl⟩
      | true =>
        have hfa := hr'.out.1 rfl
        refine Or.inr ⟨⟨hn1, hn2, by omega, fun i hi => hsp.out i hi hi, hfa.1, hfa.2⟩, g, k, fk, fs, ffs, rfl, ?_, (hrw'.out.low hsz).below hb3⟩
        obtain ⟨h1, h2, h3, h4, h5, h6, h7⟩ := hP2
        exact ⟨h1, by omega, h3, h4, fun b q => by have := h5 b q; omega, fun b q => by have := h6 b q; omega, h7⟩
def LivingAnsR (w w' : World) (x : ArenaD) (hAt hGen : Int) (e : Ending) : Prop :=
  (¬ Live x hAt hGen ∧ ∃ u v, e = .returned (.tuple #[.pointer u, .pointer v, .bool false])) ∨ (Live x hAt hGen ∧ ∃ g k fk fs ffs b off cap p, e = .returned (.tuple #[.pointer (some ⟨g, 0, none⟩), .pointer (some ⟨p, 0, none⟩), .bool true]) ∧ PoolAt w' w.heap.size g x.vSlots x.vFree k fk fs ffs ∧ RowF w' w.heap.size fk x.vFree g fs ∧ k = .slice (some ⟨b, off, none⟩) x.vSlots.length cap ∧ w'.cell? ⟨b, off + hAt.toNat, none⟩ = some (.pointer (some ⟨p, 0, none⟩)))
set_option maxRecDepth 100000 in
set_option maxHeartbeats 2000000 in
theorem livingR_any {w : World} {lo : Nat} {cs : List Value} {x : ArenaD} {hAt hGen : Int} (hx : ArenaAt w lo cs x) :
    Calls Try.prog 37 #[.agg cs.toArray, .agg #[.int .i64 hAt, .int .i64 hGen]] w fun e w' => LivingAnsR w w' x hAt hGen e ∧ Below w.heap.size w w' := by
  have hx' : Hid (ArenaAt w lo cs x) := hx
  obtain ⟨k0, k1, rfl, s0, s1, _⟩ := hx
  obtain ⟨a0, c0, rfl, hm0, hx0⟩ := s0
  have hx0' : Hid _ := hx0
  obtain ⟨a1, c1, rfl⟩ := s1.form
  unfold maxLen at hm0
  clear hx0 s1
  have hb0 : Below w.heap.size w ((w.alloc (.cells (List.toArray [.slice a0 x.vSlots.length c0, .slice a1 x.vFree.length c1]) 27)).alloc (.cells (List.toArray [.int .i64 hAt, .int .i64 hGen]) 31)) := ((Below.refl _ _).alloc (Nat.le_refl _) _).alloc (by simp) _
  have bx0 : Hid (Box ((w.alloc (.cells (List.toArray [.slice a0 x.vSlots.length c0, .slice a1 x.vFree.length c1]) 27)).alloc (.cells (List.toArray [.int .i64 hAt, .int .i64 hGen]) 31)) w.heap.size [.slice a0 x.vSlots.length c0, .slice a1 x.vFree.length c1] 27) := (Box.new w _ _).alloc _
  have bh0 : Hid (Box ((w.alloc (.cells (List.toArray [.slice a0 x.vSlots.length c0, .slice a1 x.vFree.length c1]) 27)).alloc (.cells (List.toArray [.int .i64 hAt, .int .i64 hGen]) 31)) (w.heap.size + 1) [.int .i64 hAt, .int .i64 hGen] 31) := by have := Box.new (w.alloc (.cells (List.toArray [.slice a0 x.vSlots.length c0, .slice a1 x.vFree.length c1]) 27)) [.int .i64 hAt, .int .i64 hGen] 31; simpa [Hid] using this
  have hxA : Hid (ArenaAt ((w.alloc (.cells (List.toArray [.slice a0 x.vSlots.length c0, .slice a1 x.vFree.length c1]) 27)).alloc (.cells (List.toArray [.int .i64 hAt, .int .i64 hGen]) 31)) lo [.slice a0 x.vSlots.length c0, .slice a1 x.vFree.length c1] x) := ArenaAt_stays _ _ _ lo _ _ (.of_below hb0) hx'.out
  clear hx0' hm0
  go_enter Try.func37, Try.ntmps37
  go_wp2_with fail
  refine (rightPoolR_any hxA.out).mono ?_
  rintro e w1 ⟨hA, hb1⟩
  have hB1 : Below w.heap.size w w1 := hb0.trans (hb1.mono hb0.size)
  have bh1 : Hid (Box w1 (w.heap.size + 1) [.int .i64 hAt, .int .i64 hGen] 31) := bh0.out.below hb1 bh0.out.lt
  have c0_ := bh1.out.cell 0 rfl
  have c1_ := bh1.out.cell 1 rfl
  rcases hA with ⟨hn, v, rfl⟩ | ⟨hy, g, k, fk, fs, ffs, rfl, hP, hrw⟩
  · have H : Hid (¬ Live x hAt hGen) := fun r => hn r.1
    clear hn
    go_wp2_with fail
    go_ret3
    exact ⟨Or.inl ⟨H.out, _, _, rfl⟩, hB1⟩
  have hP' : Hid (PoolAt w1 w.heap.size g x.vSlots x.vFree k fk fs ffs) := by
    obtain ⟨h1, h2, h3, h4, h5, h6, h7⟩ := hP
    simp only [World.size_alloc] at h2 h5 h6
    exact ⟨h1, by omega, h3, h4, fun b r => by have := h5 b r; omega, fun b r => by have := h6 b r; omega, h7⟩
  have hn2 : x.vSlots.length ≤ 12 := hy.2.1
  have hy' : Hid (RightI x) := hy
  have hrw' : Hid (RowF w1 w.heap.size fk x.vFree g fs) := hrw.low hb0.size
  clear hP hy hrw
  by_cases hin : 0 ≤ hAt ∧ hAt < (x.vSlots.length : Int)
  · obtain ⟨hi0, hi1⟩ := hin
    have hq : hAt.toNat < x.vSlots.length := by omega
    go_wp2_with fail
    refine (slot_yes hP'.out hn2 hi0 hq).mono ?_
    rintro e w2 ⟨⟨b, off, cap, p, ek, z2, hB, rfl⟩, rfl⟩
    have ek' : Hid (k = .slice (some ⟨b, off, none⟩) x.vSlots.length cap) := ek
    have z2' : Hid (w2.cell? ⟨b, off + hAt.toNat, none⟩ = some (.pointer (some ⟨p, 0, none⟩))) := z2
    have hlive : Hid (Live x hAt hGen ↔ x.vSlots[hAt.toNat].vUsed = true ∧ x.vSlots[hAt.toNat].vGen = hGen) := ⟨fun r => by obtain ⟨_, _, _, r⟩ := r; exact r, fun r => ⟨hy'.out, hi0, hq, r⟩⟩
    clear ek z2
    generalize x.vSlots[hAt.toNat] = Y at hB hlive
    obtain ⟨G, U, D⟩ := Y
    dsimp only at hlive
    have z3 := hB.cell 0 rfl
    have z4 := hB.cell 1 rfl
    dsimp only [slotC] at z3 z4
    clear hB
    cases U with
    | false =>
      have H : Hid (¬ Live x hAt hGen) := fun r => by have := (hlive.out.1 r).1; cases this
      go_wp2_with fail
      refine wp_region_held_drew (S := fun w' => w'.cell? ⟨p, 0, none⟩ = some (.int .i64 G) ∧ w'.cell? ⟨p, 1, none⟩ = some (.bool false) ∧ w'.cell? ⟨w.heap.size + 1, 1, none⟩ = some (.int .i64 hGen)) (by kernel_rfl) (by refine ⟨?_, ?_, ?_⟩ <;> assumption) (fun hHeld => ?_)
      refine tq (i := 0) (d := 24) ?_
      simp only [sz, ss]
      refine tq (i := 1) (d := 25) ?_
      simp only [sz, ss]
      refine tq (i := 2) (d := 26) ?_
      simp only [sz, ss]
      refine tq (i := 3) (d := 27) ?_
      simp only [sz, ss]
      refine tq (i := 4) (d := 28) ?_
      simp only [sz, ss]
      refine tq (i := 5) (d := 29) ?_
      simp only [sz, ss]
      refine tq (i := 6) (d := 30) ?_
      simp only [sz, ss]
      refine tq (i := 7) (d := 31) ?_
      simp only [sz, ss]
      refine tq (i := 8) (d := 32) ?_
      simp only [sz, ss]
      refine tq (i := 9) (d := 33) ?_
      simp only [sz, ss]
      refine tn (i := 10) (d := 34) ?_
      simp only [sz, ss]
      refine tn (i := 11) (d := 35) ?_
      simp only [sz, ss]
      refine tn (i := 12) (d := 36) ?_
      simp only [sz, ss]
      refine tn (i := 13) (d := 37) ?_
      simp only [sz, ss]
      refine tn (i := 14) (d := 38) ?_
      simp only [sz, ss]
      refine tn (i := 15) (d := 39) ?_
      simp only [sz, ss]
      refine tn (i := 16) (d := 40) ?_
      simp only [sz, ss]
      refine tq (i := 17) (d := 41) ?_
      simp only [sz, ss]
      refine wpAnyH_done (by kernel_rfl) ?_ _
      go_wp2_with fail
      go_ret3
      exact ⟨Or.inl ⟨H.out, _, _, rfl⟩, hB1.drew⟩
    | true =>
      by_cases hg : G = hGen
      · subst hg
        have H : Hid (Live x hAt G) := hlive.out.2 ⟨rfl, rfl⟩
        go_wp2_with fail
        refine wp_region_held_drew (S := fun w' => w'.cell? ⟨p, 0, none⟩ = some (.int .i64 G) ∧ w'.cell? ⟨p, 1, none⟩ = some (.bool true) ∧ w'.cell? ⟨w.heap.size + 1, 1, none⟩ = some (.int .i64 G)) (by kernel_rfl) (by refine ⟨?_, ?_, ?_⟩ <;> assumption) (fun hHeld => ?_)
        refine tq (i := 0) (d := 24) ?_
        simp only [sz, ss]
        refine tq (i := 1) (d := 25) ?_
        simp only [sz, ss]
        refine tq (i := 2) (d := 26) ?_
        simp only [sz, ss]
        refine tq (i := 3) (d := 27) ?_
        simp only [sz, ss]
        refine tq (i := 4) (d := 28) ?_
        simp only [sz, ss]
        refine tq (i := 5) (d := 29) ?_
        simp only [sz, ss]
        refine tq (i := 6) (d := 30) ?_
        simp only [sz, ss]
        refine tq (i := 7) (d := 31) ?_
        simp only [sz, ss]
        refine tq (i := 8) (d := 32) ?_
        simp only [sz, ss]
        refine tq (i := 9) (d := 33) ?_
        simp only [sz, ss]
        refine tq (i := 10) (d := 34) ?_
        simp only [sz, ss]
        refine tq (i := 11) (d := 35) ?_
        simp only [sz, ss]
        refine tq (i := 12) (d := 36) ?_
        simp only [sz, ss]
        refine tq (i := 13) (d := 37) ?_
        simp only [sz, ss]
        refine tq (i := 14) (d := 38) ?_
        simp only [sz, ss]
        refine tq (i := 15) (d := 39) ?_
        simp only [sz, ss]
        refine tq (i := 16) (d := 40) ?_
        simp only [sz, ss]
        refine tq (i := 17) (d := 41) ?_
        simp only [sz, ss]
        refine wpAnyH_done (by kernel_rfl) ?_ _
        go_wp2_with fail
        go_ret3
        exact ⟨Or.inr ⟨H.out, g, k, fk, fs, ffs, b, off, cap, p, rfl, hP'.out.below (Below.refl _ _).drew, hrw'.out.below (Below.refl _ _).drew, ek'.out, z2'.out⟩, hB1.drew⟩
      · have H : Hid (¬ Live x hAt hGen) := fun r => hg (hlive.out.1 r).2
        have hg' : (G != hGen) = true := by simpa using hg
        go_wp2_with fail
        refine wp_region_held_drew (S := fun w' => w'.cell? ⟨p, 0, none⟩ = some (.int .i64 G) ∧ w'.cell? ⟨p, 1, none⟩ = some (.bool true) ∧ w'.cell? ⟨w.heap.size + 1, 1, none⟩ = some (.int .i64 hGen)) (by kernel_rfl) (by refine ⟨?_, ?_, ?_⟩ <;> assumption) (fun hHeld => ?_)
        refine tq (i := 0) (d := 24) ?_
        simp only [sz, ss]
        refine tq (i := 1) (d := 25) ?_
        simp only [sz, ss]
        refine tq (i := 2) (d := 26) ?_
        simp only [sz, ss]
        refine tq (i := 3) (d := 27) ?_
        simp only [sz, ss]
        refine tq (i := 4) (d := 28) ?_
        simp only [sz, ss]
        refine tq (i := 5) (d := 29) ?_
        simp only [sz, ss]
        refine tq (i := 6) (d := 30) ?_
        simp only [sz, ss]
        refine tq (i := 7) (d := 31) ?_
        simp only [sz, ss]
        refine tq (i := 8) (d := 32) ?_
        simp only [sz, ss]
        refine tq (i := 9) (d := 33) ?_
        simp only [sz, ss]
        refine tq (i := 10) (d := 34) ?_
        simp only [sz, ss]
        refine tq (i := 11) (d := 35) ?_
        simp only [sz, ss]
        refine tq (i := 12) (d := 36) ?_
        simp only [sz, ss]
        refine tq (i := 13) (d := 37) ?_
        simp only [sz, ss]
        refine tq (i := 14) (d := 38) ?_
        simp only [sz, ss]
        refine tq (i := 15) (d := 39) ?_
        simp only [sz, ss]
        refine tq (i := 16) (d := 40) ?_
        simp only [sz, ss]
        refine tq (i := 17) (d := 41) ?_
        simp only [sz, ss]
        refine wpAnyH_done (by kernel_rfl) ?_ _
        go_wp2_with fail
        go_ret3
        exact ⟨Or.inl ⟨H.out, _, _, rfl⟩, hB1.drew⟩
  · have H : Hid (¬ Live x hAt hGen) := fun r => hin ⟨r.2.1, by obtain ⟨_, _, r, _⟩ := r; omega⟩
    go_wp2_with fail
    refine (slot_no hP'.out hn2 hin).mono ?_
    rintro e w2 ⟨rfl, rfl⟩
    go_wp2_with fail
    refine wp_region_held_drew (S := fun w' => w'.cell? ⟨w.heap.size + 1, 1, none⟩ = some (.int .i64 hGen)) (by kernel_rfl) (by assumption) (fun hHeld => ?_)
    refine tq (i := 0) (d := 24) ?_
    simp only [sz, ss]
    refine tq (i := 1) (d := 25) ?_
    simp only [sz, ss]
    refine tq (i := 2) (d := 26) ?_
    simp only [sz, ss]
    refine tn (i := 3) (d := 27) ?_
    simp only [sz, ss]
    refine tn (i := 4) (d := 28) ?_
    simp only [sz, ss]
    refine tn (i := 5) (d := 29) ?_
    simp only [sz, ss]
    refine tn (i := 6) (d := 30) ?_
    simp only [sz, ss]
    refine tn (i := 7) (d := 31) ?_
    simp only [sz, ss]
    refine tq (i := 8) (d := 32) ?_
    simp only [sz, ss]
    refine tq (i := 9) (d := 33) ?_
    simp only [sz, ss]
    refine tn (i := 10) (d := 34) ?_
    simp only [sz, ss]
    refine tn (i := 11) (d := 35) ?_
    simp only [sz, ss]
    refine tn (i := 12) (d := 36) ?_
    simp only [sz, ss]
    refine tn (i := 13) (d := 37) ?_
    simp only [sz, ss]
    refine tn (i := 14) (d := 38) ?_
    simp only [sz, ss]
    refine tn (i := 15) (d := 39) ?_
    simp only [sz, ss]
    refine tn (i := 16) (d := 40) ?_
    simp only [sz, ss]
    refine tq (i := 17) (d := 41) ?_
    simp only [sz, ss]
    refine wpAnyH_done (by kernel_rfl) ?_ _
    go_wp2_with fail
    go_ret3
    exact ⟨Or.inl ⟨H.out, _, _, rfl⟩, hB1.drew⟩
end Go.Proofs.Ytcbomaflfjdmjaa
