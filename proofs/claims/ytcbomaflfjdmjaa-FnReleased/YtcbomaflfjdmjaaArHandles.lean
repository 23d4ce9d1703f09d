/- HandlesOf of the specification and of the program, walked. -/
import Derived.Test.YtcbomaflfjdmjaaArSpec
import Derived.Test.YtcbomaflfjdmjaaArRightTwo
import Derived.Test.YtcbomaflfjdmjaaArRows
import Derived.Test.YtcbomaflfjdmjaaAppendRows
namespace Go.Proofs.Ytcbomaflfjdmjaa
open Go.RowKit
/-- those that live, by rising place -/
def hs : List SlotD → Nat → List HandleD
  | [], _ => []
  | s :: r, i => (if s.vUsed then [⟨(i : Int), s.vGen⟩] else []) ++ hs r (i + 1)
theorem hs_snoc (xs : List SlotD) (s : SlotD) : ∀ i, hs (xs ++ [s]) i = hs xs i ++ (if s.vUsed then [⟨((i + xs.length : Nat) : Int), s.vGen⟩] else []) := by
  induction xs with
  | nil => intro i; cases hu : s.vUsed <;> simp [hs, hu]
  | cons y r ih =>
    intro i
    have e : i + 1 + r.length = i + (r.length + 1) := by omega
    simp [hs, ih, e, List.append_assoc]
theorem hs_take {xs : List SlotD} {j : Nat} (h : j < xs.length) : hs (xs.take (j + 1)) 0 = hs (xs.take j) 0 ++ (if xs[j].vUsed then [⟨(j : Int), xs[j].vGen⟩] else []) := by
  rw [List.take_succ_eq_append_getElem h, hs_snoc]
  have : (xs.take j).length = j := by simp; omega
  simp [this]
theorem hs_len (xs : List SlotD) : ∀ i, (hs xs i).length ≤ xs.length := by
  induction xs with
  | nil => intro i; simp [hs]
  | cons y r ih => intro i; have := ih (i + 1); cases hu : y.vUsed <;> simp [hs, hu] <;> omega
noncomputable def handlesD (x : ArenaD) : List HandleD := if rightB x then hs x.vSlots 0 else []
theorem handlesD_few (x : ArenaD) : (handlesD x).length ≤ 12 := by
  unfold handlesD
  cases h : rightB x with
  | false => simp
  | true => have h1 := (rightB_iff.1 h).2.1; have h2 := hs_len x.vSlots 0; simp; omega
theorem infoH2 : ∃ iT, Try.prog.info? 31 = some iT ∧ iT.zero = some (.agg #[.int .i64 0, .int .i64 0]) ∧ iT.size = 2 ∧ iT.bytes = 16 := by
  obtain ⟨iT, h, e⟩ := Option.map_eq_some_iff.1 (show ((Try.prog.info? 31).map fun i => (i.zero, i.size, i.bytes)) = some (some (.agg #[.int .i64 0, .int .i64 0]), 2, 16) by kernel_rfl)
  injection e with e1 e2
  injection e2 with e2 e3
  exact ⟨iT, h, e1, e2, e3⟩
theorem flat_snoc {bss : List (List Nat)} (h : bss.flatten = []) : (bss ++ [[]]).flatten = [] := by simp [h]
theorem grow_new {w : World} {B : Nat} (hB : B ≤ w.heap.size) : GrowOwn 31 2 HandleOwn B (w.alloc (.cells #[] 31)) (.slice (some ⟨w.heap.size, 0, none⟩) 0 0) ([] : List HandleD) [] [] :=
  ⟨rfl, rfl, by simp, ⟨by simp, Or.inr ⟨_, _, #[], rfl, hB, (MapKept.heap_alloc w _).1, Nat.le_refl _, Nat.zero_le _, by simp, by simp⟩⟩, fun i h => absurd h (by simp), by simp, by simp⟩
set_option maxRecDepth 100000 in
set_option maxHeartbeats 3000000 in
theorem specHandlesOf_any {w : World} {lo : Nat} {cs : List Value} {x : ArenaD} (hx : ArenaAt w lo cs x) :
    Calls Try.prog 14 #[.agg cs.toArray] w fun e w' => (∃ k fs, e = .returned k ∧ SeqOwn 2 HandleOwn w' k (handlesD x) fs ∧ fs.Nodup ∧ ∀ b ∈ fs, w.heap.size ≤ b) ∧ Below w.heap.size w w' := by
  have hx' : Hid (ArenaAt w lo cs x) := hx
  obtain ⟨k0, k1, rfl, s0, s1, _⟩ := hx
  obtain ⟨a0, c0, rfl, hm0, hx0⟩ := s0
  have hx0' : Hid _ := hx0
  obtain ⟨a1, c1, rfl⟩ := s1.form
  unfold maxLen at hm0
  clear hx0 s1
  obtain ⟨iH, hH0, hH1, hH2, hH3⟩ := infoH2
  have hiH : Hid (Try.prog.info? 31 = some iH) := hH0
  have heH : Hid (iH.zero = some (.agg #[.int .i64 0, .int .i64 0]) ∧ iH.size = 2 ∧ iH.bytes = 16) := ⟨hH1, hH2, hH3⟩
  clear hH0 hH1 hH2 hH3
  have hb0 : Below w.heap.size w ((w.alloc (.cells (List.toArray [.slice a0 x.vSlots.length c0, .slice a1 x.vFree.length c1]) 27)).alloc (.cells #[] 31)) := ((Below.refl _ _).alloc (Nat.le_refl _) _).alloc (by simp) _
  have bx0 : Hid (Box ((w.alloc (.cells (List.toArray [.slice a0 x.vSlots.length c0, .slice a1 x.vFree.length c1]) 27)).alloc (.cells #[] 31)) w.heap.size [.slice a0 x.vSlots.length c0, .slice a1 x.vFree.length c1] 27) := (Box.new w _ _).alloc _
  have hg0 : Hid (GrowOwn 31 2 HandleOwn (w.heap.size + 1) ((w.alloc (.cells (List.toArray [.slice a0 x.vSlots.length c0, .slice a1 x.vFree.length c1]) 27)).alloc (.cells #[] 31)) (.slice (some ⟨w.heap.size + 1, 0, none⟩) 0 0) (hs (x.vSlots.take 0) 0) [] []) := by
    have h5 := grow_new (w := (w.alloc (.cells (List.toArray [.slice a0 x.vSlots.length c0, .slice a1 x.vFree.length c1]) 27))) (B := w.heap.size + 1) (by simp)
    simpa [Hid, hs] using h5
  go_enter Try.func14, Try.ntmps14
  go_wp2_with fail
  go_loopw [3, 4] (fun v i wr => ∃ (j : Nat) (bss : List (List Nat)) (css : List (List Value)) (av : Option Addr) (HLn cv : Nat), j ≤ x.vSlots.length ∧ i = .int .i64 j ∧ v = .slice av HLn cv ∧ Hid ((hs (x.vSlots.take j) 0).length = HLn) ∧ Hid (rightB x = false → j = 0) ∧ Below w.heap.size w wr ∧ w.heap.size + 1 ≤ wr.heap.size ∧ Hid (Box wr w.heap.size [.slice a0 x.vSlots.length c0, .slice a1 x.vFree.length c1] 27) ∧ Hid (GrowOwn 31 2 HandleOwn (w.heap.size + 1) wr (.slice av HLn cv) (hs (x.vSlots.take j) 0) bss css) ∧ Hid (bss.flatten = [])) (fun _ i _ => x.vSlots.length - (intOf i).toNat)
  case atStart => exact ⟨0, _, _, _, _, _, by omega, rfl, rfl, (show Hid _ from rfl), (show Hid _ from fun _ => rfl), hb0, by simp, bx0, hg0, (show Hid _ from rfl)⟩
  case round =>
    obtain ⟨j, bss, css, av, HLn, cv, hj, rfl, rfl, hlen, hzeroH, hb, hsz, bx, hgr0, hfl⟩ := hrel
    have y0 := bx.out.cell 0 rfl
    have y1 := bx.out.cell 1 rfl
    have hxr : Hid (ArenaAt wr lo [.slice a0 x.vSlots.length c0, .slice a1 x.vFree.length c1] x) := ArenaAt_stays _ _ _ lo _ _ (.of_below hb) hx'.out
    go_wp2_with fail
    refine (specArenaOk_any hxr.out).mono ?_
    rintro e w1 ⟨rfl, hb1⟩
    have hB1 : Below w.heap.size w w1 := hb.trans (hb1.mono hb.size)
    have bx1 : Hid (Box w1 w.heap.size [.slice a0 x.vSlots.length c0, .slice a1 x.vFree.length c1] 27) := bx.out.below hb1 bx.out.lt
    have hgr : Hid (GrowOwn 31 2 HandleOwn (w.heap.size + 1) w1 (.slice av HLn cv) (hs (x.vSlots.take j) 0) bss css) := hgr0.out.below HandleOwn_stays hb1
    have hs1 : w.heap.size + 1 ≤ w1.heap.size := by have := hb1.size; omega
    have v0 := bx1.out.cell 0 rfl
    clear y0 y1 hgr0 bx hxr
    have hend : Hid (handlesD x = hs (x.vSlots.take j) 0 → ∃ fs, SeqOwn 2 HandleOwn w1 (.slice av HLn cv) (handlesD x) fs ∧ fs.Nodup ∧ ∀ b ∈ fs, w.heap.size ≤ b) := fun h => by
      obtain ⟨fs, h1, h2, _⟩ := hgr.out.flat hfl.out
      rw [h]
      exact ⟨fs, h1, h1.nodup, fun b m => by have := h2 b m; omega⟩
    cases hR : rightB x with
    | false =>
      have HE : Hid _ := hend.out (by unfold handlesD; rw [hR, hzeroH.out hR]; simp [hs])
      go_wp2_with fail
      go_ret
      obtain ⟨fs, h1, h2, h3⟩ := HE.out
      exact ⟨⟨_, fs, rfl, h1, h2, h3⟩, hB1⟩
    | true =>
    by_cases hlt : j < x.vSlots.length
    · have hn2 : x.vSlots.length ≤ 12 := (rightB_iff.1 hR).2.1
      have hlt' : (j : Int) < (x.vSlots.length : Int) := by omega
      have h0' : (0 : Int) ≤ (j : Int) := by omega
      have hln : HLn ≤ 12 := by have h1 := hs_len (x.vSlots.take j) 0; have h2 := List.length_take_le j x.vSlots; rw [← hlen.out]; omega
      obtain ⟨b, off, rfl, hlo, hbw, hc⟩ := hx0'.out (by omega)
      obtain ⟨cs, hcl, lie, hr⟩ := hc j hlt
      have lie1 := Lie.keep (lo := lo) (lo' := lo) lie (.of_below hB1) hlo hbw
      have htk : Hid _ := hs_take hlt
      generalize x.vSlots[j] = X at hr htk
      obtain ⟨rfl, rG, _⟩ := hr
      obtain ⟨G, U, D⟩ := X
      dsimp only at lie1 htk rG
      have hG : Hid (InI G) := rG
      have z0 := lie1 0 (by simp)
      have z1 := lie1 1 (by simp)
      simp only [List.getElem?_cons_zero, List.getElem?_cons_succ, Nat.add_zero] at z0 z1
      clear lie lie1 hcl hc rG
      cases U with
      | false =>
        simp at htk
        go_wp2_with fail
        go_roundw
        case rel => exact ⟨j + 1, bss, css, av, HLn, cv, by omega, by go_num, rfl, (show Hid _ from by rw [htk.out]; exact hlen.out), (show Hid _ from fun h => by rw [hR] at h; cases h), hB1, hs1, bx1, (show Hid _ from by rw [htk.out]; exact hgr.out), hfl⟩
        case measure => simp [intOf]; omega
      | true =>
        simp at htk
        have hJ : Hid (InI (j : Int)) := by show _ ∧ _; omega
        have nb : Hid (Box (w1.alloc (.cells #[.int .i64 (j : Int), .int .i64 G] 31)) w1.heap.size [.int .i64 (j : Int), .int .i64 G] 31) := Box.new w1 _ _
        have hbB : Below w1.heap.size w1 (w1.alloc (.cells #[.int .i64 (j : Int), .int .i64 G] 31)) := (Below.refl _ _).alloc (Nat.le_refl _) _
        have bxB : Hid (Box (w1.alloc (.cells #[.int .i64 (j : Int), .int .i64 G] 31)) w.heap.size _ _) := bx1.out.alloc _
        go_wp2_with (at_builtin; refine wpList_append_grow HandleOwn_stays rfl _ _ 34 rfl (w.heap.size + 1) iH _ _ Try.underlying34 hiH.out heH.out.1 heH.out.2.1 heH.out.2.2 rfl (by decide) (y := ⟨(j : Int), G⟩) (fs := []) (cs := [.int .i64 (j : Int), .int .i64 G]) (v := .slice av HLn cv) rfl hgr.out hbB (by omega) _ _ rfl rfl (by intro z u hz; match z, hz with | 0, hz => simp at hz; subst hz; exact nb.out.cell 0 rfl | 1, hz => simp at hz; subst hz; exact nb.out.cell 1 rfl) (by simp [Value.oneCell']) ⟨rfl, hJ.out, hG.out, rfl⟩ (by simp) (by simp) (by simp) (by rw [hlen.out]; unfold maxLen; omega) (by rw [hlen.out]; omega) ?_; intro g3 cap3 w3 hgr3 hg3 hb3; rw [hlen.out] at hgr3 ⊢; have hgr3h : Hid (GrowOwn 31 2 HandleOwn (w.heap.size + 1) w3 (.slice (some ⟨g3, 0, none⟩) (HLn + 1) cap3) (hs (x.vSlots.take j) 0 ++ [⟨(j : Int), G⟩]) (bss ++ [[]]) (css ++ [[.int .i64 (j : Int), .int .i64 G]])) := hgr3; have bx3 : Hid (Box w3 w.heap.size _ _) := (hb3.block _ (by omega)).trans bxB.out; have hB3 : Hid (Below w.heap.size w w3) := (hB1.trans (hbB.mono (by omega))).trans (hb3.mono (by omega)); have hs3 : w.heap.size + 1 ≤ w3.heap.size := Nat.le_trans (Nat.le_trans hs1 hbB.size) hb3.size; clear hgr3)
        go_roundw
        case rel => exact ⟨j + 1, _, _, _, _, _, by omega, by go_num, rfl, (show Hid _ from by show _ = _; rw [htk.out, List.length_append, hlen.out]; rfl), (show Hid _ from fun h => by rw [hR] at h; cases h), hB3.out, hs3, bx3, (show Hid _ from by rw [htk.out]; exact hgr3h.out), (show Hid _ from flat_snoc hfl.out)⟩
        case measure => simp [intOf]; omega
    · have hlt' : ¬ (j : Int) < (x.vSlots.length : Int) := by omega
      have HE : Hid _ := hend.out (by unfold handlesD; rw [hR, show j = x.vSlots.length by omega, List.take_of_length_le (Nat.le_refl _)]; rfl)
      go_wp2_with fail
      go_ret
      obtain ⟨fs, h1, h2, h3⟩ := HE.out
      exact ⟨⟨_, fs, rfl, h1, h2, h3⟩, hB1⟩
set_option maxRecDepth 100000 in
set_option maxHeartbeats 3000000 in
theorem implHandlesOf_any {w : World} {lo : Nat} {cs : List Value} {x : ArenaD} (hx : ArenaAt w lo cs x) :
    Calls Try.prog 11 #[.agg cs.toArray] w fun e w' => (∃ k fs, e = .returned k ∧ SeqOwn 2 HandleOwn w' k (handlesD x) fs ∧ fs.Nodup ∧ ∀ b ∈ fs, w.heap.size ≤ b) ∧ Below w.heap.size w w' := by
  have hx' : Hid (ArenaAt w lo cs x) := hx
  obtain ⟨k0, k1, rfl, s0, s1, _⟩ := hx
  obtain ⟨a0, c0, rfl, hm0, hx0⟩ := s0
  have hx0' : Hid _ := hx0
  obtain ⟨a1, c1, rfl⟩ := s1.form
  unfold maxLen at hm0
  clear hx0 s1
  obtain ⟨iH, hH0, hH1, hH2, hH3⟩ := infoH2
  have hiH : Hid (Try.prog.info? 31 = some iH) := hH0
  have heH : Hid (iH.zero = some (.agg #[.int .i64 0, .int .i64 0]) ∧ iH.size = 2 ∧ iH.bytes = 16) := ⟨hH1, hH2, hH3⟩
  clear hH0 hH1 hH2 hH3
  clear hx0' hm0
  have hb0 : Below w.heap.size w (w.alloc (.cells (List.toArray [.slice a0 x.vSlots.length c0, .slice a1 x.vFree.length c1]) 27)) := (Below.refl _ _).alloc (Nat.le_refl _) _
  have hxA : Hid (ArenaAt (w.alloc (.cells (List.toArray [.slice a0 x.vSlots.length c0, .slice a1 x.vFree.length c1]) 27)) lo [.slice a0 x.vSlots.length c0, .slice a1 x.vFree.length c1] x) := ArenaAt_stays _ _ _ lo _ _ (.of_below hb0) hx'.out
  go_enter Try.func11, Try.ntmps11
  go_wp2_with fail
  refine (rightPool_any hxA.out).mono ?_
  rintro e w1 ⟨hA, hb1⟩
  have hB1 : Below w.heap.size w w1 := hb0.trans (hb1.mono hb0.size)
  rcases hA with ⟨hn, v, rfl⟩ | ⟨hy0, g, k, fk, fs, ffs, rfl, hP⟩
  · have HD : Hid (handlesD x = []) := by show _ = _; unfold handlesD; rw [rightB_false hn]; rfl
    clear hn
    go_wp2_with fail
    go_ret
    exact ⟨⟨_, [], rfl, by rw [HD.out]; exact seqNil, List.nodup_nil, by simp⟩, hB1⟩
  have HD : Hid (handlesD x = hs x.vSlots 0) := by show _ = _; unfold handlesD; rw [rightB_true hy0]; rfl
  have hn2 : x.vSlots.length ≤ 12 := hy0.2.1
  have hP' : Hid (PoolAt w1 (w.alloc (.cells (List.toArray [.slice a0 x.vSlots.length c0, .slice a1 x.vFree.length c1]) 27)).heap.size g x.vSlots x.vFree k fk fs ffs) := hP
  obtain ⟨⟨a, cap, rfl⟩, a2, cap2, rfl⟩ := hP.form
  have hgc := hP.1.cell 0 rfl
  clear hP hy0
  go_wp2_with fail
  go_loopw [5, 20] (fun v i wr => ∃ (j : Nat) (bss : List (List Nat)) (css : List (List Value)) (av : Option Addr) (HLn cv : Nat), j ≤ x.vSlots.length ∧ i = .int .i64 j ∧ v = .slice av HLn cv ∧ Hid ((hs (x.vSlots.take j) 0).length = HLn) ∧ Below w1.heap.size w1 wr ∧ Hid (GrowOwn 31 2 HandleOwn w1.heap.size wr (.slice av HLn cv) (hs (x.vSlots.take j) 0) bss css) ∧ Hid (bss.flatten = [])) (fun _ i _ => x.vSlots.length - (intOf i).toNat)
  case atStart => exact ⟨0, [], [], _, _, _, by omega, rfl, rfl, (show Hid _ from rfl), Below.refl _ _, (show Hid _ from GrowOwn.nil), (show Hid _ from rfl)⟩
  case round =>
    obtain ⟨j, bss, css, av, HLn, cv, hj, rfl, rfl, hlen, hb, hgr, hfl⟩ := hrel
    have hsz := hb.size
    by_cases hlt : j < x.vSlots.length
    · have hPr := hP'.out.below hb
      obtain ⟨b, off, cap', p, e, z0, hBp, rG, _⟩ := hPr.slot hlt
      injection e with e1 _ e3
      subst e1 e3
      have hln : HLn ≤ 12 := by have h1 := hs_len (x.vSlots.take j) 0; have h2 := List.length_take_le j x.vSlots; rw [← hlen.out]; omega
      have htk : Hid _ := hs_take hlt
      generalize x.vSlots[j] = X at hBp rG htk
      obtain ⟨G, U, D⟩ := X
      dsimp only at htk rG
      have hG : Hid (InI G) := rG
      have z3 := hBp.cell 0 rfl
      have z4 := hBp.cell 1 rfl
      try dsimp only [slotC] at z3 z4
      clear hPr hBp rG
      cases U with
      | false =>
        simp at htk
        go_wp2_with fail
        go_roundw
        case rel => exact ⟨j + 1, bss, css, av, HLn, cv, by omega, by go_num, rfl, (show Hid _ from by rw [htk.out]; exact hlen.out), hb, (show Hid _ from by rw [htk.out]; exact hgr.out), hfl⟩
        case measure => simp [intOf]; omega
      | true =>
        simp at htk
        have hJ : Hid (InI (j : Int)) := by show _ ∧ _; omega
        have nb : Hid (Box (wr.alloc (.cells #[.int .i64 (j : Int), .int .i64 G] 31)) wr.heap.size [.int .i64 (j : Int), .int .i64 G] 31) := Box.new wr _ _
        have hbB : Below wr.heap.size wr (wr.alloc (.cells #[.int .i64 (j : Int), .int .i64 G] 31)) := (Below.refl _ _).alloc (Nat.le_refl _) _
        go_wp2_with (at_builtin; refine wpList_append_grow HandleOwn_stays rfl _ _ 34 rfl (w1.heap.size) iH _ _ Try.underlying34 hiH.out heH.out.1 heH.out.2.1 heH.out.2.2 rfl (by decide) (y := ⟨(j : Int), G⟩) (fs := []) (cs := [.int .i64 (j : Int), .int .i64 G]) (v := .slice av HLn cv) rfl hgr.out hbB (by omega) _ _ rfl rfl (by intro z u hz; match z, hz with | 0, hz => simp at hz; subst hz; exact nb.out.cell 0 rfl | 1, hz => simp at hz; subst hz; exact nb.out.cell 1 rfl) (by simp [Value.oneCell']) ⟨rfl, hJ.out, hG.out, rfl⟩ (by simp) (by simp) (by simp) (by rw [hlen.out]; unfold maxLen; omega) (by rw [hlen.out]; omega) ?_; intro g3 cap3 w3 hgr3 hg3 hb3; rw [hlen.out] at hgr3 ⊢; have hgr3h : Hid (GrowOwn 31 2 HandleOwn (w1.heap.size) w3 (.slice (some ⟨g3, 0, none⟩) (HLn + 1) cap3) (hs (x.vSlots.take j) 0 ++ [⟨(j : Int), G⟩]) (bss ++ [[]]) (css ++ [[.int .i64 (j : Int), .int .i64 G]])) := hgr3; have hB3 : Hid (Below w1.heap.size w1 w3) := (hb.trans (hbB.mono (by omega))).trans (hb3.mono (by omega)); clear hgr3)
        go_roundw
        case rel => exact ⟨j + 1, _, _, _, _, _, by omega, by go_num, rfl, (show Hid _ from by show _ = _; rw [htk.out, List.length_append, hlen.out]; rfl), hB3.out, (show Hid _ from by rw [htk.out]; exact hgr3h.out), (show Hid _ from flat_snoc hfl.out)⟩
        case measure => simp [intOf]; omega
    · have HE : Hid _ := hgr.out.flat hfl.out
      have ej : j = x.vSlots.length := by omega
      go_wp2_with fail
      go_ret
      obtain ⟨fs2, h1, h2, _⟩ := HE.out
      rw [ej, List.take_of_length_le (Nat.le_refl _)] at h1
      exact ⟨⟨_, fs2, rfl, by rw [HD.out]; exact h1, h1.nodup, fun b m => by have h3 := h2 b m; have h4 := hB1.size; omega⟩, hB1.trans (hb.mono hB1.size)⟩
end Go.Proofs.Ytcbomaflfjdmjaa
