/- The end of FnTagged: what is found, and each node's tag. -/
import Derived.Test.YtddhacalnfkopaaTaggedPlain
import Derived.Test.YtddhacalnfkopaaDrawPaths
import Derived.Deep.RegionHeld3
namespace Go.Proofs.Ytddhacalnfkopaa.fnTagged
open Go.RowKit Go.Deep
/-- the tree lies there, and in this block -/
def USt (A : Nat) (ta ka : Value) (xa : TD) (wr : World) : Prop := TreeAt wr 0 4 ta ka xa ∧ Box wr A [ta, ka] 33
theorem USt.below {A : Nat} {ta ka : Value} {xa : TD} {wr w' : World} (h : USt A ta ka xa wr) (hb : Below wr.heap.size wr w') : USt A ta ka xa w' := ⟨h.1.below hb, h.2.below hb h.2.lt⟩
theorem USt.cells {A : Nat} {ta ka : Value} {xa : TD} {wr : World} (h : USt A ta ka xa wr) : wr.cell? ⟨A, 0, none⟩ = some ta ∧ wr.cell? ⟨A, 1, none⟩ = some ka := ⟨h.2.cell 0 rfl, h.2.cell 1 rfl⟩
theorem ints_pick {w : World} {lo b o n cap : Nat} {xs : List (List Int)} (h : SeqAt 1 IntsAt w lo (.slice (some ⟨b, o, none⟩) n cap) xs) {i : Nat} (hi : i < xs.length) : b < w.heap.size ∧ ∃ k, w.cell? ⟨b, o + i, none⟩ = some k ∧ SeqAt 1 IntAt w lo k xs[i] := by
  obtain ⟨a, cap', e, hm, hx⟩ := h
  injection e with e1 e2 e3
  subst e1 e2 e3
  obtain ⟨b', o', e, h1, h2, hc⟩ := hx (by omega)
  injection e with e; injection e with e1 e2 _; subst e1 e2
  obtain ⟨cs, _, lie, k, rfl, hk⟩ := hc i hi
  have := lie 0 (by simp)
  simp only [List.getElem?_cons_zero, Nat.add_zero, Nat.mul_one] at this
  exact ⟨h2, k, this, hk⟩
theorem ints_form {w : World} {lo : Nat} {v : Value} {xs : List (List Int)} (h : SeqAt 1 IntsAt w lo v xs) (h0 : 0 < xs.length) : ∃ b o cap, v = .slice (some ⟨b, o, none⟩) xs.length cap := by
  obtain ⟨a, cap, rfl, hm, hx⟩ := h
  obtain ⟨b, o, rfl, _⟩ := hx h0
  exact ⟨b, o, cap, rfl⟩
theorem ba_inj {a b : ByteArray} (h : a.toList = b.toList) : a = b := by
  rw [ByteArray.toList_eq, ByteArray.toList_eq] at h
  obtain ⟨⟨l⟩⟩ := a
  obtain ⟨⟨m⟩⟩ := b
  simpa using h
theorem box_put {w : World} {g : Nat} {z0 z1 a b : Value} {T : TypeId} (h : Box w g [z0, z1] T) : Box (putCells w g 0 [a, b]) g [a, b] T := by
  have h1 := h.set (i := 0) a
  have h2 := h1.set (i := 1) b
  exact h2
theorem step_seq {w : World} {s : ByteArray} (hs : s.size ≤ maxLen) : SeqAt 2 StepAt (w.alloc (.cells #[.string s, .bool true] 54)) 0 (.slice (some ⟨w.heap.size, 0, none⟩) 1 1) [⟨s, true⟩] := by
  have hb : Box (w.alloc (.cells #[.string s, .bool true] 54)) w.heap.size [.string s, .bool true] 54 := Box.new w _ _
  refine ⟨_, _, rfl, ⟨by simp [maxLen], by simp⟩, fun _ => ⟨_, _, rfl, Nat.zero_le _, hb.lt, fun i hi => ⟨[.string s, .bool true], rfl, fun m hm => ?_, ?_⟩⟩⟩
  · have hi0 : i = 0 := by simpa using hi
    subst hi0
    match m, hm with
    | 0, _ => exact hb.cell 0 rfl
    | 1, _ => exact hb.cell 1 rfl
    | m + 2, hm => simp at hm; omega
  · have hi0 : i = 0 := by simpa using hi
    subst hi0
    exact ⟨rfl, hs, trivial⟩
/-- what stands behind so many pieces -/
def dropSeq : Nat → Code → Code
  | 0, c => c
  | k + 1, .seq _ b => dropSeq k b
  | _ + 1, c => c
noncomputable def codeAt (k : Nat) : Code := dropSeq k (Try.f8.body.getD .skip)
set_option maxRecDepth 100000 in
set_option maxHeartbeats 8000000 in
theorem tail_any {w0 wc : World} {A ba oa capa : Nat} {aa : Option Addr} {ca : Nat} {xa : TD} {x0 x1 x2 y10 y11 y12 y13 y14 y15 y16 y17 y18 y19 y20 y21 y22 y23 y24 y25 : Value} (hok : Hid (okB (szD 4 xa 30) = true)) (hG : Hid (USt A (.string (strT xa)) (.slice aa (kidsOf xa).length ca) xa wc)) (hall : Hid (SeqAt 1 IntsAt wc 0 (.slice (some ⟨ba, oa, none⟩) (pathsD 4 xa []).length capa) (pathsD 4 xa []))) (hB : Hid (Below w0.heap.size w0 wc)) :
    Code.wp Try.prog (codeAt 5) (bodyPost Try.prog Try.f8 fun e w' => e = .returned (.bool true) ∧ Below w0.heap.size w0 w') ⟨#[x0, x1, x2, .pointer (some ⟨A, 0, none⟩), (.slice (some ⟨ba, oa, none⟩) (pathsD 4 xa []).length capa), undef, undef, undef, undef, undef, y10, y11, y12, y13, y14, y15, y16, y17, y18, y19, y20, y21, y22, y23, y24, y25, undef, undef, undef, undef, undef, undef, undef, undef, undef, undef, undef, undef, undef, undef, undef, undef, undef, undef, undef, undef, undef, undef, undef, undef, undef, undef, undef, undef, undef, undef, undef, undef, undef, undef, undef, undef, undef, undef, undef, undef, undef, undef, undef, undef, undef, undef, undef], []⟩ wc := by
  conv => arg 2; whnf
  obtain ⟨a0, a1⟩ := USt.cells hG.out
  have hnm : Hid (nameB (strT xa).data.toList = true) := by show _ = _; have := tag_right hok.out; simpa [strT] using this
  have hsm : Hid ((strT xa).size ≤ maxLen) := hG.out.1.tag.2
  go_wp2_with fail
  have hbS : Hid (Below wc.heap.size wc (wc.alloc (.cells #[.string (strT xa), .bool true] 54))) := (Below.refl _ _).alloc (Nat.le_refl _) _
  refine (implFindAll_any (n := 4) (by exact hG.out.1.below hbS.out) (by exact step_seq hsm.out)).mono ?_
  rintro e w1 ⟨⟨vf, fs, rfl, hs, _, _⟩, hb1⟩
  rw [hok.out, find_one hnm.out] at hs
  have hafs : Hid (SeqAt 1 IntsAt w1 0 vf ((pathsD 4 xa []).filter (hasT xa))) := hs.at IntsOwn_at (fun _ _ => Nat.zero_le _)
  have hbb : Below wc.heap.size wc w1 := hbS.out.trans (hb1.mono hbS.out.size)
  have hG1 : Hid (USt A (.string (strT xa)) (.slice aa (kidsOf xa).length ca) xa w1) := hG.out.below hbb
  have hal1 : Hid (SeqAt 1 IntsAt w1 0 (.slice (some ⟨ba, oa, none⟩) (pathsD 4 xa []).length capa) (pathsD 4 xa [])) := hall.out.below IntsAt_stays hbb
  have hB1 : Hid (Below w0.heap.size w0 w1) := hB.out.trans (hbb.mono hB.out.size)
  clear hs hb1 hbb hG hB a0 a1 hbS hall
  obtain ⟨fr, hfr⟩ := find_first 3 xa
  have hfr' : Hid (((pathsD 4 xa []).filter (hasT xa)) = [] :: fr) := hfr
  clear hfr
  obtain ⟨bf, of, capf, rfl⟩ := ints_form hafs.out (by rw [hfr'.out]; simp)
  have hL30 : (pathsD 4 xa []).length ≤ 30 := by rw [pathsD_len]; exact (right_of_ok hok.out).cntT 4
  go_wp2_with fail
  go_loopw [6, 7] (fun many i wr => ∃ (j : Nat), j ≤ (pathsD 4 xa []).length ∧ i = .int .i64 j ∧ many = .int .i64 (cntJ 4 xa j : Nat) ∧ Hid (USt A (.string (strT xa)) (.slice aa (kidsOf xa).length ca) xa wr) ∧ Hid (SeqAt 1 IntsAt wr 0 (.slice (some ⟨ba, oa, none⟩) (pathsD 4 xa []).length capa) (pathsD 4 xa [])) ∧ Hid (SeqAt 1 IntsAt wr 0 (.slice (some ⟨bf, of, none⟩) ((pathsD 4 xa []).filter (hasT xa)).length capf) ((pathsD 4 xa []).filter (hasT xa))) ∧ Hid (Below w0.heap.size w0 wr)) (fun _ i _ => (pathsD 4 xa []).length - (intOf i).toNat)
  case atStart => exact ⟨0, Nat.zero_le _, rfl, rfl, hG1, hal1, hafs, hB1⟩
  case round =>
    obtain ⟨j, hj, rfl, rfl, hGr, halr, hafr, hBr⟩ := hrel
    obtain ⟨a0, a1⟩ := USt.cells hGr.out
    by_cases hlt : j < (pathsD 4 xa []).length
    · obtain ⟨hbp, kP, cP, hP⟩ := ints_pick halr.out hlt
      have hstep : Hid (cntJ 4 xa (j + 1) = cntJ 4 xa j + (if hasT xa (pathsD 4 xa [])[j] = true then 1 else 0)) := cntJ_step hlt
      have hcl := cntJ_le 4 xa j
      have hoP : Hid (okP xa (pathsD 4 xa [])[j] = true) := by obtain ⟨r, e1, e2⟩ := pathsD_ok 4 xa [] _ (List.getElem_mem hlt); rw [List.nil_append] at e1; rw [e1]; exact e2
      have hql : Hid ((pathsD 4 xa [])[j].length ≤ 1048576) := by show _ ≤ _; have := pathsD_deep 4 xa [] _ (List.getElem_mem hlt); simp at this; omega
      generalize (pathsD 4 xa [])[j] = P at hP hstep hoP hql
      obtain ⟨ap, cp, rfl⟩ := hP.form
      have hlt' : (j : Int) < ((pathsD 4 xa []).length : Int) := by omega
      have hj0 : (0 : Int) ≤ (j : Int) := by omega
      go_wp2_with fail
      have hGd : Hid (USt A (.string (strT xa)) (.slice aa (kidsOf xa).length ca) xa wr.drew) := hGr.out.below (Below.drew (Below.refl _ _))
      have hPd : Hid (SeqAt 1 IntAt wr.drew 0 (.slice ap P.length cp) P) := hP.below intAt_stays (Below.drew (Below.refl _ _))
      obtain ⟨q0, q1⟩ := USt.cells hGd.out
      have q2 : wr.drew.cell? ⟨ba, oa + j, none⟩ = some (.slice ap P.length cp) := cP
      clear hP a0 a1 cP
      refine wp_region_held_drew (S := fun w' => w'.cell? ⟨A, 0, none⟩ = some (.string (strT xa)) ∧ w'.cell? ⟨A, 1, none⟩ = some (.slice aa (kidsOf xa).length ca) ∧ w'.cell? ⟨ba, oa + j, none⟩ = some (.slice ap P.length cp)) (by kernel_rfl) ⟨q0, q1, q2⟩ (fun hHeld => ?_)
      refine take_lit (i := 0) (d := 43) (v := ?_) rfl rfl (by kernel_rfl) (by kernel_rfl) (by kernel_rfl) (fun _ _ _ h => h) (Or.inl ⟨by rfl, ?_⟩) (by assumption) ?_
      rotate_left
      · (intro w hSw; (try dsimp only at hSw); first | (go_simp; done) | (go_simp; with_reducible rfl))
      simp only [List.set_cons_zero, List.set_cons_succ]
      refine take_lit (i := 1) (d := 44) (v := ?_) rfl rfl (by kernel_rfl) (by kernel_rfl) (by kernel_rfl) (fun _ _ _ h => h) (Or.inl ⟨by rfl, ?_⟩) (by assumption) ?_
      rotate_left
      · (intro w hSw; (try dsimp only at hSw); first | (go_simp; done) | (go_simp; with_reducible rfl))
      simp only [List.set_cons_zero, List.set_cons_succ]
      refine take_lit (i := 2) (d := 45) (v := ?_) rfl rfl (by kernel_rfl) (by kernel_rfl) (by kernel_rfl) (fun _ _ _ h => h) (Or.inl ⟨by rfl, ?_⟩) (by assumption) ?_
      rotate_left
      · (intro w hSw; (try dsimp only at hSw); first | (go_simp; done) | (go_simp; with_reducible rfl))
      simp only [List.set_cons_zero, List.set_cons_succ]
      refine take_lit (i := 3) (d := 46) (v := ?_) rfl rfl (by kernel_rfl) (by kernel_rfl) (by kernel_rfl) (fun _ _ _ h => h) (Or.inl ⟨by rfl, ?_⟩) (by assumption) ?_
      rotate_left
      · (intro w hSw; (try dsimp only at hSw); first | (go_simp; done) | (go_simp; with_reducible rfl))
      simp only [List.set_cons_zero, List.set_cons_succ]
      refine take_lit (i := 4) (d := 47) (v := ?_) rfl rfl (by kernel_rfl) (by kernel_rfl) (by kernel_rfl) (fun _ _ _ h => h) (Or.inl ⟨by rfl, ?_⟩) (by assumption) ?_
      rotate_left
      · (intro w hSw; (try dsimp only at hSw); first | (go_simp; done) | (go_simp; with_reducible rfl))
      simp only [List.set_cons_zero, List.set_cons_succ]
      refine wpAnyH_ready (rs := [5, 9]) (by kernel_rfl) (by simp) ?_
      refine (AllReadyH.cons rfl (fun K hK => ?_) (AllReadyH.cons rfl (fun K hK => ?_) AllReadyH.nil))
      · go_simp
        refine (implAt_any (n := 4) (by exact hGd.out.1) (by exact hPd.out) hql.out).mono ?_
        rintro e w2 ⟨⟨cs, fs, rfl, hO, _, _⟩, hb2⟩
        rw [hok.out, atD_yes rfl hoP.out] at hO
        obtain ⟨k1, rfl, hks, _⟩ := hO.opened
        obtain ⟨a5, c5, rfl⟩ := hks.form
        rw [hok.out, atD_yes rfl hoP.out]
        have hB2 : Hid (Below wr.drew.heap.size wr.drew w2) := hb2
        clear hks hO
        refine hK.out _ _ ⟨cell_on hB2.out q0, cell_on hB2.out q1, cell_on hB2.out q2⟩ (fun hHeld => ?_)
        clear hK K
        refine take_lit (i := 6) (d := 42) (v := ?_) rfl rfl (by kernel_rfl) (by kernel_rfl) (by kernel_rfl) (fun _ _ _ h => h) (Or.inl ⟨by rfl, ?_⟩) (by assumption) ?_
        rotate_left
        · (intro w hSw; (try dsimp only at hSw); first | (go_simp; done) | (go_simp; with_reducible rfl))
        simp only [List.set_cons_zero, List.set_cons_succ]
        refine take_lit (i := 7) (d := 49) (v := ?_) rfl rfl (by kernel_rfl) (by kernel_rfl) (by kernel_rfl) (fun _ _ _ h => h) (Or.inl ⟨by rfl, ?_⟩) (by assumption) ?_
        rotate_left
        · (intro w hSw; (try dsimp only at hSw); first | (go_simp; done) | (go_simp; with_reducible rfl))
        simp only [List.set_cons_zero, List.set_cons_succ]
        refine take_lit (i := 8) (d := 50) (v := ?_) rfl rfl (by kernel_rfl) (by kernel_rfl) (by kernel_rfl) (fun _ _ _ h => h) (Or.inl ⟨by rfl, ?_⟩) (by assumption) ?_
        rotate_left
        · (intro w hSw; (try dsimp only at hSw); first | (go_simp; done) | (go_simp; with_reducible rfl))
        simp only [List.set_cons_zero, List.set_cons_succ]
        refine wpAnyH_ready (rs := [9]) (by kernel_rfl) (by simp) ?_
        refine AllReadyH.cons rfl (fun K hK => ?_) AllReadyH.nil
        go_simp
        have hB3 : Hid (Below wr.drew.heap.size wr.drew (w2.alloc (.cells #[.string ⟨#[]⟩, .slice none 0 0] 33))) := hB2.out.alloc hB2.out.size _
        have bX2 : Hid (Box (w2.alloc (.cells #[.string ⟨#[]⟩, .slice none 0 0] 33)) w2.heap.size [.string ⟨#[]⟩, .slice none 0 0] 33) := Box.new w2 _ _
        refine hK.out _ _ ⟨cell_on hB3.out q0, cell_on hB3.out q1, cell_on hB3.out q2⟩ (fun hHeld => ?_)
        clear hK K
        refine wpAnyH_ready (rs := [10]) (by kernel_rfl) (by simp) ?_
        refine AllReadyH.cons rfl (fun K hK => ?_) AllReadyH.nil
        have hB4 : Hid (Below wr.drew.heap.size wr.drew (w2.alloc (.cells #[.string (strT (endP xa P)), .slice a5 (kidsOf (endP xa P)).length c5] 33))) := hB2.out.alloc hB2.out.size _
        have bX4 : Hid (Box (w2.alloc (.cells #[.string (strT (endP xa P)), .slice a5 (kidsOf (endP xa P)).length c5] 33)) (w2.heap.size) [.string (strT (endP xa P)), .slice a5 (kidsOf (endP xa P)).length c5] 33) := Box.new w2 _ _
        go_simp
        refine hK.out _ _ ⟨cell_on hB4.out q0, cell_on hB4.out q1, cell_on hB4.out q2⟩ (fun hHeld => ?_)
        clear hK K
        refine take_lit (i := 11) (d := 9) (v := ?_) rfl rfl (by kernel_rfl) (by kernel_rfl) (by kernel_rfl) (fun _ _ _ h => h) (Or.inl ⟨by rfl, ?_⟩) (by assumption) ?_
        rotate_left
        · (intro w hSw; (try dsimp only at hSw); first | (go_simp; done) | (go_simp; with_reducible rfl))
        simp only [List.set_cons_zero, List.set_cons_succ]
        refine wpAnyH_done (by kernel_rfl) ?_ _
        have hBz : Hid (Below wr.heap.size wr _) := undrew hB4.out
        have m0 := bX4.out.cell 0 rfl
        have hGz : Hid (USt A (.string (strT xa)) (.slice aa (kidsOf xa).length ca) xa _) := hGr.out.below hBz.out
        obtain ⟨n0, n1⟩ := USt.cells hGz.out
        rcases two_b3 (hasT xa P) with hh | hh
        · have hne : ¬ strT (endP xa P) = strT xa := by simpa [hasT] using hh
          have hne1 : (strT (endP xa P)).toList ≠ (strT xa).toList := fun e => hne (ba_inj e)
          have hne2 : ((strT (endP xa P)).toList == (strT xa).toList) = false := by simpa using hne1
          have hcs := hstep.out
          rw [if_neg (by rw [hh]; simp)] at hcs
          go_wp2_with fail
          go_roundw
          case rel => exact ⟨j + 1, by omega, by go_num, by show Value.int .i64 _ = _; rw [hcs]; rfl, hGz, halr.out.below IntsAt_stays hBz.out, hafr.out.below IntsAt_stays hBz.out, hBr.out.trans (hBz.out.mono hBr.out.size)⟩
          case measure => simp [intOf]; omega
        · have heq : Hid (strT (endP xa P) = strT xa) := by show _ = _; simpa [hasT] using hh
          have he2 : ((strT (endP xa P)).toList == (strT xa).toList) = true := by rw [heq.out]; simp
          have he3 : (strT (endP xa P)).toList = (strT xa).toList := by rw [heq.out]
          have hcs := hstep.out
          rw [if_pos hh] at hcs
          go_wp2_with fail
          go_roundw
          case rel => exact ⟨j + 1, by omega, by go_num, by rw [hcs]; go_num, hGz, halr.out.below IntsAt_stays hBz.out, hafr.out.below IntsAt_stays hBz.out, hBr.out.trans (hBz.out.mono hBr.out.size)⟩
          case measure => simp [intOf]; omega
      · go_simp
        have hbX : Hid (Below wr.drew.heap.size wr.drew (wr.drew.alloc (.cells #[.string ⟨#[]⟩, .slice none 0 0] 33))) := (Below.refl _ _).alloc (Nat.le_refl _) _
        have bX : Hid (Box (wr.drew.alloc (.cells #[.string ⟨#[]⟩, .slice none 0 0] 33)) wr.heap.size [.string ⟨#[]⟩, .slice none 0 0] 33) := Box.new wr.drew _ _
        refine hK.out _ _ ⟨cell_on hbX.out q0, cell_on hbX.out q1, cell_on hbX.out q2⟩ (fun hHeld => ?_)
        clear hK K
        refine wpAnyH_ready (rs := [5]) (by kernel_rfl) (by simp) ?_
        refine AllReadyH.cons rfl (fun K hK => ?_) AllReadyH.nil
        go_simp
        refine (implAt_any (n := 4) (by exact (hGd.out.1.below hbX.out)) (by exact (hPd.out.below intAt_stays hbX.out)) hql.out).mono ?_
        rintro e w2 ⟨⟨cs, fs, rfl, hO, _, _⟩, hb2⟩
        rw [hok.out, atD_yes rfl hoP.out] at hO
        obtain ⟨k1, rfl, hks, _⟩ := hO.opened
        obtain ⟨a5, c5, rfl⟩ := hks.form
        rw [hok.out, atD_yes rfl hoP.out]
        have hB2 : Hid (Below wr.drew.heap.size wr.drew w2) := hbX.out.trans (hb2.mono hbX.out.size)
        have bX2 : Hid (Box w2 wr.heap.size [.string ⟨#[]⟩, .slice none 0 0] 33) := bX.out.below hb2 bX.out.lt
        clear hks hO
        refine hK.out _ _ ⟨cell_on hB2.out q0, cell_on hB2.out q1, cell_on hB2.out q2⟩ (fun hHeld => ?_)
        clear hK K
        refine take_lit (i := 6) (d := 42) (v := ?_) rfl rfl (by kernel_rfl) (by kernel_rfl) (by kernel_rfl) (fun _ _ _ h => h) (Or.inl ⟨by rfl, ?_⟩) (by assumption) ?_
        rotate_left
        · (intro w hSw; (try dsimp only at hSw); first | (go_simp; done) | (go_simp; with_reducible rfl))
        simp only [List.set_cons_zero, List.set_cons_succ]
        refine take_lit (i := 7) (d := 49) (v := ?_) rfl rfl (by kernel_rfl) (by kernel_rfl) (by kernel_rfl) (fun _ _ _ h => h) (Or.inl ⟨by rfl, ?_⟩) (by assumption) ?_
        rotate_left
        · (intro w hSw; (try dsimp only at hSw); first | (go_simp; done) | (go_simp; with_reducible rfl))
        simp only [List.set_cons_zero, List.set_cons_succ]
        refine take_lit (i := 8) (d := 50) (v := ?_) rfl rfl (by kernel_rfl) (by kernel_rfl) (by kernel_rfl) (fun _ _ _ h => h) (Or.inl ⟨by rfl, ?_⟩) (by assumption) ?_
        rotate_left
        · (intro w hSw; (try dsimp only at hSw); first | (go_simp; done) | (go_simp; with_reducible rfl))
        simp only [List.set_cons_zero, List.set_cons_succ]
        refine wpAnyH_ready (rs := [10]) (by kernel_rfl) (by simp) ?_
        refine AllReadyH.cons rfl (fun K hK => ?_) AllReadyH.nil
        have f0 := bX2.out.unfrozen
        have g0 := bX2.out.cell 0 rfl
        have g1 := bX2.out.cell 1 rfl
        have hB4 : Hid (Below wr.drew.heap.size wr.drew (putCells w2 (wr.heap.size) 0 [.string (strT (endP xa P)), .slice a5 (kidsOf (endP xa P)).length c5])) := putCells_below [.string (strT (endP xa P)), .slice a5 (kidsOf (endP xa P)).length c5] _ _ _ (wr.heap.size) 0 (Nat.le_refl _) hB2.out
        have bX4 : Hid (Box (putCells w2 (wr.heap.size) 0 [.string (strT (endP xa P)), .slice a5 (kidsOf (endP xa P)).length c5]) (wr.heap.size) [.string (strT (endP xa P)), .slice a5 (kidsOf (endP xa P)).length c5] 33) := box_put bX2.out
        go_simp
        refine hK.out _ _ ⟨cell_on hB4.out q0, cell_on hB4.out q1, cell_on hB4.out q2⟩ (fun hHeld => ?_)
        clear hK K
        refine take_lit (i := 11) (d := 9) (v := ?_) rfl rfl (by kernel_rfl) (by kernel_rfl) (by kernel_rfl) (fun _ _ _ h => h) (Or.inl ⟨by rfl, ?_⟩) (by assumption) ?_
        rotate_left
        · (intro w hSw; (try dsimp only at hSw); first | (go_simp; done) | (go_simp; with_reducible rfl))
        simp only [List.set_cons_zero, List.set_cons_succ]
        refine wpAnyH_done (by kernel_rfl) ?_ _
        have hBz : Hid (Below wr.heap.size wr _) := undrew hB4.out
        have m0 := bX4.out.cell 0 rfl
        have hGz : Hid (USt A (.string (strT xa)) (.slice aa (kidsOf xa).length ca) xa _) := hGr.out.below hBz.out
        obtain ⟨n0, n1⟩ := USt.cells hGz.out
        rcases two_b3 (hasT xa P) with hh | hh
        · have hne : ¬ strT (endP xa P) = strT xa := by simpa [hasT] using hh
          have hne1 : (strT (endP xa P)).toList ≠ (strT xa).toList := fun e => hne (ba_inj e)
          have hne2 : ((strT (endP xa P)).toList == (strT xa).toList) = false := by simpa using hne1
          have hcs := hstep.out
          rw [if_neg (by rw [hh]; simp)] at hcs
          go_wp2_with fail
          go_roundw
          case rel => exact ⟨j + 1, by omega, by go_num, by show Value.int .i64 _ = _; rw [hcs]; rfl, hGz, halr.out.below IntsAt_stays hBz.out, hafr.out.below IntsAt_stays hBz.out, hBr.out.trans (hBz.out.mono hBr.out.size)⟩
          case measure => simp [intOf]; omega
        · have heq : Hid (strT (endP xa P) = strT xa) := by show _ = _; simpa [hasT] using hh
          have he2 : ((strT (endP xa P)).toList == (strT xa).toList) = true := by rw [heq.out]; simp
          have he3 : (strT (endP xa P)).toList = (strT xa).toList := by rw [heq.out]
          have hcs := hstep.out
          rw [if_pos hh] at hcs
          go_wp2_with fail
          go_roundw
          case rel => exact ⟨j + 1, by omega, by go_num, by rw [hcs]; go_num, hGz, halr.out.below IntsAt_stays hBz.out, hafr.out.below IntsAt_stays hBz.out, hBr.out.trans (hBz.out.mono hBr.out.size)⟩
          case measure => simp [intOf]; omega
    · obtain rfl : j = (pathsD 4 xa []).length := by omega
      obtain ⟨_, k0, c0, hk0⟩ := ints_pick hafr.out (i := 0) (by rw [hfr'.out]; simp)
      have hf0 : ((pathsD 4 xa []).filter (hasT xa))[0]'(by rw [hfr'.out]; simp) = [] := by simp [hfr'.out]
      rw [hf0] at hk0
      obtain ⟨a9, c9, rfl⟩ := hk0.form
      have hcnt : Hid (cntJ 4 xa (pathsD 4 xa []).length = ((pathsD 4 xa []).filter (hasT xa)).length) := by show _ = _; unfold cntJ; rw [List.take_length]
      have hpos : 0 < ((pathsD 4 xa []).filter (hasT xa)).length := by rw [hfr'.out]; simp
      rw [hcnt.out]
      have hpos' : (0 : Int) < (((pathsD 4 xa []).filter (hasT xa)).length : Int) := by omega
      simp only [Nat.add_zero, List.length_nil] at c0
      clear hk0 hf0
      go_wp2_with fail
      go_ret
      exact ⟨by first | rfl | simp, hBr.out⟩
end Go.Proofs.Ytddhacalnfkopaa.fnTagged
