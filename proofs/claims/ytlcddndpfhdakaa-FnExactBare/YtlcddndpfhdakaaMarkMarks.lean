/- Marks and what is held of a Mark: the walks of the laws' functions, level by level. -/
import Derived.Test.YtlcddndpfhdakaaMarkOwn
import Derived.Test.YtlcddndpfhdakaaOwnFill
import Derived.Test.YtlcddndpfhdakaaMarks
import Derived.Test.YtlcddndpfhdakaaTakeLit
import Derived.Deep.RegionHeld3
import Derived.WalkKit
namespace Go.Proofs.Ytlcddndpfhdakaa
open Go.RowKit
def cntAttr (_ : AttrD) : Nat := 1 + 1
def mkAttr (_ : AttrD) (m : Int) : AttrD := { vName := markT (m), vValue := markT (m + 1) }
def cntMark : Nat → MarkD → Nat
  | 0, _ => 0
  | n + 1, x => 1 + 1 + cntL cntAttr x.vAttrs + cntL (cntMark n) x.vKids
def mkMark : Nat → MarkD → Int → MarkD
  | 0, x, _ => x
  | n + 1, x, m => MarkD.mk (markT (m)) (markT (m + 1)) (mkL cntAttr mkAttr x.vAttrs (m + 1 + 1)) (mkL (cntMark n) (mkMark n) x.vKids (m + 1 + 1 + (cntL cntAttr x.vAttrs : Nat)))
def mkTMark (n : Nat) (x : MarkD) (m : Int) : MarkD := MarkD.mk x.vTag x.vText (mkL cntAttr mkAttr x.vAttrs (m)) (mkL (cntMark n) (mkMark n) x.vKids (m + (cntL cntAttr x.vAttrs : Nat)))
theorem MarkOwn_mk {n : Nat} {w : World} {s t : ByteArray} {l : List AttrD} {ks : List MarkD} {k2 k3 : Value} {f2 f3 : List Nat} (h2 : SeqOwn 2 AttrOwn w k2 l f2) (h3 : SeqOwn 4 (MarkOwn n) w k3 ks f3) (r1 : s.size ≤ maxLen) (r2 : t.size ≤ maxLen) : MarkOwn (n + 1) w [.string s, .string t, k2, k3] (MarkD.mk s t l ks) (f2 ++ f3) :=
  ⟨k2, k3, f2, f3, by rw [MarkD.mk_tag, MarkD.mk_text], by rw [MarkD.mk_attrs]; exact h2, by rw [MarkD.mk_kids]; exact h3, by rw [MarkD.mk_tag]; exact r1, by rw [MarkD.mk_text]; exact r2, rfl⟩
theorem MarkAt_of_mk {n : Nat} {w : World} {lo : Nat} {cs : List Value} {s t : ByteArray} {l : List AttrD} {ks : List MarkD} (h : MarkAt (n + 1) w lo cs (MarkD.mk s t l ks)) : ∃ k2 k3 : Value, cs = [.string s, .string t, k2, k3] ∧ SeqAt 2 AttrAt w lo k2 l ∧ SeqAt 4 (MarkAt n) w lo k3 ks ∧ True := by
  obtain ⟨k2, k3, e, h2, h3, _⟩ := h
  rw [MarkD.mk_tag, MarkD.mk_text] at e
  rw [MarkD.mk_attrs] at h2
  rw [MarkD.mk_kids] at h3
  exact ⟨k2, k3, e, h2, h3, trivial⟩
theorem lie_at3 {w : World} {b o : Nat} {cs : List Value} (h : Lie w b o cs) (m : Nat) {v : Value} (e : cs[m]? = some v) : w.cell? ⟨b, o + m, none⟩ = some v := by
  have hm : m < cs.length := by
    rcases Nat.lt_or_ge m cs.length with h | h
    · exact h
    · rw [List.getElem?_eq_none h] at e; cases e
  rw [h m hm]; exact e
theorem seqOwnM_zero {w : World} {k : Value} {xs : List MarkD} {fs : List Nat} (h : SeqOwn 4 (MarkOwn 0) w k xs fs) : xs = [] := by
  obtain ⟨a, cap, _, _, h⟩ := h
  rcases h with ⟨h, _⟩ | ⟨b, off, _, C, T, bss, _, _, hl, _, _, h6⟩
  · exact List.length_eq_zero_iff.1 h
  · rcases Nat.eq_zero_or_pos xs.length with e | e
    · exact List.length_eq_zero_iff.1 e
    · obtain ⟨_, _, _, hf⟩ := h6 0 e (by omega)
      exact hf.elim
theorem seqAtM_zero {w : World} {lo : Nat} {k : Value} {xs : List MarkD} (h : SeqAt 4 (MarkAt 0) w lo k xs) : xs = [] := by
  obtain ⟨a, cap, _, _, h⟩ := h
  rcases Nat.eq_zero_or_pos xs.length with e | e
  · exact List.length_eq_zero_iff.1 e
  · obtain ⟨b, off, _, _, _, h6⟩ := h e
    obtain ⟨_, _, _, hf⟩ := h6 0 e
    exact hf.elim
set_option maxRecDepth 100000 in
set_option maxHeartbeats 3200000 in
theorem markAttrS_any {w : World} {k : Value} {xs : List AttrD} {fs : List Nat} {m : Int} (hk : SeqOwn 2 AttrOwn w k xs fs) (h0 : 0 ≤ m) (h1 : m + (cntL cntAttr xs : Nat) ≤ 4611686018427387904) :
    Calls Try.prog 25 #[k, .int .i64 m] w fun e w' => e = .returned (.int .i64 (m + (cntL cntAttr xs : Nat))) ∧ SeqOwn 2 AttrOwn w' k (mkL cntAttr mkAttr xs m) fs ∧ Out fs w w' := by
  have hk' : Hid (SeqOwn 2 AttrOwn w k xs fs) := hk
  obtain ⟨a, cap, rfl, hm, _⟩ := hk
  unfold maxLen at hm
  go_enter Try.func25, Try.ntmps25
  go_wp2_with fail
  go_loopw [1, 5] (fun z i wr => ∃ (j : Nat), j ≤ xs.length ∧ i = .int .i64 j ∧ z = .int .i64 (m + (pos cntAttr xs j : Nat)) ∧ Hid (SeqOwn 2 AttrOwn wr (.slice a xs.length cap) (mix (mkL cntAttr mkAttr xs m) xs j) fs) ∧ Hid (Out fs w wr)) (fun _ i _ => xs.length - (intOf i).toNat)
  case atStart => exact ⟨0, by omega, rfl, by rw [pos_zero]; simp, by rw [mix_zero]; exact hk'.out, Out.refl _ _⟩
  case round =>
    obtain ⟨j, hj, rfl, rfl, hown, hout⟩ := hrel
    by_cases hlt : j < xs.length
    · have hml := mix_length (mkL_length (cnt := cntAttr) (mk := mkAttr) (xs := xs) (m := m)) hj
      obtain ⟨b, off, C, T, cs, fj, rfl, hrow, hcl, ⟨hbf, hbn, hsub, hnd⟩, hr, hclose⟩ := hown.out.step AttrOwn_stays AttrOwn_lt (j := j) (by omega)
      have hset : Hid _ := mix_set (mkL_length (cnt := cntAttr) (mk := mkAttr) (xs := xs) (m := m)) hlt
      have hps2 : pos cntAttr xs (j + 1) = pos cntAttr xs j + (1 + 1) := pos_succ hlt
      have hpl : pos cntAttr xs (j + 1) ≤ cntL cntAttr xs := pos_le (by omega) (Nat.le_refl _)
      rw [mkL_get] at hset
      rw [mix_get mkL_length hlt] at hr
      generalize xs[j] = Q at *
      obtain ⟨⟨rfl, _, _, _⟩, hfs⟩ := hr
      subst hfs
      have hrow' : Hid (RowIs wr b (off + j * 2) C T [.string Q.vName, .string Q.vValue]) := hrow
      have hclose' : Hid _ := hclose
      clear hrow hclose
      generalize hP : m + (pos cntAttr xs j : Nat) = P at *
      have hP0 : 0 ≤ P := by omega
      have hP1 : P + (1 + 1) ≤ 4611686018427387904 := by omega
      have hz : m + (pos cntAttr xs (j + 1) : Nat) = P + 1 + 1 := by omega
      clear hpl hps2
      have row0 := hrow'.out
      have out0 : Hid (Out [b] wr wr) := Out.refl _ _
      have z0_0 := (RowIs.cell hrow'.out 0 rfl)
      have z0_1 := (RowIs.cell hrow'.out 1 rfl)
      have u0 := RowIs.unfrozen hrow'.out
      simp only [Nat.add_zero] at z0_0
      clear row0
      go_wp2_with fail
      refine (markText_any (by omega)).mono ?_
      rintro e v0 ⟨rfl, hc0⟩
      have row1 := RowIs.below hrow'.out hc0
      have out1 : Hid (Out [b] wr v0) := Out.trans out0.out (Out.of_below hc0)
      have row1' : Hid (RowIs v0 b (off + j * 2) C T _) := row1
      clear z0_0 z0_1 u0
      have z1_0 := (RowIs.cell row1 0 rfl)
      have z1_1 := (RowIs.cell row1 1 rfl)
      have u1 := RowIs.unfrozen row1
      simp only [Nat.add_zero] at z1_0
      clear row1
      go_wp2_with fail
      refine (markText_any (by omega)).mono ?_
      rintro e v1 ⟨rfl, hc1⟩
      have row2 := RowIs.below (RowIs.set (m := 0) row1'.out (by simp) _) hc1
      have out2 : Hid (Out [b] wr v1) := Out.trans (Out.set out1.out List.mem_cons_self _) (Out.of_below hc1)
      have row2' : Hid (RowIs v1 b (off + j * 2) C T _) := row2
      clear z1_0 z1_1 u1
      have z2_0 := (RowIs.cell row2 0 rfl)
      have z2_1 := (RowIs.cell row2 1 rfl)
      have u2 := RowIs.unfrozen row2
      simp only [Nat.add_zero] at z2_0
      clear row2
      go_wp2_with fail
      go_roundw
      case rel =>
        refine ⟨j + 1, by omega, by go_num, by rw [hz], ?_, ?_⟩
        · rw [← hset.out]
          exact hclose'.out _ [.string (markT (P)), .string (markT (P + 1))] _ rfl (RowIs.set (m := 1) row2'.out (by simp) _) (Out.set out2.out List.mem_cons_self _) ⟨⟨rfl, markT_size (by omega), markT_size (by omega), trivial⟩, rfl⟩
        · exact Out.trans hout.out (Out.mono (Out.set out2.out List.mem_cons_self _) (fun x q => by rcases List.mem_cons.1 q with q | q; (rw [q]; exact hbf); (exact hsub x q)))
      case measure => simp [intOf]; omega
    · obtain rfl : j = xs.length := by omega
      have hful : Hid _ := mix_full (mkL_length (cnt := cntAttr) (mk := mkAttr) (xs := xs) (m := m))
      go_wp2_with fail
      go_ret
      exact ⟨rfl, by rw [← hful.out]; exact hown.out, hout.out⟩
def MMarkS (n : Nat) : Prop := ∀ {w : World} {k : Value} {xs : List MarkD} {fs : List Nat} {m : Int}, SeqOwn 4 (MarkOwn n) w k xs fs → 0 ≤ m → m + (cntL (cntMark n) xs : Nat) ≤ 4611686018427387904 →
    Calls Try.prog 26 #[k, .int .i64 m] w fun e w' => e = .returned (.int .i64 (m + (cntL (cntMark n) xs : Nat))) ∧ SeqOwn 4 (MarkOwn n) w' k (mkL (cntMark n) (mkMark n) xs m) fs ∧ Out fs w w'
set_option maxRecDepth 100000 in
set_option maxHeartbeats 3200000 in
theorem mmarkS_step (n : Nat) (ih0 : MMarkS n) : MMarkS (n + 1) := by
  have ih : Hid (MMarkS n) := ih0
  clear ih0
  intro w k xs fs m hk h0 h1
  have hk' : Hid (SeqOwn 4 (MarkOwn (n + 1)) w k xs fs) := hk
  obtain ⟨a, cap, rfl, hm, _⟩ := hk
  unfold maxLen at hm
  go_enter Try.func26, Try.ntmps26
  go_wp2_with fail
  go_loopw [1, 5] (fun z i wr => ∃ (j : Nat), j ≤ xs.length ∧ i = .int .i64 j ∧ z = .int .i64 (m + (pos (cntMark (n + 1)) xs j : Nat)) ∧ Hid (SeqOwn 4 (MarkOwn (n + 1)) wr (.slice a xs.length cap) (mix (mkL (cntMark (n + 1)) (mkMark (n + 1)) xs m) xs j) fs) ∧ Hid (Out fs w wr)) (fun _ i _ => xs.length - (intOf i).toNat)
  case atStart => exact ⟨0, by omega, rfl, by rw [pos_zero]; simp, by rw [mix_zero]; exact hk'.out, Out.refl _ _⟩
  case round =>
    obtain ⟨j, hj, rfl, rfl, hown, hout⟩ := hrel
    by_cases hlt : j < xs.length
    · have hml := mix_length (mkL_length (cnt := (cntMark (n + 1))) (mk := (mkMark (n + 1))) (xs := xs) (m := m)) hj
      obtain ⟨b, off, C, T, cs, fj, rfl, hrow, hcl, ⟨hbf, hbn, hsub, hnd⟩, hr, hclose⟩ := hown.out.step (MarkOwn_stays (n + 1)) (MarkOwn_lt (n + 1)) (j := j) (by omega)
      have hset : Hid _ := mix_set (mkL_length (cnt := (cntMark (n + 1))) (mk := (mkMark (n + 1))) (xs := xs) (m := m)) hlt
      have hps2 : pos (cntMark (n + 1)) xs (j + 1) = pos (cntMark (n + 1)) xs j + (1 + 1 + cntL cntAttr xs[j].vAttrs + cntL (cntMark n) xs[j].vKids) := pos_succ hlt
      have hpl : pos (cntMark (n + 1)) xs (j + 1) ≤ cntL (cntMark (n + 1)) xs := pos_le (by omega) (Nat.le_refl _)
      rw [mkL_get] at hset
      rw [mix_get mkL_length hlt] at hr
      generalize xs[j] = Q at *
      obtain ⟨k2, k3, f2, f3, rfl, o2, o3, _, _, hfs⟩ := hr
      obtain ⟨p2, d2, rfl⟩ := o2.form
      have o2' : Hid (SeqOwn 2 AttrOwn wr (.slice p2 Q.vAttrs.length d2) Q.vAttrs f2) := o2
      clear o2
      obtain ⟨p3, d3, rfl⟩ := o3.form
      have o3' : Hid (SeqOwn 4 (MarkOwn n) wr (.slice p3 Q.vKids.length d3) Q.vKids f3) := o3
      clear o3
      subst hfs
      have hb2 : b ∉ f2 := fun q => hbn (List.mem_append_left _ q)
      have hb3 : b ∉ f3 := fun q => hbn (List.mem_append_right _ q)
      have hd1 : ∀ x ∈ f2, x ∉ f3 := fun x q1 q2 => (List.nodup_append.1 hnd).2.2 x q1 x q2 rfl
      have hrow' : Hid (RowIs wr b (off + j * 4) C T [.string Q.vTag, .string Q.vText, .slice p2 Q.vAttrs.length d2, .slice p3 Q.vKids.length d3]) := hrow
      have hclose' : Hid _ := hclose
      clear hrow hclose
      generalize hP : m + (pos (cntMark (n + 1)) xs j : Nat) = P at *
      have hP0 : 0 ≤ P := by omega
      generalize hC2 : cntL cntAttr Q.vAttrs = N2 at *
      generalize hC3 : cntL (cntMark n) Q.vKids = N3 at *
      have hP1 : P + (1 + 1 + (N2 : Int) + (N3 : Int)) ≤ 4611686018427387904 := by omega
      have hz : m + (pos (cntMark (n + 1)) xs (j + 1) : Nat) = P + 1 + 1 + (N2 : Int) + (N3 : Int) := by omega
      clear hpl hps2
      have row0 := hrow'.out
      have out0 : Hid (Out [b] wr wr) := Out.refl _ _
      have z0_0 := (RowIs.cell hrow'.out 0 rfl)
      have z0_1 := (RowIs.cell hrow'.out 1 rfl)
      have z0_2 := (RowIs.cell hrow'.out 2 rfl)
      have z0_3 := (RowIs.cell hrow'.out 3 rfl)
      have u0 := RowIs.unfrozen hrow'.out
      simp only [Nat.add_zero] at z0_0
      clear row0
      go_wp2_with fail
      refine (markText_any (by omega)).mono ?_
      rintro e v0 ⟨rfl, hc0⟩
      have row1 := RowIs.below hrow'.out hc0
      have out1 : Hid (Out [b] wr v0) := Out.trans out0.out (Out.of_below hc0)
      have row1' : Hid (RowIs v0 b (off + j * 4) C T _) := row1
      clear z0_0 z0_1 z0_2 z0_3 u0
      have z1_0 := (RowIs.cell row1 0 rfl)
      have z1_1 := (RowIs.cell row1 1 rfl)
      have z1_2 := (RowIs.cell row1 2 rfl)
      have z1_3 := (RowIs.cell row1 3 rfl)
      have u1 := RowIs.unfrozen row1
      simp only [Nat.add_zero] at z1_0
      clear row1
      go_wp2_with fail
      refine (markText_any (by omega)).mono ?_
      rintro e v1 ⟨rfl, hc1⟩
      have row2 := RowIs.below (RowIs.set (m := 0) row1'.out (by simp) _) hc1
      have out2 : Hid (Out [b] wr v1) := Out.trans (Out.set out1.out List.mem_cons_self _) (Out.of_below hc1)
      have row2' : Hid (RowIs v1 b (off + j * 4) C T _) := row2
      clear z1_0 z1_1 z1_2 z1_3 u1
      have z2_0 := (RowIs.cell row2 0 rfl)
      have z2_1 := (RowIs.cell row2 1 rfl)
      have z2_2 := (RowIs.cell row2 2 rfl)
      have z2_3 := (RowIs.cell row2 3 rfl)
      have u2 := RowIs.unfrozen row2
      simp only [Nat.add_zero] at z2_0
      clear row2
      go_wp2_with fail
      refine (markAttrS_any (by exact SeqOwn.stays AttrOwn_stays o2'.out (fun x hx => Out.keep (Out.set out2.out List.mem_cons_self _) (SeqOwn.lt AttrOwn_lt o2'.out x hx) (fun q => (by rcases List.mem_cons.1 q with q | q; (exact hb2 (q ▸ hx)); cases q)))) (by omega) (by omega)).mono ?_
      rintro e v2 ⟨rfl, hown2, hc2⟩
      have row3 := RowIs.out (RowIs.set (m := 1) row2'.out (by simp) _) hc2 hb2
      have out3 : Hid (Out (b :: f2) wr v2) := Out.trans (Out.mono (Out.set out2.out List.mem_cons_self _) (fun x q => by rcases List.mem_cons.1 q with q | q; (rw [q]; exact List.mem_cons_self); (cases q))) (Out.mono hc2 (fun x q => List.mem_cons_of_mem _ q))
      have row3' : Hid (RowIs v2 b (off + j * 4) C T _) := row3
      have hown2' : Hid _ := hown2
      have oc2 : Hid _ := hc2
      clear hown2
      clear z2_0 z2_1 z2_2 z2_3 u2
      have z3_0 := (RowIs.cell row3 0 rfl)
      have z3_1 := (RowIs.cell row3 1 rfl)
      have z3_2 := (RowIs.cell row3 2 rfl)
      have z3_3 := (RowIs.cell row3 3 rfl)
      have u3 := RowIs.unfrozen row3
      simp only [Nat.add_zero] at z3_0
      clear row3
      go_wp2_with fail
      refine (ih.out (by exact SeqOwn.stays (MarkOwn_stays n) o3'.out (fun x hx => Out.keep out3.out (SeqOwn.lt (MarkOwn_lt n) o3'.out x hx) (fun q => (by rcases List.mem_cons.1 q with q | q; (exact hb3 (q ▸ hx)); exact hd1 x q hx)))) (by omega) (by omega)).mono ?_
      rintro e v3 ⟨rfl, hown3, hc3⟩
      have row4 := RowIs.out row3'.out hc3 hb3
      have out4 : Hid (Out (b :: (f2 ++ f3)) wr v3) := Out.trans (Out.mono out3.out (fun x q => by rcases List.mem_cons.1 q with q | q; (rw [q]; exact List.mem_cons_self); (exact List.mem_cons_of_mem _ (List.mem_append_left _ q)))) (Out.mono hc3 (fun x q => List.mem_cons_of_mem _ (List.mem_append_right _ q)))
      have row4' : Hid (RowIs v3 b (off + j * 4) C T _) := row4
      have hown3' : Hid _ := hown3
      have oc3 : Hid _ := hc3
      clear hown3
      have hown2_3 : Hid (SeqOwn 2 AttrOwn v3 (.slice p2 Q.vAttrs.length d2) (mkL cntAttr mkAttr Q.vAttrs _) f2) := SeqOwn.stays AttrOwn_stays hown2'.out (fun x hx => Out.keep (Out.trans (Out.mono (gs := b :: f3) (Out.refl [b] v2) (fun y q => by rcases List.mem_cons.1 q with q | q; (rw [q]; exact List.mem_cons_self); (cases q))) (Out.mono hc3 (fun y q => List.mem_cons_of_mem _ q))) (SeqOwn.lt AttrOwn_lt hown2'.out x hx) (fun q => by rcases List.mem_cons.1 q with q | q; (exact hb2 (q ▸ hx)); (exact hd1 x hx q)))
      clear z3_0 z3_1 z3_2 z3_3 u3
      have z4_0 := (RowIs.cell row4 0 rfl)
      have z4_1 := (RowIs.cell row4 1 rfl)
      have z4_2 := (RowIs.cell row4 2 rfl)
      have z4_3 := (RowIs.cell row4 3 rfl)
      have u4 := RowIs.unfrozen row4
      simp only [Nat.add_zero] at z4_0
      clear row4
      go_wp2_with fail
      subst hC2
      subst hC3
      go_roundw
      case rel =>
        refine ⟨j + 1, by omega, by go_num, by rw [hz], ?_, ?_⟩
        · rw [← hset.out]
          exact hclose'.out _ [.string (markT (P)), .string (markT (P + 1)), .slice p2 Q.vAttrs.length d2, .slice p3 Q.vKids.length d3] _ rfl row4'.out out4.out (MarkOwn_mk hown2_3.out hown3'.out (markT_size (by omega)) (markT_size (by omega)))
        · exact Out.trans hout.out (Out.mono out4.out (fun x q => by rcases List.mem_cons.1 q with q | q; (rw [q]; exact hbf); (exact hsub x q)))
      case measure => simp [intOf]; omega
    · obtain rfl : j = xs.length := by omega
      have hful : Hid _ := mix_full (mkL_length (cnt := (cntMark (n + 1))) (mk := (mkMark (n + 1))) (xs := xs) (m := m))
      go_wp2_with fail
      go_ret
      exact ⟨rfl, by rw [← hful.out]; exact hown.out, hout.out⟩
set_option maxHeartbeats 800000 in
theorem mmarkS_zero : MMarkS 0 := by
  intro w k xs fs m hk h0 h1
  obtain rfl := seqOwnM_zero hk
  have hk' : Hid (SeqOwn 4 (MarkOwn 0) w k [] fs) := hk
  obtain ⟨a, cap, rfl, _⟩ := hk
  go_enter Try.func26, Try.ntmps26
  go_wp2_with fail
  go_loopw [1, 5] (fun z i wr => z = .int .i64 m ∧ i = .int .i64 0 ∧ wr = w) (fun _ _ _ => 0)
  case atStart => exact ⟨rfl, rfl, rfl⟩
  case round =>
    obtain ⟨rfl, rfl, rfl⟩ := hrel
    go_wp2_with fail
    go_ret
    exact ⟨by simp [cntL, pos], hk'.out, Out.refl _ _⟩
theorem markMarkS_any : ∀ n, MMarkS n := fun n => by
  induction n with
  | zero => exact mmarkS_zero
  | succ n ih => exact mmarkS_step n ih
set_option maxRecDepth 100000 in
set_option maxHeartbeats 1600000 in
theorem markMark_any {n : Nat} {w : World} {cs : List Value} {x : MarkD} {fs : List Nat} {m : Int} (hk : MarkOwn (n + 1) w cs x fs) (hnd : fs.Nodup) (h0 : 0 ≤ m) (h1 : m + (cntL cntAttr x.vAttrs : Nat) + (cntL (cntMark n) x.vKids : Nat) ≤ 4611686018427387904) :
    Calls Try.prog 10 #[.agg cs.toArray, .int .i64 m] w fun e w' => e = .returned (.int .i64 (m + (cntL cntAttr x.vAttrs : Nat) + (cntL (cntMark n) x.vKids : Nat))) ∧ MarkOwn (n + 1) w' cs (mkTMark n x m) fs ∧ Out fs w w' := by
  have hlt := MarkOwn_lt (n + 1) _ _ _ _ hk
  obtain ⟨k2, k3, f2, f3, rfl, o2, o3, rg0, rg1, hfs⟩ := hk
  obtain ⟨a2, cap2, rfl⟩ := o2.form
  obtain ⟨a3, cap3, rfl⟩ := o3.form
  subst hfs
  have ap0_1 : ∀ y ∈ f2, y ∉ f3 := fun y q1 q2 => (List.nodup_append.1 hnd).2.2 y q1 y q2 rfl
  have hb0 : Below w.heap.size w (w.alloc (.cells (List.toArray [.string x.vTag, .string x.vText, .slice a2 x.vAttrs.length cap2, .slice a3 x.vKids.length cap3]) 35)) := (Below.refl _ _).alloc (Nat.le_refl _) _
  have bx0 : Hid (Box (w.alloc (.cells (List.toArray [.string x.vTag, .string x.vText, .slice a2 x.vAttrs.length cap2, .slice a3 x.vKids.length cap3]) 35)) w.heap.size [.string x.vTag, .string x.vText, .slice a2 x.vAttrs.length cap2, .slice a3 x.vKids.length cap3] 35) := Box.new w _ _
  have n2 : w.heap.size ∉ f2 := fun q => by have := hlt _ (List.mem_append_left _ q); omega
  have q2_0 : Hid (SeqOwn 2 AttrOwn (w.alloc (.cells (List.toArray [.string x.vTag, .string x.vText, .slice a2 x.vAttrs.length cap2, .slice a3 x.vKids.length cap3]) 35)) (.slice a2 x.vAttrs.length cap2) x.vAttrs f2) := o2.stays AttrOwn_stays (fun y hy => hb0.block y (hlt y (List.mem_append_left _ hy)))
  have n3 : w.heap.size ∉ f3 := fun q => by have := hlt _ (List.mem_append_right _ q); omega
  have q3_0 : Hid (SeqOwn 4 (MarkOwn n) (w.alloc (.cells (List.toArray [.string x.vTag, .string x.vText, .slice a2 x.vAttrs.length cap2, .slice a3 x.vKids.length cap3]) 35)) (.slice a3 x.vKids.length cap3) x.vKids f3) := o3.stays (MarkOwn_stays n) (fun y hy => hb0.block y (hlt y (List.mem_append_right _ hy)))
  have ou0 : Hid (Out (f2 ++ f3) w (w.alloc (.cells (List.toArray [.string x.vTag, .string x.vText, .slice a2 x.vAttrs.length cap2, .slice a3 x.vKids.length cap3]) 35))) := Out.of_below hb0
  clear o2 o3
  generalize hN2 : cntL cntAttr x.vAttrs = N2 at *
  generalize hN3 : cntL (cntMark n) x.vKids = N3 at *
  go_enter Try.func10, Try.ntmps10
  go_wp2_with fail
  refine (markAttrS_any q2_0.out (by omega) (by omega)).mono ?_
  rintro e v0 ⟨rfl, ho2, hc0⟩
  rw [hN2]
  have bx1 : Hid (Box v0 w.heap.size [.string x.vTag, .string x.vText, .slice a2 x.vAttrs.length cap2, .slice a3 x.vKids.length cap3] 35) := (Out.keep hc0 bx0.out.lt n2).trans bx0.out
  have q2_1 : Hid (SeqOwn 2 AttrOwn v0 (.slice a2 x.vAttrs.length cap2) (mkL cntAttr mkAttr x.vAttrs (m)) f2) := ho2
  have q3_1 : Hid (SeqOwn 4 (MarkOwn n) v0 (.slice a3 x.vKids.length cap3) (x.vKids) f3) := SeqOwn.stays (MarkOwn_stays n) q3_0.out (fun y hy => Out.keep hc0 (SeqOwn.lt (MarkOwn_lt n) q3_0.out y hy) (fun q => ap0_1 y q hy))
  have ou1 : Hid (Out (f2 ++ f3) w v0) := Out.trans ou0.out (Out.mono hc0 (fun y hy => (List.mem_append_left _ hy)))
  clear ho2 hc0
  have t0_0 := bx1.out.cell 0 rfl
  have t0_1 := bx1.out.cell 1 rfl
  have t0_2 := bx1.out.cell 2 rfl
  have t0_3 := bx1.out.cell 3 rfl
  go_wp2_with fail
  refine (markMarkS_any n q3_1.out (by omega) (by omega)).mono ?_
  rintro e v1 ⟨rfl, ho3, hc1⟩
  rw [hN3]
  have bx2 : Hid (Box v1 w.heap.size [.string x.vTag, .string x.vText, .slice a2 x.vAttrs.length cap2, .slice a3 x.vKids.length cap3] 35) := (Out.keep hc1 bx1.out.lt n3).trans bx1.out
  have q2_2 : Hid (SeqOwn 2 AttrOwn v1 (.slice a2 x.vAttrs.length cap2) (mkL cntAttr mkAttr x.vAttrs (m)) f2) := SeqOwn.stays AttrOwn_stays q2_1.out (fun y hy => Out.keep hc1 (SeqOwn.lt AttrOwn_lt q2_1.out y hy) (ap0_1 y hy))
  have q3_2 : Hid (SeqOwn 4 (MarkOwn n) v1 (.slice a3 x.vKids.length cap3) (mkL (cntMark n) (mkMark n) x.vKids (m + (N2 : Int))) f3) := ho3
  have ou2 : Hid (Out (f2 ++ f3) w v1) := Out.trans ou1.out (Out.mono hc1 (fun y hy => (List.mem_append_right _ hy)))
  clear ho3 hc1 t0_0 t0_1 t0_2 t0_3
  have t1_0 := bx2.out.cell 0 rfl
  have t1_1 := bx2.out.cell 1 rfl
  have t1_2 := bx2.out.cell 2 rfl
  have t1_3 := bx2.out.cell 3 rfl
  go_wp2_with fail
  go_ret
  subst hN2
  subst hN3
  exact ⟨rfl, MarkOwn_mk q2_2.out q3_2.out rg0 rg1, ou2.out⟩
end Go.Proofs.Ytlcddndpfhdakaa
