/- A mark is read: markFrom of the program. -/
import Derived.Test.YtlcddndpfhdakaaDoorRmSt
import Derived.Test.YtlcddndpfhdakaaDoorTakeLit
namespace Go.Proofs.YtlcddndpfhdakaaDoor
open Go.RowKit Go.Deep
theorem infoMk : ((Tryd.prog.info? 27).map fun i => (i.zero, i.bytes, i.size)) = some (some (.agg #[.string ByteArray.empty, .string ByteArray.empty, .slice none 0 0, .slice none 0 0]), 80, 4) := by kernel_rfl
/-- room, as it stands in memory -/
def roomW (g : Nat) (w : World) : Nat := match w.cell? ⟨g, 2, none⟩ with
  | some v => (intOf v).toNat
  | none => 0
theorem roomW_at {w : World} {g : Nat} {s : ByteArray} {p k : Nat} (h : TrAt w g s p k) : roomW g w = k := by
  have := h.cell 2 rfl
  simp [roomW, this, intOf]
def TmF (n : Nat) : Prop := ∀ (w : World) (g : Nat) (s : ByteArray) (p : Nat), TrAt w g s p n → p ≤ s.size → s.size ≤ 1048576 → Signs w →
  Calls Tryd.prog 28 #[.pointer (some ⟨g, 0, none⟩)] w fun e w' =>
    (∃ (cs : List Value) (x : MarkD) (fs : List Nat) (c p' : Nat), e = .returned (.agg cs.toArray) ∧ MarkOwn n w' cs x fs ∧ fs.Nodup ∧ (∀ b ∈ fs, w.heap.size + 1 ≤ b) ∧ TrAt w' g s p' (n - c) ∧ 1 ≤ c ∧ c ≤ n ∧ p' ≤ s.size ∧ p ≤ p' ∧ CanM n x ∧ rest s p = mtD n x ++ rest s p' ∧ (∀ m y d r, Md m y d (rest s p) r → d ≤ n → x = y ∧ c = d ∧ rest s p' = r) ∧ w.grownBy w' (some g)) ∨
    (e = .panicked gaveUp ∧ w.grownBy w' (some g) ∧ ∀ m y d r, Md m y d (rest s p) r → ¬ d ≤ n)
set_option maxRecDepth 100000 in
set_option maxHeartbeats 4000000 in
theorem tmF_zero : TmF 0 := by
  intro w g s p htr hp hs _
  have hb0 : Hid (Below w.heap.size w (w.alloc (.cells #[.string ⟨#[]⟩, .string ⟨#[]⟩, .slice none 0 0, .slice none 0 0] 27))) := (Below.refl _ _).alloc (Nat.le_refl _) _
  have htr0 : Hid (TrAt (w.alloc (.cells #[.string ⟨#[]⟩, .string ⟨#[]⟩, .slice none 0 0, .slice none 0 0] 27)) g s p 0) := htr.below hb0.out
  go_enter Tryd.func28, Tryd.ntmps28
  go_wp2_with fail
  refine (oneMore_no htr0.out).mono ?_
  rintro e w9 ⟨rfl, hg9⟩
  have hg9' : Hid (w.grownBy w9 (some g)) := (grown_of_below hb0.out _).trans hg9
  clear hg9
  go_wp2_with fail
  exact ⟨rfl, Or.inr ⟨rfl, hg9'.out, fun m y d r h hd => by have := h.pos; omega⟩⟩
set_option maxRecDepth 100000 in
set_option maxHeartbeats 8000000 in
theorem tmF_of (n : Nat) (hn : n ≤ 1000) (hS : Hid (∀ j, j ≤ n → TmF j)) : TmF (n + 1) := by
  intro w g s p htr hp hs hsg
  have hgl : g < w.heap.size := htr.lt
  have hg0 : g ≠ 0 := tr_ne htr hsg
  have hss : Hid (s.size ≤ 1048576) := hs
  have hsg' : Hid (Signs w) := hsg
  obtain ⟨iT, hiT0, heT0⟩ := Option.map_eq_some_iff.1 infoMk
  simp only [Prod.mk.injEq] at heT0
  have hiT : Hid (Tryd.prog.info? 27 = some iT) := hiT0
  have heT : Hid (iT.zero = some (.agg #[.string ByteArray.empty, .string ByteArray.empty, .slice none 0 0, .slice none 0 0]) ∧ iT.bytes = 80 ∧ iT.size = 4) := heT0
  clear hiT0 heT0
  have hb0 : Hid (Below w.heap.size w (w.alloc (.cells #[.string ⟨#[]⟩, .string ⟨#[]⟩, .slice none 0 0, .slice none 0 0] 27))) := (Below.refl _ _).alloc (Nat.le_refl _) _
  have br0 : Hid (Box (w.alloc (.cells #[.string ⟨#[]⟩, .string ⟨#[]⟩, .slice none 0 0, .slice none 0 0] 27)) w.heap.size zM4 27) := Box.new w _ _
  have htr0 : Hid (TrAt (w.alloc (.cells #[.string ⟨#[]⟩, .string ⟨#[]⟩, .slice none 0 0, .slice none 0 0] 27)) g s p (n + 1)) := htr.below hb0.out
  have hgz0 : Hid (w.grownBy (w.alloc (.cells #[.string ⟨#[]⟩, .string ⟨#[]⟩, .slice none 0 0, .slice none 0 0] 27)) (some g)) := grown_of_below hb0.out _
  clear htr hb0 hs hsg
  go_enter Tryd.func28, Tryd.ntmps28
  go_wp2_with fail
  refine (oneMore_yes htr0.out hn).mono ?_
  rintro e w1 ⟨rfl, htr1, hg1⟩
  have hz1 : w.heap.size + 1 ≤ w1.heap.size := by have := hg1.size; simpa using this
  have br1 : Hid (Box w1 w.heap.size zM4 27) := box_grown br0.out (by omega) hg1
  have hg1' : Hid (w.grownBy w1 (some g)) := hgz0.out.trans hg1
  have htr1' : Hid (TrAt w1 g s p n) := htr1
  clear hg1 htr1 htr0 br0 hgz0
  go_wp2_with fail
  refine (sees_any htr1'.out hp).mono ?_
  rintro e w2 ⟨rfl, n2, rfl⟩
  have br2 : Hid (Box (w1.drewN n2) w.heap.size zM4 27) := br1.out
  have hg2' : Hid (w.grownBy (w1.drewN n2) (some g)) := hg1'.out.trans grown_drewN
  have htr2' : Hid (TrAt (w1.drewN n2) g s p n) := htr1'.out
  have hz2 : w.heap.size + 1 ≤ (w1.drewN n2).heap.size := hz1
  clear hg1' htr1' br1 hz1
  generalize w1.drewN n2 = w2 at *
  cases h60 : preP [60] (rest s p)
  · go_wp2_with fail
    refine (plainUpTo_any 60 htr2'.out hp hss.out (Signs.grown hsg'.out hg2'.out hg0)).mono ?_
    intro e w3 hor
    rcases hor with ⟨t, rfl, ht, htr3, hg3⟩ | ⟨rfl, ht, hgp⟩
    rotate_left
    · have hgp' : Hid (w.grownBy w3 (some g)) := hg2'.out.trans hgp
      have hnn : Hid (∀ m y d r, Md m y d (rest s p) r → ¬ d ≤ n + 1) := fun m y d r hm _ => by
        obtain ⟨t', _, _, e3, _⟩ := md_text hm h60
        rw [e3, unL_esc] at ht; cases ht
      clear hgp ht
      go_wp2_with fail
      exact ⟨rfl, Or.inr ⟨rfl, hgp'.out, hnn.out⟩⟩
    have htl := unL_back ht
    have hul := upto_len 60 (rest s p)
    have hun := unL_length ht
    rw [bd_len] at hun
    rw [rest_len] at hul
    have hle : Hid (p + (upto 60 (rest s p)).length ≤ s.size) := by show _ ≤ _; omega
    have htm : Hid (t.size ≤ maxLen) := by show _ ≤ _; have := hss.out; unfold maxLen; omega
    have hsnd : Hid (rest s p = escL t.data.toList ++ rest s (p + (upto 60 (rest s p)).length)) := by
      show _ = _
      have := upto_split 60 (rest s p)
      rw [drop_rest, ← htl] at this
      rw [htl] at this ⊢
      exact this
    have hcmp : Hid (∀ m y d r, Md m y d (rest s p) r → d ≤ n + 1 → MarkD.mk ⟨#[]⟩ t [] [] = y ∧ 1 = d ∧ rest s (p + (upto 60 (rest s p)).length) = r) := fun m y d r hm _ => by
      obtain ⟨t', e1, e2, e3, e4, _⟩ := md_text hm h60
      have e5 := ht
      rw [e3, unL_esc] at e5
      injection e5 with e5
      obtain rfl := ba_of e5
      refine ⟨e1.symm, e2.symm, ?_⟩
      have h1 := hsnd.out
      conv at h1 => lhs; rw [e4]
      exact (List.append_cancel_left h1).symm
    have br3 : Hid (Box w3 w.heap.size zM4 27) := box_grown br2.out (by omega) hg3
    have hg3' : Hid (w.grownBy w3 (some g)) := hg2'.out.trans hg3
    have htr3' : Hid (TrAt w3 g s (p + (upto 60 (rest s p)).length) n) := htr3
    clear htr3 hg3 ht htl hul hun br2 hg2' htr2'
    have r0 := br3.out.cell 0 rfl
    have r1 := br3.out.cell 1 rfl
    have r2 := br3.out.cell 2 rfl
    have r3 := br3.out.cell 3 rfl
    have fR := br3.out.unfrozen
    go_wp2_with fail
    have z1 := Box.set (i := 3) (Box.set (i := 2) (Box.set (i := 1) (Box.set (i := 0) br3.out (.string ⟨#[]⟩)) (.string t)) (.slice none 0 0)) (.slice none 0 0)
    have z10 := z1.cell 0 rfl
    have z11 := z1.cell 1 rfl
    have z12 := z1.cell 2 rfl
    have z13 := z1.cell 3 rfl
    exact bodyPost_ret (v := .agg (List.toArray [.string ⟨#[]⟩, .string t, .slice none 0 0, .slice none 0 0])) (by simp [results, Tryd.results28, go_sem, z10, z11, z12, z13]) rfl (Or.inl ⟨_, MarkD.mk ⟨#[]⟩ t [] [], [], 1, p + (upto 60 (rest s p)).length, rfl, MarkOwn_text n _ t htm.out, List.nodup_nil, by simp, (putCells_other [.string ⟨#[]⟩, .string t, .slice none 0 0, .slice none 0 0] w3 w.heap.size 0 g (Nat.ne_of_lt hgl)).trans htr3'.out, Nat.le_refl _, by omega, hle.out, by omega, canM_mk (by simp), by rw [mtD_text (by unfold isT; rw [MarkD.mk_tag]; rfl), MarkD.mk_text]; exact hsnd.out, hcmp.out, (putCells_grown (w := w) (vs := [.string ⟨#[]⟩, .string t, .slice none 0 0, .slice none 0 0]) (Nat.le_refl _) hg3'.out)⟩)
  go_wp2_with fail
  refine (take_yes htr2'.out hp hss.out h60).mono ?_
  rintro e w3 ⟨rfl, htr3, hp3, hg3⟩
  have hl1 : Hid (rest s p = 60 :: rest s (p + 1)) := rest_of (sign := ⟨#[60]⟩) h60
  have htr3' : Hid (TrAt w3 g s (p + 1) n) := htr3
  have hp3' : Hid (p + 1 ≤ s.size) := hp3
  have hz3 : w.heap.size + 1 ≤ w3.heap.size := Nat.le_trans hz2 hg3.size
  have br3 : Hid (Box w3 w.heap.size zM4 27) := box_grown br2.out (by omega) hg3
  have hg3' : Hid (w.grownBy w3 (some g)) := hg2'.out.trans hg3
  clear h60 hg3 htr3 hp3 htr2' hg2' br2 hz2
  go_wp2_with fail
  refine (name_any htr3'.out hp3'.out hss.out).mono ?_
  intro e w4 hor
  rcases hor with ⟨hnb, ⟨tag, rfl, htag⟩, htr4, hg4⟩ | ⟨hnb, rfl, hgp⟩
  rotate_left
  · have hgp' : Hid (w.grownBy w4 (some g)) := hg3'.out.trans hgp
    have hnn : Hid (∀ m y d r, Md m y d (rest s p) r → ¬ d ≤ n + 1) := fun m y d r hm _ => by
      obtain ⟨s', _, _, _, _, _, _, e2, e3, _⟩ := md_elem hm hl1.out
      rw [e3] at hnb
      rw [show nameB s'.data.toList = true from e2] at hnb; cases hnb
    clear hgp hnb
    go_wp2_with fail
    exact ⟨rfl, Or.inr ⟨rfl, hgp'.out, hnn.out⟩⟩
  have hlw : Hid (lw (rest s (p + 1)) = tag.data.toList) := htag.symm
  have hrw : Hid (rest s (p + 1) = tag.data.toList ++ rest s (p + 1 + tag.size)) := by
    have := rest_lw (s := s) (p := p + 1)
    rw [← htag, bd_len] at this; exact this
  have hnm : Hid (nmB tag = true) := by show nameB tag.data.toList = true; rw [htag]; exact hnb
  have htz : Hid (tag.size ≤ 6) := by have := (name_len hnm.out).2; rw [bd_len] at this; exact this
  have hp4 : Hid (p + 1 + tag.size ≤ s.size) := by
    show _ ≤ _
    have := congrArg List.length hrw.out
    rw [List.length_append, rest_len, bd_len] at this
    have := hp3'.out
    omega
  have hz4 : w.heap.size + 1 ≤ w4.heap.size := Nat.le_trans hz3 hg4.size
  have hbA : Below w4.heap.size w4 (w4.alloc (.cells #[.string tag, .string ⟨#[]⟩, .slice none 0 0, .slice none 0 0] 27)) := (Below.refl _ _).alloc (Nat.le_refl _) _
  have htr5 : Hid (TrAt (w4.alloc (.cells #[.string tag, .string ⟨#[]⟩, .slice none 0 0, .slice none 0 0] 27)) g s (p + 1 + tag.size) n) := by rw [← htag, bd_len] at htr4; exact htr4.below hbA
  have hgw5 : Hid (w.grownBy (w4.alloc (.cells #[.string tag, .string ⟨#[]⟩, .slice none 0 0, .slice none 0 0] 27)) (some g)) := (hg3'.out.trans hg4).trans (grown_of_below hbA _)
  have br5 : Hid (Box (w4.alloc (.cells #[.string tag, .string ⟨#[]⟩, .slice none 0 0, .slice none 0 0] 27)) w.heap.size zM4 27) := (box_grown br3.out (by omega) hg4).alloc _
  have bT5 : Hid (Box (w4.alloc (.cells #[.string tag, .string ⟨#[]⟩, .slice none 0 0, .slice none 0 0] 27)) w4.heap.size [.string tag, .string ⟨#[]⟩, .slice none 0 0, .slice none 0 0] 27) := Box.new w4 _ _
  have hz5 : (w4.alloc (.cells #[.string tag, .string ⟨#[]⟩, .slice none 0 0, .slice none 0 0] 27)).heap.size = w4.heap.size + 1 := by simp
  generalize hTB : w4.heap.size = TB at bT5 hz5
  have hwT : w.heap.size < TB := by omega
  have hgT : g ≠ TB := by omega
  clear hnb htag htr4 hg4 hbA br3 hg3' htr3'
  go_wp2_with fail
  clear hTB hz4
  generalize w4.alloc (.cells #[.string tag, .string ⟨#[]⟩, .slice none 0 0, .slice none 0 0] 27) = w5 at *
  refine (attrsFrom_any htr5.out hp4.out hss.out (Signs.grown hsg'.out hgw5.out hg0)).mono ?_
  intro e w6 hor
  rcases hor with ⟨va, as0, fa, p6, rfl, hoa, hnda, hloa, htr6, hpp6, hp6, hrd6, hg6⟩ | ⟨rfl, hgp, hrd6⟩
  rotate_left
  · have hgp' : Hid (w.grownBy w6 (some g)) := hgw5.out.trans hgp
    have hnn : Hid (∀ m y d r, Md m y d (rest s p) r → ¬ d ≤ n + 1) := fun m y d r hm _ => by
      obtain ⟨s', as1, ks, m0, d', m', _, _, e3, e4, _⟩ := md_elem hm hl1.out
      rw [hlw.out] at e3
      obtain rfl := ba_of e3
      rw [drop_rest, hrd6] at e4; cases e4
    clear hgp hrd6
    go_wp2_with fail
    exact ⟨rfl, Or.inr ⟨rfl, hgp'.out, hnn.out⟩⟩
  obtain ⟨aa, ca, hva⟩ := hoa.form
  generalize hla : as0.length = la at hva
  subst hva
  clear hla
  have hrdA : Hid (rdAs (rest s (p + 1 + tag.size)) = some (as0, rest s p6)) := hrd6
  have hz6 : TB + 1 ≤ w6.heap.size := by have := hg6.size; omega
  have bT6 : Hid (Box w6 TB [.string tag, .string ⟨#[]⟩, .slice none 0 0, .slice none 0 0] 27) := box_grown bT5.out (Ne.symm hgT) hg6
  have c2' := bT6.out.cell 2 rfl
  have f2' := bT6.out.unfrozen 2
  have hfaT : ∀ b ∈ fa, TB < b ∧ b < w6.heap.size := fun b hb => ⟨by have := hloa b hb; omega, hoa.lt AttrOwn_lt b hb⟩
  have hkB : Hid (KmSt n w g TB w6.heap.size tag (.slice aa la ca) as0 fa (.slice none 0 0) [] (w6.setCell ⟨TB, 2, none⟩ (.slice aa la ca))) := ⟨⟨[], [], GrowOwn.nil⟩, Box.set (i := 2) bT6.out _, Box.other (box_grown br5.out (by omega) hg6) (by omega) _, grown_new (by omega) (hgw5.out.trans hg6), by rw [set_size]; exact Nat.le_refl _, hgl, hwT, by omega, hoa.stays AttrOwn_stays (fun b q => set_other (by have := hfaT b q; omega) _), hnda, hfaT⟩
  have htrB : Hid (TrAt (w6.setCell ⟨TB, 2, none⟩ (.slice aa la ca)) g s p6 n) := Box.other htr6 hgT _
  have hpB : Hid (p6 ≤ s.size) := hp6
  have hsndA : Hid (rest s (p + 1 + tag.size) = catK attT as0 ++ rest s p6) := by
    show _ = _
    obtain ⟨ys, e1, e2, _⟩ := rdAtts_sound _ _ _ _ _ hrd6
    simp at e1; rw [e1]; exact e2
  generalize hbase : w6.heap.size = base at hkB
  clear hoa hnda hloa htr6 hp6 hrd6 hg6 bT6 bT5 br5 hgw5 htr5 hfaT hz5
  go_wp2_with fail
  clear c2' f2' hbase
  generalize w6.setCell ⟨TB, 2, none⟩ (.slice aa la ca) = w7 at *
  cases h62 : preP [62] (rest s p6)
  · refine (take_no htrB.out hpB.out h62).mono ?_
    rintro e wp ⟨rfl, hgp⟩
    have hgp' : Hid (w.grownBy wp (some g)) := hkB.out.2.2.2.1.trans hgp
    have hnn : Hid (∀ m y d r, Md m y d (rest s p) r → ¬ d ≤ n + 1) := fun m y d r hm _ => by
        obtain ⟨s', as1, ks, m0, d', m', e1, e2, e3, e4, _⟩ := md_elem hm hl1.out
        rw [hlw.out] at e3
        obtain rfl := ba_of e3
        rw [drop_rest, hrdA.out] at e4
        simp only [Option.some.injEq, Prod.mk.injEq] at e4
        have hp9 : preP [62] (62 :: m0) = true := preP_of (p := [62]) (r := m0) rfl
        rw [e4.2, hp9] at h62; cases h62
    clear hgp
    go_wp2_with fail
    exact ⟨rfl, Or.inr ⟨rfl, hgp'.out, hnn.out⟩⟩
  refine (take_yes htrB.out hpB.out hss.out h62).mono ?_
  rintro e w8 ⟨rfl, htr8, hp8, hg8⟩
  have hl2 : rest s p6 = 62 :: rest s (p6 + 1) := rest_of (sign := ⟨#[62]⟩) h62
  have hin : Hid (InM tag as0 s p (p6 + 1)) := fun m y d r hm => by
    obtain ⟨s', as1, ks, m0, d', m', e1, e2, e3, e4, e5, _, e7⟩ := md_elem hm hl1.out
    rw [hlw.out] at e3
    obtain rfl := ba_of e3
    rw [drop_rest, hrdA.out] at e4
    simp only [Option.some.injEq, Prod.mk.injEq] at e4
    obtain ⟨rfl, e4⟩ := e4
    rw [hl2] at e4
    injection e4 with _ e4
    exact ⟨ks, d', m', e1, e5, by rw [e4]; exact e7⟩
  have hopen : Hid (rest s p = headM (MarkD.mk tag ⟨#[]⟩ as0 []) ++ catK attT as0 ++ [62] ++ rest s (p6 + 1)) := by
    show _ = _
    rw [hl1.out, hrw.out, hsndA.out, hl2]; simp [headM, MarkD.mk_tag]
  have hk5 : Hid (KmSt n w g TB base tag (.slice aa la ca) as0 fa (.slice none 0 0) [] w8) := KmSt.grown hkB.out hg8
  have htr8' : Hid (TrAt w8 g s (p6 + 1) n) := htr8
  have hp8' : Hid (p6 + 1 ≤ s.size) := hp8
  have hpp : Hid (p ≤ p6 + 1) := by show _ ≤ _; omega
  generalize hp0 : p6 + 1 = p0 at hin hopen htr8' hp8' hpp
  clear hp0 htr8 hp8 hg8 hkB htrB hpB h62 hl2 hrdA hsndA hlw hrw hp4 hl1 hp3' hpp6 hz6
  go_wp2_with fail
  go_loopw [] (fun wr => ∃ (q j : Nat) (vk : Value) (xs : List MarkD), j ≤ n ∧ q ≤ s.size ∧ p ≤ q ∧ Hid (KmSt n w g TB base tag (.slice aa la ca) as0 fa vk xs wr) ∧ Hid (TrAt wr g s q j) ∧ Hid (RestM n (n - j) xs s p0 q) ∧ Hid (∀ k ∈ xs, CanM n k) ∧ Hid (rest s p0 = catK (mtD n) xs ++ rest s q) ∧ Hid (xs.length ≤ n - j)) (fun wr => roomW g wr)
  case atStart => exact ⟨p0, n, .slice none 0 0, [], Nat.le_refl _, hp8'.out, hpp.out, hk5, htr8', fun m ks d z h _ => ⟨ks, d, rfl, by omega, h⟩, by show ∀ k ∈ [], _; simp, by show _ = _; simp [catK], by show (0 : Nat) ≤ _; omega⟩
  case round =>
    obtain ⟨q, j, vk, xs, hj, hq, hpq, hst2, htr2, hrm', hcan, hsnd, hxl⟩ := hrel
    clear hk5 htr8'
    go_wp2_with fail
    refine (sees_any htr2.out hq).mono ?_
    rintro e w1 ⟨rfl, nq, rfl⟩
    have hst3 : Hid (KmSt n w g TB base tag (.slice aa la ca) as0 fa vk xs (wr.drewN nq)) := KmSt.grown hst2.out grown_drewN
    have htr3 : Hid (TrAt (wr.drewN nq) g s q j) := htr2.out
    have hrm : Hid (roomW g wr = j) := roomW_at htr2.out
    cases hpre : preP [60, 47] (rest s q)
    · have hpre' : Hid (preP [60, 47] (rest s q) = false) := hpre
      clear hpre htr2 hst2
      generalize wr.drewN nq = w2 at *
      have hst2 : Hid (KmSt n w g TB base tag (.slice aa la ca) as0 fa vk xs w2) := hst3
      have htr2 : Hid (TrAt w2 g s q j) := htr3
      have hsg2 : Hid (Signs w2) := Signs.grown hsg'.out hst2.out.2.2.2.1 hg0
      obtain ⟨⟨bss, css, hgr⟩, bTr0, _, _, hbs, hgw, hwT, hTb, _⟩ := id hst2.out
      obtain ⟨av, capv, rfl⟩ := hgr.form
      have bTr : Hid (Box w2 TB [.string tag, .string ⟨#[]⟩, .slice aa la ca, .slice av xs.length capv] 27) := bTr0
      have hvb := own_ge hgr
      clear bTr0 hst3 htr3
      go_wp2_with fail
      refine wp_region_held_drew (S := fun w' => True) (by kernel_rfl) trivial (fun hHeld => ?_)
      refine tq (i := 0) (d := 25) ?_
      simp only [sz, ss]
      refine tq (i := 2) (d := 27) ?_
      simp only [sz, ss]
      refine wpAnyH_ready (rs := [1, 3]) (by kernel_rfl) (by simp) ?_
      refine (AllReadyH.cons rfl (fun K hK => ?_) (AllReadyH.cons rfl (fun K hK => ?_) AllReadyH.nil))
      · have cT : w2.drew.cell? ⟨TB, 3, none⟩ = some (.slice av xs.length capv) := bTr.out.cell 3 rfl
        go_simp
        clear cT
        refine hK.out _ _ trivial (fun hHeld => ?_)
        clear hK K
        refine wpAnyH_ready (rs := [3]) (by kernel_rfl) (by simp) ?_
        refine AllReadyH.cons rfl (fun K hK => ?_) AllReadyH.nil
        go_simp
        refine (hS.out j (by omega) _ g s q (by exact htr2.out) hq hss.out (by exact hsg2.out)).mono ?_
        intro e w4 hor
        rcases hor with hyes | ⟨rfl, hg4, hno⟩
        rotate_left
        · have hg4' : Hid (w2.grownBy w4 (some g)) := ⟨hg4.os, hg4.tape, hg4.output, hg4.size, hg4.block⟩
          have hnn : Hid (∀ m y d r, Md m y d (rest s p) r → ¬ d ≤ n + 1) := no_kidM hin.out hrm'.out (by omega) hpre'.out hno
          clear hno hg4
          go_simp
          exact ⟨rfl, Or.inr ⟨rfl, hst2.out.2.2.2.1.trans hg4'.out, hnn.out⟩⟩
        obtain ⟨csk, xk, fsk, ck, p4, rfl, hok, hndk, hlok, hr4, hck1, hck, hp4, hqp4, hcan4, hsnd4, hcmp4, hg4⟩ := hyes
        obtain ⟨kt, ku, a2, l2, c2, a3, l3, c3, rfl⟩ := hok.form4
        have hok' : Hid (MarkOwn n w4 _ xk fsk) := MarkOwn_mono (by omega) hok
        have hndk' : Hid (fsk.Nodup) := hndk
        have hlok' : Hid (∀ b ∈ fsk, w2.heap.size ≤ b) := fun b hb => Nat.le_of_succ_le (hlok b hb)
        clear hok hndk hlok
        have hg4' : Hid (w2.grownBy w4 (some g)) := ⟨hg4.os, hg4.tape, hg4.output, hg4.size, hg4.block⟩
        have hr4' : Hid (TrAt w4 g s p4 (j - ck)) := hr4
        have hcan4' : Hid (CanM n xk) := CanM.mono (by omega) hcan4
        have hsnd4' : Hid (rest s q = mtD n xk ++ rest s p4) := by show _ = _; rw [mtD_mono (show j ≤ n by omega) hcan4]; exact hsnd4
        have hcmp4' : Hid (∀ m y d r, Md m y d (rest s q) r → d ≤ j → xk = y ∧ ck = d ∧ rest s p4 = r) := hcmp4
        have bT4 : Hid (Box w4 (TB) [.string tag, .string ⟨#[]⟩, .slice aa la ca, .slice av xs.length capv] 27) := box_grown bTr.out (by omega) hg4'.out
        have hz4 := hg4'.out.size
        clear hg4 hr4 hcan4 hsnd4 hcmp4
        refine hK.out _ _ trivial (fun hHeld => ?_)
        clear hK K
        refine wpAnyH_ready (rs := [4]) (by kernel_rfl) (by simp) ?_
        refine AllReadyH.cons rfl (fun K hK => ?_) AllReadyH.nil
        go_simp
        refine hK.out _ _ trivial (fun hHeld => ?_)
        clear hK K
        refine wpAnyH_ready (rs := [5]) (by kernel_rfl) (by simp) ?_
        refine AllReadyH.cons rfl (fun K hK => ?_) AllReadyH.nil
        refine step_append_lies (w4.alloc (.cells #[.string kt, .string ku, .slice a2 l2 c2, .slice a3 l3 c3] 27)) rfl _ _ 25 rfl _ 27 iT _ 4 80 Tryd.underlying25 hiT.out heT.out.1 heT.out.2.2 heT.out.2.1 rfl (by decide) (.slice av xs.length capv) xs.length css.flatten rfl ((GrowOwn.stay (MarkOwn_stays n) hgr (w' := (w4.alloc (.cells #[.string kt, .string ku, .slice a2 l2 c2, .slice a3 l3 c3] 27))) (by simp; omega) (fun b q1 q2 => by rw [Below.heap_alloc _ _ _ (by omega), hg4'.out.block b q2 (fun e => by injection e with e; omega)])).row) ⟨w4.heap.size, 0, none⟩ 1 1 [.string kt, .string ku, .slice a2 l2 c2, .slice a3 l3 c3] rfl rfl (by intro i u hu; match i, hu with | 0, hu => (simp at hu; subst hu; simp [Addr.add]) | 1, hu => (simp at hu; subst hu; simp [Addr.add]) | 2, hu => (simp at hu; subst hu; simp [Addr.add]) | 3, hu => (simp at hu; subst hu; simp [Addr.add]) | i + 4, hu => simp at hu) (by intro u hu; simp at hu; rcases hu with rfl | rfl | rfl | rfl <;> rfl) (by omega) (by have := hxl.out; unfold maxLen; omega) (by have := hxl.out; omega) (by simp; omega) _ rfl ?_
        intro g3 capg w5 hown5 hgrow5 hat5 hlt5
        have bT5 : Hid (Box w5 (TB) [.string tag, .string ⟨#[]⟩, .slice aa la ca, .slice av xs.length capv] 27) := (hgrow5.block (TB) (by simp; omega) (by intro e; have := hvb _ e.symm; omega)).trans (bT4.out.alloc _)
        go_simp
        refine hK.out _ _ trivial (fun hHeld => ?_)
        clear hK K
        refine tq (i := 6) (d := 31) ?_
        simp only [sz, ss]
        refine wpAnyH_ready (rs := [7]) (by kernel_rfl) (by simp) ?_
        refine AllReadyH.cons rfl (fun K hK => ?_) AllReadyH.nil
        have cT5 := bT5.out.cell 3 rfl
        have fT5 := bT5.out.unfrozen 3
        go_simp
        refine hK.out _ _ trivial (fun hHeld => ?_)
        clear hK K
        refine wpAnyH_done (by kernel_rfl) ?_ _
        obtain ⟨hst4, hgg⟩ := KmSt.step hst2.out hgr hg4'.out hok'.out hndk'.out hlok'.out rfl rfl hown5 hgrow5 hat5
        have hst4' : Hid (KmSt n w g TB base tag (.slice aa la ca) as0 fa _ _ _) := hst4
        have htr5 : Hid (TrAt _ g s p4 (j - ck)) := hgg.trans hr4'.out
        clear hst4 hgg
        go_wp2_with fail
        go_roundw
        case rel => exact ⟨p4, j - ck, _, xs ++ [xk], by omega, hp4, by omega, hst4', htr5, by show RestM _ _ _ _ _ _; have := RestM.more hrm'.out (show n - j + j = n by omega) hpre'.out hcmp4'.out; rwa [show n - j + ck = n - (j - ck) by omega] at this, by show ∀ k ∈ xs ++ [xk], _; intro k hk; rcases List.mem_append.1 hk with h | h; exact hcan.out k h; (simp at h; rw [h]; exact hcan4'.out), by show _ = _; rw [hsnd.out, hsnd4'.out, catK_append]; simp [catK], by show _ ≤ _; have := hxl.out; simp; omega⟩
        case measure => rw [hrm.out, roomW_at htr5.out]; omega
      · go_simp
        refine (hS.out j (by omega) _ g s q (by exact htr2.out) hq hss.out (by exact hsg2.out)).mono ?_
        intro e w4 hor
        rcases hor with hyes | ⟨rfl, hg4, hno⟩
        rotate_left
        · have hg4' : Hid (w2.grownBy w4 (some g)) := ⟨hg4.os, hg4.tape, hg4.output, hg4.size, hg4.block⟩
          have hnn : Hid (∀ m y d r, Md m y d (rest s p) r → ¬ d ≤ n + 1) := no_kidM hin.out hrm'.out (by omega) hpre'.out hno
          clear hno hg4
          go_simp
          exact ⟨rfl, Or.inr ⟨rfl, hst2.out.2.2.2.1.trans hg4'.out, hnn.out⟩⟩
        obtain ⟨csk, xk, fsk, ck, p4, rfl, hok, hndk, hlok, hr4, hck1, hck, hp4, hqp4, hcan4, hsnd4, hcmp4, hg4⟩ := hyes
        obtain ⟨kt, ku, a2, l2, c2, a3, l3, c3, rfl⟩ := hok.form4
        have hok' : Hid (MarkOwn n w4 _ xk fsk) := MarkOwn_mono (by omega) hok
        have hndk' : Hid (fsk.Nodup) := hndk
        have hlok' : Hid (∀ b ∈ fsk, w2.heap.size ≤ b) := fun b hb => Nat.le_of_succ_le (hlok b hb)
        clear hok hndk hlok
        have hg4' : Hid (w2.grownBy w4 (some g)) := ⟨hg4.os, hg4.tape, hg4.output, hg4.size, hg4.block⟩
        have hr4' : Hid (TrAt w4 g s p4 (j - ck)) := hr4
        have hcan4' : Hid (CanM n xk) := CanM.mono (by omega) hcan4
        have hsnd4' : Hid (rest s q = mtD n xk ++ rest s p4) := by show _ = _; rw [mtD_mono (show j ≤ n by omega) hcan4]; exact hsnd4
        have hcmp4' : Hid (∀ m y d r, Md m y d (rest s q) r → d ≤ j → xk = y ∧ ck = d ∧ rest s p4 = r) := hcmp4
        have bT4 : Hid (Box w4 (TB) [.string tag, .string ⟨#[]⟩, .slice aa la ca, .slice av xs.length capv] 27) := box_grown bTr.out (by omega) hg4'.out
        have hz4 := hg4'.out.size
        clear hg4 hr4 hcan4 hsnd4 hcmp4
        refine hK.out _ _ trivial (fun hHeld => ?_)
        clear hK K
        refine wpAnyH_ready (rs := [1, 4]) (by kernel_rfl) (by simp) ?_
        refine (AllReadyH.cons rfl (fun K hK => ?_) (AllReadyH.cons rfl (fun K hK => ?_) AllReadyH.nil))
        · have cT : w4.cell? ⟨TB, 3, none⟩ = some (.slice av xs.length capv) := bT4.out.cell 3 rfl
          go_simp
          clear cT
          refine hK.out _ _ trivial (fun hHeld => ?_)
          clear hK K
          refine wpAnyH_ready (rs := [4]) (by kernel_rfl) (by simp) ?_
          refine AllReadyH.cons rfl (fun K hK => ?_) AllReadyH.nil
          go_simp
          refine hK.out _ _ trivial (fun hHeld => ?_)
          clear hK K
          refine wpAnyH_ready (rs := [5]) (by kernel_rfl) (by simp) ?_
          refine AllReadyH.cons rfl (fun K hK => ?_) AllReadyH.nil
          refine step_append_lies (w4.alloc (.cells #[.string kt, .string ku, .slice a2 l2 c2, .slice a3 l3 c3] 27)) rfl _ _ 25 rfl _ 27 iT _ 4 80 Tryd.underlying25 hiT.out heT.out.1 heT.out.2.2 heT.out.2.1 rfl (by decide) (.slice av xs.length capv) xs.length css.flatten rfl ((GrowOwn.stay (MarkOwn_stays n) hgr (w' := (w4.alloc (.cells #[.string kt, .string ku, .slice a2 l2 c2, .slice a3 l3 c3] 27))) (by simp; omega) (fun b q1 q2 => by rw [Below.heap_alloc _ _ _ (by omega), hg4'.out.block b q2 (fun e => by injection e with e; omega)])).row) ⟨w4.heap.size, 0, none⟩ 1 1 [.string kt, .string ku, .slice a2 l2 c2, .slice a3 l3 c3] rfl rfl (by intro i u hu; match i, hu with | 0, hu => (simp at hu; subst hu; simp [Addr.add]) | 1, hu => (simp at hu; subst hu; simp [Addr.add]) | 2, hu => (simp at hu; subst hu; simp [Addr.add]) | 3, hu => (simp at hu; subst hu; simp [Addr.add]) | i + 4, hu => simp at hu) (by intro u hu; simp at hu; rcases hu with rfl | rfl | rfl | rfl <;> rfl) (by omega) (by have := hxl.out; unfold maxLen; omega) (by have := hxl.out; omega) (by simp; omega) _ rfl ?_
          intro g3 capg w5 hown5 hgrow5 hat5 hlt5
          have bT5 : Hid (Box w5 (TB) [.string tag, .string ⟨#[]⟩, .slice aa la ca, .slice av xs.length capv] 27) := (hgrow5.block (TB) (by simp; omega) (by intro e; have := hvb _ e.symm; omega)).trans (bT4.out.alloc _)
          go_simp
          refine hK.out _ _ trivial (fun hHeld => ?_)
          clear hK K
          refine tq (i := 6) (d := 31) ?_
          simp only [sz, ss]
          refine wpAnyH_ready (rs := [7]) (by kernel_rfl) (by simp) ?_
          refine AllReadyH.cons rfl (fun K hK => ?_) AllReadyH.nil
          have cT5 := bT5.out.cell 3 rfl
          have fT5 := bT5.out.unfrozen 3
          go_simp
          refine hK.out _ _ trivial (fun hHeld => ?_)
          clear hK K
          refine wpAnyH_done (by kernel_rfl) ?_ _
          obtain ⟨hst4, hgg⟩ := KmSt.step hst2.out hgr hg4'.out hok'.out hndk'.out hlok'.out rfl rfl hown5 hgrow5 hat5
          have hst4' : Hid (KmSt n w g TB base tag (.slice aa la ca) as0 fa _ _ _) := hst4
          have htr5 : Hid (TrAt _ g s p4 (j - ck)) := hgg.trans hr4'.out
          clear hst4 hgg
          go_wp2_with fail
          go_roundw
          case rel => exact ⟨p4, j - ck, _, xs ++ [xk], by omega, hp4, by omega, hst4', htr5, by show RestM _ _ _ _ _ _; have := RestM.more hrm'.out (show n - j + j = n by omega) hpre'.out hcmp4'.out; rwa [show n - j + ck = n - (j - ck) by omega] at this, by show ∀ k ∈ xs ++ [xk], _; intro k hk; rcases List.mem_append.1 hk with h | h; exact hcan.out k h; (simp at h; rw [h]; exact hcan4'.out), by show _ = _; rw [hsnd.out, hsnd4'.out, catK_append]; simp [catK], by show _ ≤ _; have := hxl.out; simp; omega⟩
          case measure => rw [hrm.out, roomW_at htr5.out]; omega
        · go_simp
          refine hK.out _ _ trivial (fun hHeld => ?_)
          clear hK K
          refine wpAnyH_ready (rs := [1]) (by kernel_rfl) (by simp) ?_
          refine AllReadyH.cons rfl (fun K hK => ?_) AllReadyH.nil
          have cT : (w4.alloc (.cells #[.string kt, .string ku, .slice a2 l2 c2, .slice a3 l3 c3] 27)).cell? ⟨TB, 3, none⟩ = some (.slice av xs.length capv) := (bT4.out.alloc _).cell 3 rfl
          go_simp
          clear cT
          refine hK.out _ _ trivial (fun hHeld => ?_)
          clear hK K
          refine wpAnyH_ready (rs := [5]) (by kernel_rfl) (by simp) ?_
          refine AllReadyH.cons rfl (fun K hK => ?_) AllReadyH.nil
          refine step_append_lies (w4.alloc (.cells #[.string kt, .string ku, .slice a2 l2 c2, .slice a3 l3 c3] 27)) rfl _ _ 25 rfl _ 27 iT _ 4 80 Tryd.underlying25 hiT.out heT.out.1 heT.out.2.2 heT.out.2.1 rfl (by decide) (.slice av xs.length capv) xs.length css.flatten rfl ((GrowOwn.stay (MarkOwn_stays n) hgr (w' := (w4.alloc (.cells #[.string kt, .string ku, .slice a2 l2 c2, .slice a3 l3 c3] 27))) (by simp; omega) (fun b q1 q2 => by rw [Below.heap_alloc _ _ _ (by omega), hg4'.out.block b q2 (fun e => by injection e with e; omega)])).row) ⟨w4.heap.size, 0, none⟩ 1 1 [.string kt, .string ku, .slice a2 l2 c2, .slice a3 l3 c3] rfl rfl (by intro i u hu; match i, hu with | 0, hu => (simp at hu; subst hu; simp [Addr.add]) | 1, hu => (simp at hu; subst hu; simp [Addr.add]) | 2, hu => (simp at hu; subst hu; simp [Addr.add]) | 3, hu => (simp at hu; subst hu; simp [Addr.add]) | i + 4, hu => simp at hu) (by intro u hu; simp at hu; rcases hu with rfl | rfl | rfl | rfl <;> rfl) (by omega) (by have := hxl.out; unfold maxLen; omega) (by have := hxl.out; omega) (by simp; omega) _ rfl ?_
          intro g3 capg w5 hown5 hgrow5 hat5 hlt5
          have bT5 : Hid (Box w5 (TB) [.string tag, .string ⟨#[]⟩, .slice aa la ca, .slice av xs.length capv] 27) := (hgrow5.block (TB) (by simp; omega) (by intro e; have := hvb _ e.symm; omega)).trans (bT4.out.alloc _)
          go_simp
          refine hK.out _ _ trivial (fun hHeld => ?_)
          clear hK K
          refine tq (i := 6) (d := 31) ?_
          simp only [sz, ss]
          refine wpAnyH_ready (rs := [7]) (by kernel_rfl) (by simp) ?_
          refine AllReadyH.cons rfl (fun K hK => ?_) AllReadyH.nil
          have cT5 := bT5.out.cell 3 rfl
          have fT5 := bT5.out.unfrozen 3
          go_simp
          refine hK.out _ _ trivial (fun hHeld => ?_)
          clear hK K
          refine wpAnyH_done (by kernel_rfl) ?_ _
          obtain ⟨hst4, hgg⟩ := KmSt.step hst2.out hgr hg4'.out hok'.out hndk'.out hlok'.out rfl rfl hown5 hgrow5 hat5
          have hst4' : Hid (KmSt n w g TB base tag (.slice aa la ca) as0 fa _ _ _) := hst4
          have htr5 : Hid (TrAt _ g s p4 (j - ck)) := hgg.trans hr4'.out
          clear hst4 hgg
          go_wp2_with fail
          go_roundw
          case rel => exact ⟨p4, j - ck, _, xs ++ [xk], by omega, hp4, by omega, hst4', htr5, by show RestM _ _ _ _ _ _; have := RestM.more hrm'.out (show n - j + j = n by omega) hpre'.out hcmp4'.out; rwa [show n - j + ck = n - (j - ck) by omega] at this, by show ∀ k ∈ xs ++ [xk], _; intro k hk; rcases List.mem_append.1 hk with h | h; exact hcan.out k h; (simp at h; rw [h]; exact hcan4'.out), by show _ = _; rw [hsnd.out, hsnd4'.out, catK_append]; simp [catK], by show _ ≤ _; have := hxl.out; simp; omega⟩
          case measure => rw [hrm.out, roomW_at htr5.out]; omega
    · obtain ⟨⟨bss, css, hgr⟩, bT8, br8, _, hbs, hgw, hwT, hTb, _⟩ := id hst3.out
      obtain ⟨av, capv, rfl⟩ := hgr.form
      have c0 := bT8.cell 0 rfl
      have hqe : Hid (rest s q = 60 :: 47 :: rest s (q + 2)) := rest_of (sign := ⟨#[60, 47]⟩) hpre
      have hdone : Hid (∀ m y d r, Md m y d (rest s p) r → d ≤ n + 1 → MarkD.mk tag ⟨#[]⟩ as0 xs = y ∧ d = n - j + 1 ∧ rest s (q + 2) = tag.data.toList ++ 62 :: r) := doneM hin.out hrm'.out hqe.out
      have hcat1 : ¬ 9223372036854775807 < 2 + tag.size := by have := htz.out; omega
      have hcat2 : ¬ 9223372036854775807 < 2 + tag.size + 1 := by have := htz.out; omega
      clear hpre bT8 br8 hgr
      go_wp2_with fail
      obtain ⟨sg, hsg, hsgl⟩ : ∃ sg : ByteArray, sg = ⟨#[60, 47]⟩ ++ tag ++ ⟨#[62]⟩ ∧ sg.data.toList = [60, 47] ++ tag.data.toList ++ [62] := ⟨_, rfl, by rw [eb_app, eb_app]⟩
      rw [← hsg]
      have hsgl' : Hid (sg.data.toList = [60, 47] ++ tag.data.toList ++ [62]) := hsgl
      clear hsg hsgl hcat1 hcat2
      cases hen : preP ([60, 47] ++ tag.data.toList ++ [62]) (rest s q)
      · refine (take_no htr3.out hq (by rw [hsgl'.out]; exact hen)).mono ?_
        rintro e w9 ⟨rfl, hg9⟩
        have hg9' : Hid (w.grownBy w9 (some g)) := hst3.out.2.2.2.1.trans hg9
        have hnn : Hid (∀ m y d r, Md m y d (rest s p) r → ¬ d ≤ n + 1) := fun m y d r hm hd => by
          obtain ⟨_, _, e3⟩ := hdone.out m y d r hm hd
          refine preP_no hen r ?_
          rw [hqe.out, e3]; simp
        clear hg9
        go_wp2_with fail
        exact ⟨rfl, Or.inr ⟨rfl, hg9'.out, hnn.out⟩⟩
      · refine (take_yes htr3.out hq hss.out (by rw [hsgl'.out]; exact hen)).mono ?_
        rintro e w6 ⟨rfl, htr6, hp6, hg6⟩
        have hst6 : Hid (KmSt n w g TB base tag (.slice aa la ca) as0 fa _ xs w6) := KmSt.grown hst3.out hg6
        have htr6' : Hid (TrAt w6 g s (q + sg.size) j) := htr6
        have hp6' : Hid (q + sg.size ≤ s.size) := hp6
        have hfin : Hid (rest s q = [60, 47] ++ tag.data.toList ++ [62] ++ rest s (q + sg.size)) := by
          have := rest_of (s := s) (sign := sg) (p := q) (by rw [hsgl'.out]; exact hen)
          rw [hsgl'.out] at this; exact this
        clear c0 htr6 hp6 hg6 hen
        obtain ⟨_, bT6, br6, _⟩ := id hst6.out
        have r0 := br6.cell 0 rfl
        have r1 := br6.cell 1 rfl
        have r2 := br6.cell 2 rfl
        have r3 := br6.cell 3 rfl
        have fR := br6.unfrozen
        have c0 := bT6.cell 0 rfl
        have c1 := bT6.cell 1 rfl
        have c2 := bT6.cell 2 rfl
        have c3 := bT6.cell 3 rfl
        have hne : ¬ TB = w.heap.size := by omega
        have htm : Hid (tag.size ≤ maxLen) := by show _ ≤ _; have := htz.out; unfold maxLen; omega
        clear bT6 br6
        go_wp2_with fail
        obtain ⟨fs, q1, q2, q3, q5⟩ := KmSt.done (w' := putCells w6 w.heap.size 0 [.string tag, .string ⟨#[]⟩, .slice aa la ca, .slice av xs.length capv]) hst6.out htm.out (fun b h2 => putCells_other _ _ _ _ _ h2) (by rw [putCells_size]; exact Nat.le_refl _) ⟨rfl, rfl, rfl⟩
        have hisT : isT (MarkD.mk tag ⟨#[]⟩ as0 xs) = false := by unfold isT; rw [MarkD.mk_tag]; apply decide_eq_false; have := (name_len hnm.out).1; rw [bd_len] at this; omega
        refine bodyPost_ret (v := .agg (List.toArray [.string tag, .string ⟨#[]⟩, .slice aa la ca, .slice av xs.length capv])) (by simp [results, Tryd.results28, go_sem, r0, r1, r2, r3]) rfl (Or.inl ⟨_, MarkD.mk tag ⟨#[]⟩ as0 xs, fs, n - j + 1, q + sg.size, rfl, q1, q2, q3, by rw [show n + 1 - (n - j + 1) = j by omega]; exact (putCells_other [.string tag, .string ⟨#[]⟩, .slice aa la ca, .slice av xs.length capv] w6 w.heap.size 0 g (Nat.ne_of_lt hgl)).trans htr6'.out, by omega, by omega, hp6'.out, by omega, canM_mk hcan.out, ?_, ?_, q5⟩)
        · rw [mtD_tag hisT, hopen.out, hsnd.out, hfin.out]
          simp [headM, footM, MarkD.mk_tag, MarkD.mk_attrs, MarkD.mk_kids]
        · intro m y d r hm hd
          obtain ⟨e1, e2, e3⟩ := hdone.out m y d r hm hd
          refine ⟨e1, e2.symm, ?_⟩
          have h1 := hfin.out
          rw [hqe.out, e3] at h1
          have h2 : [60, 47] ++ tag.data.toList ++ [62] ++ r = [60, 47] ++ tag.data.toList ++ [62] ++ rest s (q + sg.size) := by rw [← h1]; simp
          exact (List.append_cancel_left h2).symm
theorem tmF_all : ∀ n, n ≤ 1001 → TmF n := by
  intro n
  induction n using Nat.strongRecOn with
  | ind n ih =>
    intro hn
    cases n with
    | zero => exact tmF_zero
    | succ n => exact tmF_of n (by omega) (fun j hj => ih j (by omega) (by omega))
end Go.Proofs.YtlcddndpfhdakaaDoor
