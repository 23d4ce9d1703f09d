/- instrFrom of the program: walked. -/
import Derived.Test.YtdapgihghbmlfaaGreatDoorRpForm
namespace Go.Proofs.YtdapgihghbmlfaaGreatDoor
open Go.RowKit Go.Deep
theorem rest_of {s sign : ByteArray} {p : Nat} (h : preP sign.data.toList (rest s p) = true) : rest s p = sign.data.toList ++ rest s (p + sign.size) := by
  have h' : (rest s p).take sign.size = sign.data.toList := by rw [preP, bd_len] at h; simpa using h
  have := rest_app (s := s) (p := p) (n := sign.size)
  rw [h'] at this; exact this
theorem box_grown {w w' : World} {b g : Nat} {cs : List Value} {T : TypeId} (h : Box w b cs T) (hne : b ≠ g) (hg : w.grownBy w' (some g)) : Box w' b cs T := (hg.block b h.lt (fun e => hne (by injection e))).trans h
theorem grown_newR {w w' : World} {g b i : Nat} {v : Value} (hb : w.heap.size ≤ b) (h : w.grownBy w' (some g)) : w.grownBy (w'.setCell ⟨b, i, none⟩ v) (some g) :=
  ⟨h.os, h.tape, h.output, by rw [set_size]; exact h.size, fun x hx hne => (set_other (by omega) _).trans (h.block x hx hne)⟩
theorem grown_allocR {w w' : World} {g : Nat} {o : Obj} (h : w.grownBy w' (some g)) : w.grownBy (w'.alloc o) (some g) := h.trans (grown_of_below ((Below.refl _ _).alloc (Nat.le_refl _) o) _)
theorem drop_rest {s : ByteArray} {p n : Nat} : (rest s p).drop n = rest s (p + n) := by unfold rest; rw [List.drop_drop]
theorem rest_len {s : ByteArray} {p : Nat} : (rest s p).length = s.size - p := by unfold rest; rw [List.length_drop, bd_len]
/-- what instrFrom answers -/
def InsR (w : World) (g : Nat) (s : ByteArray) (p k : Nat) (e : Ending) (w' : World) : Prop :=
  (∃ (x : InstrD) (p' : Nat), e = .returned (.agg #[.int .i64 x.vKind, .int .i64 x.vN, .string x.vName]) ∧ rdInstr (rest s p) = some (x, rest s p') ∧ p' ≤ s.size ∧ TrAt w' g s p' k ∧ w.grownBy w' (some g)) ∨ (e = .panicked gaveUp ∧ rdInstr (rest s p) = none ∧ w.grownBy w' (some g))
theorem rdInstr_word {l : List UInt8} (h : nameB (lw l) = true) (hk : ¬ wordK (lw l) = 0) : rdInstr l = rdOpd (wordK (lw l)) (l.drop (lw l).length) := by unfold rdInstr; rw [if_pos h, if_neg hk]
theorem rdInstr_noword {l : List UInt8} (h : nameB (lw l) = true) (hk : wordK (lw l) = 0) : rdInstr l = none := by unfold rdInstr; rw [if_pos h, if_pos hk]
theorem rdInstr_noname {l : List UInt8} (h : nameB (lw l) = false) : rdInstr l = none := by unfold rdInstr; rw [h, if_neg (by simp)]
theorem rdOpd_none {k : Int} {r : List UInt8} (h : opT k = 0) : rdOpd k r = some (⟨k, 0, ⟨#[]⟩⟩, r) := by unfold rdOpd; rw [if_pos h]
theorem rdOpd_bare {k : Int} {r : List UInt8} (h : ¬ opT k = 0) (hp : preP [32] r = false) : rdOpd k r = none := by unfold rdOpd; rw [if_neg h, hp, if_neg (by simp)]
theorem rdOpd_name {k : Int} {r : List UInt8} (h : opT k = 3) (hp : preP [32] r = true) (hn : nameB (lw (r.drop 1)) = true) : rdOpd k r = some (⟨k, 0, ⟨(lw (r.drop 1)).toArray⟩⟩, (r.drop 1).drop (lw (r.drop 1)).length) := by unfold rdOpd; rw [if_neg (by omega), if_pos hp, if_pos h, if_pos hn]
theorem rdOpd_noname {k : Int} {r : List UInt8} (h : opT k = 3) (hp : preP [32] r = true) (hn : nameB (lw (r.drop 1)) = false) : rdOpd k r = none := by unfold rdOpd; rw [if_neg (by omega), if_pos hp, if_pos h, hn, if_neg (by simp)]
theorem rdOpd_num {k : Int} {r : List UInt8} (h0 : ¬ opT k = 0) (h : ¬ opT k = 3) (hp : preP [32] r = true) : rdOpd k r = (rdNum (r.drop 1)).map fun q => (⟨k, q.1, ⟨#[]⟩⟩, q.2) := by unfold rdOpd; rw [if_neg h0, if_pos hp, if_neg h]
set_option maxRecDepth 100000 in
set_option maxHeartbeats 8000000 in
theorem instrFrom_any {w : World} {g : Nat} {s : ByteArray} {p k : Nat} (h : TrAt w g s p k) (hp : p ≤ s.size) (hs : s.size ≤ 1048576) (hT : Tb w) (hg7 : 7 ≤ g) :
    Calls Tryz.prog 36 #[.pointer (some ⟨g, 0, none⟩)] w fun e w' => InsR w g s p k e w' := by
  have hss : Hid (s.size ≤ 1048576) := hs
  have hgl : g < w.heap.size := h.lt
  have hb0 : Hid (Below w.heap.size w (w.alloc (.cells #[.int .i64 0, .int .i64 0, .string ⟨#[]⟩] 34))) := (Below.refl _ _).alloc (Nat.le_refl _) _
  have br0 : Hid (Box (w.alloc (.cells #[.int .i64 0, .int .i64 0, .string ⟨#[]⟩] 34)) w.heap.size [.int .i64 0, .int .i64 0, .string ⟨#[]⟩] 34) := Box.new w _ _
  have h0 : Hid (TrAt (w.alloc (.cells #[.int .i64 0, .int .i64 0, .string ⟨#[]⟩] 34)) g s p k) := h.below hb0.out
  have hg0 : Hid (w.grownBy (w.alloc (.cells #[.int .i64 0, .int .i64 0, .string ⟨#[]⟩] 34)) (some g)) := grown_of_below hb0.out _
  have hT0 : Hid (Tb (w.alloc (.cells #[.int .i64 0, .int .i64 0, .string ⟨#[]⟩] 34))) := hT.below hb0.out hT.lt
  have hg7' : Hid (7 ≤ g) := hg7
  clear h hs hb0 hT hg7
  go_enter Tryz.func36, Tryz.ntmps36
  go_wp2_with fail
  generalize w.alloc (.cells #[.int .i64 0, .int .i64 0, .string ⟨#[]⟩] 34) = w0 at *
  refine (name_any h0.out hp hss.out).mono ?_
  intro e w1 hor
  rcases hor with ⟨hnb, ⟨t, rfl, ht⟩, htr, hg1⟩ | ⟨hnb, rfl, hg1⟩
  rotate_left
  · have hg9' : Hid (w.grownBy w1 (some g)) := hg0.out.trans hg1
    have hrd : Hid (rdInstr (rest s p) = none) := rdInstr_noname hnb
    clear hg1
    go_wp2_with fail
    exact ⟨rfl, Or.inr ⟨rfl, hrd.out, hg9'.out⟩⟩
  obtain ⟨p1, hp1⟩ : ∃ p1, p1 = p + (lw (rest s p)).length := ⟨_, rfl⟩
  have hp1le : Hid (p1 ≤ s.size) := by show _ ≤ _; have := lw_len_le (rest s p); rw [rest_len] at this; omega
  have hdr : Hid ((rest s p).drop (lw (rest s p)).length = rest s p1) := by show _ = _; rw [hp1]; exact drop_rest
  have htr1 : Hid (TrAt w1 g s p1 k) := by rw [hp1]; exact htr
  have hgw1 : Hid (w.grownBy w1 (some g)) := hg0.out.trans hg1
  have br1 : Hid (Box w1 w.heap.size [.int .i64 0, .int .i64 0, .string ⟨#[]⟩] 34) := box_grown br0.out (by omega) hg1
  have hT1 : Hid (Tb w1) := hT0.out.grown hg1 hg7'.out
  have hnb' : Hid (nameB (lw (rest s p)) = true) := hnb
  have ht' : Hid (t.data.toList = lw (rest s p)) := ht
  clear htr hg1 br0 h0 hg0 hT0 hnb ht hp1
  go_wp2_with fail
  refine (formCalled_any t w1 hT1.out.1).mono ?_
  rintro e w2 ⟨rfl, hb2⟩
  rw [ht'.out]
  have htr2 : Hid (TrAt w2 g s p1 k) := htr1.out.below hb2
  have hgw2 : Hid (w.grownBy w2 (some g)) := hgw1.out.trans (grown_of_below hb2 _)
  have br2 : Hid (Box w2 w.heap.size [.int .i64 0, .int .i64 0, .string ⟨#[]⟩] 34) := br1.out.below hb2 br1.out.lt
  have hT2 : Hid (Tb w2) := hT1.out.below hb2 hT1.out.lt
  have hwz : w.heap.size < w2.heap.size := br2.out.lt
  clear hb2 htr1 hgw1 br1 hT1 ht'
  by_cases hk0 : wordK (lw (rest s p)) = 0
  · have hrd : Hid (rdInstr (rest s p) = none) := rdInstr_noword hnb'.out hk0
    rw [formV_no (by omega)]
    clear hk0
    go_wp2_with fail
    refine (giveUp_any _ _).mono ?_
    rintro e w3 ⟨rfl, rfl⟩
    go_wp2_with fail
    exact ⟨rfl, Or.inr ⟨rfl, hrd.out, grown_allocR hgw2.out⟩⟩
  have hkr := (wordK_some hk0).1
  have hri : Hid (rdInstr (rest s p) = rdOpd (wordK (lw (rest s p))) (rest s p1)) := by show _ = _; rw [rdInstr_word hnb'.out hk0, hdr.out]
  rw [formV_is hkr]
  clear hk0 hnb' hdr
  generalize wordK (lw (rest s p)) = K at *
  generalize hwd : wordT K = wd
  generalize hop : opT K = op
  generalize htk : takesT K = tk
  generalize hgv : givesT K = gv
  have hop' : Hid (opT K = op) := hop
  clear hwd hop htk hgv hkr
  obtain ⟨W, hW⟩ : ∃ W, (w2.alloc (.cells #[.int .i64 K, .string wd, .int .i64 op, .int .i64 tk, .int .i64 gv] 56)).alloc (.cells #[.int .i64 K, .int .i64 0, .string ⟨#[]⟩] 34) = W := ⟨_, rfl⟩
  have bF : Hid (Box W w2.heap.size [.int .i64 K, .string wd, .int .i64 op, .int .i64 tk, .int .i64 gv] 56) := by rw [← hW]; exact (Box.new w2 _ _).alloc _
  have bI : Hid (Box W (w2.heap.size + 1) [.int .i64 K, .int .i64 0, .string ⟨#[]⟩] 34) := by
    rw [← hW]
    have q := Box.new (w2.alloc (.cells #[.int .i64 K, .string wd, .int .i64 op, .int .i64 tk, .int .i64 gv] 56)) [.int .i64 K, .int .i64 0, .string ⟨#[]⟩] 34
    simpa only [World.size_alloc, Hid] using q
  have hbW : Below w2.heap.size w2 W := by rw [← hW]; exact ((Below.refl _ _).alloc (Nat.le_refl _) _).alloc (by simp) _
  have htrW : Hid (TrAt W g s p1 k) := htr2.out.below hbW
  have hgW : Hid (w.grownBy W (some g)) := hgw2.out.trans (grown_of_below hbW _)
  have brW : Hid (Box W w.heap.size [.int .i64 0, .int .i64 0, .string ⟨#[]⟩] 34) := br2.out.below hbW br2.out.lt
  have hTW : Hid (Tb W) := hT2.out.below hbW hT2.out.lt
  have hWh : Hid ((w2.alloc (.cells #[.int .i64 K, .string wd, .int .i64 op, .int .i64 tk, .int .i64 gv] 56)).alloc (.cells #[.int .i64 K, .int .i64 0, .string ⟨#[]⟩] 34) = W) := hW
  have hwz' : Hid (w.heap.size < w2.heap.size) := hwz
  clear hbW htr2 hgw2 br2 hT2 hW
  by_cases hop0 : op = 0
  · subst hop0
    have hrs : Hid (rdInstr (rest s p) = some (⟨K, 0, ⟨#[]⟩⟩, rest s p1)) := by show _ = _; rw [hri.out]; exact rdOpd_none hop'.out
    have r0 := brW.out.cell 0 rfl
    have r1 := brW.out.cell 1 rfl
    have r2 := brW.out.cell 2 rfl
    have fR := brW.out.unfrozen
    have i0 := bI.out.cell 0 rfl
    have i1 := bI.out.cell 1 rfl
    have i2 := bI.out.cell 2 rfl
    have o2 := bF.out.cell 2 rfl
    have o0 := bF.out.cell 0 rfl
    go_upto_region 5 with fail
    rw [hWh.out]
    go_wp2_with fail
    have z1 := Box.set (i := 2) (Box.set (i := 1) (Box.set (i := 0) brW.out (.int .i64 K)) (.int .i64 0)) (.string ⟨#[]⟩)
    have z10 := z1.cell 0 rfl
    have z11 := z1.cell 1 rfl
    have z12 := z1.cell 2 rfl
    refine bodyPost_ret (v := .agg #[.int .i64 K, .int .i64 0, .string ⟨#[]⟩]) (by simp [results, Tryz.results36, go_sem, z10, z11, z12]) rfl (Or.inl ⟨⟨K, 0, ⟨#[]⟩⟩, p1, rfl, hrs.out, hp1le.out, ?_, ?_⟩)
    · exact (putCells_other [.int .i64 K, .int .i64 0, .string ⟨#[]⟩] W w.heap.size 0 g (Nat.ne_of_lt hgl)).trans htrW.out
    · exact grown_newR (by omega) (grown_newR (by omega) (grown_newR (by omega) hgW.out))
  · have o2 := bF.out.cell 2 rfl
    have o0 := bF.out.cell 0 rfl
    go_upto_region 5 with fail
    rw [hWh.out]
    go_wp2_with fail
    have hpq : Hid (p1 ≤ s.size) := hp1le.out
    have hop0' : Hid (¬ opT K = 0) := by rw [hop'.out]; exact hop0
    cases hpre : preP [32] (rest s p1)
    · refine (take_no htrW.out hpq.out hpre).mono ?_
      rintro e w9 ⟨rfl, hg9⟩
      have hrs : Hid (rdInstr (rest s p) = none) := by show _ = _; rw [hri.out]; exact rdOpd_bare hop0'.out hpre
      have hg9' : Hid (w.grownBy w9 (some g)) := hgW.out.trans hg9
      clear hg9
      go_wp2_with fail
      exact ⟨rfl, Or.inr ⟨rfl, hrs.out, hg9'.out⟩⟩
    refine (take_yes htrW.out hpq.out hss.out hpre).mono ?_
    rintro e w5 ⟨rfl, htr5, hp5, hg5⟩
    have htr5' : Hid (TrAt w5 g s (p1 + 1) k) := htr5
    have hp5' : Hid (p1 + 1 ≤ s.size) := hp5
    have hg5' : Hid (w.grownBy w5 (some g)) := hgW.out.trans hg5
    have bF5 : Hid (Box w5 w2.heap.size [.int .i64 K, .string wd, .int .i64 op, .int .i64 tk, .int .i64 gv] 56) := box_grown bF.out (by omega) hg5
    have bI5 : Hid (Box w5 (w2.heap.size + 1) [.int .i64 K, .int .i64 0, .string ⟨#[]⟩] 34) := box_grown bI.out (by omega) hg5
    have br5 : Hid (Box w5 w.heap.size [.int .i64 0, .int .i64 0, .string ⟨#[]⟩] 34) := box_grown brW.out (by omega) hg5
    have hT5 : Hid (Tb w5) := hTW.out.grown hg5 hg7'.out
    have hpre' : Hid (preP [32] (rest s p1) = true) := hpre
    clear htr5 hp5 hg5 bF bI brW hTW htrW hgW hWh hpre o2 o0
    have o2 := bF5.out.cell 2 rfl
    by_cases hop3 : op = 3
    · subst hop3
      have hop3' : Hid (opT K = 3) := hop'.out
      clear hop'
      go_wp2_with fail
      refine (name_any htr5'.out hp5'.out hss.out).mono ?_
      intro e w6 hor
      rcases hor with ⟨hnb, ⟨u, rfl, hu⟩, htr6, hg6⟩ | ⟨hnb, rfl, hg6⟩
      rotate_left
      · have hrs : Hid (rdInstr (rest s p) = none) := by show _ = _; rw [hri.out]; exact rdOpd_noname hop3'.out hpre'.out (by rw [drop_rest]; exact hnb)
        have hg9' : Hid (w.grownBy w6 (some g)) := hg5'.out.trans hg6
        clear hg6
        go_wp2_with fail
        exact ⟨rfl, Or.inr ⟨rfl, hrs.out, hg9'.out⟩⟩
      obtain ⟨p3, hp3e⟩ : ∃ p3, p3 = p1 + 1 + (lw (rest s (p1 + 1))).length := ⟨_, rfl⟩
      have hp3 : Hid (p3 ≤ s.size) := by show _ ≤ _; have := lw_len_le (rest s (p1 + 1)); rw [rest_len] at this; have := hp5'.out; omega
      have hrs : Hid (rdInstr (rest s p) = some (⟨K, 0, u⟩, rest s p3)) := by
        show _ = _
        rw [hri.out, rdOpd_name hop3'.out hpre'.out (by rw [drop_rest]; exact hnb), drop_rest, drop_rest, hp3e]
        rw [show (⟨(lw (rest s (p1 + 1))).toArray⟩ : ByteArray) = u from ba_of (by simp [hu])]
      have htr6' : Hid (TrAt w6 g s p3 k) := by rw [hp3e]; exact htr6
      have hg6' : Hid (w.grownBy w6 (some g)) := hg5'.out.trans hg6
      have bI6 : Hid (Box w6 (w2.heap.size + 1) [.int .i64 K, .int .i64 0, .string ⟨#[]⟩] 34) := box_grown bI5.out (by omega) hg6
      have br6 : Hid (Box w6 w.heap.size [.int .i64 0, .int .i64 0, .string ⟨#[]⟩] 34) := box_grown br5.out (by omega) hg6
      clear htr6 hg6 hu hnb hp3e bI5 br5 bF5 hT5 htr5' hg5' o2
      have i2 := bI6.out.cell 2 rfl
      have f2 := bI6.out.unfrozen 2
      have bIF : Hid (Box (w6.setCell ⟨w2.heap.size + 1, 2, none⟩ (.string u)) (w2.heap.size + 1) [.int .i64 K, .int .i64 0, .string u] 34) := Box.set (i := 2) bI6.out _
      have brF : Hid (Box (w6.setCell ⟨w2.heap.size + 1, 2, none⟩ (.string u)) w.heap.size [.int .i64 0, .int .i64 0, .string ⟨#[]⟩] 34) := br6.out.other (by omega) _
      have htrF : Hid (TrAt (w6.setCell ⟨w2.heap.size + 1, 2, none⟩ (.string u)) g s p3 k) := Box.other htr6'.out (by omega) _
      have hgF : Hid (w.grownBy (w6.setCell ⟨w2.heap.size + 1, 2, none⟩ (.string u)) (some g)) := grown_newR (by omega) hg6'.out
      have r0 := brF.out.cell 0 rfl
      have r1 := brF.out.cell 1 rfl
      have r2 := brF.out.cell 2 rfl
      have fR := brF.out.unfrozen
      have j0 := bIF.out.cell 0 rfl
      have j1 := bIF.out.cell 1 rfl
      have j2 := bIF.out.cell 2 rfl
      go_wp2_with fail
      have z1 := Box.set (i := 2) (Box.set (i := 1) (Box.set (i := 0) brF.out (.int .i64 K)) (.int .i64 0)) (.string u)
      have z10 := z1.cell 0 rfl
      have z11 := z1.cell 1 rfl
      have z12 := z1.cell 2 rfl
      refine bodyPost_ret (v := .agg #[.int .i64 K, .int .i64 0, .string u]) (by simp [results, Tryz.results36, go_sem, z10, z11, z12]) rfl (Or.inl ⟨⟨K, 0, u⟩, p3, rfl, hrs.out, hp3.out, ?_, ?_⟩)
      · exact (putCells_other [.int .i64 K, .int .i64 0, .string u] _ w.heap.size 0 g (Nat.ne_of_lt hgl)).trans htrF.out
      · exact grown_newR (by omega) (grown_newR (by omega) (grown_newR (by omega) hgF.out))
    · have hop3' : Hid (¬ opT K = 3) := by rw [hop'.out]; exact hop3
      clear hop'
      go_wp2_with fail
      refine (number_any htr5'.out hp5'.out hss.out hT5.out.2.2 (fun w' hb => by
        have q := hT5.out.keep (w' := w') (fun b h7 => hb b (by have := hT5.out.lt; omega))
        exact ⟨q.2.2, q.2.1⟩)).mono ?_
      intro e w6 hor
      rcases hor with ⟨n, p3, rfl, hrd, hp3e, htr6, hg6⟩ | ⟨rfl, hrd, hg6⟩
      rotate_left
      · have hrs : Hid (rdInstr (rest s p) = none) := by show _ = _; rw [hri.out, rdOpd_num hop0'.out hop3'.out hpre'.out, drop_rest, hrd]; rfl
        have hg9' : Hid (w.grownBy w6 (some g)) := hg5'.out.trans hg6
        clear hg6
        go_wp2_with fail
        exact ⟨rfl, Or.inr ⟨rfl, hrs.out, hg9'.out⟩⟩
      have hp3 : Hid (p3 ≤ s.size) := hp3e
      have hrs : Hid (rdInstr (rest s p) = some (⟨K, n, ⟨#[]⟩⟩, rest s p3)) := by show _ = _; rw [hri.out, rdOpd_num hop0'.out hop3'.out hpre'.out, drop_rest, hrd]; rfl
      have htr6' : Hid (TrAt w6 g s p3 k) := htr6
      have hg6' : Hid (w.grownBy w6 (some g)) := hg5'.out.trans hg6
      have bI6 : Hid (Box w6 (w2.heap.size + 1) [.int .i64 K, .int .i64 0, .string ⟨#[]⟩] 34) := box_grown bI5.out (by omega) hg6
      have br6 : Hid (Box w6 w.heap.size [.int .i64 0, .int .i64 0, .string ⟨#[]⟩] 34) := box_grown br5.out (by omega) hg6
      clear htr6 hg6 hrd hp3e bI5 br5 bF5 hT5 htr5' hg5' o2
      have i1 := bI6.out.cell 1 rfl
      have f1 := bI6.out.unfrozen 1
      have bIF : Hid (Box (w6.setCell ⟨w2.heap.size + 1, 1, none⟩ (.int .i64 n)) (w2.heap.size + 1) [.int .i64 K, .int .i64 n, .string ⟨#[]⟩] 34) := Box.set (i := 1) bI6.out _
      have brF : Hid (Box (w6.setCell ⟨w2.heap.size + 1, 1, none⟩ (.int .i64 n)) w.heap.size [.int .i64 0, .int .i64 0, .string ⟨#[]⟩] 34) := br6.out.other (by omega) _
      have htrF : Hid (TrAt (w6.setCell ⟨w2.heap.size + 1, 1, none⟩ (.int .i64 n)) g s p3 k) := Box.other htr6'.out (by omega) _
      have hgF : Hid (w.grownBy (w6.setCell ⟨w2.heap.size + 1, 1, none⟩ (.int .i64 n)) (some g)) := grown_newR (by omega) hg6'.out
      have r0 := brF.out.cell 0 rfl
      have r1 := brF.out.cell 1 rfl
      have r2 := brF.out.cell 2 rfl
      have fR := brF.out.unfrozen
      have j0 := bIF.out.cell 0 rfl
      have j1 := bIF.out.cell 1 rfl
      have j2 := bIF.out.cell 2 rfl
      go_wp2_with fail
      have z1 := Box.set (i := 2) (Box.set (i := 1) (Box.set (i := 0) brF.out (.int .i64 K)) (.int .i64 n)) (.string ⟨#[]⟩)
      have z10 := z1.cell 0 rfl
      have z11 := z1.cell 1 rfl
      have z12 := z1.cell 2 rfl
      refine bodyPost_ret (v := .agg #[.int .i64 K, .int .i64 n, .string ⟨#[]⟩]) (by simp [results, Tryz.results36, go_sem, z10, z11, z12]) rfl (Or.inl ⟨⟨K, n, ⟨#[]⟩⟩, p3, rfl, hrs.out, hp3.out, ?_, ?_⟩)
      · exact (putCells_other [.int .i64 K, .int .i64 n, .string ⟨#[]⟩] _ w.heap.size 0 g (Nat.ne_of_lt hgl)).trans htrF.out
      · exact grown_newR (by omega) (grown_newR (by omega) (grown_newR (by omega) hgF.out))
end Go.Proofs.YtdapgihghbmlfaaGreatDoor
