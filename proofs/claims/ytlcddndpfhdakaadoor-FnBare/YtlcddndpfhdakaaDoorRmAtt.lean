/- attrsFrom of the program: walked. -/
import Derived.Test.YtlcddndpfhdakaaDoorRmSmall
import Derived.Test.YtlcddndpfhdakaaDoorMarkOwn
import Derived.Test.YtlcddndpfhdakaaDoorGrowK
namespace Go.Proofs.YtlcddndpfhdakaaDoor
open Go.RowKit Go.Deep
theorem infoAt : ((Tryd.prog.info? 70).map fun i => (i.zero, i.bytes, i.size)) = some (some (.agg #[.string ByteArray.empty, .string ByteArray.empty]), 32, 2) := by kernel_rfl
/-- where a reader stands, in memory -/
def posT (g : Nat) (w : World) : Nat := match w.cell? ⟨g, 1, none⟩ with
  | some v => (intOf v).toNat
  | none => 0
theorem posT_at {w : World} {g : Nat} {s : ByteArray} {p k : Nat} (h : TrAt w g s p k) : posT g w = p := by
  have := h.cell 1 rfl
  simp [posT, this, intOf]
theorem grown_below2 {a w w' : World} {g : Nat} {B : Nat} (h : a.grownBy w (some g)) (hb : Below B w w') (hB : a.heap.size ≤ B) : a.grownBy w' (some g) :=
  ⟨hb.os.trans h.os, hb.tape.trans h.tape, hb.output.trans h.output, Nat.le_trans h.size hb.size, fun b q1 q2 => (hb.block b (by omega)).trans (h.block b q1 q2)⟩
theorem grown_new {w w' : World} {g b i : Nat} {v : Value} (hb : w.heap.size ≤ b) (h : w.grownBy w' (some g)) : w.grownBy (w'.setCell ⟨b, i, none⟩ v) (some g) :=
  ⟨h.os, h.tape, h.output, by rw [set_size]; exact h.size, fun x hx hne => (set_other (by omega) _).trans (h.block x hx hne)⟩
def rdAs (l : List UInt8) : Option (List AttrD × List UInt8) := rdAtts (l.length + 1) [] l
theorem rdAtts_more {n : Nat} {xs : List AttrD} {l r : List UInt8} {x : AttrD} (hp : preP [32] l = true) (h : rdAtt (l.drop 1) = some (x, r)) : rdAtts (n + 1) xs l = rdAtts n (xs ++ [x]) r := by
  conv => lhs; unfold rdAtts
  rw [if_pos hp, h]
theorem rdAtts_none {n : Nat} {xs : List AttrD} {l : List UInt8} (hp : preP [32] l = true) (h : rdAtt (l.drop 1) = none) : rdAtts (n + 1) xs l = none := by
  unfold rdAtts; rw [if_pos hp, h]
theorem rdAtts_end {n : Nat} {xs : List AttrD} {l : List UInt8} (hp : preP [32] l = false) : rdAtts (n + 1) xs l = some (xs, l) := by
  unfold rdAtts; rw [hp, if_neg (by simp)]
theorem rdAtt_a {s : ByteArray} {q : Nat} (h : nameB (lw (rest s (q + 1))) = false) : rdAtt ((rest s q).drop 1) = none := by rw [drop_rest]; unfold rdAtt; rw [h, if_neg (by simp)]
theorem rdAtt_b {s nm : ByteArray} {q : Nat} (hn : nm.data.toList = lw (rest s (q + 1))) (h : nameB (lw (rest s (q + 1))) = true) (h2 : preP [61, 34] (rest s (q + 1 + nm.size)) = false) : rdAtt ((rest s q).drop 1) = none := by
  rw [drop_rest]; unfold rdAtt; rw [if_pos h, drop_rest, ← hn, bd_len, h2, if_neg (by simp)]
theorem rdAtt_c {s nm : ByteArray} {q : Nat} (hn : nm.data.toList = lw (rest s (q + 1))) (h : nameB (lw (rest s (q + 1))) = true) (h2 : preP [61, 34] (rest s (q + 1 + nm.size)) = true) (h3 : unL (upto 34 (rest s (q + 1 + nm.size + 2))) = none) : rdAtt ((rest s q).drop 1) = none := by
  rw [drop_rest]; unfold rdAtt; rw [if_pos h, drop_rest, drop_rest, ← hn, bd_len, if_pos h2, ← Nat.add_assoc, h3]
theorem rdAtt_d {s nm vl : ByteArray} {q : Nat} (hn : nm.data.toList = lw (rest s (q + 1))) (h : nameB (lw (rest s (q + 1))) = true) (h2 : preP [61, 34] (rest s (q + 1 + nm.size)) = true) (h3 : unL (upto 34 (rest s (q + 1 + nm.size + 2))) = some vl.data.toList) (h4 : preP [34] (rest s (q + 1 + nm.size + 2 + (upto 34 (rest s (q + 1 + nm.size + 2))).length)) = false) : rdAtt ((rest s q).drop 1) = none := by
  rw [drop_rest]; unfold rdAtt; rw [if_pos h, drop_rest, drop_rest, ← hn, bd_len, if_pos h2, ← Nat.add_assoc, h3]; simp only []; rw [drop_rest, ← Nat.add_assoc, ← Nat.add_assoc, h4, if_neg (by simp)]
theorem rdAtt_e {s nm vl : ByteArray} {q : Nat} (hn : nm.data.toList = lw (rest s (q + 1))) (h : nameB (lw (rest s (q + 1))) = true) (h2 : preP [61, 34] (rest s (q + 1 + nm.size)) = true) (h3 : unL (upto 34 (rest s (q + 1 + nm.size + 2))) = some vl.data.toList) (h4 : preP [34] (rest s (q + 1 + nm.size + 2 + (upto 34 (rest s (q + 1 + nm.size + 2))).length)) = true) : rdAtt ((rest s q).drop 1) = some (⟨nm, vl⟩, rest s (q + 1 + nm.size + 2 + (upto 34 (rest s (q + 1 + nm.size + 2))).length + 1)) := by
  rw [drop_rest]; unfold rdAtt; rw [if_pos h, drop_rest, drop_rest, ← hn, bd_len, if_pos h2, ← Nat.add_assoc, h3]; simp only []; rw [drop_rest, drop_rest, ← Nat.add_assoc, ← Nat.add_assoc, if_pos h4, ← Nat.add_assoc, ← Nat.add_assoc, ← Nat.add_assoc]
set_option maxRecDepth 100000 in
set_option maxHeartbeats 8000000 in
theorem attrsFrom_any {w : World} {g : Nat} {s : ByteArray} {p k : Nat} (h : TrAt w g s p k) (hp : p ≤ s.size) (hs : s.size ≤ 1048576) (hsg : Signs w) :
    Calls Tryd.prog 58 #[.pointer (some ⟨g, 0, none⟩)] w fun e w' =>
      (∃ (v : Value) (xs : List AttrD) (fs : List Nat) (p' : Nat), e = .returned v ∧ SeqOwn 2 AttrOwn w' v xs fs ∧ fs.Nodup ∧ (∀ b ∈ fs, w.heap.size ≤ b) ∧ TrAt w' g s p' k ∧ p ≤ p' ∧ p' ≤ s.size ∧ rdAs (rest s p) = some (xs, rest s p') ∧ w.grownBy w' (some g)) ∨ (e = .panicked gaveUp ∧ w.grownBy w' (some g) ∧ rdAs (rest s p) = none) := by
  have hss : Hid (s.size ≤ 1048576) := hs
  have hgl : g < w.heap.size := h.lt
  have hg0 : g ≠ 0 := tr_ne h hsg
  have h' : Hid (TrAt w g s p k) := h
  have hsg' : Hid (Signs w) := hsg
  obtain ⟨iT, hiT0, heT0⟩ := Option.map_eq_some_iff.1 infoAt
  simp only [Prod.mk.injEq] at heT0
  have hiT : Hid (Tryd.prog.info? 70 = some iT) := hiT0
  have heT : Hid (iT.zero = some (.agg #[.string ByteArray.empty, .string ByteArray.empty]) ∧ iT.bytes = 32 ∧ iT.size = 2) := heT0
  clear hiT0 heT0 h hs hsg
  go_enter Tryd.func58, Tryd.ntmps58
  go_wp2_with fail
  go_loopw [3] (fun v wr => ∃ (q f : Nat) (xs : List AttrD), p ≤ q ∧ q ≤ s.size ∧ Hid (∃ bss css, GrowOwn 70 2 AttrOwn w.heap.size wr v xs bss css) ∧ Hid (TrAt wr g s q k) ∧ Hid (w.grownBy wr (some g)) ∧ Hid (rdAs (rest s p) = rdAtts f xs (rest s q)) ∧ Hid (s.size - q < f) ∧ Hid (xs.length ≤ q)) (fun _ wr => s.size - posT g wr)
  case atStart => exact ⟨p, (rest s p).length + 1, [], Nat.le_refl _, hp, ⟨[], [], GrowOwn.nil⟩, h', grown_refl _ _, rfl, by show _ < _; rw [rest_len]; omega, by show (0 : Nat) ≤ _; omega⟩
  case round =>
    obtain ⟨q, f, xs, hpq, hq, hgrE, htr, hgw, hR, hf, hxl⟩ := hrel
    obtain ⟨f, rfl⟩ : ∃ f', f = f' + 1 := ⟨f - 1, by have := hf.out; omega⟩
    obtain ⟨bss, css, hgr⟩ := hgrE.out
    obtain ⟨av, capv, rfl⟩ := hgr.form
    have hpos : Hid (posT g wr = q) := posT_at htr.out
    clear hgrE
    go_wp2_with fail
    refine (sees_any htr.out hq).mono ?_
    rintro e w1 ⟨rfl, n1, rfl⟩
    have htr1 : Hid (TrAt (wr.drewN n1) g s q k) := htr.out
    have hgw1 : Hid (w.grownBy (wr.drewN n1) (some g)) := hgw.out.trans grown_drewN
    have hgr1 : Hid (GrowOwn 70 2 AttrOwn w.heap.size (wr.drewN n1) (.slice av xs.length capv) xs bss css) := hgr.stay AttrOwn_stays (Nat.le_refl _) (fun _ _ _ => rfl)
    clear htr hgw hgr
    cases hpre : preP [32] (rest s q)
    · have hR1 : Hid (rdAs (rest s p) = some (xs, rest s q)) := by show _ = _; rw [hR.out]; exact rdAtts_end hpre
      go_wp2_with fail
      go_ret
      obtain ⟨fs, o1, o2⟩ := hgr1.out.done
      exact Or.inl ⟨_, xs, fs, q, rfl, o1, o1.nodup, o2, htr1.out, hpq, hq, hR1.out, hgw1.out⟩
    · go_wp2_with fail
      refine (take_yes htr1.out hq hss.out hpre).mono ?_
      rintro e w3 ⟨rfl, htr3, hq3, hg3⟩
      have htr3' : Hid (TrAt w3 g s (q + 1) k) := htr3
      have hq3' : Hid (q + 1 ≤ s.size) := hq3
      have hgw3 : Hid (w.grownBy w3 (some g)) := hgw1.out.trans hg3
      have hgr : Hid (GrowOwn 70 2 AttrOwn w.heap.size w3 (.slice av xs.length capv) xs bss css) := hgr1.out.stay AttrOwn_stays hg3.size (fun b h1 h2 => hg3.block b h2 (fun e => by injection e; omega))
      clear htr3 hq3 hg3 hgr1 htr1 hgw1
      go_wp2_with fail
      refine (name_any htr3'.out hq3'.out hss.out).mono ?_
      intro e w4 hor
      rcases hor with ⟨hnb, ⟨nm, rfl, hnm⟩, htr4, hg4⟩ | ⟨hnb, rfl, hg4⟩
      rotate_left
      · have hgp' : Hid (w.grownBy w4 (some g)) := hgw3.out.trans hg4
        have hrs : Hid (rdAs (rest s p) = none) := by show _ = _; rw [hR.out]; exact rdAtts_none hpre (rdAtt_a hnb)
        clear hg4 hnb
        go_wp2_with fail
        exact ⟨rfl, Or.inr ⟨rfl, hgp'.out, hrs.out⟩⟩
      have hnb' : Hid (nameB (lw (rest s (q + 1))) = true) := hnb
      have hnm' : Hid (nm.data.toList = lw (rest s (q + 1))) := hnm
      have hgw4 : Hid (w.grownBy w4 (some g)) := hgw3.out.trans hg4
      have hz3 : w.heap.size ≤ w3.heap.size := hgw3.out.size
      have hz4 : w3.heap.size ≤ w4.heap.size := hg4.size
      have hlw := lw_len_le (rest s (q + 1))
      rw [rest_len, ← hnm, bd_len] at hlw
      have hqn : Hid (q + 1 + nm.size ≤ s.size) := by show _ ≤ _; have := hq3'.out; omega
      have hg34 : Hid (w3.grownBy w4 (some g)) := hg4
      have hbA : Below w4.heap.size w4 (w4.alloc (.cells #[.string nm, .string ⟨#[]⟩] 70)) := (Below.refl _ _).alloc (Nat.le_refl _) _
      have htr5 : Hid (TrAt (w4.alloc (.cells #[.string nm, .string ⟨#[]⟩] 70)) g s (q + 1 + nm.size) k) := by rw [← hnm, bd_len] at htr4; exact htr4.below hbA
      have hgw5 : Hid (w.grownBy (w4.alloc (.cells #[.string nm, .string ⟨#[]⟩] 70)) (some g)) := hgw4.out.trans (grown_of_below hbA _)
      have hg35 : Hid (w3.grownBy (w4.alloc (.cells #[.string nm, .string ⟨#[]⟩] 70)) (some g)) := hg34.out.trans (grown_of_below hbA _)
      have bA5 : Hid (Box (w4.alloc (.cells #[.string nm, .string ⟨#[]⟩] 70)) w4.heap.size [.string nm, .string ⟨#[]⟩] 70) := Box.new w4 _ _
      generalize hA : w4.heap.size = A at bA5
      have hgA : g ≠ A := by omega
      have hAz : w3.heap.size ≤ A := by omega
      have hAw : w.heap.size ≤ A := by omega
      clear hnb hnm htr4 hg4 hbA hgw4 hg34 hlw
      go_wp2_with fail
      clear hA
      generalize w4.alloc (.cells #[.string nm, .string ⟨#[]⟩] 70) = w5 at *
      cases hp2 : preP [61, 34] (rest s (q + 1 + nm.size))
      · skip
        refine (take_no htr5.out hqn.out hp2).mono ?_
        rintro e wp ⟨rfl, hgp⟩
        have hgp' : Hid (w.grownBy wp (some g)) := hgw5.out.trans hgp
        have hrs : Hid (rdAs (rest s p) = none) := by show _ = _; rw [hR.out]; exact rdAtts_none hpre (rdAtt_b hnm'.out hnb'.out hp2)
        clear hgp
        go_wp2_with fail
        exact ⟨rfl, Or.inr ⟨rfl, hgp'.out, hrs.out⟩⟩
      refine (take_yes htr5.out hqn.out hss.out hp2).mono ?_
      rintro e w6 ⟨rfl, htr6, hq6, hg6⟩
      have htr6' : Hid (TrAt w6 g s (q + 1 + nm.size + 2) k) := htr6
      have hq6' : Hid (q + 1 + nm.size + 2 ≤ s.size) := hq6
      have hgw6 : Hid (w.grownBy w6 (some g)) := hgw5.out.trans hg6
      have hg36 : Hid (w3.grownBy w6 (some g)) := hg35.out.trans hg6
      have bA6 : Hid (Box w6 A [.string nm, .string ⟨#[]⟩] 70) := box_grown bA5.out (Ne.symm hgA) hg6
      have hp2' : Hid (preP [61, 34] (rest s (q + 1 + nm.size)) = true) := hp2
      clear htr6 hq6 hg6 hp2 htr5 hgw5 hg35 bA5
      go_wp2_with fail
      refine (plainUpTo_any 34 htr6'.out hq6'.out hss.out (Signs.grown hsg'.out hgw6.out hg0)).mono ?_
      intro e w7 hor
      rcases hor with ⟨vl, rfl, hvl, htr7, hg7⟩ | ⟨rfl, hvl, hg7⟩
      rotate_left
      · have hgp' : Hid (w.grownBy w7 (some g)) := hgw6.out.trans hg7
        have hrs : Hid (rdAs (rest s p) = none) := by show _ = _; rw [hR.out]; exact rdAtts_none hpre (rdAtt_c hnm'.out hnb'.out hp2'.out hvl)
        clear hg7 hvl
        go_wp2_with fail
        exact ⟨rfl, Or.inr ⟨rfl, hgp'.out, hrs.out⟩⟩
      have hvl' : Hid (unL (upto 34 (rest s (q + 1 + nm.size + 2))) = some vl.data.toList) := hvl
      have hul := upto_len 34 (rest s (q + 1 + nm.size + 2))
      have hun := unL_length hvl
      rw [bd_len] at hun
      rw [rest_len] at hul
      have hvz : Hid (vl.size ≤ 1048576) := by show _ ≤ _; have := hss.out; omega
      have hq7 : Hid (q + 1 + nm.size + 2 + (upto 34 (rest s (q + 1 + nm.size + 2))).length ≤ s.size) := by show _ ≤ _; have := hq6'.out; omega
      have bA7 : Hid (Box w7 A [.string nm, .string ⟨#[]⟩] 70) := box_grown bA6.out (Ne.symm hgA) hg7
      have a1 := bA7.out.cell 1 rfl
      have fA := bA7.out.unfrozen 1
      have htr8 : Hid (TrAt (w7.setCell ⟨A, 1, none⟩ (.string vl)) g s (q + 1 + nm.size + 2 + (upto 34 (rest s (q + 1 + nm.size + 2))).length) k) := Box.other htr7 hgA _
      have bA8 : Hid (Box (w7.setCell ⟨A, 1, none⟩ (.string vl)) A [.string nm, .string vl] 70) := Box.set (i := 1) bA7.out _
      have hgw8 : Hid (w.grownBy (w7.setCell ⟨A, 1, none⟩ (.string vl)) (some g)) := grown_new (by omega) (hgw6.out.trans hg7)
      have hg38 : Hid (w3.grownBy (w7.setCell ⟨A, 1, none⟩ (.string vl)) (some g)) := grown_new hAz (hg36.out.trans hg7)
      clear hvl htr7 hg7 bA7 bA6 hgw6 hg36 htr6'
      go_wp2_with fail
      clear a1 fA
      generalize w7.setCell ⟨A, 1, none⟩ (.string vl) = w7 at *
      cases hp4 : preP [34] (rest s (q + 1 + nm.size + 2 + (upto 34 (rest s (q + 1 + nm.size + 2))).length))
      · skip
        refine (take_no htr8.out hq7.out hp4).mono ?_
        rintro e wp ⟨rfl, hgp⟩
        have hgp' : Hid (w.grownBy wp (some g)) := hgw8.out.trans hgp
        have hrs : Hid (rdAs (rest s p) = none) := by show _ = _; rw [hR.out]; exact rdAtts_none hpre (rdAtt_d hnm'.out hnb'.out hp2'.out hvl'.out hp4)
        clear hgp
        go_wp2_with fail
        exact ⟨rfl, Or.inr ⟨rfl, hgp'.out, hrs.out⟩⟩
      refine (take_yes htr8.out hq7.out hss.out hp4).mono ?_
      rintro e w7b ⟨rfl, htr9, hq9, hg9⟩
      have hrd : rdAtt ((rest s q).drop 1) = some (⟨nm, vl⟩, rest s (q + 1 + nm.size + 2 + (upto 34 (rest s (q + 1 + nm.size + 2))).length + 1)) := rdAtt_e hnm'.out hnb'.out hp2'.out hvl'.out hp4
      have hR9 : Hid (rdAs (rest s p) = rdAtts f (xs ++ [⟨nm, vl⟩]) (rest s (q + 1 + nm.size + 2 + (upto 34 (rest s (q + 1 + nm.size + 2))).length + 1))) := by show _ = _; rw [hR.out]; exact rdAtts_more hpre hrd
      have htr9' : Hid (TrAt w7b g s (q + 1 + nm.size + 2 + (upto 34 (rest s (q + 1 + nm.size + 2))).length + 1) k) := htr9
      have hq9' : Hid (q + 1 + nm.size + 2 + (upto 34 (rest s (q + 1 + nm.size + 2))).length + 1 ≤ s.size) := hq9
      have hlt9 : Hid (q < q + 1 + nm.size + 2 + (upto 34 (rest s (q + 1 + nm.size + 2))).length + 1) := by show _ < _; omega
      generalize q + 1 + nm.size + 2 + (upto 34 (rest s (q + 1 + nm.size + 2))).length + 1 = q9 at hR9 htr9' hq9' hlt9
      have bA9 : Hid (Box w7b A [.string nm, .string vl] 70) := box_grown bA8.out (Ne.symm hgA) hg9
      have hgw9 : Hid (w.grownBy w7b (some g)) := hgw8.out.trans hg9
      have hg39 : Hid (w3.grownBy w7b (some g)) := hg38.out.trans hg9
      have hnz : Hid (nm.size ≤ 1048576) := by show _ ≤ _; have := hqn.out; have := hss.out; omega
      clear hrd htr9 hq9 hg9 hp4 htr8 hq7 hgw8 hg38 bA8 hul hun hqn
      have a0 := bA9.out.cell 0 rfl
      have a1 := bA9.out.cell 1 rfl
      generalize w7b = w7 at *
      have nb : Hid (Box (w7.alloc (.cells #[.string nm, .string vl] 70)) w7.heap.size [.string nm, .string vl] 70) := Box.new w7 _ _
      have hox : Hid (AttrOwn (w7.alloc (.cells #[.string nm, .string vl] 70)) [.string nm, .string vl] ⟨nm, vl⟩ []) := ⟨⟨rfl, by have := hnz.out; show nm.size ≤ maxLen; unfold maxLen; omega, by have := hvz.out; show vl.size ≤ maxLen; unfold maxLen; omega, trivial⟩, rfl⟩
      have hs7 : Hid (w3.heap.size ≤ (w7.alloc (.cells #[.string nm, .string vl] 70)).heap.size) := by show _ ≤ _; have := hg39.out.size; simp; omega
      have hk7 : Hid (∀ b, w.heap.size ≤ b → b < w3.heap.size → (w7.alloc (.cells #[.string nm, .string vl] 70)).heap[b]? = w3.heap[b]?) := fun b h1 h2 => by
        rw [Below.heap_alloc _ _ _ (by have := hg39.out.size; omega), hg39.out.block b h2 (fun e => by injection e; omega)]
      have hbs : Hid (w.heap.size ≤ w3.heap.size) := hz3
      go_wp2_with (at_builtin; refine wpList_append_growK AttrOwn_stays rfl _ _ 24 rfl w.heap.size iT _ 32 Tryd.underlying24 hiT.out heT.out.1 heT.out.2.2 heT.out.2.1 rfl (by decide) (y := ⟨nm, vl⟩) (fs := []) (cs := [.string nm, .string vl]) (v := .slice av xs.length capv) rfl hgr.out hs7.out hk7.out hbs.out _ _ rfl rfl (by intro i u hu; match i, hu with | 0, hu => (simp at hu; subst hu; exact nb.out.cell 0 rfl) | 1, hu => (simp at hu; subst hu; exact nb.out.cell 1 rfl) | i + 2, hu => simp at hu) (by intro u hu; simp at hu; rcases hu with rfl | rfl <;> rfl) hox.out List.nodup_nil (by simp) (by simp) (by have := hxl.out; have := hss.out; unfold maxLen; omega) (by have := hxl.out; have := hss.out; omega) ?_; intro g3 capg w9 hgr9 hg9 hb9; have hgr9' : Hid (GrowOwn 70 2 AttrOwn w.heap.size w9 (.slice (some ⟨g3, 0, none⟩) (xs.length + 1) capg) (xs ++ [⟨nm, vl⟩]) _ _) := hgr9; have hb9' : Hid (Below w.heap.size (w7.alloc (.cells #[.string nm, .string vl] 70)) w9) := hb9; clear hgr9 hg9 hb9)
      have hbA : Below w7.heap.size w7 (w7.alloc (.cells #[.string nm, .string vl] 70)) := (Below.refl _ _).alloc (Nat.le_refl _) _
      have htrZ : Hid (TrAt w9 g s q9 k) := (hb9'.out.block g hgl).trans (htr9'.out.below hbA)
      have hgwZ : Hid (w.grownBy w9 (some g)) := grown_below2 (hgw9.out.trans (grown_of_below hbA _)) hb9'.out (Nat.le_refl _)
      go_roundw
      case rel => exact ⟨q9, f, xs ++ [⟨nm, vl⟩], by have := hlt9.out; omega, hq9'.out, ⟨_, _, hgr9'.out⟩, htrZ, hgwZ, hR9, by show _ < _; have := hf.out; have := hlt9.out; have := hq9'.out; omega, by show _ ≤ _; have := hxl.out; have := hlt9.out; simp; omega⟩
      case measure => rw [hpos.out, posT_at htrZ.out]; have := hlt9.out; have := hq9'.out; omega
end Go.Proofs.YtlcddndpfhdakaaDoor
