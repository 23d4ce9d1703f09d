/- l4Wrap of the specification: walked. -/
import Derived.Test.YtdnembnlomnceaaGreatHpBox
import Derived.Test.YtdnembnlomnceaaGreatUpPlain
import Derived.Test.YtdnembnlomnceaaGreatHeapSmall
import Derived.WalkKit
import Derived.Deep.DeepCutAuto
import Derived.Deep.CutBlock
import Derived.Deep.RegionHeld3
import Derived.Test.YtdnembnlomnceaaGreatAbb
import Derived.Test.YtdnembnlomnceaaGreatTakeMore
namespace Go.Proofs.YtdnembnlomnceaaGreat
open Go.RowKit Go.Deep
theorem infoFieldP : ((Tryz.prog.info? 118).map fun i => (i.zero, i.size, i.bytes)) = some (some (.agg #[.string ByteArray.empty, .int .i64 0]), 2, 24) := by kernel_rfl
theorem info_partsP {P : Program} {T : TypeId} {z : Value} {s b : Nat} (h : ((P.info? T).map fun i => (i.zero, i.size, i.bytes)) = some (some z, s, b)) : ∃ i, P.info? T = some i ∧ i.zero = some z ∧ i.size = s ∧ i.bytes = b := by
 obtain ⟨i, hi, he⟩ := Option.map_eq_some_iff.1 h
 simp only [Prod.mk.injEq] at he
 exact ⟨i, hi, he.1, he.2.1, he.2.2⟩
theorem row_emptyP {α : Type} {T c : Nat} {R : World → List Value → α → List Nat → Prop} {B : Nat} {w : World} (hB : B ≤ w.heap.size) : GrowOwn T c R B (w.alloc (.cells #[] T)) (.slice (some ⟨w.heap.size, 0, none⟩) ([] : List α).length 0) ([] : List α) [] [] :=
 ⟨rfl, rfl, by simp, ⟨by simp, Or.inr ⟨_, _, #[], rfl, hB, by have := Box.new w [] T; exact this, Nat.le_refl _, Nat.zero_le _, by simp, by simp⟩⟩, fun i h => absurd h (by simp), by simp, by simp⟩
theorem toList_inj {a b : ByteArray} (h : a.toList = b.toList) : a = b := by
 rw [toList_data, toList_data] at h
 cases a; cases b
 simpa [ByteArray.mk.injEq, Array.toList_inj] using h
set_option maxRecDepth 100000 in
set_option maxHeartbeats 4000000 in
theorem l4Set_any {w : World} {lo : Nat} {k : Value} {l : List FieldD} {nm : ByteArray} {id : Int} (hl : SeqAt 2 FieldAt w lo k l) (hll : l.length ≤ 1000) (hnm : nm.size ≤ maxLen) (hid : InI id) :
 Calls Tryz.prog 123 #[k, .string nm, .int .i64 id] w fun e w' => (∃ v fs, e = .returned v ∧ SeqOwn 2 FieldOwn w' v (setD l nm id) fs ∧ fs.Nodup ∧ ∀ b ∈ fs, w.heap.size ≤ b) ∧ Below w.heap.size w w' := by
 obtain ⟨iF, hiF0, heF0, heF1, heF2⟩ := info_partsP infoFieldP
 have hiF : Hid (Tryz.prog.info? 118 = some iF) := hiF0
 have heF : Hid (iF.zero = some (.agg #[.string ByteArray.empty, .int .i64 0]) ∧ iF.size = 2 ∧ iF.bytes = 24) := ⟨heF0, heF1, heF2⟩
 clear hiF0 heF0 heF1 heF2
 obtain ⟨a, cap, rfl, hm, hx⟩ := hl
 have hx' : Hid (0 < l.length → ∃ b off, a = some ⟨b, off, none⟩ ∧ lo ≤ b ∧ b < w.heap.size ∧ ∀ i, (h : i < l.length) → ∃ cs, cs.length = 2 ∧ Lie w b (off + i * 2) cs ∧ FieldAt w lo cs l[i]) := hx
 have hnm' : Hid (nm.size ≤ maxLen) := hnm
 have hid' : Hid (InI id) := hid
 clear hx hnm hid
 have hgr0 : Hid (GrowOwn 118 2 FieldOwn w.heap.size (w.alloc (.cells #[] 118)) (.slice (some ⟨w.heap.size, 0, none⟩) ([] : List FieldD).length 0) ([] : List FieldD) [] []) := row_emptyP (Nat.le_refl _)
 have hB0 : Hid (Below w.heap.size w (w.alloc (.cells #[] 118))) := (Below.refl _ _).alloc (Nat.le_refl _) _
 go_enter Tryz.func123, Tryz.ntmps123
 go_wp2_with fail
 go_loopw [7, 8, 9] (fun v d i wr => ∃ (j g c : Nat) (s1 : List FieldD) (s2 : Bool) (bss : List (List Nat)) (css : List (List Value)), j ≤ l.length ∧ v = (.slice (some ⟨g, 0, none⟩) (s1).length c) ∧ d = .bool s2 ∧ i = .int .i64 j ∧ Hid (setF nm id (l.take j) = (s1, s2)) ∧ Hid (GrowOwn 118 2 FieldOwn w.heap.size wr (.slice (some ⟨g, 0, none⟩) (s1).length c) s1 bss css) ∧ Hid (Below w.heap.size w wr)) (fun _ _ i _ => l.length - (intOf i).toNat)
 case atStart => exact ⟨0, w.heap.size, 0, [], decide (id = 0), [], [], Nat.zero_le _, rfl, (by by_cases e : id = 0 <;> simp [e]), rfl, rfl, hgr0, hB0⟩
 case round =>
  obtain ⟨j, g, c, s1, s2, bss, css, hj, rfl, rfl, rfl, hs, hgr, hB⟩ := hrel
  clear hgr0 hB0
  have hsl : s1.length ≤ 2 * j := by have := setF_len nm id l j hj; rw [hs.out] at this; exact this
  by_cases hlt : j < l.length
  · obtain ⟨b, off, rfl, _, hb, hc⟩ := hx'.out (by omega)
    obtain ⟨cs, _, lie, rfl, hxn, hxo⟩ := hc j hlt
    have hsucc : Hid (setF nm id (l.take (j + 1)) = setStep nm id (s1, s2) l[j]) := by show _ = _; rw [setF_succ hlt, hs.out]
    generalize l[j] = x at lie hxn hxo hsucc
    have hxr : Hid (x.vName.size ≤ maxLen ∧ InI x.vObj) := ⟨hxn, hxo.1⟩
    have l0 := lie 0 (by simp)
    have l1 := lie 1 (by simp)
    simp only [List.getElem?_cons_zero, List.getElem?_cons_succ, Nat.add_zero] at l0 l1
    have z0 : Hid (w.cell? ⟨b, off + j * 2, none⟩ = some (.string x.vName)) := l0
    have z1 : Hid (w.cell? ⟨b, off + j * 2 + 1, none⟩ = some (.int .i64 x.vObj)) := l1
    clear hxn hxo lie hc l0 l1
    have hltI : (j : Int) < (l.length : Int) := by omega
    have hj0 : (0 : Int) ≤ (j : Int) := by omega
    rcases (by cases ltS x.vName nm <;> simp : ltS x.vName nm = false ∨ ltS x.vName nm = true) with hge | hge
    · by_cases hnx : x.vName = nm
      · have hge' : Op.bytesLess x.vName.toList nm.toList = false := hge
        have hq1 : (x.vName.toList == nm.toList) = true := by rw [hnx]; simp
        have hq2 : (nm.toList == x.vName.toList) = true := by rw [hnx]; simp
        have hle := less_total nm.toList x.vName.toList
        rw [hge', hq2] at hle
        cases s2
        · have hst : Hid (setF nm id (l.take (j + 1)) = (s1 ++ [(⟨nm, id⟩ : FieldD)], true)) := by show _ = _; rw [hsucc.out]; unfold setStep; simp only [hge]; simp [hnx]
          clear hnx
          have y0 := hB.out.cell (p := ⟨b, off + j * 2, none⟩) hb
          rw [z0.out] at y0
          go_upto_region 9 with (at_builtin; refine wpList_append_grow FieldOwn_stays rfl _ _ 26 rfl w.heap.size iF _ 24 Tryz.underlying26 hiF.out heF.out.1 heF.out.2.1 heF.out.2.2 rfl (by decide) (y := (⟨nm, id⟩ : FieldD)) (fs := []) (cs := [.string nm, .int .i64 id]) (v := (.slice (some ⟨g, 0, none⟩) (s1).length c)) rfl hgr.out ((Below.refl _ _).alloc (Nat.le_refl _) _) hB.out.size _ _ rfl rfl (by intro i u hu; match i, hu with | 0, hu => (simp at hu; subst hu; exact (Box.new wr [.string nm, .int .i64 id] 118).cell 0 rfl) | 1, hu => (simp at hu; subst hu; exact (Box.new wr [.string nm, .int .i64 id] 118).cell 1 rfl) | i + 2, hu => simp at hu) (by intro u hu; simp at hu; rcases hu with rfl | rfl <;> rfl) ⟨rfl, hnm'.out, hid'.out, rfl⟩ List.nodup_nil (by simp) (by simp) (by unfold maxLen; omega) (by omega) ?_; intro g1 c1 w1 hgr10 hg1 hb1; have hgr1 : Hid (GrowOwn 118 2 FieldOwn w.heap.size w1 (.slice (some ⟨g1, 0, none⟩) ((s1).length + 1) c1) (s1 ++ [(⟨nm, id⟩ : FieldD)]) (bss ++ [[]]) (css ++ [[.string nm, .int .i64 id]])) := hgr10; have hB1 : Hid (Below w.heap.size w w1) := (hB.out.alloc hB.out.size _).trans hb1; clear hgr10 hg1 hb1)
          clear y0
          obtain ⟨s3, hs3⟩ : ∃ s3, s1 ++ [(⟨nm, id⟩ : FieldD)] = s3 := ⟨_, rfl⟩
          have hl3 : s1.length + 1 = s3.length := by rw [← hs3]; simp
          rw [hs3] at hgr1 hst
          rw [hl3] at hgr1 ⊢
          have x0 := hB1.out.cell (p := ⟨b, off + j * 2, none⟩) hb
          rw [z0.out] at x0
          have x1 := hB1.out.cell (p := ⟨b, off + j * 2 + 1, none⟩) hb
          rw [z1.out] at x1
          skip
          go_wp2_with fail
          go_roundw
          case rel => exact ⟨j + 1, g1, c1, s3, true, (bss ++ [[]]), (css ++ [[.string nm, .int .i64 id]]), by omega, by simp, rfl, by go_num, hst, by first | exact hgr1.out | (have q9 := hgr1.out; simp only [List.length_append, List.length_singleton] at q9 ⊢; exact q9), hB1⟩
          case measure => simp [intOf]; omega
        · have hst : Hid (setF nm id (l.take (j + 1)) = (s1, true)) := by show _ = _; rw [hsucc.out]; unfold setStep; simp only [hge]; simp [hnx]
          clear hnx
          have x0 := hB.out.cell (p := ⟨b, off + j * 2, none⟩) hb
          rw [z0.out] at x0
          have x1 := hB.out.cell (p := ⟨b, off + j * 2 + 1, none⟩) hb
          rw [z1.out] at x1
          go_wp2_with fail
          go_roundw
          case rel => exact ⟨j + 1, g, c, s1, true, bss, css, by omega, by simp, rfl, by go_num, hst, by first | exact hgr.out | (have q9 := hgr.out; simp only [List.length_append, List.length_singleton] at q9 ⊢; exact q9), hB⟩
          case measure => simp [intOf]; omega
      · have hge' : Op.bytesLess x.vName.toList nm.toList = false := hge
        have hq1 : (x.vName.toList == nm.toList) = false := by simpa using fun e => hnx (toList_inj e)
        have hq2 : (nm.toList == x.vName.toList) = false := by simpa using fun e => hnx (toList_inj e).symm
        have hle := less_total nm.toList x.vName.toList
        rw [hge', hq2] at hle
        cases s2
        · have hst : Hid (setF nm id (l.take (j + 1)) = ((s1 ++ [(⟨nm, id⟩ : FieldD)]) ++ [x], true)) := by show _ = _; rw [hsucc.out]; unfold setStep; simp only [hge]; simp [hnx]
          clear hnx
          have y0 := hB.out.cell (p := ⟨b, off + j * 2, none⟩) hb
          rw [z0.out] at y0
          go_upto_region 9 with (at_builtin; refine wpList_append_grow FieldOwn_stays rfl _ _ 26 rfl w.heap.size iF _ 24 Tryz.underlying26 hiF.out heF.out.1 heF.out.2.1 heF.out.2.2 rfl (by decide) (y := (⟨nm, id⟩ : FieldD)) (fs := []) (cs := [.string nm, .int .i64 id]) (v := (.slice (some ⟨g, 0, none⟩) (s1).length c)) rfl hgr.out ((Below.refl _ _).alloc (Nat.le_refl _) _) hB.out.size _ _ rfl rfl (by intro i u hu; match i, hu with | 0, hu => (simp at hu; subst hu; exact (Box.new wr [.string nm, .int .i64 id] 118).cell 0 rfl) | 1, hu => (simp at hu; subst hu; exact (Box.new wr [.string nm, .int .i64 id] 118).cell 1 rfl) | i + 2, hu => simp at hu) (by intro u hu; simp at hu; rcases hu with rfl | rfl <;> rfl) ⟨rfl, hnm'.out, hid'.out, rfl⟩ List.nodup_nil (by simp) (by simp) (by unfold maxLen; omega) (by omega) ?_; intro g1 c1 w1 hgr10 hg1 hb1; have hgr1 : Hid (GrowOwn 118 2 FieldOwn w.heap.size w1 (.slice (some ⟨g1, 0, none⟩) ((s1).length + 1) c1) (s1 ++ [(⟨nm, id⟩ : FieldD)]) (bss ++ [[]]) (css ++ [[.string nm, .int .i64 id]])) := hgr10; have hB1 : Hid (Below w.heap.size w w1) := (hB.out.alloc hB.out.size _).trans hb1; clear hgr10 hg1 hb1)
          clear y0
          obtain ⟨s3, hs3⟩ : ∃ s3, s1 ++ [(⟨nm, id⟩ : FieldD)] = s3 := ⟨_, rfl⟩
          have hl3 : s1.length + 1 = s3.length := by rw [← hs3]; simp
          rw [hs3] at hgr1 hst
          rw [hl3] at hgr1 ⊢
          have x0 := hB1.out.cell (p := ⟨b, off + j * 2, none⟩) hb
          rw [z0.out] at x0
          have x1 := hB1.out.cell (p := ⟨b, off + j * 2 + 1, none⟩) hb
          rw [z1.out] at x1
          skip
          go_wp2_with (at_builtin; refine wpList_append_grow FieldOwn_stays rfl _ _ 26 rfl w.heap.size iF _ 24 Tryz.underlying26 hiF.out heF.out.1 heF.out.2.1 heF.out.2.2 rfl (by decide) (y := x) (fs := []) (cs := [.string x.vName, .int .i64 x.vObj]) (v := (.slice (some ⟨g1, 0, none⟩) (s3).length c1)) rfl hgr1.out ((Below.refl _ _).alloc (Nat.le_refl _) _) hB1.out.size _ _ rfl rfl (by intro i u hu; match i, hu with | 0, hu => (simp at hu; subst hu; exact (Box.new w1 [.string x.vName, .int .i64 x.vObj] 118).cell 0 rfl) | 1, hu => (simp at hu; subst hu; exact (Box.new w1 [.string x.vName, .int .i64 x.vObj] 118).cell 1 rfl) | i + 2, hu => simp at hu) (by intro u hu; simp at hu; rcases hu with rfl | rfl <;> rfl) ⟨rfl, hxr.out.1, hxr.out.2, rfl⟩ List.nodup_nil (by simp) (by simp) (by unfold maxLen; omega) (by omega) ?_; intro g2 c2 w2 hgr20 hg2 hb2; have hgr2 : Hid (GrowOwn 118 2 FieldOwn w.heap.size w2 (.slice (some ⟨g2, 0, none⟩) ((s3).length + 1) c2) (s3 ++ [x]) ((bss ++ [[]]) ++ [[]]) ((css ++ [[.string nm, .int .i64 id]]) ++ [[.string x.vName, .int .i64 x.vObj]])) := hgr20; have hB2 : Hid (Below w.heap.size w w2) := (hB1.out.alloc hB1.out.size _).trans hb2; clear hgr20 hg2 hb2)
          go_roundw
          case rel => exact ⟨j + 1, g2, c2, (s3 ++ [x]), true, ((bss ++ [[]]) ++ [[]]), ((css ++ [[.string nm, .int .i64 id]]) ++ [[.string x.vName, .int .i64 x.vObj]]), by omega, by simp, rfl, by go_num, hst, by first | exact hgr2.out | (have q9 := hgr2.out; simp only [List.length_append, List.length_singleton] at q9 ⊢; exact q9), hB2⟩
          case measure => simp [intOf]; omega
        · have hst : Hid (setF nm id (l.take (j + 1)) = ((s1) ++ [x], true)) := by show _ = _; rw [hsucc.out]; unfold setStep; simp only [hge]; simp [hnx]
          clear hnx
          have x0 := hB.out.cell (p := ⟨b, off + j * 2, none⟩) hb
          rw [z0.out] at x0
          have x1 := hB.out.cell (p := ⟨b, off + j * 2 + 1, none⟩) hb
          rw [z1.out] at x1
          go_wp2_with (at_builtin; refine wpList_append_grow FieldOwn_stays rfl _ _ 26 rfl w.heap.size iF _ 24 Tryz.underlying26 hiF.out heF.out.1 heF.out.2.1 heF.out.2.2 rfl (by decide) (y := x) (fs := []) (cs := [.string x.vName, .int .i64 x.vObj]) (v := (.slice (some ⟨g, 0, none⟩) (s1).length c)) rfl hgr.out ((Below.refl _ _).alloc (Nat.le_refl _) _) hB.out.size _ _ rfl rfl (by intro i u hu; match i, hu with | 0, hu => (simp at hu; subst hu; exact (Box.new wr [.string x.vName, .int .i64 x.vObj] 118).cell 0 rfl) | 1, hu => (simp at hu; subst hu; exact (Box.new wr [.string x.vName, .int .i64 x.vObj] 118).cell 1 rfl) | i + 2, hu => simp at hu) (by intro u hu; simp at hu; rcases hu with rfl | rfl <;> rfl) ⟨rfl, hxr.out.1, hxr.out.2, rfl⟩ List.nodup_nil (by simp) (by simp) (by unfold maxLen; omega) (by omega) ?_; intro g2 c2 w2 hgr20 hg2 hb2; have hgr2 : Hid (GrowOwn 118 2 FieldOwn w.heap.size w2 (.slice (some ⟨g2, 0, none⟩) ((s1).length + 1) c2) (s1 ++ [x]) (bss ++ [[]]) (css ++ [[.string x.vName, .int .i64 x.vObj]])) := hgr20; have hB2 : Hid (Below w.heap.size w w2) := (hB.out.alloc hB.out.size _).trans hb2; clear hgr20 hg2 hb2)
          go_roundw
          case rel => exact ⟨j + 1, g2, c2, (s1 ++ [x]), true, (bss ++ [[]]), (css ++ [[.string x.vName, .int .i64 x.vObj]]), by omega, by simp, rfl, by go_num, hst, by first | exact hgr2.out | (have q9 := hgr2.out; simp only [List.length_append, List.length_singleton] at q9 ⊢; exact q9), hB2⟩
          case measure => simp [intOf]; omega
    · by_cases hnx : x.vName = nm
      · have hge' : Op.bytesLess x.vName.toList nm.toList = true := hge
        have hq1 : (x.vName.toList == nm.toList) = true := by rw [hnx]; simp
        have hq2 : (nm.toList == x.vName.toList) = true := by rw [hnx]; simp
        have hle := less_total nm.toList x.vName.toList
        rw [hge', hq2] at hle
        cases s2
        · have hst : Hid (setF nm id (l.take (j + 1)) = (s1, false)) := by show _ = _; rw [hsucc.out]; unfold setStep; simp only [hge]; simp [hnx]
          clear hnx
          have x0 := hB.out.cell (p := ⟨b, off + j * 2, none⟩) hb
          rw [z0.out] at x0
          have x1 := hB.out.cell (p := ⟨b, off + j * 2 + 1, none⟩) hb
          rw [z1.out] at x1
          go_wp2_with fail
          go_roundw
          case rel => exact ⟨j + 1, g, c, s1, false, bss, css, by omega, by simp, rfl, by go_num, hst, by first | exact hgr.out | (have q9 := hgr.out; simp only [List.length_append, List.length_singleton] at q9 ⊢; exact q9), hB⟩
          case measure => simp [intOf]; omega
        · have hst : Hid (setF nm id (l.take (j + 1)) = (s1, true)) := by show _ = _; rw [hsucc.out]; unfold setStep; simp only [hge]; simp [hnx]
          clear hnx
          have x0 := hB.out.cell (p := ⟨b, off + j * 2, none⟩) hb
          rw [z0.out] at x0
          have x1 := hB.out.cell (p := ⟨b, off + j * 2 + 1, none⟩) hb
          rw [z1.out] at x1
          go_wp2_with fail
          go_roundw
          case rel => exact ⟨j + 1, g, c, s1, true, bss, css, by omega, by simp, rfl, by go_num, hst, by first | exact hgr.out | (have q9 := hgr.out; simp only [List.length_append, List.length_singleton] at q9 ⊢; exact q9), hB⟩
          case measure => simp [intOf]; omega
      · have hge' : Op.bytesLess x.vName.toList nm.toList = true := hge
        have hq1 : (x.vName.toList == nm.toList) = false := by simpa using fun e => hnx (toList_inj e)
        have hq2 : (nm.toList == x.vName.toList) = false := by simpa using fun e => hnx (toList_inj e).symm
        have hle := less_total nm.toList x.vName.toList
        rw [hge', hq2] at hle
        cases s2
        · have hst : Hid (setF nm id (l.take (j + 1)) = ((s1) ++ [x], false)) := by show _ = _; rw [hsucc.out]; unfold setStep; simp only [hge]; simp [hnx]
          clear hnx
          have x0 := hB.out.cell (p := ⟨b, off + j * 2, none⟩) hb
          rw [z0.out] at x0
          have x1 := hB.out.cell (p := ⟨b, off + j * 2 + 1, none⟩) hb
          rw [z1.out] at x1
          go_wp2_with (at_builtin; refine wpList_append_grow FieldOwn_stays rfl _ _ 26 rfl w.heap.size iF _ 24 Tryz.underlying26 hiF.out heF.out.1 heF.out.2.1 heF.out.2.2 rfl (by decide) (y := x) (fs := []) (cs := [.string x.vName, .int .i64 x.vObj]) (v := (.slice (some ⟨g, 0, none⟩) (s1).length c)) rfl hgr.out ((Below.refl _ _).alloc (Nat.le_refl _) _) hB.out.size _ _ rfl rfl (by intro i u hu; match i, hu with | 0, hu => (simp at hu; subst hu; exact (Box.new wr [.string x.vName, .int .i64 x.vObj] 118).cell 0 rfl) | 1, hu => (simp at hu; subst hu; exact (Box.new wr [.string x.vName, .int .i64 x.vObj] 118).cell 1 rfl) | i + 2, hu => simp at hu) (by intro u hu; simp at hu; rcases hu with rfl | rfl <;> rfl) ⟨rfl, hxr.out.1, hxr.out.2, rfl⟩ List.nodup_nil (by simp) (by simp) (by unfold maxLen; omega) (by omega) ?_; intro g2 c2 w2 hgr20 hg2 hb2; have hgr2 : Hid (GrowOwn 118 2 FieldOwn w.heap.size w2 (.slice (some ⟨g2, 0, none⟩) ((s1).length + 1) c2) (s1 ++ [x]) (bss ++ [[]]) (css ++ [[.string x.vName, .int .i64 x.vObj]])) := hgr20; have hB2 : Hid (Below w.heap.size w w2) := (hB.out.alloc hB.out.size _).trans hb2; clear hgr20 hg2 hb2)
          go_roundw
          case rel => exact ⟨j + 1, g2, c2, (s1 ++ [x]), false, (bss ++ [[]]), (css ++ [[.string x.vName, .int .i64 x.vObj]]), by omega, by simp, rfl, by go_num, hst, by first | exact hgr2.out | (have q9 := hgr2.out; simp only [List.length_append, List.length_singleton] at q9 ⊢; exact q9), hB2⟩
          case measure => simp [intOf]; omega
        · have hst : Hid (setF nm id (l.take (j + 1)) = ((s1) ++ [x], true)) := by show _ = _; rw [hsucc.out]; unfold setStep; simp only [hge]; simp [hnx]
          clear hnx
          have x0 := hB.out.cell (p := ⟨b, off + j * 2, none⟩) hb
          rw [z0.out] at x0
          have x1 := hB.out.cell (p := ⟨b, off + j * 2 + 1, none⟩) hb
          rw [z1.out] at x1
          go_wp2_with (at_builtin; refine wpList_append_grow FieldOwn_stays rfl _ _ 26 rfl w.heap.size iF _ 24 Tryz.underlying26 hiF.out heF.out.1 heF.out.2.1 heF.out.2.2 rfl (by decide) (y := x) (fs := []) (cs := [.string x.vName, .int .i64 x.vObj]) (v := (.slice (some ⟨g, 0, none⟩) (s1).length c)) rfl hgr.out ((Below.refl _ _).alloc (Nat.le_refl _) _) hB.out.size _ _ rfl rfl (by intro i u hu; match i, hu with | 0, hu => (simp at hu; subst hu; exact (Box.new wr [.string x.vName, .int .i64 x.vObj] 118).cell 0 rfl) | 1, hu => (simp at hu; subst hu; exact (Box.new wr [.string x.vName, .int .i64 x.vObj] 118).cell 1 rfl) | i + 2, hu => simp at hu) (by intro u hu; simp at hu; rcases hu with rfl | rfl <;> rfl) ⟨rfl, hxr.out.1, hxr.out.2, rfl⟩ List.nodup_nil (by simp) (by simp) (by unfold maxLen; omega) (by omega) ?_; intro g2 c2 w2 hgr20 hg2 hb2; have hgr2 : Hid (GrowOwn 118 2 FieldOwn w.heap.size w2 (.slice (some ⟨g2, 0, none⟩) ((s1).length + 1) c2) (s1 ++ [x]) (bss ++ [[]]) (css ++ [[.string x.vName, .int .i64 x.vObj]])) := hgr20; have hB2 : Hid (Below w.heap.size w w2) := (hB.out.alloc hB.out.size _).trans hb2; clear hgr20 hg2 hb2)
          go_roundw
          case rel => exact ⟨j + 1, g2, c2, (s1 ++ [x]), true, (bss ++ [[]]), (css ++ [[.string x.vName, .int .i64 x.vObj]]), by omega, by simp, rfl, by go_num, hst, by first | exact hgr2.out | (have q9 := hgr2.out; simp only [List.length_append, List.length_singleton] at q9 ⊢; exact q9), hB2⟩
          case measure => simp [intOf]; omega
  · obtain rfl : j = l.length := by omega
    have hs' : Hid (setF nm id l = (s1, s2)) := by have := hs.out; rw [List.take_length] at this; exact this
    cases s2
    · go_wp2_with (at_builtin; refine wpList_append_grow FieldOwn_stays rfl _ _ 26 rfl w.heap.size iF _ 24 Tryz.underlying26 hiF.out heF.out.1 heF.out.2.1 heF.out.2.2 rfl (by decide) (y := (⟨nm, id⟩ : FieldD)) (fs := []) (cs := [.string nm, .int .i64 id]) (v := (.slice (some ⟨g, 0, none⟩) (s1).length c)) rfl hgr.out ((Below.refl _ _).alloc (Nat.le_refl _) _) hB.out.size _ _ rfl rfl (by intro i u hu; match i, hu with | 0, hu => (simp at hu; subst hu; exact (Box.new wr [.string nm, .int .i64 id] 118).cell 0 rfl) | 1, hu => (simp at hu; subst hu; exact (Box.new wr [.string nm, .int .i64 id] 118).cell 1 rfl) | i + 2, hu => simp at hu) (by intro u hu; simp at hu; rcases hu with rfl | rfl <;> rfl) ⟨rfl, hnm'.out, hid'.out, rfl⟩ List.nodup_nil (by simp) (by simp) (by unfold maxLen; omega) (by omega) ?_; intro gE cE wE hgrE0 hgE hbE; have hgrE : Hid (GrowOwn 118 2 FieldOwn w.heap.size wE (.slice (some ⟨gE, 0, none⟩) ((s1).length + 1) cE) (s1 ++ [(⟨nm, id⟩ : FieldD)]) (bss ++ [[]]) (css ++ [[.string nm, .int .i64 id]])) := hgrE0; have hBE : Hid (Below w.heap.size w wE) := (hB.out.alloc hB.out.size _).trans hbE; clear hgrE0 hgE hbE)
      have hd : setD l nm id = s1 ++ [⟨nm, id⟩] := by unfold setD; rw [hs'.out]; rfl
      obtain ⟨fs, h1, h2⟩ := hgrE.out.done
      refine bodyPost_ret (v := .slice (some ⟨gE, 0, none⟩) (s1.length + 1) cE) (by simp [results, Tryz.results123, go_sem]) rfl ⟨⟨_, fs, rfl, by rw [hd]; exact h1, h1.nodup, h2⟩, hBE.out⟩
    · go_wp2_with fail
      have hd : setD l nm id = s1 := by unfold setD; rw [hs'.out]; rfl
      obtain ⟨fs, h1, h2⟩ := hgr.out.done
      refine bodyPost_ret (v := .slice (some ⟨g, 0, none⟩) s1.length c) (by simp [results, Tryz.results123, go_sem]) rfl ⟨⟨_, fs, rfl, by rw [hd]; exact h1, h1.nodup, h2⟩, hB.out⟩
end Go.Proofs.YtdnembnlomnceaaGreat
namespace Go.Proofs.YtdnembnlomnceaaGreat
open Go.RowKit Go.Deep
theorem infoObjP : ((Tryz.prog.info? 75).map fun i => (i.zero, i.size, i.bytes)) = some (some (.agg #[.int .i64 0, .int .i64 0, .slice none 0 0]), 3, 40) := by kernel_rfl
theorem newD_some {x : HeapD} {node : Int} (hn : node ≠ 0) {i : Nat} (hi : i < x.vNodes.length) (he : idxN x node = (i : Int)) : newD x node = { x with vNext := x.vNext + 1, vObjs := x.vObjs ++ [⟨x.vNext, node, []⟩], vNodes := x.vNodes.set i { x.vNodes[i] with vWrapper := x.vNext } } := by
 unfold newD
 rw [if_neg hn, he, Int.toNat_natCast, modify_set _ _ _ hi]
theorem newD_none {x : HeapD} : newD x 0 = { x with vNext := x.vNext + 1, vObjs := x.vObjs ++ [⟨x.vNext, 0, []⟩] } := rfl
/-- a box of five put into another one -/
theorem Box.puts5 {w : World} {g : Nat} {a b c d e a' b' c' d' e' : Value} {T : TypeId} (h : Box w g [a, b, c, d, e] T) : Box (putCells w g 0 [a', b', c', d', e']) g [a', b', c', d', e'] T := ((((h.set (i := 0) _).set (i := 1) _).set (i := 2) _).set (i := 3) _).set (i := 4) _
set_option maxRecDepth 100000 in
set_option maxHeartbeats 4000000 in
theorem l4New_any {w : World} {cs : List Value} {x : HeapD} {fs : List Nat} {node : Int} (hp : HeapP w cs x fs) (hnx : 0 ≤ x.vNext ∧ x.vNext ≤ 2000000000) (hol : x.vObjs.length ≤ 1000) (hni : InI node) (hin : node = 0 ∨ 0 ≤ idxN x node) :
 Calls Tryz.prog 131 #[.agg cs.toArray, .int .i64 node] w fun e w' => ∃ cs', e = .returned (.tuple #[.agg cs'.toArray, .int .i64 x.vNext]) ∧ HR w fs w' cs' (newD x node) := by
 obtain ⟨iO, hiO0, heO0, heO1, heO2⟩ := info_partsP infoObjP
 have hiO : Hid (Tryz.prog.info? 75 = some iO) := hiO0
 have heO : Hid (iO.zero = some (.agg #[.int .i64 0, .int .i64 0, .slice none 0 0]) ∧ iO.size = 3 ∧ iO.bytes = 40) := ⟨heO0, heO1, heO2⟩
 clear hiO0 heO0 heO1 heO2
 obtain ⟨aN, kN, aO, kO, aG, kG, rfl⟩ := hp.form
 have hni' : Hid (InI node) := hni
 have hinx : Hid (InI x.vNext) := by show InI _; unfold InI; omega
 have hZ0 : Hid (HB w fs w.heap.size (w.heap.size + 1) ((w.alloc (.cells (cHp x aN kN aO kO aG kG).toArray 28)).alloc (.cells cZp.toArray 28)) (cHp x aN kN aO kO aG kG) x fs) := HB.start hp
 have hZ1 : Hid (HB w fs w.heap.size (w.heap.size + 1) ((w.alloc (.cells #[.int .i64 (x.vNext + 1), .int .i64 x.vDoc, .slice aN x.vNodes.length kN, .slice aO x.vObjs.length kO, .slice aG x.vGlobals.length kG] 28)).alloc (.cells cZp.toArray 28)) [.int .i64 (x.vNext + 1), .int .i64 x.vDoc, .slice aN x.vNodes.length kN, .slice aO x.vObjs.length kO, .slice aG x.vGlobals.length kG] { x with vNext := x.vNext + 1 } fs) := HB.start (hp.next (by unfold InI; omega))
 have hinh : Hid (node = 0 ∨ 0 ≤ idxN x node) := hin
 clear hp hni hin
 have hqC : Below ((w.alloc (.cells #[.int .i64 (x.vNext + 1), .int .i64 x.vDoc, .slice aN x.vNodes.length kN, .slice aO x.vObjs.length kO, .slice aG x.vGlobals.length kG] 28)).alloc (.cells cZp.toArray 28)).heap.size ((w.alloc (.cells #[.int .i64 (x.vNext + 1), .int .i64 x.vDoc, .slice aN x.vNodes.length kN, .slice aO x.vObjs.length kO, .slice aG x.vGlobals.length kG] 28)).alloc (.cells cZp.toArray 28)) (((w.alloc (.cells #[.int .i64 (x.vNext + 1), .int .i64 x.vDoc, .slice aN x.vNodes.length kN, .slice aO x.vObjs.length kO, .slice aG x.vGlobals.length kG] 28)).alloc (.cells cZp.toArray 28)).alloc (.cells #[.int .i64 x.vNext, .int .i64 node, .slice none 0 0] 75)) := (Below.refl _ _).alloc (Nat.le_refl _) _
 have hZ2 : Hid (HB w fs w.heap.size (w.heap.size + 1) (((w.alloc (.cells #[.int .i64 (x.vNext + 1), .int .i64 x.vDoc, .slice aN x.vNodes.length kN, .slice aO x.vObjs.length kO, .slice aG x.vGlobals.length kG] 28)).alloc (.cells cZp.toArray 28)).alloc (.cells #[.int .i64 x.vNext, .int .i64 node, .slice none 0 0] 75)) [.int .i64 (x.vNext + 1), .int .i64 x.vDoc, .slice aN x.vNodes.length kN, .slice aO x.vObjs.length kO, .slice aG x.vGlobals.length kG] { x with vNext := x.vNext + 1 } fs) := hZ1.out.below hqC
 have nb : Hid (Box (((w.alloc (.cells #[.int .i64 (x.vNext + 1), .int .i64 x.vDoc, .slice aN x.vNodes.length kN, .slice aO x.vObjs.length kO, .slice aG x.vGlobals.length kG] 28)).alloc (.cells cZp.toArray 28)).alloc (.cells #[.int .i64 x.vNext, .int .i64 node, .slice none 0 0] 75)) (w.heap.size + 1 + 1) [.int .i64 x.vNext, .int .i64 node, .slice none 0 0] 75) := by have q := Box.new ((w.alloc (.cells #[.int .i64 (x.vNext + 1), .int .i64 x.vDoc, .slice aN x.vNodes.length kN, .slice aO x.vObjs.length kO, .slice aG x.vGlobals.length kG] 28)).alloc (.cells cZp.toArray 28)) [.int .i64 x.vNext, .int .i64 node, .slice none 0 0] 75; rw [World.size_alloc, World.size_alloc] at q; exact q
 obtain ⟨bO, cO, hO0, hown0, hgrow0⟩ := hZ2.out.hp.grownO
 have hO : Hid (GrowOwn 75 3 ObjOwn 0 (((w.alloc (.cells #[.int .i64 (x.vNext + 1), .int .i64 x.vDoc, .slice aN x.vNodes.length kN, .slice aO x.vObjs.length kO, .slice aG x.vGlobals.length kG] 28)).alloc (.cells cZp.toArray 28)).alloc (.cells #[.int .i64 x.vNext, .int .i64 node, .slice none 0 0] 75)) (.slice aO x.vObjs.length kO) x.vObjs bO cO) := hO0
 have hgrow : Hid _ := hgrow0
 have hown : Hid _ := hown0
 have hw1 : IntKind.i64.wrap (x.vNext + 1) = x.vNext + 1 := by rw [IntKind.wrap_i64]; omega
 have c0 := hZ0.out.bH.cell 0 rfl
 have c3 := hZ0.out.bH.cell 3 rfl
 have u0 := hZ0.out.bH.unfrozen
 clear hqC hO0 hown0 hgrow0
 go_enter Tryz.func131, Tryz.ntmps131
 go_upto_region 4 with (at_builtin; refine wpList_append_growP ObjOwn_stays rfl _ _ 25 rfl 0 iO _ 40 Tryz.underlying25 hiO.out heO.out.1 heO.out.2.1 heO.out.2.2 rfl (by decide) (y := ⟨x.vNext, node, []⟩) (fs := []) (cs := [.int .i64 x.vNext, .int .i64 node, .slice none 0 0]) (v := .slice aO x.vObjs.length kO) rfl hO.out (Below.refl _ _) (Nat.zero_le _) ⟨w.heap.size + 1 + 1, 0, none⟩ 1 (by first | rfl | simp [go_sem]) rfl (by intro i u hu; match i, hu with | 0, hu => (simp at hu; subst hu; exact nb.out.cell 0 rfl) | 1, hu => (simp at hu; subst hu; exact nb.out.cell 1 rfl) | 2, hu => (simp at hu; subst hu; exact nb.out.cell 2 rfl) | i + 3, hu => simp at hu) (by intro u hu; simp at hu; rcases hu with rfl | rfl | rfl <;> rfl) ⟨_, [], rfl, ⟨none, 0, rfl, ⟨Nat.zero_le _, Nat.zero_le _⟩, Or.inl ⟨rfl, rfl⟩⟩, hinx.out, hni'.out, rfl⟩ List.nodup_nil (by simp) (by simp) (by unfold maxLen; omega) (by omega) ?_; intro gO cO2 w3 hgr3 hg3 hat3; obtain ⟨fs3, hp3, hs3, ho3⟩ := hgrow.out w3 gO _ cO2 _ _ hgr3 hg3 hat3; have hZ3 : Hid (HB w fs w.heap.size (w.heap.size + 1) (w3.setCell ⟨w.heap.size, 3, none⟩ (.slice (some ⟨gO, 0, none⟩) (x.vObjs.length + 1) cO2)) [.int .i64 (x.vNext + 1), .int .i64 x.vDoc, .slice aN x.vNodes.length kN, .slice (some ⟨gO, 0, none⟩) (x.vObjs.length + 1) cO2, .slice aG x.vGlobals.length kG] { x with vNext := x.vNext + 1, vObjs := x.vObjs ++ [⟨x.vNext, node, []⟩] } fs3) := hZ2.out.store hp3 hs3 ho3 rfl; have hno : Value.ownBlock (.slice aO x.vObjs.length kO) ≠ some w.heap.size := (fun e => (hZ2.out.sub _ (hown.out _ e)).2.1 rfl); have bH3 : Hid (Box w3 w.heap.size [.int .i64 (x.vNext + 1), .int .i64 x.vDoc, .slice aN x.vNodes.length kN, .slice aO x.vObjs.length kO, .slice aG x.vGlobals.length kG] 28) := hZ2.out.bH.grownP hg3 hno; have d3 := bH3.out.cell 3 rfl; have uf3 := bH3.out.unfrozen; clear hgr3 hg3 hat3 hno hp3 hs3 ho3 bH3)
 clear c0 c3 u0 d3 uf3 hgrow hown hO nb hZ2 hZ1 hZ0 hw1
 generalize (w3.setCell ⟨w.heap.size, 3, none⟩ (.slice (some ⟨gO, 0, none⟩) (x.vObjs.length + 1) cO2)) = w4 at hZ3 ⊢
 clear hiO heO
 by_cases hn0 : node = 0
 · subst hn0
   clear hinh
   have hZ3 : Hid (HB w fs w.heap.size (w.heap.size + 1) w4 [.int .i64 (x.vNext + 1), .int .i64 x.vDoc, .slice aN x.vNodes.length kN, .slice (some ⟨gO, 0, none⟩) (x.vObjs.length + 1) cO2, .slice aG x.vGlobals.length kG] { x with vNext := x.vNext + 1, vObjs := x.vObjs ++ [⟨x.vNext, 0, []⟩] } fs3) := hZ3
   obtain ⟨d0, d1, d2, d3, d4⟩ := fv5 hZ3.out.bH
   obtain ⟨z0, z1, z2, z3, z4⟩ := fv5 hZ3.out.bR
   have uz := hZ3.out.bR.unfrozen
   go_wp2_with fail
   have bF : Box (putCells w4 (w.heap.size + 1) 0 [.int .i64 (x.vNext + 1), .int .i64 x.vDoc, .slice aN x.vNodes.length kN, .slice (some ⟨gO, 0, none⟩) (x.vObjs.length + 1) cO2, .slice aG x.vGlobals.length kG]) (w.heap.size + 1) [.int .i64 (x.vNext + 1), .int .i64 x.vDoc, .slice aN x.vNodes.length kN, .slice (some ⟨gO, 0, none⟩) (x.vObjs.length + 1) cO2, .slice aG x.vGlobals.length kG] 28 := Box.puts5 hZ3.out.bR
   obtain ⟨g0, g1, g2, g3, g4⟩ := fv5 bF
   exact bodyPost_ret (v := .tuple #[.agg (List.toArray [.int .i64 (x.vNext + 1), .int .i64 x.vDoc, .slice aN x.vNodes.length kN, .slice (some ⟨gO, 0, none⟩) (x.vObjs.length + 1) cO2, .slice aG x.vGlobals.length kG]), .int .i64 x.vNext]) (by simp only [putCells] at g0 g1 g2 g3 g4; simp [results, Tryz.results131, go_sem, g0, g1, g2, g3, g4]) rfl ⟨[.int .i64 (x.vNext + 1), .int .i64 x.vDoc, .slice aN x.vNodes.length kN, .slice (some ⟨gO, 0, none⟩) (x.vObjs.length + 1) cO2, .slice aG x.vGlobals.length kG], rfl, by rw [newD_none]; exact hZ3.out.ret [.int .i64 (x.vNext + 1), .int .i64 x.vDoc, .slice aN x.vNodes.length kN, .slice (some ⟨gO, 0, none⟩) (x.vObjs.length + 1) cO2, .slice aG x.vGlobals.length kG]⟩
 · obtain ⟨i, hi, hidx⟩ : ∃ i, i < x.vNodes.length ∧ idxN x node = (i : Int) := by
    rcases idxN_is x node with ⟨q, _⟩ | ⟨i, hi, q, _⟩
    · rcases hinh.out with r | r
      · exact absurd r hn0
      · omega
    · exact ⟨i, hi, q⟩
   have hidx' : Hid (idxN x node = (i : Int)) := hidx
   obtain ⟨gN, rfl, _⟩ := hZ3.out.hp.posN (show 0 < x.vNodes.length by omega)
   have hiI : (i : Int) < (x.vNodes.length : Int) := by omega
   have hi0 : (0 : Int) ≤ (i : Int) := by omega
   have hnd : newD x node = _ := newD_some hn0 hi hidx
   have hndh : Hid _ := hnd
   clear hinh hidx hnd
   go_upto_region 5 with fail
   have hZd : Hid (HB w fs w.heap.size (w.heap.size + 1) w4.drew [.int .i64 (x.vNext + 1), .int .i64 x.vDoc, .slice (some ⟨gN, 0, none⟩) x.vNodes.length kN, .slice (some ⟨gO, 0, none⟩) (x.vObjs.length + 1) cO2, .slice aG x.vGlobals.length kG] { x with vNext := x.vNext + 1, vObjs := x.vObjs ++ [⟨x.vNext, node, []⟩] } fs3) := hZ3.out.below (Below.drew (Below.refl _ _))
   refine wp_region_held_drew (S := fun w' => w'.cell? ⟨w.heap.size, 0, none⟩ = some (.int .i64 (x.vNext + 1)) ∧ w'.cell? ⟨w.heap.size, 1, none⟩ = some (.int .i64 x.vDoc) ∧ w'.cell? ⟨w.heap.size, 2, none⟩ = some (.slice (some ⟨gN, 0, none⟩) x.vNodes.length kN) ∧ w'.cell? ⟨w.heap.size, 3, none⟩ = some (.slice (some ⟨gO, 0, none⟩) (x.vObjs.length + 1) cO2) ∧ w'.cell? ⟨w.heap.size, 4, none⟩ = some (.slice aG x.vGlobals.length kG)) (by kernel_rfl) (fv5 hZ3.out.bH) (fun hHeld => ?_)
   refine tk 0 ?_
   refine tk 1 ?_
   refine tk 2 ?_
   refine tk 3 ?_
   refine tk 5 ?_
   refine rd1 4 (fun K hK => ?_)
   go_simp
   refine (l2Node_any (h := { x with vNext := x.vNext + 1, vObjs := x.vObjs ++ [⟨x.vNext, node, []⟩] }) hZd.out.hp.at0).mono ?_
   rintro e w5 ⟨rfl, hb5⟩
   have hZ5 : Hid (HB w fs w.heap.size (w.heap.size + 1) w5 [.int .i64 (x.vNext + 1), .int .i64 x.vDoc, .slice (some ⟨gN, 0, none⟩) x.vNodes.length kN, .slice (some ⟨gO, 0, none⟩) (x.vObjs.length + 1) cO2, .slice aG x.vGlobals.length kG] { x with vNext := x.vNext + 1, vObjs := x.vObjs ++ [⟨x.vNext, node, []⟩] } fs3) := hZd.out.below hb5
   rw [show idxN { x with vNext := x.vNext + 1, vObjs := x.vObjs ++ [⟨x.vNext, node, []⟩] } node = (i : Int) from hidx'.out]
   clear hb5
   refine hK.out _ _ (fv5 hZ5.out.bH) (fun hHeld => ?_)
   clear hK K
   refine tk 6 ?_
   refine tk 7 ?_
   refine rd1 8 (fun K hK => ?_)
   obtain ⟨C, fi, hC, hcell, hfn, _, hset⟩ := hZ5.out.node (i := i) hi
   obtain ⟨a3, q3, a5, q5, e5⟩ := hC.len
   have cN := hcell 4 _ (by rw [e5]; rfl)
   obtain ⟨_, eg, ufN⟩ := hZ5.out.hp.posN (show 0 < x.vNodes.length by omega)
   injection eg with eg
   injection eg with eg
   subst eg
   obtain ⟨fs6, hz6⟩ := hset w5 4 (.int .i64 x.vNext) _ fi (by decide) (Below.refl _ _) (hC.wrap hinx.out) hfn (fun b hb => Or.inl hb)
   have hZ6 : Hid (HB w fs w.heap.size (w.heap.size + 1) (w5.setCell ⟨gN, i * 6 + 4, none⟩ (.int .i64 x.vNext)) [.int .i64 (x.vNext + 1), .int .i64 x.vDoc, .slice (some ⟨gN, 0, none⟩) x.vNodes.length kN, .slice (some ⟨gO, 0, none⟩) (x.vObjs.length + 1) cO2, .slice aG x.vGlobals.length kG] { x with vNext := x.vNext + 1, vObjs := x.vObjs ++ [⟨x.vNext, node, []⟩], vNodes := x.vNodes.set i { x.vNodes[i] with vWrapper := x.vNext } } fs6) := hz6
   clear hC hcell hfn hset hz6 e5
   go_simp
   refine hK.out _ _ (fv5 hZ6.out.bH) (fun hHeld => ?_)
   clear hK K
   refine wpAnyH_done (by kernel_rfl) ?_ _
   clear hHeld cN ufN
   obtain ⟨d0, d1, d2, d3, d4⟩ := fv5 hZ6.out.bH
   obtain ⟨z0, z1, z2, z3, z4⟩ := fv5 hZ6.out.bR
   have uz := hZ6.out.bR.unfrozen
   go_wp2_with fail
   have bF : Box (putCells (w5.setCell ⟨gN, i * 6 + 4, none⟩ (.int .i64 x.vNext)) (w.heap.size + 1) 0 [.int .i64 (x.vNext + 1), .int .i64 x.vDoc, .slice (some ⟨gN, 0, none⟩) x.vNodes.length kN, .slice (some ⟨gO, 0, none⟩) (x.vObjs.length + 1) cO2, .slice aG x.vGlobals.length kG]) (w.heap.size + 1) [.int .i64 (x.vNext + 1), .int .i64 x.vDoc, .slice (some ⟨gN, 0, none⟩) x.vNodes.length kN, .slice (some ⟨gO, 0, none⟩) (x.vObjs.length + 1) cO2, .slice aG x.vGlobals.length kG] 28 := Box.puts5 hZ6.out.bR
   obtain ⟨g0, g1, g2, g3, g4⟩ := fv5 bF
   exact bodyPost_ret (v := .tuple #[.agg (List.toArray [.int .i64 (x.vNext + 1), .int .i64 x.vDoc, .slice (some ⟨gN, 0, none⟩) x.vNodes.length kN, .slice (some ⟨gO, 0, none⟩) (x.vObjs.length + 1) cO2, .slice aG x.vGlobals.length kG]), .int .i64 x.vNext]) (by simp only [putCells] at g0 g1 g2 g3 g4; simp [results, Tryz.results131, go_sem, g0, g1, g2, g3, g4]) rfl ⟨[.int .i64 (x.vNext + 1), .int .i64 x.vDoc, .slice (some ⟨gN, 0, none⟩) x.vNodes.length kN, .slice (some ⟨gO, 0, none⟩) (x.vObjs.length + 1) cO2, .slice aG x.vGlobals.length kG], rfl, by rw [hndh.out]; exact hZ6.out.ret [.int .i64 (x.vNext + 1), .int .i64 x.vDoc, .slice (some ⟨gN, 0, none⟩) x.vNodes.length kN, .slice (some ⟨gO, 0, none⟩) (x.vObjs.length + 1) cO2, .slice aG x.vGlobals.length kG]⟩
end Go.Proofs.YtdnembnlomnceaaGreat
namespace Go.Proofs.YtdnembnlomnceaaGreat
open Go.RowKit Go.Deep
set_option maxRecDepth 100000 in
set_option maxHeartbeats 4000000 in
theorem l4Wrap_any {w : World} {cs : List Value} {x : HeapD} {fs : List Nat} {node : Int} (hp : HeapP w cs x fs) (hnx : 0 ≤ x.vNext ∧ x.vNext ≤ 2000000000) (hol : x.vObjs.length ≤ 1000) (hni : InI node) (hin : 0 ≤ idxN x node) :
 Calls Tryz.prog 132 #[.agg cs.toArray, .int .i64 node] w fun e w' => ∃ cs', e = .returned (.tuple #[.agg cs'.toArray, .int .i64 (wrapD x node).2]) ∧ HR w fs w' cs' (wrapD x node).1 := by
 obtain ⟨aN, kN, aO, kO, aG, kG, rfl⟩ := hp.form
 have hZ0 : Hid (HB w fs w.heap.size (w.heap.size + 1) ((w.alloc (.cells (cHp x aN kN aO kO aG kG).toArray 28)).alloc (.cells cZp.toArray 28)) (cHp x aN kN aO kO aG kG) x fs) := HB.start hp
 obtain ⟨i, hi, hidx, hwr⟩ : ∃ i, ∃ hi : i < x.vNodes.length, idxN x node = (i : Int) ∧ wrapOf x node = x.vNodes[i].vWrapper := by
  rcases idxN_is x node with ⟨q, _⟩ | ⟨i, hi, q, _, q2⟩
  · omega
  · exact ⟨i, hi, q, by unfold wrapOf; rw [q2]⟩
 have hidx' : Hid (idxN x node = (i : Int)) := hidx
 have hA : Hid (HeapP w (cHp x aN kN aO kO aG kG) x fs) := hp
 have hnx' : Hid (0 ≤ x.vNext ∧ x.vNext ≤ 2000000000) := hnx
 have hni' : Hid (InI node) := hni
 have hin' : Hid (node = 0 ∨ 0 ≤ idxN x node) := Or.inr hin
 obtain ⟨gN, a3, c3, a5, c5, rfl, _, _, _, _, hc4, _⟩ := hZ0.out.nodeAt hi
 have hx4 : Hid (World.cell? ((w.alloc (.cells (cHp x (some ⟨gN, 0, none⟩) kN aO kO aG kG).toArray 28)).alloc (.cells cZp.toArray 28)) ⟨gN, i * 6 + 4, none⟩ = some (.int .i64 (wrapOf x node))) := by rw [hwr]; exact hc4
 have hiI : (i : Int) < (x.vNodes.length : Int) := by omega
 have hi0 : (0 : Int) ≤ (i : Int) := by omega
 clear hp hnx hni hin hidx hwr hc4 hA
 go_enter Tryz.func132, Tryz.ntmps132
 go_upto_region 1 with fail
 generalize ((w.alloc (.cells (cHp x (some ⟨gN, 0, none⟩) kN aO kO aG kG).toArray 28)).alloc (.cells cZp.toArray 28)) = w1 at hZ0 hx4 ⊢
 have hZd : Hid (HB w fs w.heap.size (w.heap.size + 1) w1.drew (cHp x (some ⟨gN, 0, none⟩) kN aO kO aG kG) x fs) := hZ0.out.below (Below.drew (Below.refl _ _))
 refine wp_region_held_drew (S := fun w' => w'.cell? ⟨w.heap.size, 0, none⟩ = some (.int .i64 x.vNext) ∧ w'.cell? ⟨w.heap.size, 1, none⟩ = some (.int .i64 x.vDoc) ∧ w'.cell? ⟨w.heap.size, 2, none⟩ = some (.slice (some ⟨gN, 0, none⟩) x.vNodes.length kN) ∧ w'.cell? ⟨w.heap.size, 3, none⟩ = some (.slice aO x.vObjs.length kO) ∧ w'.cell? ⟨w.heap.size, 4, none⟩ = some (.slice aG x.vGlobals.length kG) ∧ w'.cell? ⟨gN, i * 6 + 4, none⟩ = some (.int .i64 (wrapOf x node))) (by kernel_rfl) (fv5a hZ0.out.bH (hx4.out)) (fun hHeld => ?_)
 refine tk 0 ?_
 refine tk 1 ?_
 refine tk 2 ?_
 refine tk 3 ?_
 refine rd1 4 (fun K hK => ?_)
 go_simp
 refine (l2Node_any hZd.out.hp.at0).mono ?_
 rintro e w5 ⟨rfl, hb5⟩
 have hZ5 : Hid _ := hZd.out.below hb5
 have hx5 : Hid _ := cell_on hb5 hx4.out
 rw [hidx'.out]
 clear hb5
 refine hK.out _ _ (fv5a hZ5.out.bH (hx5.out)) (fun hHeld => ?_)
 clear hK K
 refine tk 5 ?_
 refine tk 6 ?_
 refine tk 7 ?_
 refine tk 8 ?_
 refine wpAnyH_done (by kernel_rfl) ?_ _
 clear hHeld hx5
 obtain ⟨wv, hwv⟩ : ∃ wv, wrapOf x node = wv := ⟨_, rfl⟩
 have hwd : Hid (wrapOf x node = wv) := hwv
 rw [hwv]
 clear hwv
 by_cases hz : wv = 0
 · subst hz
   have hd2 : Hid (wrapD x node = (newD x node, x.vNext)) := by show _ = _; unfold wrapD; rw [hwd.out]; simp
   clear hwd
   obtain ⟨c0, c1, c2, c3, c4⟩ := fv5 hZ5.out.bH
   go_wp2_with fail
   refine (l4New_any hZ5.out.hp hnx'.out hol hni'.out hin'.out).mono ?_
   rintro e w6 ⟨cs6, rfl, hr6⟩
   obtain ⟨aN6, kN6, aO6, kO6, aG6, kG6, rfl⟩ := hr6.form
   obtain ⟨bR6, hR6⟩ := hZ5.out.over hr6
   have bR6h : Hid (Box w6 (w.heap.size + 1) cZp 28) := bR6
   have hR6h : Hid _ := hR6
   clear hr6 bR6 hR6 hx4 c0 c1 c2 c3 c4
   generalize newD x node = y at hd2 hR6h ⊢
   obtain ⟨z0, z1, z2, z3, z4⟩ := fv5 bR6h.out
   have uz := bR6h.out.unfrozen
   go_wp2_with fail
   have bF : Box (putCells w6 (w.heap.size + 1) 0 (cHp y aN6 kN6 aO6 kO6 aG6 kG6)) (w.heap.size + 1) (cHp y aN6 kN6 aO6 kO6 aG6 kG6) 28 := Box.puts5 bR6h.out
   obtain ⟨g0, g1, g2, g3, g4⟩ := fv5 bF
   exact bodyPost_ret (v := .tuple #[.agg (List.toArray (cHp y aN6 kN6 aO6 kO6 aG6 kG6)), .int .i64 x.vNext]) (by simp only [putCells] at g0 g1 g2 g3 g4; simp [results, Tryz.results132, go_sem, g0, g1, g2, g3, g4]) rfl ⟨(cHp y aN6 kN6 aO6 kO6 aG6 kG6), by rw [hd2.out], by rw [hd2.out]; exact hR6h.out⟩
 · have hd2 : Hid (wrapD x node = (x, wv)) := by show _ = _; unfold wrapD; rw [hwd.out, if_pos hz]
   clear hwd
   obtain ⟨d0, d1, d2, d3, d4⟩ := fv5 hZ5.out.bH
   obtain ⟨z0, z1, z2, z3, z4⟩ := fv5 hZ5.out.bR
   have uz := hZ5.out.bR.unfrozen
   go_wp2_with fail
   have bF : Box (putCells w5 (w.heap.size + 1) 0 (cHp x (some ⟨gN, 0, none⟩) kN aO kO aG kG)) (w.heap.size + 1) (cHp x (some ⟨gN, 0, none⟩) kN aO kO aG kG) 28 := Box.puts5 hZ5.out.bR
   obtain ⟨g0, g1, g2, g3, g4⟩ := fv5 bF
   exact bodyPost_ret (v := .tuple #[.agg (List.toArray (cHp x (some ⟨gN, 0, none⟩) kN aO kO aG kG)), .int .i64 wv]) (by simp only [putCells] at g0 g1 g2 g3 g4; simp [results, Tryz.results132, go_sem, g0, g1, g2, g3, g4]) rfl ⟨(cHp x (some ⟨gN, 0, none⟩) kN aO kO aG kG), by rw [hd2.out], by rw [hd2.out]; exact hZ5.out.ret (cHp x (some ⟨gN, 0, none⟩) kN aO kO aG kG)⟩
end Go.Proofs.YtdnembnlomnceaaGreat
