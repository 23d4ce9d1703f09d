/- Freed of the specification and of the program, walked. -/
import Derived.Test.YtnonfehmbabfhaaGreatHWithout
import Derived.Test.YtnonfehmbabfhaaGreatTrialBoth
namespace Go.Proofs.YtnonfehmbabfhaaGreat
open Go.RowKit
def zeroH : HeapD := ⟨0, 0, [], [], []⟩
theorem zeroH_own (w : World) : HeapOwn w [.int .i64 0, .int .i64 0, .slice none 0 0, .slice none 0 0, .slice none 0 0] zeroH [] :=
  ⟨_, _, _, [], [], [], rfl, ⟨none, 0, rfl, by unfold maxLen; simp [zeroH], Or.inl ⟨rfl, rfl⟩⟩, ⟨none, 0, rfl, by unfold maxLen; simp [zeroH], Or.inl ⟨rfl, rfl⟩⟩, ⟨none, 0, rfl, by unfold maxLen; simp [zeroH], Or.inl ⟨rfl, rfl⟩⟩, by unfold InI zeroH; decide, by unfold InI zeroH; decide, rfl⟩
def freedD (h : HeapD) (ids : List Int) : HeapD := if specB h && thereB h ids then withoutD (trialL h ids) h else zeroH
theorem zeroH_small : zeroH.small := ⟨⟨by simp [zeroH], fun i hi => by simp [zeroH] at hi⟩, ⟨by simp [zeroH], fun i hi => by simp [zeroH] at hi⟩, ⟨by simp [zeroH], fun i hi => by simp [zeroH] at hi⟩, trivial⟩
theorem freed_small {h : HeapD} (hs : h.small) (ids : List Int) : (freedD h ids).small := by
  unfold freedD
  split
  · exact left_small hs
  · exact zeroH_small
set_option maxRecDepth 100000 in
set_option maxHeartbeats 3200000 in
theorem implFreed_any {w : World} {lo : Nat} {cs : List Value} {h : HeapD} {k : Value} {ids : List Int} {bb : Bool} (hh : HeapAt w lo cs h) (hs : h.small) (hk : SeqAt 1 IntAt w lo k ids) (hl : ids.length ≤ 1048576) (hbb : (specB h && thereB h ids) = bb) :
    Calls Tryz.prog 17 #[.agg cs.toArray, k] w fun e w' => (∃ cs' fs, e = .returned (.tuple #[.agg cs'.toArray, .bool bb]) ∧ HeapOwn w' cs' (freedD h ids) fs ∧ fs.Nodup ∧ ∀ b ∈ fs, w.heap.size ≤ b) ∧ Below w.heap.size w w' := by
  have hh0 : Hid (HeapAt w lo cs h) := hh
  have hk0 : Hid (SeqAt 1 IntAt w lo k ids) := hk
  have hs' : Hid h.small := hs
  have hbb' : Hid ((specB h && thereB h ids) = bb) := hbb
  obtain ⟨i2, i3, i4, rfl, s2, s3, s4, _⟩ := hh
  obtain ⟨a2, k2, rfl⟩ := s2.form
  obtain ⟨a3, k3, rfl⟩ := s3.form
  obtain ⟨a4, k4, rfl⟩ := s4.form
  obtain ⟨ai, ci, rfl⟩ := hk.form
  clear s2 s3 s4 hs hbb hk
  have hb0 : Below w.heap.size w ((w.alloc (.cells #[.int .i64 h.vNext, .int .i64 h.vDoc, .slice a2 h.vNodes.length k2, .slice a3 h.vObjs.length k3, .slice a4 h.vGlobals.length k4] 32)).alloc (.cells #[.int .i64 0, .int .i64 0, .slice none 0 0, .slice none 0 0, .slice none 0 0] 32)) := ((Below.refl _ _).alloc (Nat.le_refl _) _).alloc (by simp) _
  have bx0 : Hid (Box ((w.alloc (.cells #[.int .i64 h.vNext, .int .i64 h.vDoc, .slice a2 h.vNodes.length k2, .slice a3 h.vObjs.length k3, .slice a4 h.vGlobals.length k4] 32)).alloc (.cells #[.int .i64 0, .int .i64 0, .slice none 0 0, .slice none 0 0, .slice none 0 0] 32)) w.heap.size [.int .i64 h.vNext, .int .i64 h.vDoc, .slice a2 h.vNodes.length k2, .slice a3 h.vObjs.length k3, .slice a4 h.vGlobals.length k4] 32) := (Box.new w _ _).alloc _
  have bz0 : Hid (Box ((w.alloc (.cells #[.int .i64 h.vNext, .int .i64 h.vDoc, .slice a2 h.vNodes.length k2, .slice a3 h.vObjs.length k3, .slice a4 h.vGlobals.length k4] 32)).alloc (.cells #[.int .i64 0, .int .i64 0, .slice none 0 0, .slice none 0 0, .slice none 0 0] 32)) (w.heap.size + 1) [.int .i64 0, .int .i64 0, .slice none 0 0, .slice none 0 0, .slice none 0 0] 32) := by have h5 := Box.new (w.alloc (.cells #[.int .i64 h.vNext, .int .i64 h.vDoc, .slice a2 h.vNodes.length k2, .slice a3 h.vObjs.length k3, .slice a4 h.vGlobals.length k4] 32)) [.int .i64 0, .int .i64 0, .slice none 0 0, .slice none 0 0, .slice none 0 0] 32; simp only [World.size_alloc] at h5; exact h5
  go_enter Tryz.func17, Tryz.ntmps17
  go_wp2_with fail
  refine (implTrial_any (HeapAt_stays _ _ _ lo _ _ (.of_below hb0) hh0.out) hs'.out (SeqAt.keep intAt_stays hk0.out (.of_below hb0)) hl).mono ?_
  rintro e w1 ⟨⟨v1, f1, rfl, ho1, lo1⟩, hb1⟩
  have hB1 : Below w.heap.size w w1 := hb0.trans (hb1.mono hb0.size)
  have bx1 : Hid (Box w1 w.heap.size [.int .i64 h.vNext, .int .i64 h.vDoc, .slice a2 h.vNodes.length k2, .slice a3 h.vObjs.length k3, .slice a4 h.vGlobals.length k4] 32) := bx0.out.below hb1 bx0.out.lt
  have bz1 : Hid (Box w1 (w.heap.size + 1) [.int .i64 0, .int .i64 0, .slice none 0 0, .slice none 0 0, .slice none 0 0] 32) := bz0.out.below hb1 bz0.out.lt
  have ho1' : Hid (SeqOwn 1 IntOwn w1 v1 (trialD h ids) f1) := ho1
  obtain ⟨ag, cg, rfl⟩ := ho1.form
  rw [hbb'.out]
  clear ho1 lo1 hb1 bx0 bz0 hb0
  cases hv : bb with
  | false =>
    have HF : Hid (freedD h ids = zeroH) := by show _ = _; unfold freedD; rw [hbb'.out, hv]; rfl
    have hbf : Hid (bb = false) := hv
    clear hv
    have z0 := bz1.out.cell 0 rfl
    have z1 := bz1.out.cell 1 rfl
    have z2 := bz1.out.cell 2 rfl
    have z3 := bz1.out.cell 3 rfl
    have z4 := bz1.out.cell 4 rfl
    have uz := bz1.out.unfrozen
    go_wp2_with fail
    have bF : Box (((((w1.setCell ⟨w.heap.size + 1, 0, none⟩ (.int .i64 0)).setCell ⟨w.heap.size + 1, 1, none⟩ (.int .i64 0)).setCell ⟨w.heap.size + 1, 2, none⟩ (.slice none 0 0)).setCell ⟨w.heap.size + 1, 3, none⟩ (.slice none 0 0)).setCell ⟨w.heap.size + 1, 4, none⟩ (.slice none 0 0)) (w.heap.size + 1) [.int .i64 0, .int .i64 0, .slice none 0 0, .slice none 0 0, .slice none 0 0] 32 := ((((bz1.out.set (i := 0) _).set (i := 1) _).set (i := 2) _).set (i := 3) _).set (i := 4) _
    have g0 := bF.cell 0 rfl
    have g1 := bF.cell 1 rfl
    have g2 := bF.cell 2 rfl
    have g3 := bF.cell 3 rfl
    have g4 := bF.cell 4 rfl
    refine bodyPost_ret (v := .tuple #[.agg #[.int .i64 0, .int .i64 0, .slice none 0 0, .slice none 0 0, .slice none 0 0], .bool false]) (by simp [results, Tryz.results17, go_sem, g0, g1, g2, g3, g4]) rfl ?_
    exact ⟨⟨[.int .i64 0, .int .i64 0, .slice none 0 0, .slice none 0 0, .slice none 0 0], [], by rw [hbf.out], by rw [HF.out]; exact zeroH_own _, List.nodup_nil, by simp⟩, (((((hB1).setCell (by simp) _).setCell (by simp) _).setCell (by simp) _).setCell (by simp) _).setCell (by simp) _⟩
  | true =>
    have HF : Hid (freedD h ids = withoutD (trialL h ids) h) := by show _ = _; unfold freedD; rw [hbb'.out, hv]; rfl
    have HD : trialD h ids = trialL h ids := by unfold trialD; rw [hbb'.out, hv]; rfl
    have hbt : Hid (bb = true) := hv
    rw [HD] at ho1' ⊢
    clear hv HD
    have x0 := bx1.out.cell 0 rfl
    have x1 := bx1.out.cell 1 rfl
    have x2 := bx1.out.cell 2 rfl
    have x3 := bx1.out.cell 3 rfl
    have x4 := bx1.out.cell 4 rfl
    go_wp2_with fail
    refine (heapWithout_any (lo2 := 0) (HeapAt_stays _ _ _ lo _ _ (.of_below hB1) hh0.out) hs'.out (SeqOwn.at (intOwn_at (lo := 0)) ho1'.out (fun _ _ => Nat.zero_le _))).mono ?_
    rintro e w2 ⟨⟨cs', rfl, fs, hown, hnd, hlo⟩, hb2⟩
    have hz2 : w.heap.size + 2 ≤ w1.heap.size := by have := bz1.out.lt; omega
    have hB2 : Below w.heap.size w w2 := hB1.trans (hb2.mono hB1.size)
    have bz2 : Hid (Box w2 (w.heap.size + 1) [.int .i64 0, .int .i64 0, .slice none 0 0, .slice none 0 0, .slice none 0 0] 32) := bz1.out.below hb2 bz1.out.lt
    have hlo' : Hid (∀ b ∈ fs, w1.heap.size ≤ b) := hlo
    have hown' : Hid (HeapOwn w2 cs' (withoutD (trialL h ids) h) fs) := hown
    obtain ⟨j2, j3, j4, _, _, _, rfl, t2, t3, t4, _⟩ := hown
    obtain ⟨d2, m2, rfl⟩ := t2.form
    obtain ⟨d3, m3, rfl⟩ := t3.form
    obtain ⟨d4, m4, rfl⟩ := t4.form
    clear t2 t3 t4
    have z0 := bz2.out.cell 0 rfl
    have z1 := bz2.out.cell 1 rfl
    have z2 := bz2.out.cell 2 rfl
    have z3 := bz2.out.cell 3 rfl
    have z4 := bz2.out.cell 4 rfl
    have uz := bz2.out.unfrozen
    clear x0 x1 x2 x3 x4 bx1 bz1 hb2 hlo
    go_wp2_with fail
    have bF : Box (((((w2.setCell ⟨w.heap.size + 1, 0, none⟩ (.int .i64 (withoutD (trialL h ids) h).vNext)).setCell ⟨w.heap.size + 1, 1, none⟩ (.int .i64 (withoutD (trialL h ids) h).vDoc)).setCell ⟨w.heap.size + 1, 2, none⟩ (.slice d2 (withoutD (trialL h ids) h).vNodes.length m2)).setCell ⟨w.heap.size + 1, 3, none⟩ (.slice d3 (withoutD (trialL h ids) h).vObjs.length m3)).setCell ⟨w.heap.size + 1, 4, none⟩ (.slice d4 (withoutD (trialL h ids) h).vGlobals.length m4)) (w.heap.size + 1) [.int .i64 (withoutD (trialL h ids) h).vNext, .int .i64 (withoutD (trialL h ids) h).vDoc, .slice d2 (withoutD (trialL h ids) h).vNodes.length m2, .slice d3 (withoutD (trialL h ids) h).vObjs.length m3, .slice d4 (withoutD (trialL h ids) h).vGlobals.length m4] 32 := ((((bz2.out.set (i := 0) _).set (i := 1) _).set (i := 2) _).set (i := 3) _).set (i := 4) _
    have hKF : ∀ b, w.heap.size + 2 ≤ b → (((((w2.setCell ⟨w.heap.size + 1, 0, none⟩ (.int .i64 (withoutD (trialL h ids) h).vNext)).setCell ⟨w.heap.size + 1, 1, none⟩ (.int .i64 (withoutD (trialL h ids) h).vDoc)).setCell ⟨w.heap.size + 1, 2, none⟩ (.slice d2 (withoutD (trialL h ids) h).vNodes.length m2)).setCell ⟨w.heap.size + 1, 3, none⟩ (.slice d3 (withoutD (trialL h ids) h).vObjs.length m3)).setCell ⟨w.heap.size + 1, 4, none⟩ (.slice d4 (withoutD (trialL h ids) h).vGlobals.length m4)).heap[b]? = w2.heap[b]? := fun b qq => by rw [set_other (by omega), set_other (by omega), set_other (by omega), set_other (by omega), set_other (by omega)]
    have g0 := bF.cell 0 rfl
    have g1 := bF.cell 1 rfl
    have g2 := bF.cell 2 rfl
    have g3 := bF.cell 3 rfl
    have g4 := bF.cell 4 rfl
    refine bodyPost_ret (v := .tuple #[.agg #[.int .i64 (withoutD (trialL h ids) h).vNext, .int .i64 (withoutD (trialL h ids) h).vDoc, .slice d2 (withoutD (trialL h ids) h).vNodes.length m2, .slice d3 (withoutD (trialL h ids) h).vObjs.length m3, .slice d4 (withoutD (trialL h ids) h).vGlobals.length m4], .bool true]) (by simp [results, Tryz.results17, go_sem, g0, g1, g2, g3, g4]) rfl ?_
    exact ⟨⟨[.int .i64 (withoutD (trialL h ids) h).vNext, .int .i64 (withoutD (trialL h ids) h).vDoc, .slice d2 (withoutD (trialL h ids) h).vNodes.length m2, .slice d3 (withoutD (trialL h ids) h).vObjs.length m3, .slice d4 (withoutD (trialL h ids) h).vGlobals.length m4], fs, by rw [hbt.out], by rw [HF.out]; exact HeapOwn_stays _ _ _ _ _ (fun b qq => hKF b (by have := hlo'.out b qq; omega)) hown'.out, hnd, fun b qq => by have := hlo'.out b qq; omega⟩, (((((hB2).setCell (by simp) _).setCell (by simp) _).setCell (by simp) _).setCell (by simp) _).setCell (by simp) _⟩
set_option maxRecDepth 100000 in
set_option maxHeartbeats 3200000 in
theorem specFreed_any {w : World} {lo : Nat} {cs : List Value} {h : HeapD} {k : Value} {ids : List Int} {bb : Bool} (hh : HeapAt w lo cs h) (hs : h.small) (hk : SeqAt 1 IntAt w lo k ids) (hl : ids.length ≤ 1048576) (hbb : (specB h && thereB h ids) = bb) :
    Calls Tryz.prog 15 #[.agg cs.toArray, k] w fun e w' => (∃ cs' fs, e = .returned (.tuple #[.agg cs'.toArray, .bool bb]) ∧ HeapOwn w' cs' (freedD h ids) fs ∧ fs.Nodup ∧ ∀ b ∈ fs, w.heap.size ≤ b) ∧ Below w.heap.size w w' := by
  have hh0 : Hid (HeapAt w lo cs h) := hh
  have hk0 : Hid (SeqAt 1 IntAt w lo k ids) := hk
  have hs' : Hid h.small := hs
  have hbb' : Hid ((specB h && thereB h ids) = bb) := hbb
  obtain ⟨i2, i3, i4, rfl, s2, s3, s4, _⟩ := hh
  obtain ⟨a2, k2, rfl⟩ := s2.form
  obtain ⟨a3, k3, rfl⟩ := s3.form
  obtain ⟨a4, k4, rfl⟩ := s4.form
  obtain ⟨ai, ci, rfl⟩ := hk.form
  clear s2 s3 s4 hs hbb hk
  have hb0 : Below w.heap.size w ((w.alloc (.cells #[.int .i64 h.vNext, .int .i64 h.vDoc, .slice a2 h.vNodes.length k2, .slice a3 h.vObjs.length k3, .slice a4 h.vGlobals.length k4] 32)).alloc (.cells #[.int .i64 0, .int .i64 0, .slice none 0 0, .slice none 0 0, .slice none 0 0] 32)) := ((Below.refl _ _).alloc (Nat.le_refl _) _).alloc (by simp) _
  have bx0 : Hid (Box ((w.alloc (.cells #[.int .i64 h.vNext, .int .i64 h.vDoc, .slice a2 h.vNodes.length k2, .slice a3 h.vObjs.length k3, .slice a4 h.vGlobals.length k4] 32)).alloc (.cells #[.int .i64 0, .int .i64 0, .slice none 0 0, .slice none 0 0, .slice none 0 0] 32)) w.heap.size [.int .i64 h.vNext, .int .i64 h.vDoc, .slice a2 h.vNodes.length k2, .slice a3 h.vObjs.length k3, .slice a4 h.vGlobals.length k4] 32) := (Box.new w _ _).alloc _
  have bz0 : Hid (Box ((w.alloc (.cells #[.int .i64 h.vNext, .int .i64 h.vDoc, .slice a2 h.vNodes.length k2, .slice a3 h.vObjs.length k3, .slice a4 h.vGlobals.length k4] 32)).alloc (.cells #[.int .i64 0, .int .i64 0, .slice none 0 0, .slice none 0 0, .slice none 0 0] 32)) (w.heap.size + 1) [.int .i64 0, .int .i64 0, .slice none 0 0, .slice none 0 0, .slice none 0 0] 32) := by have h5 := Box.new (w.alloc (.cells #[.int .i64 h.vNext, .int .i64 h.vDoc, .slice a2 h.vNodes.length k2, .slice a3 h.vObjs.length k3, .slice a4 h.vGlobals.length k4] 32)) [.int .i64 0, .int .i64 0, .slice none 0 0, .slice none 0 0, .slice none 0 0] 32; simp only [World.size_alloc] at h5; exact h5
  go_enter Tryz.func15, Tryz.ntmps15
  go_wp2_with fail
  refine (specHeapOk_any (HeapAt_stays _ _ _ lo _ _ (.of_below hb0) hh0.out)).mono ?_
  rintro e w1 ⟨rfl, hb1⟩
  have hB2 : Below w.heap.size w w1 := hb0.trans (hb1.mono hb0.size)
  have bx2 : Hid (Box w1 w.heap.size [.int .i64 h.vNext, .int .i64 h.vDoc, .slice a2 h.vNodes.length k2, .slice a3 h.vObjs.length k3, .slice a4 h.vGlobals.length k4] 32) := bx0.out.below hb1 bx0.out.lt
  have bz2 : Hid (Box w1 (w.heap.size + 1) [.int .i64 0, .int .i64 0, .slice none 0 0, .slice none 0 0, .slice none 0 0] 32) := bz0.out.below hb1 bz0.out.lt
  have c0 := bx2.out.cell 0 rfl
  have c1 := bx2.out.cell 1 rfl
  have c2 := bx2.out.cell 2 rfl
  have c3 := bx2.out.cell 3 rfl
  have c4 := bx2.out.cell 4 rfl
  clear hb0 hb1 bx0 bz0
  cases hp : specB h
  · have hbf : Hid (bb = false) := by show _ = _; rw [← hbb'.out, hp]; rfl
    have HF : Hid (freedD h ids = zeroH) := by show _ = _; unfold freedD; rw [hbb'.out, hbf.out]; rfl
    clear hp
    have z0 := bz2.out.cell 0 rfl
    have z1 := bz2.out.cell 1 rfl
    have z2 := bz2.out.cell 2 rfl
    have z3 := bz2.out.cell 3 rfl
    have z4 := bz2.out.cell 4 rfl
    have uz := bz2.out.unfrozen
    go_wp2_with fail
    have bF : Box (((((w1.setCell ⟨w.heap.size + 1, 0, none⟩ (.int .i64 0)).setCell ⟨w.heap.size + 1, 1, none⟩ (.int .i64 0)).setCell ⟨w.heap.size + 1, 2, none⟩ (.slice none 0 0)).setCell ⟨w.heap.size + 1, 3, none⟩ (.slice none 0 0)).setCell ⟨w.heap.size + 1, 4, none⟩ (.slice none 0 0)) (w.heap.size + 1) [.int .i64 0, .int .i64 0, .slice none 0 0, .slice none 0 0, .slice none 0 0] 32 := ((((bz2.out.set (i := 0) _).set (i := 1) _).set (i := 2) _).set (i := 3) _).set (i := 4) _
    have g0 := bF.cell 0 rfl
    have g1 := bF.cell 1 rfl
    have g2 := bF.cell 2 rfl
    have g3 := bF.cell 3 rfl
    have g4 := bF.cell 4 rfl
    refine bodyPost_ret (v := .tuple #[.agg #[.int .i64 0, .int .i64 0, .slice none 0 0, .slice none 0 0, .slice none 0 0], .bool false]) (by simp [results, Tryz.results15, go_sem, g0, g1, g2, g3, g4]) rfl ?_
    exact ⟨⟨[.int .i64 0, .int .i64 0, .slice none 0 0, .slice none 0 0, .slice none 0 0], [], by rw [hbf.out], by rw [HF.out]; exact zeroH_own _, List.nodup_nil, by simp⟩, (((((hB2).setCell (by simp) _).setCell (by simp) _).setCell (by simp) _).setCell (by simp) _).setCell (by simp) _⟩
  have hp' : Hid (specB h = true) := hp
  clear hp
  go_wp2_with fail
  refine (l6There_any (HeapAt_stays _ _ _ lo _ _ (.of_below hB2) hh0.out) (SeqAt.keep intAt_stays hk0.out (.of_below hB2)) hl).mono ?_
  rintro e w2 ⟨rfl, hb3⟩
  have hB3 : Below w.heap.size w w2 := hB2.trans (hb3.mono hB2.size)
  have bx3 : Hid (Box w2 w.heap.size [.int .i64 h.vNext, .int .i64 h.vDoc, .slice a2 h.vNodes.length k2, .slice a3 h.vObjs.length k3, .slice a4 h.vGlobals.length k4] 32) := bx2.out.below hb3 bx2.out.lt
  have bz3 : Hid (Box w2 (w.heap.size + 1) [.int .i64 0, .int .i64 0, .slice none 0 0, .slice none 0 0, .slice none 0 0] 32) := bz2.out.below hb3 bz2.out.lt
  clear c0 c1 c2 c3 c4 bx2 bz2 hb3
  have c0 := bx3.out.cell 0 rfl
  have c1 := bx3.out.cell 1 rfl
  have c2 := bx3.out.cell 2 rfl
  have c3 := bx3.out.cell 3 rfl
  have c4 := bx3.out.cell 4 rfl
  cases ht : thereB h ids
  · have hbf : Hid (bb = false) := by show _ = _; rw [← hbb'.out, ht, Bool.and_false]
    have HF : Hid (freedD h ids = zeroH) := by show _ = _; unfold freedD; rw [hbb'.out, hbf.out]; rfl
    clear ht
    have z0 := bz3.out.cell 0 rfl
    have z1 := bz3.out.cell 1 rfl
    have z2 := bz3.out.cell 2 rfl
    have z3 := bz3.out.cell 3 rfl
    have z4 := bz3.out.cell 4 rfl
    have uz := bz3.out.unfrozen
    go_wp2_with fail
    have bF : Box (((((w2.setCell ⟨w.heap.size + 1, 0, none⟩ (.int .i64 0)).setCell ⟨w.heap.size + 1, 1, none⟩ (.int .i64 0)).setCell ⟨w.heap.size + 1, 2, none⟩ (.slice none 0 0)).setCell ⟨w.heap.size + 1, 3, none⟩ (.slice none 0 0)).setCell ⟨w.heap.size + 1, 4, none⟩ (.slice none 0 0)) (w.heap.size + 1) [.int .i64 0, .int .i64 0, .slice none 0 0, .slice none 0 0, .slice none 0 0] 32 := ((((bz3.out.set (i := 0) _).set (i := 1) _).set (i := 2) _).set (i := 3) _).set (i := 4) _
    have g0 := bF.cell 0 rfl
    have g1 := bF.cell 1 rfl
    have g2 := bF.cell 2 rfl
    have g3 := bF.cell 3 rfl
    have g4 := bF.cell 4 rfl
    refine bodyPost_ret (v := .tuple #[.agg #[.int .i64 0, .int .i64 0, .slice none 0 0, .slice none 0 0, .slice none 0 0], .bool false]) (by simp [results, Tryz.results15, go_sem, g0, g1, g2, g3, g4]) rfl ?_
    exact ⟨⟨[.int .i64 0, .int .i64 0, .slice none 0 0, .slice none 0 0, .slice none 0 0], [], by rw [hbf.out], by rw [HF.out]; exact zeroH_own _, List.nodup_nil, by simp⟩, (((((hB3).setCell (by simp) _).setCell (by simp) _).setCell (by simp) _).setCell (by simp) _).setCell (by simp) _⟩
  have hpt : (specB h && thereB h ids) = true := by rw [hp'.out, ht]; rfl
  have hbt : Hid (bb = true) := by show _ = _; rw [← hbb'.out]; exact hpt
  have HF : Hid (freedD h ids = withoutD (trialL h ids) h) := by show _ = _; unfold freedD; rw [if_pos hpt]
  obtain ⟨e1, e2, e3⟩ := there_ids hpt
  have e2' : Hid (∀ x ∈ ids, x ∈ idsD h) := e2
  have hI : Hid (∀ x ∈ trialL h ids, InI x) := fun x hx => (reached_in hh0.out e1 hs'.out e2 x (List.mem_filter.1 hx).1).1
  clear ht hpt e1 e2
  go_wp2_with fail
  refine wp_region_held_drew (S := fun w' => w'.cell? ⟨w.heap.size, 0, none⟩ = some (.int .i64 h.vNext) ∧ w'.cell? ⟨w.heap.size, 1, none⟩ = some (.int .i64 h.vDoc) ∧ w'.cell? ⟨w.heap.size, 2, none⟩ = some (.slice a2 h.vNodes.length k2) ∧ w'.cell? ⟨w.heap.size, 3, none⟩ = some (.slice a3 h.vObjs.length k3) ∧ w'.cell? ⟨w.heap.size, 4, none⟩ = some (.slice a4 h.vGlobals.length k4)) (by kernel_rfl) ⟨c0, c1, c2, c3, c4⟩ (fun hHeld => ?_)
  refine tq (i := 0) (d := 16) ?_
  simp only [sz, ss]
  refine tq (i := 1) (d := 17) ?_
  simp only [sz, ss]
  refine tq (i := 2) (d := 18) ?_
  simp only [sz, ss]
  refine wpAnyH_ready (rs := [3]) (by kernel_rfl) (by simp) ?_
  refine AllReadyH.cons rfl (fun K hK => ?_) AllReadyH.nil
  go_simp
  refine (l6Trial_any (by exact HeapAt_stays _ _ _ lo _ _ (.of_below hB3.drew) hh0.out) hs'.out hp'.out (by exact SeqAt.keep intAt_stays hk0.out (.of_below hB3.drew)) e2'.out e3).mono ?_
  rintro e u1 ⟨⟨v4, rfl, hown4⟩, hq1⟩
  have hu1 : Hid (Below w2.heap.size w2 u1) := undrew hq1
  obtain ⟨fg, ho4, _⟩ := seqOwn_of_row hown4 hI.out
  have ho4' : Hid (SeqOwn 1 IntOwn u1 v4 (trialL h ids) fg) := ho4
  obtain ⟨ag, cg, rfl⟩ := ho4.form
  clear hown4 ho4
  refine hK.out _ _ ⟨cell_on hq1 hHeld.1, cell_on hq1 hHeld.2.1, cell_on hq1 hHeld.2.2.1, cell_on hq1 hHeld.2.2.2.1, cell_on hq1 hHeld.2.2.2.2⟩ (fun hHeld => ?_)
  clear hK K
  refine wpAnyH_ready (rs := [4]) (by kernel_rfl) (by simp) ?_
  refine AllReadyH.cons rfl (fun K hK => ?_) AllReadyH.nil
  go_simp
  have hBu : Below w.heap.size w u1 := hB3.trans (hu1.out.mono hB3.size)
  refine (l5Without_any (lo2 := 0) (by exact HeapAt_stays _ _ _ lo _ _ (.of_below hBu) hh0.out) hs'.out (by exact SeqOwn.at (intOwn_at (lo := 0)) ho4'.out (fun _ _ => Nat.zero_le _))).mono ?_
  rintro e u2 ⟨⟨cs', rfl, fs, hown, hnd, hlo⟩, hq2⟩
  have hB4 : Hid (Below w.heap.size w u2) := hBu.trans (hq2.mono hBu.size)
  have bz4 : Hid (Box u2 (w.heap.size + 1) [.int .i64 0, .int .i64 0, .slice none 0 0, .slice none 0 0, .slice none 0 0] 32) := (bz3.out.below hu1.out bz3.out.lt).below hq2 (by have := hu1.out.size; have := bz3.out.lt; omega)
  have hlo' : Hid (∀ b ∈ fs, u1.heap.size ≤ b) := hlo
  have hzu : w.heap.size + 2 ≤ u1.heap.size := by have := hu1.out.size; have := bz3.out.lt; omega
  have hown' : Hid (HeapOwn u2 cs' (withoutD (trialL h ids) h) fs) := hown
  obtain ⟨j2, j3, j4, _, _, _, rfl, t2, t3, t4, _⟩ := hown
  obtain ⟨d2, m2, rfl⟩ := t2.form
  obtain ⟨d3, m3, rfl⟩ := t3.form
  obtain ⟨d4, m4, rfl⟩ := t4.form
  clear t2 t3 t4
  clear hlo
  refine hK.out _ _ ⟨cell_on hq2 hHeld.1, cell_on hq2 hHeld.2.1, cell_on hq2 hHeld.2.2.1, cell_on hq2 hHeld.2.2.2.1, cell_on hq2 hHeld.2.2.2.2⟩ (fun hHeld => ?_)
  clear hK K
  refine wpAnyH_ready (rs := [5]) (by kernel_rfl) (by simp) ?_
  refine AllReadyH.cons rfl (fun K hK => ?_) AllReadyH.nil
  have z0 := bz4.out.cell 0 rfl
  have z1 := bz4.out.cell 1 rfl
  have z2 := bz4.out.cell 2 rfl
  have z3 := bz4.out.cell 3 rfl
  have z4 := bz4.out.cell 4 rfl
  have uz := bz4.out.unfrozen
  go_simp
  refine hK.out _ _ ⟨cell_set (cell_set (cell_set (cell_set (cell_set hHeld.1 (by omega) _) (by omega) _) (by omega) _) (by omega) _) (by omega) _, cell_set (cell_set (cell_set (cell_set (cell_set hHeld.2.1 (by omega) _) (by omega) _) (by omega) _) (by omega) _) (by omega) _, cell_set (cell_set (cell_set (cell_set (cell_set hHeld.2.2.1 (by omega) _) (by omega) _) (by omega) _) (by omega) _) (by omega) _, cell_set (cell_set (cell_set (cell_set (cell_set hHeld.2.2.2.1 (by omega) _) (by omega) _) (by omega) _) (by omega) _) (by omega) _, cell_set (cell_set (cell_set (cell_set (cell_set hHeld.2.2.2.2 (by omega) _) (by omega) _) (by omega) _) (by omega) _) (by omega) _⟩ (fun hHeld => ?_)
  clear hK K
  refine tq (i := 6) (d := 5) ?_
  simp only [sz, ss]
  refine wpAnyH_done (by kernel_rfl) ?_ _
  clear z0 z1 z2 z3 z4 uz hHeld
  go_wp2_with fail
  have bF : Box (((((u2.setCell ⟨w.heap.size + 1, 0, none⟩ (.int .i64 (withoutD (trialL h ids) h).vNext)).setCell ⟨w.heap.size + 1, 1, none⟩ (.int .i64 (withoutD (trialL h ids) h).vDoc)).setCell ⟨w.heap.size + 1, 2, none⟩ (.slice d2 (withoutD (trialL h ids) h).vNodes.length m2)).setCell ⟨w.heap.size + 1, 3, none⟩ (.slice d3 (withoutD (trialL h ids) h).vObjs.length m3)).setCell ⟨w.heap.size + 1, 4, none⟩ (.slice d4 (withoutD (trialL h ids) h).vGlobals.length m4)) (w.heap.size + 1) [.int .i64 (withoutD (trialL h ids) h).vNext, .int .i64 (withoutD (trialL h ids) h).vDoc, .slice d2 (withoutD (trialL h ids) h).vNodes.length m2, .slice d3 (withoutD (trialL h ids) h).vObjs.length m3, .slice d4 (withoutD (trialL h ids) h).vGlobals.length m4] 32 := ((((bz4.out.set (i := 0) _).set (i := 1) _).set (i := 2) _).set (i := 3) _).set (i := 4) _
  have hKF : ∀ b, w.heap.size + 2 ≤ b → (((((u2.setCell ⟨w.heap.size + 1, 0, none⟩ (.int .i64 (withoutD (trialL h ids) h).vNext)).setCell ⟨w.heap.size + 1, 1, none⟩ (.int .i64 (withoutD (trialL h ids) h).vDoc)).setCell ⟨w.heap.size + 1, 2, none⟩ (.slice d2 (withoutD (trialL h ids) h).vNodes.length m2)).setCell ⟨w.heap.size + 1, 3, none⟩ (.slice d3 (withoutD (trialL h ids) h).vObjs.length m3)).setCell ⟨w.heap.size + 1, 4, none⟩ (.slice d4 (withoutD (trialL h ids) h).vGlobals.length m4)).heap[b]? = u2.heap[b]? := fun b qq => by rw [set_other (by omega), set_other (by omega), set_other (by omega), set_other (by omega), set_other (by omega)]
  have g0 := bF.cell 0 rfl
  have g1 := bF.cell 1 rfl
  have g2 := bF.cell 2 rfl
  have g3 := bF.cell 3 rfl
  have g4 := bF.cell 4 rfl
  refine bodyPost_ret (v := .tuple #[.agg #[.int .i64 (withoutD (trialL h ids) h).vNext, .int .i64 (withoutD (trialL h ids) h).vDoc, .slice d2 (withoutD (trialL h ids) h).vNodes.length m2, .slice d3 (withoutD (trialL h ids) h).vObjs.length m3, .slice d4 (withoutD (trialL h ids) h).vGlobals.length m4], .bool true]) (by simp [results, Tryz.results15, go_sem, g0, g1, g2, g3, g4]) rfl ?_
  exact ⟨⟨[.int .i64 (withoutD (trialL h ids) h).vNext, .int .i64 (withoutD (trialL h ids) h).vDoc, .slice d2 (withoutD (trialL h ids) h).vNodes.length m2, .slice d3 (withoutD (trialL h ids) h).vObjs.length m3, .slice d4 (withoutD (trialL h ids) h).vGlobals.length m4], fs, by rw [hbt.out], by rw [HF.out]; exact HeapOwn_stays _ _ _ _ _ (fun b qq => hKF b (by have := hlo'.out b qq; omega)) hown'.out, hnd, fun b qq => by have := hlo'.out b qq; omega⟩, (((((hB4.out).setCell (by simp) _).setCell (by simp) _).setCell (by simp) _).setCell (by simp) _).setCell (by simp) _⟩
end Go.Proofs.YtnonfehmbabfhaaGreat
