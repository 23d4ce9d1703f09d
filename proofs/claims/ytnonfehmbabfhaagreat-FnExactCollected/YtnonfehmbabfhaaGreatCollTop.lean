/- Collected of the specification and of the program, walked. -/
import Derived.Test.YtnonfehmbabfhaaGreatHWithout
import Derived.Test.YtnonfehmbabfhaaGreatGarbage
import Derived.Test.YtnonfehmbabfhaaGreatTrialThings
import Derived.Test.YtnonfehmbabfhaaGreatHeapSpec
namespace Go.Proofs.YtnonfehmbabfhaaGreat
open Go.RowKit
def zeroH : HeapD := ⟨0, 0, [], [], []⟩
theorem zeroH_own (w : World) : HeapOwn w [.int .i64 0, .int .i64 0, .slice none 0 0, .slice none 0 0, .slice none 0 0] zeroH [] :=
  ⟨_, _, _, [], [], [], rfl, ⟨none, 0, rfl, by unfold maxLen; simp [zeroH], Or.inl ⟨rfl, rfl⟩⟩, ⟨none, 0, rfl, by unfold maxLen; simp [zeroH], Or.inl ⟨rfl, rfl⟩⟩, ⟨none, 0, rfl, by unfold maxLen; simp [zeroH], Or.inl ⟨rfl, rfl⟩⟩, by unfold InI zeroH; decide, by unfold InI zeroH; decide, rfl⟩
theorem zeroH_small : zeroH.small := ⟨⟨by simp [zeroH], fun i hi => by simp [zeroH] at hi⟩, ⟨by simp [zeroH], fun i hi => by simp [zeroH] at hi⟩, ⟨by simp [zeroH], fun i hi => by simp [zeroH] at hi⟩, trivial⟩
def collD (h : HeapD) : HeapD × List Int := if specB h then (withoutD (garbD h) h, garbD h) else (zeroH, [])
theorem coll_small {h : HeapD} (hs : h.small) : (collD h).1.small := by
  unfold collD
  split
  · exact left_small hs
  · exact zeroH_small
theorem coll_len {h : HeapD} : (collD h).2.length ≤ 32 := by
  unfold collD
  split
  · rename_i e
    exact Nat.le_trans (List.length_filter_le _ _) (idsD_most e)
  · simp
theorem coll_same {h : HeapD} (e : specB h = true) {o : ThD} {Ts all : List ThD} (hids : Ts.map ThD.id = idsD h) (hap : Apart (o :: Ts)) (hsub : ∀ t ∈ all, t ∈ Ts) (hmem : ∀ k, k ∈ all.map ThD.id ↔ k ∈ belD h (rootsD h)) : sortI ((Ts.filter (ntB all)).map ThD.id) = garbD h ∧ (Ts.filter (ntB all)).length ≤ 32 := by
  have hnt : ∀ t ∈ Ts, ntB all t = !hasB (belD h (rootsD h)) t.id := fun t ht => by
    unfold ntB
    congr 1
    rw [Bool.eq_iff_iff, has_blk hap hsub ht, hasB_iff]
    exact hmem t.id
  have h1 : (Ts.filter (ntB all)).map ThD.id = garbD h := by
    rw [List.filter_congr hnt]
    unfold garbD
    rw [← hids, List.filter_map]
    rfl
  have hnd : (idsU h).Nodup := idsU_nodup (impl_idx (spec_impl h ▸ e))
  have hr : Rises (idsD h) := (sortI_rises hnd).1
  have hrg : Rises (garbD h) := List.Pairwise.sublist List.filter_sublist hr
  have hng : (garbD h).Nodup := lt_nodup hrg
  refine ⟨?_, ?_⟩
  · rw [h1]
    exact rises_same _ _ (sortI_rises hng).1 hrg (sortI_rises hng).2
  · have h2 := congrArg List.length h1
    rw [List.length_map] at h2
    rw [h2]
    exact Nat.le_trans (List.length_filter_le _ _) (idsD_most e)
set_option maxRecDepth 100000 in
set_option maxHeartbeats 3200000 in
theorem specCollected_any {w : World} {lo : Nat} {cs : List Value} {h : HeapD} {bb : Bool} (hh : HeapAt w lo cs h) (hs : h.small) (hbb : specB h = bb) :
    Calls Tryz.prog 6 #[.agg cs.toArray] w fun e w' => (∃ cs' v f1 f2, e = .returned (.tuple #[.agg cs'.toArray, v, .bool bb]) ∧ HeapOwn w' cs' (collD h).1 f1 ∧ SeqOwn 1 IntOwn w' v (collD h).2 f2 ∧ (f1 ++ f2).Nodup ∧ ∀ b ∈ f1 ++ f2, w.heap.size ≤ b) ∧ Below w.heap.size w w' := by
  have hh0 : Hid (HeapAt w lo cs h) := hh
  have hs' : Hid h.small := hs
  have hbb' : Hid (specB h = bb) := hbb
  obtain ⟨i2, i3, i4, rfl, s2, s3, s4, _⟩ := hh
  obtain ⟨a2, k2, rfl⟩ := s2.form
  obtain ⟨a3, k3, rfl⟩ := s3.form
  obtain ⟨a4, k4, rfl⟩ := s4.form
  clear s2 s3 s4 hs hbb
  have hb0 : Below w.heap.size w ((w.alloc (.cells (List.toArray [.int .i64 h.vNext, .int .i64 h.vDoc, .slice a2 h.vNodes.length k2, .slice a3 h.vObjs.length k3, .slice a4 h.vGlobals.length k4]) 32)).alloc (.cells (List.toArray [.int .i64 0, .int .i64 0, .slice none 0 0, .slice none 0 0, .slice none 0 0]) 32)) := ((Below.refl _ _).alloc (Nat.le_refl _) _).alloc (by simp) _
  have bx0 : Hid (Box ((w.alloc (.cells (List.toArray [.int .i64 h.vNext, .int .i64 h.vDoc, .slice a2 h.vNodes.length k2, .slice a3 h.vObjs.length k3, .slice a4 h.vGlobals.length k4]) 32)).alloc (.cells (List.toArray [.int .i64 0, .int .i64 0, .slice none 0 0, .slice none 0 0, .slice none 0 0]) 32)) w.heap.size [.int .i64 h.vNext, .int .i64 h.vDoc, .slice a2 h.vNodes.length k2, .slice a3 h.vObjs.length k3, .slice a4 h.vGlobals.length k4] 32) := (Box.new w _ _).alloc _
  have bz0 : Hid (Box ((w.alloc (.cells (List.toArray [.int .i64 h.vNext, .int .i64 h.vDoc, .slice a2 h.vNodes.length k2, .slice a3 h.vObjs.length k3, .slice a4 h.vGlobals.length k4]) 32)).alloc (.cells (List.toArray [.int .i64 0, .int .i64 0, .slice none 0 0, .slice none 0 0, .slice none 0 0]) 32)) (w.heap.size + 1) [.int .i64 0, .int .i64 0, .slice none 0 0, .slice none 0 0, .slice none 0 0] 32) := by have h5 := Box.new (w.alloc (.cells (List.toArray [.int .i64 h.vNext, .int .i64 h.vDoc, .slice a2 h.vNodes.length k2, .slice a3 h.vObjs.length k3, .slice a4 h.vGlobals.length k4]) 32)) [.int .i64 0, .int .i64 0, .slice none 0 0, .slice none 0 0, .slice none 0 0] 32; simp only [World.size_alloc] at h5; exact h5
  have hzA : ((w.alloc (.cells (List.toArray [.int .i64 h.vNext, .int .i64 h.vDoc, .slice a2 h.vNodes.length k2, .slice a3 h.vObjs.length k3, .slice a4 h.vGlobals.length k4]) 32)).alloc (.cells (List.toArray [.int .i64 0, .int .i64 0, .slice none 0 0, .slice none 0 0, .slice none 0 0]) 32)).heap.size = w.heap.size + 2 := by simp
  go_enter Tryz.func6, Tryz.ntmps6
  go_wp2_with fail
  refine (specHeapOk_any (HeapAt_stays _ _ _ lo _ _ (.of_below hb0) hh0.out)).mono ?_
  rintro e w1 ⟨rfl, hb1⟩
  have hB2 : Below w.heap.size w w1 := hb0.trans (hb1.mono hb0.size)
  have bx2 : Hid (Box w1 w.heap.size [.int .i64 h.vNext, .int .i64 h.vDoc, .slice a2 h.vNodes.length k2, .slice a3 h.vObjs.length k3, .slice a4 h.vGlobals.length k4] 32) := bx0.out.below hb1 bx0.out.lt
  have bz2 : Hid (Box w1 (w.heap.size + 1) [.int .i64 0, .int .i64 0, .slice none 0 0, .slice none 0 0, .slice none 0 0] 32) := bz0.out.below hb1 bz0.out.lt
  clear hb0 hb1 bx0 bz0
  cases hp : specB h
  · have hbf : Hid (bb = false) := by show _ = _; rw [← hbb'.out, hp]
    have HF : Hid (collD h = (zeroH, [])) := by show _ = _; unfold collD; rw [hp]; rfl
    clear hp
    have z0 := bz2.out.cell 0 rfl
    have z1 := bz2.out.cell 1 rfl
    have z2 := bz2.out.cell 2 rfl
    have z3 := bz2.out.cell 3 rfl
    have z4 := bz2.out.cell 4 rfl
    have uz := bz2.out.unfrozen
    go_wp2_with fail
    have bF : Box (((((w1.setCell ⟨w.heap.size + 1, 0, none⟩ (.int .i64 0)).setCell ⟨w.heap.size + 1, 1, none⟩ (.int .i64 0)).setCell ⟨w.heap.size + 1, 2, none⟩ (.slice none 0 0)).setCell ⟨w.heap.size + 1, 3, none⟩ (.slice none 0 0)).setCell ⟨w.heap.size + 1, 4, none⟩ (.slice none 0 0)) (w.heap.size + 1) [.int .i64 0, .int .i64 0, .slice none 0 0, .slice none 0 0, .slice none 0 0] 32 := ((((bz2.out.set (i := 0) _).set (i := 1) _).set (i := 2) _).set (i := 3) _).set (i := 4) _
    have g0 := bF.cell 0 rfl
    have g1 := bF.cell 1 rfl
    have g2 := bF.cell 2 rfl
    have g3 := bF.cell 3 rfl
    have g4 := bF.cell 4 rfl
    refine bodyPost_ret (v := .tuple #[.agg (List.toArray [.int .i64 0, .int .i64 0, .slice none 0 0, .slice none 0 0, .slice none 0 0]), .slice none 0 0, .bool false]) (by simp [results, Tryz.results6, go_sem, g0, g1, g2, g3, g4]) rfl ?_
    exact ⟨⟨[.int .i64 0, .int .i64 0, .slice none 0 0, .slice none 0 0, .slice none 0 0], _, [], [], by rw [hbf.out], by rw [HF.out]; exact zeroH_own _, by rw [HF.out]; exact seqOwn_none _, List.nodup_nil, by simp⟩, (((((hB2).setCell (by simp) _).setCell (by simp) _).setCell (by simp) _).setCell (by simp) _).setCell (by simp) _⟩
  have hp' : Hid (specB h = true) := hp
  have hbt : Hid (bb = true) := by show _ = _; rw [← hbb'.out, hp]
  have HF : Hid (collD h = (withoutD (garbD h) h, garbD h)) := by show _ = _; unfold collD; rw [hp]; rfl
  have c0 := bx2.out.cell 0 rfl
  have c1 := bx2.out.cell 1 rfl
  have c2 := bx2.out.cell 2 rfl
  have c3 := bx2.out.cell 3 rfl
  have c4 := bx2.out.cell 4 rfl
  clear hp
  go_wp2_with fail
  refine (l5Garbage_any (HeapAt_stays _ _ _ lo _ _ (.of_below hB2) hh0.out) hs'.out hp'.out).mono ?_
  rintro e w3 ⟨⟨v3, rfl, hown3⟩, hb3⟩
  have hI : ∀ x ∈ garbD h, InI x := fun x hx => idsD_in hh0.out x (List.mem_filter.1 hx).1
  obtain ⟨fg, ho3, hl3⟩ := seqOwn_of_row hown3 hI
  have hog : Hid (SeqOwn 1 IntOwn w3 v3 (garbD h) fg) := ho3
  have hz2 : w.heap.size + 2 ≤ w1.heap.size := by have := bz2.out.lt; omega
  have hgl : Hid (∀ b ∈ fg, w.heap.size + 2 ≤ b) := fun b qq => by have := hl3 b qq; omega
  obtain ⟨ag, cg, rfl⟩ := ho3.form
  have hBn : Hid (Below w.heap.size w w3) := hB2.trans (hb3.mono hB2.size)
  have bxn : Hid (Box w3 w.heap.size [.int .i64 h.vNext, .int .i64 h.vDoc, .slice a2 h.vNodes.length k2, .slice a3 h.vObjs.length k3, .slice a4 h.vGlobals.length k4] 32) := bx2.out.below hb3 bx2.out.lt
  have bzn : Hid (Box w3 (w.heap.size + 1) [.int .i64 0, .int .i64 0, .slice none 0 0, .slice none 0 0, .slice none 0 0] 32) := bz2.out.below hb3 bz2.out.lt
  clear c0 c1 c2 c3 c4 bx2 bz2 hb3 hown3 ho3 hl3 hI hz2
  have c0 := bxn.out.cell 0 rfl
  have c1 := bxn.out.cell 1 rfl
  have c2 := bxn.out.cell 2 rfl
  have c3 := bxn.out.cell 3 rfl
  have c4 := bxn.out.cell 4 rfl
  go_wp2_with fail
  refine (l5Without_any (lo2 := 0) (by exact HeapAt_stays _ _ _ lo _ _ (.of_below hBn.out) hh0.out) hs'.out (by exact SeqOwn.at (intOwn_at (lo := 0)) hog.out (fun _ _ => Nat.zero_le _))).mono ?_
  rintro e w9 ⟨⟨cs', rfl, fs, hown, hnd, hlo⟩, hb9⟩
  have hz9 : w.heap.size + 2 ≤ w3.heap.size := by have := bzn.out.lt; omega
  have hB9 : Hid (Below w.heap.size w w9) := hBn.out.trans (hb9.mono hBn.out.size)
  have bz9 : Hid (Box w9 (w.heap.size + 1) [.int .i64 0, .int .i64 0, .slice none 0 0, .slice none 0 0, .slice none 0 0] 32) := bzn.out.below hb9 bzn.out.lt
  have hlo' : Hid (∀ b ∈ fs, w3.heap.size ≤ b) := hlo
  have hltg : Hid (∀ b ∈ fg, b < w3.heap.size) := SeqOwn.lt intOwn_lt hog.out
  have hog9 : Hid (SeqOwn 1 IntOwn w9 (.slice ag (garbD h).length cg) (garbD h) fg) := hog.out.below intOwn_stays intOwn_lt hb9
  have hown' : Hid (HeapOwn w9 cs' (withoutD (garbD h) h) fs) := hown
  obtain ⟨j2, j3, j4, _, _, _, rfl, t2, t3, t4, _⟩ := hown
  obtain ⟨d2, m2, rfl⟩ := t2.form
  obtain ⟨d3, m3, rfl⟩ := t3.form
  obtain ⟨d4, m4, rfl⟩ := t4.form
  clear t2 t3 t4 hlo c0 c1 c2 c3 c4 bxn
  have z0 := bz9.out.cell 0 rfl
  have z1 := bz9.out.cell 1 rfl
  have z2 := bz9.out.cell 2 rfl
  have z3 := bz9.out.cell 3 rfl
  have z4 := bz9.out.cell 4 rfl
  have uz := bz9.out.unfrozen
  go_wp2_with fail
  have bF : Box (((((w9.setCell ⟨w.heap.size + 1, 0, none⟩ (.int .i64 (withoutD (garbD h) h).vNext)).setCell ⟨w.heap.size + 1, 1, none⟩ (.int .i64 (withoutD (garbD h) h).vDoc)).setCell ⟨w.heap.size + 1, 2, none⟩ (.slice d2 (withoutD (garbD h) h).vNodes.length m2)).setCell ⟨w.heap.size + 1, 3, none⟩ (.slice d3 (withoutD (garbD h) h).vObjs.length m3)).setCell ⟨w.heap.size + 1, 4, none⟩ (.slice d4 (withoutD (garbD h) h).vGlobals.length m4)) (w.heap.size + 1) [.int .i64 (withoutD (garbD h) h).vNext, .int .i64 (withoutD (garbD h) h).vDoc, .slice d2 (withoutD (garbD h) h).vNodes.length m2, .slice d3 (withoutD (garbD h) h).vObjs.length m3, .slice d4 (withoutD (garbD h) h).vGlobals.length m4] 32 := ((((bz9.out.set (i := 0) _).set (i := 1) _).set (i := 2) _).set (i := 3) _).set (i := 4) _
  have hKF : ∀ b, w.heap.size + 2 ≤ b → (((((w9.setCell ⟨w.heap.size + 1, 0, none⟩ (.int .i64 (withoutD (garbD h) h).vNext)).setCell ⟨w.heap.size + 1, 1, none⟩ (.int .i64 (withoutD (garbD h) h).vDoc)).setCell ⟨w.heap.size + 1, 2, none⟩ (.slice d2 (withoutD (garbD h) h).vNodes.length m2)).setCell ⟨w.heap.size + 1, 3, none⟩ (.slice d3 (withoutD (garbD h) h).vObjs.length m3)).setCell ⟨w.heap.size + 1, 4, none⟩ (.slice d4 (withoutD (garbD h) h).vGlobals.length m4)).heap[b]? = w9.heap[b]? := fun b qq => by rw [set_other (by omega), set_other (by omega), set_other (by omega), set_other (by omega), set_other (by omega)]
  have g0' := bF.cell 0 rfl
  have g1' := bF.cell 1 rfl
  have g2' := bF.cell 2 rfl
  have g3' := bF.cell 3 rfl
  have g4' := bF.cell 4 rfl
  refine bodyPost_ret (v := .tuple #[.agg (List.toArray [.int .i64 (withoutD (garbD h) h).vNext, .int .i64 (withoutD (garbD h) h).vDoc, .slice d2 (withoutD (garbD h) h).vNodes.length m2, .slice d3 (withoutD (garbD h) h).vObjs.length m3, .slice d4 (withoutD (garbD h) h).vGlobals.length m4]), .slice ag (garbD h).length cg, .bool true]) (by simp [results, Tryz.results6, go_sem, g0', g1', g2', g3', g4']) rfl ?_
  refine ⟨⟨[.int .i64 (withoutD (garbD h) h).vNext, .int .i64 (withoutD (garbD h) h).vDoc, .slice d2 (withoutD (garbD h) h).vNodes.length m2, .slice d3 (withoutD (garbD h) h).vObjs.length m3, .slice d4 (withoutD (garbD h) h).vGlobals.length m4], .slice ag (garbD h).length cg, fs, fg, by rw [hbt.out], by rw [HF.out]; exact HeapOwn_stays _ _ _ _ _ (fun b qq => hKF b (by have := hlo'.out b qq; omega)) hown'.out, by rw [HF.out]; exact hog9.out.stays intOwn_stays (fun b qq => hKF b (hgl.out b qq)), ?_, fun b qq => ?_⟩, ((((hB9.out.setCell (by simp) _).setCell (by simp) _).setCell (by simp) _).setCell (by simp) _).setCell (by simp) _⟩
  · exact List.nodup_append.2 ⟨hnd, hog9.out.nodup, fun a ha b hb' e => by subst e; have := hlo'.out a ha; have := hltg.out a hb'; omega⟩
  · rcases List.mem_append.1 qq with r | r
    · have := hlo'.out b r; omega
    · have := hgl.out b r; omega
set_option maxRecDepth 100000 in
set_option maxHeartbeats 3200000 in
theorem implCollected_any {w : World} {lo : Nat} {cs : List Value} {h : HeapD} {bb : Bool} (hh : HeapAt w lo cs h) (hs : h.small) (hbb : specB h = bb) :
    Calls Tryz.prog 8 #[.agg cs.toArray] w fun e w' => (∃ cs' v f1 f2, e = .returned (.tuple #[.agg cs'.toArray, v, .bool bb]) ∧ HeapOwn w' cs' (collD h).1 f1 ∧ SeqOwn 1 IntOwn w' v (collD h).2 f2 ∧ (f1 ++ f2).Nodup ∧ ∀ b ∈ f1 ++ f2, w.heap.size ≤ b) ∧ Below w.heap.size w w' := by
  have hh0 : Hid (HeapAt w lo cs h) := hh
  have hs' : Hid h.small := hs
  have hbb' : Hid (specB h = bb) := hbb
  obtain ⟨i2, i3, i4, rfl, s2, s3, s4, _⟩ := hh
  obtain ⟨a2, k2, rfl⟩ := s2.form
  obtain ⟨a3, k3, rfl⟩ := s3.form
  obtain ⟨a4, k4, rfl⟩ := s4.form
  clear s2 s3 s4 hs hbb
  have hb0 : Below w.heap.size w ((w.alloc (.cells (List.toArray [.int .i64 h.vNext, .int .i64 h.vDoc, .slice a2 h.vNodes.length k2, .slice a3 h.vObjs.length k3, .slice a4 h.vGlobals.length k4]) 32)).alloc (.cells (List.toArray [.int .i64 0, .int .i64 0, .slice none 0 0, .slice none 0 0, .slice none 0 0]) 32)) := ((Below.refl _ _).alloc (Nat.le_refl _) _).alloc (by simp) _
  have bx0 : Hid (Box ((w.alloc (.cells (List.toArray [.int .i64 h.vNext, .int .i64 h.vDoc, .slice a2 h.vNodes.length k2, .slice a3 h.vObjs.length k3, .slice a4 h.vGlobals.length k4]) 32)).alloc (.cells (List.toArray [.int .i64 0, .int .i64 0, .slice none 0 0, .slice none 0 0, .slice none 0 0]) 32)) w.heap.size [.int .i64 h.vNext, .int .i64 h.vDoc, .slice a2 h.vNodes.length k2, .slice a3 h.vObjs.length k3, .slice a4 h.vGlobals.length k4] 32) := (Box.new w _ _).alloc _
  have bz0 : Hid (Box ((w.alloc (.cells (List.toArray [.int .i64 h.vNext, .int .i64 h.vDoc, .slice a2 h.vNodes.length k2, .slice a3 h.vObjs.length k3, .slice a4 h.vGlobals.length k4]) 32)).alloc (.cells (List.toArray [.int .i64 0, .int .i64 0, .slice none 0 0, .slice none 0 0, .slice none 0 0]) 32)) (w.heap.size + 1) [.int .i64 0, .int .i64 0, .slice none 0 0, .slice none 0 0, .slice none 0 0] 32) := by have h5 := Box.new (w.alloc (.cells (List.toArray [.int .i64 h.vNext, .int .i64 h.vDoc, .slice a2 h.vNodes.length k2, .slice a3 h.vObjs.length k3, .slice a4 h.vGlobals.length k4]) 32)) [.int .i64 0, .int .i64 0, .slice none 0 0, .slice none 0 0, .slice none 0 0] 32; simp only [World.size_alloc] at h5; exact h5
  have hzA : ((w.alloc (.cells (List.toArray [.int .i64 h.vNext, .int .i64 h.vDoc, .slice a2 h.vNodes.length k2, .slice a3 h.vObjs.length k3, .slice a4 h.vGlobals.length k4]) 32)).alloc (.cells (List.toArray [.int .i64 0, .int .i64 0, .slice none 0 0, .slice none 0 0, .slice none 0 0]) 32)).heap.size = w.heap.size + 2 := by simp
  go_enter Tryz.func8, Tryz.ntmps8
  go_wp2_with fail
  refine (rightGraph_any hh0.out hb0 hs'.out).mono ?_
  rintro e w1 ⟨hres, hb2⟩
  have hB2 : Below w.heap.size w w1 := hb0.trans (hb2.mono hb0.size)
  have bx1 : Hid (Box w1 w.heap.size [.int .i64 h.vNext, .int .i64 h.vDoc, .slice a2 h.vNodes.length k2, .slice a3 h.vObjs.length k3, .slice a4 h.vGlobals.length k4] 32) := bx0.out.below hb2 bx0.out.lt
  have bz1 : Hid (Box w1 (w.heap.size + 1) [.int .i64 0, .int .i64 0, .slice none 0 0, .slice none 0 0, .slice none 0 0] 32) := bz0.out.below hb2 bz0.out.lt
  rcases hres with ⟨hp, rfl⟩ | ⟨hp, o, Ts, bm, g, cap, rfl, hg⟩
  · have hbf : Hid (bb = false) := by show _ = _; rw [← hbb'.out, hp]
    have HF : Hid (collD h = (zeroH, [])) := by show _ = _; unfold collD; rw [hp]; rfl
    have bz2 : Hid (Box (w1.alloc (.cells #[.slice none 0 0, .map none, .pointer none] 59)) (w.heap.size + 1) [.int .i64 0, .int .i64 0, .slice none 0 0, .slice none 0 0, .slice none 0 0] 32) := bz1.out.alloc _
    have hB3 := hB2.alloc hB2.size (.cells #[.slice none 0 0, .map none, .pointer none] 59)
    clear hp
    have z0 := bz2.out.cell 0 rfl
    have z1 := bz2.out.cell 1 rfl
    have z2 := bz2.out.cell 2 rfl
    have z3 := bz2.out.cell 3 rfl
    have z4 := bz2.out.cell 4 rfl
    have uz := bz2.out.unfrozen
    go_wp2_with fail
    have bF : Box ((((((w1.alloc (.cells #[.slice none 0 0, .map none, .pointer none] 59)).setCell ⟨w.heap.size + 1, 0, none⟩ (.int .i64 0)).setCell ⟨w.heap.size + 1, 1, none⟩ (.int .i64 0)).setCell ⟨w.heap.size + 1, 2, none⟩ (.slice none 0 0)).setCell ⟨w.heap.size + 1, 3, none⟩ (.slice none 0 0)).setCell ⟨w.heap.size + 1, 4, none⟩ (.slice none 0 0)) (w.heap.size + 1) [.int .i64 0, .int .i64 0, .slice none 0 0, .slice none 0 0, .slice none 0 0] 32 := ((((bz2.out.set (i := 0) _).set (i := 1) _).set (i := 2) _).set (i := 3) _).set (i := 4) _
    have g0 := bF.cell 0 rfl
    have g1 := bF.cell 1 rfl
    have g2 := bF.cell 2 rfl
    have g3 := bF.cell 3 rfl
    have g4 := bF.cell 4 rfl
    refine bodyPost_ret (v := .tuple #[.agg (List.toArray [.int .i64 0, .int .i64 0, .slice none 0 0, .slice none 0 0, .slice none 0 0]), .slice none 0 0, .bool false]) (by simp [results, Tryz.results8, go_sem, g0, g1, g2, g3, g4]) rfl ?_
    exact ⟨⟨[.int .i64 0, .int .i64 0, .slice none 0 0, .slice none 0 0, .slice none 0 0], _, [], [], by rw [hbf.out], by rw [HF.out]; exact zeroH_own _, by rw [HF.out]; exact seqOwn_none _, List.nodup_nil, by simp⟩, (((((hB3).setCell (by simp) _).setCell (by simp) _).setCell (by simp) _).setCell (by simp) _).setCell (by simp) _⟩
  obtain ⟨ho0, ⟨hids, hpl⟩, hap, hG, hM, hrow, hbm⟩ := hg
  have hbt : Hid (bb = true) := by show _ = _; rw [← hbb'.out, hp]
  have HF : Hid (collD h = (withoutD (garbD h) h, garbD h)) := by show _ = _; unfold collD; rw [hp]; rfl
  have hp' : Hid (specB h = true) := hp
  have hids' : Hid (Ts.map ThD.id = idsD h) := hids
  have hT : Hid (∀ k, (getI ThD.id Ts k).isSome = isT h k) := things_there hids
  have hrt : Hid (∀ x ∈ rootsD h, x ∈ idsD h) := roots_there hp
  have hI : Hid (∀ x ∈ garbD h, InI x) := fun x hx => idsD_in hh0.out x (List.mem_filter.1 hx).1
  have hb3 : Below w1.heap.size w1 (w1.alloc (.cells #[.slice (some ⟨g, 0, none⟩) (idsD h).length cap, .map (some bm), .pointer (some ⟨o.blk, 0, none⟩)] 59)) := (Below.refl _ _).alloc (Nat.le_refl _) _
  have hB3 : Hid (Below w.heap.size w (w1.alloc (.cells #[.slice (some ⟨g, 0, none⟩) (idsD h).length cap, .map (some bm), .pointer (some ⟨o.blk, 0, none⟩)] 59))) := hB2.alloc hB2.size _
  have bxG : Hid (Box (w1.alloc (.cells #[.slice (some ⟨g, 0, none⟩) (idsD h).length cap, .map (some bm), .pointer (some ⟨o.blk, 0, none⟩)] 59)) w.heap.size [.int .i64 h.vNext, .int .i64 h.vDoc, .slice a2 h.vNodes.length k2, .slice a3 h.vObjs.length k3, .slice a4 h.vGlobals.length k4] 32) := bx1.out.alloc _
  have bzG : Hid (Box (w1.alloc (.cells #[.slice (some ⟨g, 0, none⟩) (idsD h).length cap, .map (some bm), .pointer (some ⟨o.blk, 0, none⟩)] 59)) (w.heap.size + 1) [.int .i64 0, .int .i64 0, .slice none 0 0, .slice none 0 0, .slice none 0 0] 32) := bz1.out.alloc _
  have bG := Box.new w1 (Array.toList #[.slice (some ⟨g, 0, none⟩) (idsD h).length cap, .map (some bm), .pointer (some ⟨o.blk, 0, none⟩)]) 59
  have cg2 : (w1.alloc (.cells #[.slice (some ⟨g, 0, none⟩) (idsD h).length cap, .map (some bm), .pointer (some ⟨o.blk, 0, none⟩)] 59)).cell? ⟨w1.heap.size, 2, none⟩ = some (.pointer (some ⟨o.blk, 0, none⟩)) := bG.cell 2 rfl
  have cg0 : (w1.alloc (.cells #[.slice (some ⟨g, 0, none⟩) (idsD h).length cap, .map (some bm), .pointer (some ⟨o.blk, 0, none⟩)] 59)).cell? ⟨w1.heap.size, 0, none⟩ = some (.slice (some ⟨g, 0, none⟩) (idsD h).length cap) := bG.cell 0 rfl
  have hap' : Hid (Apart (o :: Ts)) := hap
  have hG0 := hG.below hb3
  have hGw : Hid (GSt (fun b => b < ((w.alloc (.cells (List.toArray [.int .i64 h.vNext, .int .i64 h.vDoc, .slice a2 h.vNodes.length k2, .slice a3 h.vObjs.length k3, .slice a4 h.vGlobals.length k4]) 32)).alloc (.cells (List.toArray [.int .i64 0, .int .i64 0, .slice none 0 0, .slice none 0 0, .slice none 0 0]) 32)).heap.size ∨ b = bm ∨ b = g) ((w.alloc (.cells (List.toArray [.int .i64 h.vNext, .int .i64 h.vDoc, .slice a2 h.vNodes.length k2, .slice a3 h.vObjs.length k3, .slice a4 h.vGlobals.length k4]) 32)).alloc (.cells (List.toArray [.int .i64 0, .int .i64 0, .slice none 0 0, .slice none 0 0, .slice none 0 0]) 32)).heap.size (w1.alloc (.cells #[.slice (some ⟨g, 0, none⟩) (idsD h).length cap, .map (some bm), .pointer (some ⟨o.blk, 0, none⟩)] 59)) o Ts (accG h)) := hG0
  have hTn : Ts.length = (idsD h).length := by have q := congrArg List.length hids; rw [List.length_map] at q; exact q
  have hrT : Hid ((w1.alloc (.cells #[.slice (some ⟨g, 0, none⟩) (idsD h).length cap, .map (some bm), .pointer (some ⟨o.blk, 0, none⟩)] 59)).ownsRow ((w.alloc (.cells (List.toArray [.int .i64 h.vNext, .int .i64 h.vDoc, .slice a2 h.vNodes.length k2, .slice a3 h.vObjs.length k3, .slice a4 h.vGlobals.length k4]) 32)).alloc (.cells (List.toArray [.int .i64 0, .int .i64 0, .slice none 0 0, .slice none 0 0, .slice none 0 0]) 32)).heap.size 57 1 (.slice (some ⟨g, 0, none⟩) (idsD h).length cap) Ts.length (Ts.map fun t => .pointer (some ⟨t.blk, 0, none⟩))) := by show World.ownsRow _ _ _ _ _ _ _; rw [hTn]; exact row_keep2 hrow (fun k e => hb3.block k (row_lt hrow k e))
  obtain ⟨S, hS⟩ := hG0
  obtain ⟨hp1, hp2, _⟩ := hS.1 o List.mem_cons_self
  have d2 := hp1.cell 2 rfl
  obtain ⟨aS, capS, hform⟩ := own_forms hp2
  have hE0 : holdsC (accG h) o.id = rootsD h := by rw [ho0]; exact holds_roots (spec_impl h ▸ hp)
  rw [hE0] at hform hp2
  have hks : ∀ k ∈ rootsD h, (getI ThD.id Ts k).isSome = true := fun k hk => (hT.out k).trans (mem_idsU.1 (mem_idsD.1 (hrt.out k hk)))
  obtain ⟨m1, m2⟩ := things_map hks
  have hrow2 : Hid ((w1.alloc (.cells #[.slice (some ⟨g, 0, none⟩) (idsD h).length cap, .map (some bm), .pointer (some ⟨o.blk, 0, none⟩)] 59)).ownsRow ((w.alloc (.cells (List.toArray [.int .i64 h.vNext, .int .i64 h.vDoc, .slice a2 h.vNodes.length k2, .slice a3 h.vObjs.length k3, .slice a4 h.vGlobals.length k4]) 32)).alloc (.cells (List.toArray [.int .i64 0, .int .i64 0, .slice none 0 0, .slice none 0 0, .slice none 0 0]) 32)).heap.size 57 1 (.slice aS (rootsD h).length capS) ((rootsD h).map (thOf Ts)).length (((rootsD h).map (thOf Ts)).map fun t => .pointer (some ⟨t.blk, 0, none⟩))) := by show World.ownsRow _ _ _ _ _ _ _; rw [← m1, List.length_map, ← hform]; exact hp2
  have hpsT : Hid (∀ u ∈ (rootsD h).map (thOf Ts), u ∈ Ts) := fun u hu => by
    obtain ⟨k, hk, rfl⟩ := List.mem_map.1 hu
    exact (thOf_is (hks k hk)).1
  have hpid : Hid (((rootsD h).map (thOf Ts)).map ThD.id = rootsD h) := by
    show _ = _
    rw [List.map_map]
    have : (rootsD h).map (ThD.id ∘ thOf Ts) = (rootsD h).map (fun k => k) := List.map_congr_left fun k hk => (thOf_is (hks k hk)).2.1
    rw [this, List.map_id']
  have hpl2 : Hid (((rootsD h).map (thOf Ts)).length ≤ 1099511627) := by show _ ≤ _; have : h.vGlobals.length ≤ 1048576 := hs'.out.2.2.1.1; simp only [rootsD, List.length_map, List.length_cons]; omega
  have hin : Hid (∀ t ∈ Ts, ∀ k ∈ holdsC (accG h) t.id, (getI ThD.id Ts k).isSome = true) := fun t _ k hk => (hT.out k).trans (holdsC_there hp'.out hk)
  have hTl : Hid (Ts.length ≤ 1048576) := by show _ ≤ _; have := idsD_most hp'.out; omega
  rw [hform] at d2
  clear bG hp hap hpl hrow ho0 hids hp1 hp2 hform hks m1 m2 hS hE0 hG hM bx0 bz0 bx1 bz1 hTn
  go_wp2_with fail
  refine wp_region_held_drew (S := fun w' => w'.cell? ⟨w1.heap.size, 0, none⟩ = some (.slice (some ⟨g, 0, none⟩) (idsD h).length cap) ∧ w'.cell? ⟨w1.heap.size, 2, none⟩ = some (.pointer (some ⟨o.blk, 0, none⟩)) ∧ w'.cell? ⟨o.blk, 2, none⟩ = some (.slice aS (rootsD h).length capS)) (by kernel_rfl) (by exact ⟨cg0, cg2, d2⟩) (fun hHeld => ?_)
  refine tq (i := 0) (d := 16) ?_
  simp only [sz, ss]
  refine tq (i := 1) (d := 17) ?_
  simp only [sz, ss]
  refine tq (i := 2) (d := 18) ?_
  simp only [sz, ss]
  refine tq (i := 3) (d := 19) ?_
  simp only [sz, ss]
  refine tq (i := 4) (d := 20) ?_
  simp only [sz, ss]
  refine tq (i := 6) (d := 22) ?_
  simp only [sz, ss]
  refine tq (i := 7) (d := 23) ?_
  simp only [sz, ss]
  refine wpAnyH_ready (rs := [5]) (by kernel_rfl) (by simp) ?_
  refine AllReadyH.cons rfl (fun K hK => ?_) AllReadyH.nil
  go_simp
  refine (heldFrom_any hap'.out (by exact hGw.out.below (Below.drew (Below.refl _ _))) hin.out hTl.out (accG_len hp'.out hs'.out) (by exact hrow2.out) hpsT.out hpl2.out).mono ?_
  rintro e u1 ⟨⟨v2, all, rfl, hown2, hsub2, hnd2, hfrom2⟩, hq1⟩
  have hu1 : Hid (Below (w1.alloc (.cells #[.slice (some ⟨g, 0, none⟩) (idsD h).length cap, .map (some bm), .pointer (some ⟨o.blk, 0, none⟩)] 59)).heap.size (w1.alloc (.cells #[.slice (some ⟨g, 0, none⟩) (idsD h).length cap, .map (some bm), .pointer (some ⟨o.blk, 0, none⟩)] 59)) u1) := undrew hq1
  rw [hpid.out] at hfrom2
  have heq : Hid (sortI (all.map ThD.id) = belD h (rootsD h)) := held_below hp'.out hs'.out hrt.out hnd2 hfrom2
  have hmem : Hid (∀ k, k ∈ all.map ThD.id ↔ k ∈ belD h (rootsD h)) := fun k => by rw [← heq.out]; exact ((sortI_rises hnd2).2 k).symm
  have hall : Hid (all.length ≤ 1048576) := by
    show _ ≤ _
    have q := sortI_len (all.map ThD.id)
    rw [heq.out, List.length_map] at q
    have := belD_len hp'.out hs'.out hrt.out
    omega
  have hown2' : Hid (u1.ownsRow (w1.alloc (.cells #[.slice (some ⟨g, 0, none⟩) (idsD h).length cap, .map (some bm), .pointer (some ⟨o.blk, 0, none⟩)] 59)).heap.size 57 1 v2 all.length (all.map fun t => .pointer (some ⟨t.blk, 0, none⟩))) := by have h5 := hown2; exact h5
  have hsub : Hid (∀ t ∈ all, t ∈ Ts) := hsub2
  have hG1 := hGw.out.below hu1.out
  have hth : Hid (∀ u ∈ Ts, ThAt u1 u.blk) := fun u hu => by obtain ⟨S2, hS2⟩ := hG1; exact ⟨_, (hS2.1 u (List.mem_cons_of_mem _ hu)).1⟩
  have hrT1 : Hid (u1.ownsRow ((w.alloc (.cells (List.toArray [.int .i64 h.vNext, .int .i64 h.vDoc, .slice a2 h.vNodes.length k2, .slice a3 h.vObjs.length k3, .slice a4 h.vGlobals.length k4]) 32)).alloc (.cells (List.toArray [.int .i64 0, .int .i64 0, .slice none 0 0, .slice none 0 0, .slice none 0 0]) 32)).heap.size 57 1 (.slice (some ⟨g, 0, none⟩) (idsD h).length cap) Ts.length (Ts.map fun t => .pointer (some ⟨t.blk, 0, none⟩))) := row_keep2 hrT.out (fun k e => hu1.out.block k (row_lt hrT.out k e))
  obtain ⟨av2, cv2, rfl⟩ := own_forms hown2
  clear hown2 hsub2 hnd2 hfrom2 hG1
  refine hK.out _ _ ⟨cell_on hq1 hHeld.1, cell_on hq1 hHeld.2.1, cell_on hq1 hHeld.2.2⟩ (fun hHeld => ?_)
  clear hK K
  refine wpAnyH_ready (rs := [8]) (by kernel_rfl) (by simp) ?_
  refine AllReadyH.cons rfl (fun K hK => ?_) AllReadyH.nil
  go_simp
  refine (notAmong_any hown2'.out hrT1.out hall.out hTl.out (fun u hu => hth.out u (hsub.out u hu)) hth.out).mono ?_
  rintro e u2 ⟨⟨v4, rfl, hown4⟩, hq2⟩
  have hu2 : Hid (Below u1.heap.size u1 u2) := hq2
  have hown4' : Hid (u2.ownsRow u1.heap.size 57 1 v4 (Ts.filter (ntB all)).length ((Ts.filter (ntB all)).map fun t => .pointer (some ⟨t.blk, 0, none⟩))) := hown4
  have hG2 := (hGw.out.below hu1.out).below hu2.out
  have hbox : Hid (∀ u ∈ Ts.filter (ntB all), u2.cell? ⟨u.blk, 0, none⟩ = some (.int .i64 u.id)) := fun u hu => by obtain ⟨S2, hS2⟩ := hG2; exact (hS2.1 u (List.mem_cons_of_mem _ (List.mem_filter.1 hu).1)).1.cell 0 rfl
  obtain ⟨hsame, hlen⟩ := coll_same hp'.out hids'.out hap'.out hsub.out hmem.out
  have hsame' : Hid (sortI ((Ts.filter (ntB all)).map ThD.id) = garbD h) := hsame
  have hlen' : Hid ((Ts.filter (ntB all)).length ≤ 32) := hlen
  obtain ⟨av4, cv4, rfl⟩ := own_forms hown4
  clear hown4 hG2 hsame hlen
  refine hK.out _ _ ⟨cell_on hq2 hHeld.1, cell_on hq2 hHeld.2.1, cell_on hq2 hHeld.2.2⟩ (fun hHeld => ?_)
  clear hK K
  refine wpAnyH_ready (rs := [9]) (by kernel_rfl) (by simp) ?_
  refine AllReadyH.cons rfl (fun K hK => ?_) AllReadyH.nil
  go_simp
  refine (risingIds_any hown4'.out hbox.out (by have := hlen'.out; omega)).mono ?_
  rintro e u3 ⟨⟨v5, rfl, hown5⟩, hq3⟩
  rw [hsame'.out] at hown5
  obtain ⟨fg, ho5, hl5⟩ := seqOwn_of_row hown5 hI.out
  have hu3 : Hid (Below u2.heap.size u2 u3) := hq3
  have hog : Hid (SeqOwn 1 IntOwn u3 v5 (garbD h) fg) := ho5
  have hs1_ := hu1.out.size
  have hs2_ := hu2.out.size
  have hzG : w.heap.size + 2 ≤ (w1.alloc (.cells #[.slice (some ⟨g, 0, none⟩) (idsD h).length cap, .map (some bm), .pointer (some ⟨o.blk, 0, none⟩)] 59)).heap.size := by have h5 := bzG.out.lt; omega
  have hgl : Hid (∀ b ∈ fg, w.heap.size + 2 ≤ b) := fun b qq => by have := hl5 b qq; omega
  obtain ⟨ag, cg, rfl⟩ := ho5.form
  have hBn : Hid (Below w.heap.size w u3) := ((hB3.out.trans (hu1.out.mono hB3.out.size)).trans (hu2.out.mono (by have := hB3.out.size; omega))).trans (hu3.out.mono (by have := hB3.out.size; omega))
  have bxn : Hid (Box u3 w.heap.size [.int .i64 h.vNext, .int .i64 h.vDoc, .slice a2 h.vNodes.length k2, .slice a3 h.vObjs.length k3, .slice a4 h.vGlobals.length k4] 32) := ((bxG.out.below hu1.out bxG.out.lt).below hu2.out (by have := bxG.out.lt; omega)).below hu3.out (by have := bxG.out.lt; omega)
  have bzn : Hid (Box u3 (w.heap.size + 1) [.int .i64 0, .int .i64 0, .slice none 0 0, .slice none 0 0, .slice none 0 0] 32) := ((bzG.out.below hu1.out bzG.out.lt).below hu2.out (by have := bzG.out.lt; omega)).below hu3.out (by have := bzG.out.lt; omega)
  clear hown5 ho5 hl5 hs1_ hs2_
  refine hK.out _ _ ⟨cell_on hq3 hHeld.1, cell_on hq3 hHeld.2.1, cell_on hq3 hHeld.2.2⟩ (fun hHeld => ?_)
  clear hK K
  refine tq (i := 10) (d := 7) ?_
  simp only [sz, ss]
  refine wpAnyH_done (by kernel_rfl) ?_ _
  clear hHeld
  have c0 := bxn.out.cell 0 rfl
  have c1 := bxn.out.cell 1 rfl
  have c2 := bxn.out.cell 2 rfl
  have c3 := bxn.out.cell 3 rfl
  have c4 := bxn.out.cell 4 rfl
  go_wp2_with fail
  refine (heapWithout_any (lo2 := 0) (by exact HeapAt_stays _ _ _ lo _ _ (.of_below hBn.out) hh0.out) hs'.out (by exact SeqOwn.at (intOwn_at (lo := 0)) hog.out (fun _ _ => Nat.zero_le _))).mono ?_
  rintro e w9 ⟨⟨cs', rfl, fs, hown, hnd, hlo⟩, hb9⟩
  have hz9 : w.heap.size + 2 ≤ u3.heap.size := by have := bzn.out.lt; omega
  have hB9 : Hid (Below w.heap.size w w9) := hBn.out.trans (hb9.mono hBn.out.size)
  have bz9 : Hid (Box w9 (w.heap.size + 1) [.int .i64 0, .int .i64 0, .slice none 0 0, .slice none 0 0, .slice none 0 0] 32) := bzn.out.below hb9 bzn.out.lt
  have hlo' : Hid (∀ b ∈ fs, u3.heap.size ≤ b) := hlo
  have hltg : Hid (∀ b ∈ fg, b < u3.heap.size) := SeqOwn.lt intOwn_lt hog.out
  have hog9 : Hid (SeqOwn 1 IntOwn w9 (.slice ag (garbD h).length cg) (garbD h) fg) := hog.out.below intOwn_stays intOwn_lt hb9
  have hown' : Hid (HeapOwn w9 cs' (withoutD (garbD h) h) fs) := hown
  obtain ⟨j2, j3, j4, _, _, _, rfl, t2, t3, t4, _⟩ := hown
  obtain ⟨d2, m2, rfl⟩ := t2.form
  obtain ⟨d3, m3, rfl⟩ := t3.form
  obtain ⟨d4, m4, rfl⟩ := t4.form
  clear t2 t3 t4 hlo c0 c1 c2 c3 c4 bxn
  have z0 := bz9.out.cell 0 rfl
  have z1 := bz9.out.cell 1 rfl
  have z2 := bz9.out.cell 2 rfl
  have z3 := bz9.out.cell 3 rfl
  have z4 := bz9.out.cell 4 rfl
  have uz := bz9.out.unfrozen
  go_wp2_with fail
  have bF : Box (((((w9.setCell ⟨w.heap.size + 1, 0, none⟩ (.int .i64 (withoutD (garbD h) h).vNext)).setCell ⟨w.heap.size + 1, 1, none⟩ (.int .i64 (withoutD (garbD h) h).vDoc)).setCell ⟨w.heap.size + 1, 2, none⟩ (.slice d2 (withoutD (garbD h) h).vNodes.length m2)).setCell ⟨w.heap.size + 1, 3, none⟩ (.slice d3 (withoutD (garbD h) h).vObjs.length m3)).setCell ⟨w.heap.size + 1, 4, none⟩ (.slice d4 (withoutD (garbD h) h).vGlobals.length m4)) (w.heap.size + 1) [.int .i64 (withoutD (garbD h) h).vNext, .int .i64 (withoutD (garbD h) h).vDoc, .slice d2 (withoutD (garbD h) h).vNodes.length m2, .slice d3 (withoutD (garbD h) h).vObjs.length m3, .slice d4 (withoutD (garbD h) h).vGlobals.length m4] 32 := ((((bz9.out.set (i := 0) _).set (i := 1) _).set (i := 2) _).set (i := 3) _).set (i := 4) _
  have hKF : ∀ b, w.heap.size + 2 ≤ b → (((((w9.setCell ⟨w.heap.size + 1, 0, none⟩ (.int .i64 (withoutD (garbD h) h).vNext)).setCell ⟨w.heap.size + 1, 1, none⟩ (.int .i64 (withoutD (garbD h) h).vDoc)).setCell ⟨w.heap.size + 1, 2, none⟩ (.slice d2 (withoutD (garbD h) h).vNodes.length m2)).setCell ⟨w.heap.size + 1, 3, none⟩ (.slice d3 (withoutD (garbD h) h).vObjs.length m3)).setCell ⟨w.heap.size + 1, 4, none⟩ (.slice d4 (withoutD (garbD h) h).vGlobals.length m4)).heap[b]? = w9.heap[b]? := fun b qq => by rw [set_other (by omega), set_other (by omega), set_other (by omega), set_other (by omega), set_other (by omega)]
  have g0' := bF.cell 0 rfl
  have g1' := bF.cell 1 rfl
  have g2' := bF.cell 2 rfl
  have g3' := bF.cell 3 rfl
  have g4' := bF.cell 4 rfl
  refine bodyPost_ret (v := .tuple #[.agg (List.toArray [.int .i64 (withoutD (garbD h) h).vNext, .int .i64 (withoutD (garbD h) h).vDoc, .slice d2 (withoutD (garbD h) h).vNodes.length m2, .slice d3 (withoutD (garbD h) h).vObjs.length m3, .slice d4 (withoutD (garbD h) h).vGlobals.length m4]), .slice ag (garbD h).length cg, .bool true]) (by simp [results, Tryz.results8, go_sem, g0', g1', g2', g3', g4']) rfl ?_
  refine ⟨⟨[.int .i64 (withoutD (garbD h) h).vNext, .int .i64 (withoutD (garbD h) h).vDoc, .slice d2 (withoutD (garbD h) h).vNodes.length m2, .slice d3 (withoutD (garbD h) h).vObjs.length m3, .slice d4 (withoutD (garbD h) h).vGlobals.length m4], .slice ag (garbD h).length cg, fs, fg, by rw [hbt.out], by rw [HF.out]; exact HeapOwn_stays _ _ _ _ _ (fun b qq => hKF b (by have := hlo'.out b qq; omega)) hown'.out, by rw [HF.out]; exact hog9.out.stays intOwn_stays (fun b qq => hKF b (hgl.out b qq)), ?_, fun b qq => ?_⟩, ((((hB9.out.setCell (by simp) _).setCell (by simp) _).setCell (by simp) _).setCell (by simp) _).setCell (by simp) _⟩
  · exact List.nodup_append.2 ⟨hnd, hog9.out.nodup, fun a ha b hb' e => by subst e; have := hlo'.out a ha; have := hltg.out a hb'; omega⟩
  · rcases List.mem_append.1 qq with r | r
    · have := hlo'.out b r; omega
    · have := hgl.out b r; omega
end Go.Proofs.YtnonfehmbabfhaaGreat
