/- TreeOf, of the specification and of the program: walked. -/
import Derived.Test.YtndmakfaleaejaaTreeOfS
namespace Go.Proofs.Ytndmakfaleaejaa
open Go.RowKit
def treeOfD (h : HeapD) (id : Int) : TreeD × Bool := if specB h && (nodeAt h id).isSome then (treeH h (lvl h id) id, true) else (⟨⟨#[]⟩, []⟩, false)
theorem treeOwn_zero (n : Nat) (w : World) : TreeOwn (n + 1) w [.string ⟨#[]⟩, .slice none 0 0] ⟨⟨#[]⟩, []⟩ [] := ⟨_, [], rfl, ⟨none, 0, rfl, ⟨by simp, by simp⟩, Or.inl ⟨rfl, rfl⟩⟩, (show (0 : Nat) ≤ maxLen from Nat.zero_le _), rfl⟩
theorem TreeOwn_up {n m : Nat} {w : World} {cs : List Value} {x : TreeD} {fs : List Nat} (hm : n ≤ m) (h : TreeOwn n w cs x fs) : TreeOwn m w cs x fs := by
  induction hm with
  | refl => exact h
  | step _ ih => exact TreeOwn_more _ _ _ _ _ ih
theorem treeI_all {w0 : World} {lo bn bo : Nat} {h : HeapD} (hs : specB h = true) (hkk : ∀ id x, nodeAt h id = some x → x.vKids.length ≤ 1048576) : ∀ n, TreeI w0 lo bn bo h n := by
  intro n
  induction n with
  | zero => intro id x v w _ hl; have := lvl_pos h id; omega
  | succ n ih => exact treeI_step hs hkk ih
theorem treeS_all {h : HeapD} (hs : specB h = true) (hkk : ∀ id x, nodeAt h id = some x → x.vKids.length ≤ 1048576) : ∀ n, TreeS h n := by
  intro n
  induction n with
  | zero => intro id x w lo cs _ _ hl; have := lvl_pos h id; omega
  | succ n ih => exact treeS_step hs hkk ih
theorem kids_small {h : HeapD} (hs : h.small) : ∀ id x, nodeAt h id = some x → x.vKids.length ≤ 1048576 := by
  intro id x hx
  obtain ⟨hm, _⟩ := get_mem _ _ hx
  obtain ⟨i, hi, rfl⟩ := List.getElem_of_mem hm
  obtain ⟨_, hk, _⟩ := hs.1.2 i hi
  exact hk
set_option maxRecDepth 100000 in
set_option maxHeartbeats 1600000 in
theorem specTreeOf_any {w : World} {lo : Nat} {cs : List Value} {h : HeapD} {b : Int} (hsm : h.small) (hh : HeapAt w lo cs h) :
    Calls Try.prog 20 #[.agg cs.toArray, .int .i64 b] w fun e w' => (∃ cs' fs, e = .returned (.tuple #[.agg cs'.toArray, .bool (treeOfD h b).2]) ∧ TreeOwn (h.vNodes.length + 2) w' cs' (treeOfD h b).1 fs ∧ fs.Nodup ∧ ∀ b ∈ fs, w.heap.size ≤ b) ∧ Below w.heap.size w w' := by
  have hkk : Hid (∀ id x, nodeAt h id = some x → x.vKids.length ≤ 1048576) := kids_small hsm
  clear hsm
  have hh' : Hid (HeapAt w lo cs h) := hh
  obtain ⟨k2, k3, k4, rfl, s2, s3, s4, _⟩ := hh
  obtain ⟨a2, cap2, rfl⟩ := s2.form
  obtain ⟨a3, cap3, rfl⟩ := s3.form
  obtain ⟨a4, cap4, rfl⟩ := s4.form
  clear s2 s3 s4
  have hb1 : Below w.heap.size w ((w.alloc (.cells (List.toArray [.int .i64 h.vNext, .int .i64 h.vDoc, .slice a2 h.vNodes.length cap2, .slice a3 h.vObjs.length cap3, .slice a4 h.vGlobals.length cap4]) 34)).alloc (.cells (List.toArray [.string ⟨#[]⟩, .slice none 0 0]) 45)) := ((Below.refl _ _).alloc (Nat.le_refl _) _).alloc (by simp) _
  have bH0 : Hid (Box ((w.alloc (.cells (List.toArray [.int .i64 h.vNext, .int .i64 h.vDoc, .slice a2 h.vNodes.length cap2, .slice a3 h.vObjs.length cap3, .slice a4 h.vGlobals.length cap4]) 34)).alloc (.cells (List.toArray [.string ⟨#[]⟩, .slice none 0 0]) 45)) w.heap.size [.int .i64 h.vNext, .int .i64 h.vDoc, .slice a2 h.vNodes.length cap2, .slice a3 h.vObjs.length cap3, .slice a4 h.vGlobals.length cap4] 34) := (Box.new w [.int .i64 h.vNext, .int .i64 h.vDoc, .slice a2 h.vNodes.length cap2, .slice a3 h.vObjs.length cap3, .slice a4 h.vGlobals.length cap4] 34).alloc _
  have bR0 : Hid (Box ((w.alloc (.cells (List.toArray [.int .i64 h.vNext, .int .i64 h.vDoc, .slice a2 h.vNodes.length cap2, .slice a3 h.vObjs.length cap3, .slice a4 h.vGlobals.length cap4]) 34)).alloc (.cells (List.toArray [.string ⟨#[]⟩, .slice none 0 0]) 45)) (w.heap.size + 1) [.string ⟨#[]⟩, .slice none 0 0] 45) := by
    have q := Box.new (w.alloc (.cells (List.toArray [.int .i64 h.vNext, .int .i64 h.vDoc, .slice a2 h.vNodes.length cap2, .slice a3 h.vObjs.length cap3, .slice a4 h.vGlobals.length cap4]) 34)) [.string ⟨#[]⟩, .slice none 0 0] 45
    simpa only [World.size_alloc, Hid] using q
  have hsz : ((w.alloc (.cells (List.toArray [.int .i64 h.vNext, .int .i64 h.vDoc, .slice a2 h.vNodes.length cap2, .slice a3 h.vObjs.length cap3, .slice a4 h.vGlobals.length cap4]) 34)).alloc (.cells (List.toArray [.string ⟨#[]⟩, .slice none 0 0]) 45)).heap.size = w.heap.size + 2 := by simp
  go_enter Try.func20, Try.ntmps20
  go_wp2_with fail
  refine (specHeapOk_any (HeapAt_stays _ _ _ lo _ _ (.of_below hb1) hh'.out)).mono ?_
  rintro e w1 ⟨rfl, hb2⟩
  have hB2 : Below w.heap.size w w1 := hb1.trans (hb2.mono hb1.size)
  have bH2 := bH0.out.below hb2 bH0.out.lt
  have bH2' : Hid (Box w1 w.heap.size [.int .i64 h.vNext, .int .i64 h.vDoc, .slice a2 h.vNodes.length cap2, .slice a3 h.vObjs.length cap3, .slice a4 h.vGlobals.length cap4] 34) := bH2
  have bR2 : Hid (Box w1 (w.heap.size + 1) [.string ⟨#[]⟩, .slice none 0 0] 45) := bR0.out.below hb2 bR0.out.lt
  have hs2 : w.heap.size + 2 ≤ w1.heap.size := by have := hb2.size; omega
  have c0 := bH2.cell 0 rfl
  have c1 := bH2.cell 1 rfl
  have c2 := bH2.cell 2 rfl
  have c3 := bH2.cell 3 rfl
  have c4 := bH2.cell 4 rfl
  clear bH2
  cases hs : specB h
  · have HF : Hid (treeOfD h b = (⟨⟨#[]⟩, []⟩, false)) := by show _ = _; simp [treeOfD, hs]
    clear hs
    have r0 := bR2.out.cell 0 rfl
    have r1 := bR2.out.cell 1 rfl
    have rf := bR2.out.unfrozen
    go_wp2_with fail
    have f0 := ((bR2.out.set (i := 0) (.string ⟨#[]⟩)).set (i := 1) (.slice none 0 0)).cell 0 rfl
    have f1 := ((bR2.out.set (i := 0) (.string ⟨#[]⟩)).set (i := 1) (.slice none 0 0)).cell 1 rfl
    refine bodyPost_ret (v := .tuple #[.agg #[.string ⟨#[]⟩, .slice none 0 0], .bool false]) (by simp [results, Try.results20, go_sem, f0, f1]) rfl ?_
    exact ⟨⟨[.string ⟨#[]⟩, .slice none 0 0], [], by rw [HF.out], by rw [HF.out]; exact treeOwn_zero _ _, List.nodup_nil, by simp⟩, (hB2.setCell (p := ⟨w.heap.size + 1, 0, none⟩) (by simp) _).setCell (p := ⟨w.heap.size + 1, 1, none⟩) (by simp) _⟩
  have hs' : Hid (specB h = true) := hs
  clear hs
  go_wp2_with fail
  refine (l2Node_any (HeapAt_stays _ _ _ lo _ _ (.of_below hB2) hh'.out)).mono ?_
  rintro e w2 ⟨rfl, hb3⟩
  have hB3 : Below w.heap.size w w2 := hB2.trans (hb3.mono hB2.size)
  have bH3 := bH2'.out.below hb3 bH2'.out.lt
  have bR3 : Hid (Box w2 (w.heap.size + 1) [.string ⟨#[]⟩, .slice none 0 0] 45) := bR2.out.below hb3 bR2.out.lt
  have hs3 : w.heap.size + 2 ≤ w2.heap.size := by have := hb3.size; omega
  clear c0 c1 c2 c3 c4
  have c0 := bH3.cell 0 rfl
  have c1 := bH3.cell 1 rfl
  have c2 := bH3.cell 2 rfl
  have c3 := bH3.cell 3 rfl
  have c4 := bH3.cell 4 rfl
  clear bH3 bH2'
  by_cases ha : idxN h b < 0
  · have HF : Hid (treeOfD h b = (⟨⟨#[]⟩, []⟩, false)) := by
      show _ = _
      have q : (nodeAt h b).isSome = false := by unfold nodeAt; rw [some_of_idx]; exact decide_eq_false (by have : findI NodeD.vId h.vNodes b 0 < 0 := ha; omega)
      simp [treeOfD, q]
    have ha' : decide (idxN h b < 0) = true := by simpa using ha
    clear ha
    have r0 := bR3.out.cell 0 rfl
    have r1 := bR3.out.cell 1 rfl
    have rf := bR3.out.unfrozen
    go_wp2_with fail
    have f0 := ((bR3.out.set (i := 0) (.string ⟨#[]⟩)).set (i := 1) (.slice none 0 0)).cell 0 rfl
    have f1 := ((bR3.out.set (i := 0) (.string ⟨#[]⟩)).set (i := 1) (.slice none 0 0)).cell 1 rfl
    refine bodyPost_ret (v := .tuple #[.agg #[.string ⟨#[]⟩, .slice none 0 0], .bool false]) (by simp [results, Try.results20, go_sem, f0, f1]) rfl ?_
    exact ⟨⟨[.string ⟨#[]⟩, .slice none 0 0], [], by rw [HF.out], by rw [HF.out]; exact treeOwn_zero _ _, List.nodup_nil, by simp⟩, (hB3.setCell (p := ⟨w.heap.size + 1, 0, none⟩) (by simp) _).setCell (p := ⟨w.heap.size + 1, 1, none⟩) (by simp) _⟩
  have Hb : Hid ((nodeAt h b).isSome = true) := by show _ = _; unfold nodeAt; rw [some_of_idx]; exact decide_eq_true (by have : ¬ findI NodeD.vId h.vNodes b 0 < 0 := ha; omega)
  have ha' : decide (idxN h b < 0) = false := by simpa using ha
  have HF : Hid (treeOfD h b = (treeH h (lvl h b) b, true)) := by show _ = _; simp [treeOfD, hs'.out, Hb.out]
  obtain ⟨x, hx⟩ := Option.isSome_iff_exists.1 Hb.out
  have hx' : Hid (nodeAt h b = some x) := hx
  clear ha hx
  go_wp2_with fail
  refine (treeS_all hs'.out hkk.out _ b x _ lo _ (HeapAt_stays _ _ _ lo _ _ (.of_below hB3) hh'.out) hx'.out rfl).mono ?_
  rintro e w3 ⟨⟨cs1, fs1, rfl, ho1, nd1, lo1⟩, hb4⟩
  have hB4 : Below w.heap.size w w3 := hB3.trans (hb4.mono hB3.size)
  have bR4 : Hid (Box w3 (w.heap.size + 1) [.string ⟨#[]⟩, .slice none 0 0] 45) := bR3.out.below hb4 bR3.out.lt
  obtain ⟨ct, kk, hcs⟩ : ∃ (ct : ByteArray) (kk : Value), cs1 = [.string ct, kk] := by obtain ⟨m, hm⟩ : ∃ m, lvl h b = m + 1 := ⟨lvl h b - 1, by have := lvl_pos h b; omega⟩; rw [hm] at ho1; obtain ⟨k1, _, e, _⟩ := ho1; exact ⟨_, k1, e⟩
  subst hcs
  obtain ⟨ak, nk, ck, rfl⟩ : ∃ ak nk ck, kk = .slice ak nk ck := by obtain ⟨m, hm⟩ : ∃ m, lvl h b = m + 1 := ⟨lvl h b - 1, by have := lvl_pos h b; omega⟩; rw [hm] at ho1; obtain ⟨k1, f1, e, hs1, _⟩ := ho1; injection e with _ e; injection e with e _; obtain ⟨a, c, hk⟩ := hs1.form; exact ⟨a, _, c, by rw [e, hk]⟩
  have ho1' : Hid (TreeOwn (h.vNodes.length + 2) w3 [.string ct, .slice ak nk ck] (treeH h (lvl h b) b) fs1) := TreeOwn_up (by unfold lvl; omega) ho1
  have lo1' : Hid (∀ b ∈ fs1, w.heap.size + 2 ≤ b) := fun b q => by have := lo1 b q; omega
  have r0 := bR4.out.cell 0 rfl
  have r1 := bR4.out.cell 1 rfl
  have rf := bR4.out.unfrozen
  clear ho1 lo1
  go_wp2_with fail
  have f0 := ((bR4.out.set (i := 0) (.string ct)).set (i := 1) (.slice ak nk ck)).cell 0 rfl
  have f1 := ((bR4.out.set (i := 0) (.string ct)).set (i := 1) (.slice ak nk ck)).cell 1 rfl
  refine bodyPost_ret (v := .tuple #[.agg #[.string ct, .slice ak nk ck], .bool true]) (by simp [results, Try.results20, go_sem, f0, f1]) rfl ?_
  refine ⟨⟨[.string ct, .slice ak nk ck], fs1, by rw [HF.out], ?_, nd1, fun b q => by have := lo1'.out b q; omega⟩, (hB4.setCell (p := ⟨w.heap.size + 1, 0, none⟩) (by simp) _).setCell (p := ⟨w.heap.size + 1, 1, none⟩) (by simp) _⟩
  rw [HF.out]
  exact TreeOwn_stays _ _ _ _ _ _ (fun b q => by have := lo1'.out b q; rw [set_other (by omega), set_other (by omega)]) ho1'.out
set_option maxRecDepth 100000 in
set_option maxHeartbeats 1600000 in
theorem implTreeOf_any {w : World} {lo : Nat} {cs : List Value} {h : HeapD} {b : Int} (hsm : h.small) (hh : HeapAt w lo cs h) :
    Calls Try.prog 21 #[.agg cs.toArray, .int .i64 b] w fun e w' => (∃ cs' fs, e = .returned (.tuple #[.agg cs'.toArray, .bool (treeOfD h b).2]) ∧ TreeOwn (h.vNodes.length + 2) w' cs' (treeOfD h b).1 fs ∧ fs.Nodup ∧ ∀ b ∈ fs, w.heap.size ≤ b) ∧ Below w.heap.size w w' := by
  have hkk : Hid (∀ id x, nodeAt h id = some x → x.vKids.length ≤ 1048576) := kids_small hsm
  clear hsm
  have hh' : Hid (HeapAt w lo cs h) := hh
  obtain ⟨k2, k3, k4, rfl, s2, s3, s4, _⟩ := hh
  obtain ⟨a2, cap2, rfl⟩ := s2.form
  obtain ⟨a3, cap3, rfl⟩ := s3.form
  obtain ⟨a4, cap4, rfl⟩ := s4.form
  clear s2 s3 s4
  have hb1 : Below w.heap.size w ((w.alloc (.cells (List.toArray [.int .i64 h.vNext, .int .i64 h.vDoc, .slice a2 h.vNodes.length cap2, .slice a3 h.vObjs.length cap3, .slice a4 h.vGlobals.length cap4]) 34)).alloc (.cells (List.toArray [.string ⟨#[]⟩, .slice none 0 0]) 45)) := ((Below.refl _ _).alloc (Nat.le_refl _) _).alloc (by simp) _
  have bH0 : Hid (Box ((w.alloc (.cells (List.toArray [.int .i64 h.vNext, .int .i64 h.vDoc, .slice a2 h.vNodes.length cap2, .slice a3 h.vObjs.length cap3, .slice a4 h.vGlobals.length cap4]) 34)).alloc (.cells (List.toArray [.string ⟨#[]⟩, .slice none 0 0]) 45)) w.heap.size [.int .i64 h.vNext, .int .i64 h.vDoc, .slice a2 h.vNodes.length cap2, .slice a3 h.vObjs.length cap3, .slice a4 h.vGlobals.length cap4] 34) := (Box.new w [.int .i64 h.vNext, .int .i64 h.vDoc, .slice a2 h.vNodes.length cap2, .slice a3 h.vObjs.length cap3, .slice a4 h.vGlobals.length cap4] 34).alloc _
  have bR0 : Hid (Box ((w.alloc (.cells (List.toArray [.int .i64 h.vNext, .int .i64 h.vDoc, .slice a2 h.vNodes.length cap2, .slice a3 h.vObjs.length cap3, .slice a4 h.vGlobals.length cap4]) 34)).alloc (.cells (List.toArray [.string ⟨#[]⟩, .slice none 0 0]) 45)) (w.heap.size + 1) [.string ⟨#[]⟩, .slice none 0 0] 45) := by
    have q := Box.new (w.alloc (.cells (List.toArray [.int .i64 h.vNext, .int .i64 h.vDoc, .slice a2 h.vNodes.length cap2, .slice a3 h.vObjs.length cap3, .slice a4 h.vGlobals.length cap4]) 34)) [.string ⟨#[]⟩, .slice none 0 0] 45
    simpa only [World.size_alloc, Hid] using q
  have hsz : ((w.alloc (.cells (List.toArray [.int .i64 h.vNext, .int .i64 h.vDoc, .slice a2 h.vNodes.length cap2, .slice a3 h.vObjs.length cap3, .slice a4 h.vGlobals.length cap4]) 34)).alloc (.cells (List.toArray [.string ⟨#[]⟩, .slice none 0 0]) 45)).heap.size = w.heap.size + 2 := by simp
  go_enter Try.func21, Try.ntmps21
  go_wp2_with fail
  refine (rightIndex_any hh'.out hb1).mono ?_
  rintro e w1 ⟨hres, hb2⟩
  have hB2 : Below w.heap.size w w1 := hb1.trans (hb2.mono hb1.size)
  have hs2 : w.heap.size + 2 ≤ w1.heap.size := by have := hb2.size; omega
  rcases hres with ⟨hi, rfl⟩ | ⟨hi, bn, bo, rfl, hix⟩
  · have HF : Hid (treeOfD h b = (⟨⟨#[]⟩, []⟩, false)) := by show _ = _; simp [treeOfD, spec_impl, hi]
    have bR2 : Hid (Box (w1.alloc (.cells #[.map none, .map none] 63)) (w.heap.size + 1) [.string ⟨#[]⟩, .slice none 0 0] 45) := (bR0.out.below hb2 bR0.out.lt).alloc _
    have hB2' : Below w.heap.size w (w1.alloc (.cells #[.map none, .map none] 63)) := hB2.alloc hB2.size _
    clear hi
    have r0 := bR2.out.cell 0 rfl
    have r1 := bR2.out.cell 1 rfl
    have rf := bR2.out.unfrozen
    go_wp2_with fail
    have f0 := ((bR2.out.set (i := 0) (.string ⟨#[]⟩)).set (i := 1) (.slice none 0 0)).cell 0 rfl
    have f1 := ((bR2.out.set (i := 0) (.string ⟨#[]⟩)).set (i := 1) (.slice none 0 0)).cell 1 rfl
    refine bodyPost_ret (v := .tuple #[.agg #[.string ⟨#[]⟩, .slice none 0 0], .bool false]) (by simp [results, Try.results21, go_sem, f0, f1]) rfl ?_
    exact ⟨⟨[.string ⟨#[]⟩, .slice none 0 0], [], by rw [HF.out], by rw [HF.out]; exact treeOwn_zero _ _, List.nodup_nil, by simp⟩, (hB2'.setCell (p := ⟨w.heap.size + 1, 0, none⟩) (by simp) _).setCell (p := ⟨w.heap.size + 1, 1, none⟩) (by simp) _⟩
  have hs' : Hid (specB h = true) := by show _ = _; rw [spec_impl]; exact hi
  have hix' : Hid (MapIn w w1 lo bn h) := hix.1
  have hlt : Hid (bn < w1.heap.size) := by obtain ⟨es, c, q, _⟩ := hix'.out; exact (Array.getElem?_eq_some_iff.1 q).1
  clear hi hix
  have hb3 : Below w1.heap.size w1 (w1.alloc (.cells #[.map (some bn), .map (some bo)] 63)) := (Below.refl _ _).alloc (Nat.le_refl _) _
  have hB3 : Below w.heap.size w (w1.alloc (.cells #[.map (some bn), .map (some bo)] 63)) := hB2.alloc hB2.size _
  have bR3 : Hid (Box (w1.alloc (.cells #[.map (some bn), .map (some bo)] 63)) (w.heap.size + 1) [.string ⟨#[]⟩, .slice none 0 0] 45) := (bR0.out.below hb2 bR0.out.lt).alloc _
  obtain ⟨v, bb, hrun, hlk⟩ := run_lookN (hix'.out.below hb3 hlt.out) b
  have hlk' : Hid (LookIs w lo h b v bb) := hlk
  clear hlk
  cases bb with
  | false =>
    have HF : Hid (treeOfD h b = (⟨⟨#[]⟩, []⟩, false)) := by
      show _ = _
      rcases hlk'.out with ⟨_, q⟩ | ⟨q, _⟩
      · simp [treeOfD, q]
      · cases q
    have bR4 : Hid (Box ((w1.alloc (.cells #[.map (some bn), .map (some bo)] 63)).alloc (.cells (List.toArray v.cells) 81)) (w.heap.size + 1) [.string ⟨#[]⟩, .slice none 0 0] 45) := bR3.out.alloc _
    have hB4 : Below w.heap.size w ((w1.alloc (.cells #[.map (some bn), .map (some bo)] 63)).alloc (.cells (List.toArray v.cells) 81)) := hB3.alloc hB3.size _
    unfold NodeV.cells at bR4 hB4
    have r0 := bR4.out.cell 0 rfl
    have r1 := bR4.out.cell 1 rfl
    have rf := bR4.out.unfrozen
    go_wp2_with fail
    have f0 := ((bR4.out.set (i := 0) (.string ⟨#[]⟩)).set (i := 1) (.slice none 0 0)).cell 0 rfl
    have f1 := ((bR4.out.set (i := 0) (.string ⟨#[]⟩)).set (i := 1) (.slice none 0 0)).cell 1 rfl
    refine bodyPost_ret (v := .tuple #[.agg #[.string ⟨#[]⟩, .slice none 0 0], .bool false]) (by simp [results, Try.results21, go_sem, f0, f1]) rfl ?_
    exact ⟨⟨[.string ⟨#[]⟩, .slice none 0 0], [], by rw [HF.out], by rw [HF.out]; exact treeOwn_zero _ _, List.nodup_nil, by simp⟩, (hB4.setCell (p := ⟨w.heap.size + 1, 0, none⟩) (by simp) _).setCell (p := ⟨w.heap.size + 1, 1, none⟩) (by simp) _⟩
  | true =>
    obtain ⟨x, hx1, hx2, hx3, hx4, hx5⟩ : ∃ x, nodeAt h b = some x ∧ x.vId = b ∧ v.id = b ∧ v.parent = x.vParent ∧ NodeAt w lo v.cells x := by
      rcases hlk'.out with ⟨q, _⟩ | ⟨_, r⟩
      · cases q
      · exact r
    have HF : Hid (treeOfD h b = (treeH h (lvl h b) b, true)) := by show _ = _; simp [treeOfD, hs'.out, hx1]
    have hx1' : Hid (nodeAt h b = some x) := hx1
    have hx5' : Hid (NodeAt w lo v.cells x) := hx5
    have hb4 : Below w1.heap.size w1 ((w1.alloc (.cells #[.map (some bn), .map (some bo)] 63)).alloc (.cells (List.toArray v.cells) 81)) := hb3.alloc (by simp) _
    have hB4 : Below w.heap.size w ((w1.alloc (.cells #[.map (some bn), .map (some bo)] 63)).alloc (.cells (List.toArray v.cells) 81)) := hB3.alloc hB3.size _
    have bR4 : Hid (Box ((w1.alloc (.cells #[.map (some bn), .map (some bo)] 63)).alloc (.cells (List.toArray v.cells) 81)) (w.heap.size + 1) [.string ⟨#[]⟩, .slice none 0 0] 45) := bR3.out.alloc _
    have hM4 : Hid (MapIn w ((w1.alloc (.cells #[.map (some bn), .map (some bo)] 63)).alloc (.cells (List.toArray v.cells) 81)) lo bn h) := hix'.out.below hb4 hlt.out
    unfold NodeV.cells at bR4 hB4 hM4
    have hs4 := hs2
    clear hx1 hx2 hx3 hx4 hx5 hb4
    go_wp2_with fail
    refine (treeI_all hs'.out hkk.out _ b x v _ hx1'.out rfl hx5'.out hM4.out hB4).mono ?_
    rintro e w3 ⟨⟨cs1, fs1, rfl, ho1, nd1, lo1⟩, hb5⟩
    have hB5 : Below w.heap.size w w3 := hB4.trans (hb5.mono hB4.size)
    have bR5 : Hid (Box w3 (w.heap.size + 1) [.string ⟨#[]⟩, .slice none 0 0] 45) := bR4.out.below hb5 bR4.out.lt
    simp only [World.size_alloc] at lo1
    obtain ⟨ct, kk, hcs⟩ : ∃ (ct : ByteArray) (kk : Value), cs1 = [.string ct, kk] := by obtain ⟨m, hm⟩ : ∃ m, lvl h b = m + 1 := ⟨lvl h b - 1, by have := lvl_pos h b; omega⟩; rw [hm] at ho1; obtain ⟨k1, _, e, _⟩ := ho1; exact ⟨_, k1, e⟩
    subst hcs
    obtain ⟨ak, nk, ck, rfl⟩ : ∃ ak nk ck, kk = .slice ak nk ck := by obtain ⟨m, hm⟩ : ∃ m, lvl h b = m + 1 := ⟨lvl h b - 1, by have := lvl_pos h b; omega⟩; rw [hm] at ho1; obtain ⟨k1, f1, e, hs1, _⟩ := ho1; injection e with _ e; injection e with e _; obtain ⟨a, c, hk⟩ := hs1.form; exact ⟨a, _, c, by rw [e, hk]⟩
    have ho1' : Hid (TreeOwn (h.vNodes.length + 2) w3 [.string ct, .slice ak nk ck] (treeH h (lvl h b) b) fs1) := TreeOwn_up (by unfold lvl; omega) ho1
    have lo1' : Hid (∀ b ∈ fs1, w.heap.size + 2 ≤ b) := fun b q => by have := lo1 b q; omega
    have r0 := bR5.out.cell 0 rfl
    have r1 := bR5.out.cell 1 rfl
    have rf := bR5.out.unfrozen
    clear ho1 lo1
    go_wp2_with fail
    have f0 := ((bR5.out.set (i := 0) (.string ct)).set (i := 1) (.slice ak nk ck)).cell 0 rfl
    have f1 := ((bR5.out.set (i := 0) (.string ct)).set (i := 1) (.slice ak nk ck)).cell 1 rfl
    refine bodyPost_ret (v := .tuple #[.agg #[.string ct, .slice ak nk ck], .bool true]) (by simp [results, Try.results21, go_sem, f0, f1]) rfl ?_
    refine ⟨⟨[.string ct, .slice ak nk ck], fs1, by rw [HF.out], ?_, nd1, fun b q => by have := lo1'.out b q; omega⟩, (hB5.setCell (p := ⟨w.heap.size + 1, 0, none⟩) (by simp) _).setCell (p := ⟨w.heap.size + 1, 1, none⟩) (by simp) _⟩
    rw [HF.out]
    exact TreeOwn_stays _ _ _ _ _ _ (fun b q => by have := lo1'.out b q; rw [set_other (by omega), set_other (by omega)]) ho1'.out
end Go.Proofs.Ytndmakfaleaejaa
