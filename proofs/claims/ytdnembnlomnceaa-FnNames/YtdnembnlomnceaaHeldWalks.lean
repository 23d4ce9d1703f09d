/- What a name holds: the specification and the program, walked. -/
import Derived.Test.YtdnembnlomnceaaHeldS
import Derived.Test.YtdnembnlomnceaaUpPlain
import Derived.Test.YtdnembnlomnceaaHeapSpec
import Derived.Test.YtdnembnlomnceaaImplRight
namespace Go.Proofs.Ytdnembnlomnceaa
open Go.RowKit
set_option maxHeartbeats 400000 in
theorem heldBy_any {w : World} {lo : Nat} {k : Value} {xs : List FieldD} {n : ByteArray} (hk : SeqAt 2 FieldAt w lo k xs) :
 Calls Try.prog 40 #[k, .string n] w fun e w' => e = .returned (.tuple #[.int .i64 (heldR xs n).1, .bool (heldR xs n).2]) ∧ Below w.heap.size w w' := by
 obtain ⟨a, cap, rfl, hm, hx⟩ := hk
 unfold maxLen at hm
 have hx' : Hid _ := hx
 clear hx
 go_enter Try.func40, Try.ntmps40
 go_wp2_with fail
 go_loopw [10] (fun i wr => ∃ (j : Nat), j ≤ xs.length ∧ i = .int .i64 j ∧ Hid (Below w.heap.size w wr) ∧ Hid (heldAt xs n = heldAt (xs.drop j) n)) (fun i _ => xs.length - (intOf i).toNat)
 case atStart => exact ⟨0, by omega, rfl, Below.refl _ _, rfl⟩
 case round =>
  obtain ⟨j, hj, rfl, hbr, hrem⟩ := hrel
  by_cases hlt : j < xs.length
  · obtain ⟨b, off, rfl, hlo, hbw, hc⟩ := hx'.out (by omega)
    obtain ⟨cs, hcl, lie, hr⟩ := hc j hlt
    have lie1 := Lie.keep (lo := lo) (lo' := lo) lie (.of_below hbr.out) hlo hbw
    have Hh : Hid _ := heldAt_hit (n := n) hlt
    have Hm : Hid _ := heldAt_miss (n := n) hlt
    generalize xs[j] = Q at hr Hh Hm
    obtain ⟨rfl, _⟩ := hr
    have z0 := lie_at lie1 0 rfl
    have z1 := lie_at lie1 1 rfl
    simp only [Nat.add_zero] at z0
    clear lie lie1 hcl hx' hc
    have hb1 : Below w.heap.size w (wr.alloc (.cells (List.toArray [.string Q.vName, .int .i64 Q.vObj]) 50)) := hbr.out.alloc hbr.out.size _
    cases hq : (Q.vName.toList == n.toList)
    · have H2 : Hid _ := Hm.out hq
      go_wp2_with fail
      go_roundw
      case rel => exact ⟨j + 1, by omega, by go_num, hb1, by show _ = _; rw [hrem.out, H2.out]⟩
      case measure => simp [intOf]; omega
    · have H2 : Hid (heldR xs n = (Q.vObj, true)) := by show _ = _; unfold heldR; rw [hrem.out, Hh.out hq]
      go_wp2_with fail
      go_ret2
      exact ⟨ret_pair H2.out, hb1⟩
  · have H2 : Hid (heldR xs n = (0, false)) := by show _ = _; unfold heldR; rw [hrem.out, heldAt_end hlt]
    go_wp2_with fail
    go_ret2
    exact ⟨ret_pair H2.out, hbr.out⟩
/-- a lookup that asks no more than the element -/
theorem run_look1 {α : Type} {f : α → Int} {R : World → Nat → List Value → α → Prop} {w0 w : World} {lo b : Nat} {xs : List α} {M E : TypeId} {x : α} (hm : ∃ es clock, w.heap[b]? = some (.map es clock) ∧ Ents f R w0 lo es.toList xs) (hT : Try.prog.underlying M = some (.map 2 E)) (id : Int) (hg : getI f xs id = some x) :
 ∃ cs, (Instr.lookup M (.map (some b)) (.int .i64 id) false).run Try.prog w = .ok (.agg cs.toArray) w ∧ R w0 lo cs x := by
 obtain ⟨es, clock, h1, h2⟩ := hm
 have hc : ∀ e, (Instr.checkKey e 10000 2 (.int .i64 id)).run Try.prog w = .ok () w := fun e => MapKept.run_checkKey (k := .int .i64 id) Try.underlying2 (by simp [MapKept.IsKey]) e 9999
 rcases find_ents (id := id) es.toList xs 0 h2 with ⟨g1, g2⟩ | ⟨x', i', cs, g1, g2, g3⟩
 · rw [hg] at g1; cases g1
 · rw [hg] at g1
   injection g1 with g1
   subst g1
   refine ⟨cs, ?_, g3⟩
   simp [Instr.lookup, run_underlying hT, MapKept.run_getObj_map h1, hc, MapKept.run_findKey Try.underlying2 g2, Result.andThen]
set_option maxRecDepth 100000 in
set_option maxHeartbeats 1600000 in
theorem objOf_any {w : World} {lo : Nat} {cs : List Value} {h : HeapD} {n : ByteArray} (hh : HeapAt w lo cs h) :
 Calls Try.prog 37 #[.agg cs.toArray, .string n] w fun e w' => ((objF h n = none ∧ e = .returned (.tuple #[.agg #[.int .i64 0, .int .i64 0, .slice none 0 0], .bool false])) ∨ (∃ o cs, objF h n = some o ∧ ObjAt w' lo cs o ∧ e = .returned (.tuple #[.agg cs.toArray, .bool true]))) ∧ Below w.heap.size w w' := by
 have hh' : Hid (HeapAt w lo cs h) := hh
 obtain ⟨k2, k3, k4, rfl, s2, s3, s4, _⟩ := hh
 have s3' : Hid (SeqAt 3 ObjAt w lo k3 h.vObjs) := s3
 have s4' : Hid (SeqAt 2 FieldAt w lo k4 h.vGlobals) := s4
 obtain ⟨a2, cap2, rfl⟩ := s2.form
 obtain ⟨a3, cap3, rfl⟩ := s3.form
 obtain ⟨a4, cap4, rfl⟩ := s4.form
 clear s2 s3 s4
 have hb1 : Below w.heap.size w ((w.alloc (.cells (List.toArray [.int .i64 h.vNext, .int .i64 h.vDoc, .slice a2 h.vNodes.length cap2, .slice a3 h.vObjs.length cap3, .slice a4 h.vGlobals.length cap4]) 28)).alloc (.cells (List.toArray [.int .i64 0, .int .i64 0, .slice none 0 0]) 36)) := ((Below.refl _ _).alloc (Nat.le_refl _) _).alloc (by simp) _
 have bH0 : Hid (Box ((w.alloc (.cells (List.toArray [.int .i64 h.vNext, .int .i64 h.vDoc, .slice a2 h.vNodes.length cap2, .slice a3 h.vObjs.length cap3, .slice a4 h.vGlobals.length cap4]) 28)).alloc (.cells (List.toArray [.int .i64 0, .int .i64 0, .slice none 0 0]) 36)) w.heap.size [.int .i64 h.vNext, .int .i64 h.vDoc, .slice a2 h.vNodes.length cap2, .slice a3 h.vObjs.length cap3, .slice a4 h.vGlobals.length cap4] 28) := (Box.new w [.int .i64 h.vNext, .int .i64 h.vDoc, .slice a2 h.vNodes.length cap2, .slice a3 h.vObjs.length cap3, .slice a4 h.vGlobals.length cap4] 28).alloc _
 have bR0 : Hid (Box ((w.alloc (.cells (List.toArray [.int .i64 h.vNext, .int .i64 h.vDoc, .slice a2 h.vNodes.length cap2, .slice a3 h.vObjs.length cap3, .slice a4 h.vGlobals.length cap4]) 28)).alloc (.cells (List.toArray [.int .i64 0, .int .i64 0, .slice none 0 0]) 36)) (w.heap.size + 1) [.int .i64 0, .int .i64 0, .slice none 0 0] 36) := by have hb := Box.new (w.alloc (.cells (List.toArray [.int .i64 h.vNext, .int .i64 h.vDoc, .slice a2 h.vNodes.length cap2, .slice a3 h.vObjs.length cap3, .slice a4 h.vGlobals.length cap4]) 28)) [.int .i64 0, .int .i64 0, .slice none 0 0] 36; rwa [show ((w.alloc (.cells (List.toArray [.int .i64 h.vNext, .int .i64 h.vDoc, .slice a2 h.vNodes.length cap2, .slice a3 h.vObjs.length cap3, .slice a4 h.vGlobals.length cap4]) 28))).heap.size = w.heap.size + 1 by simp] at hb
 go_enter Try.func37, Try.ntmps37
 go_wp2_with fail
 refine (rightIndex_any hh'.out hb1).mono ?_
 rintro e w1 ⟨hres, hbi⟩
 have hbw1 : Below w.heap.size w w1 := hb1.trans (hbi.mono hb1.size)
 rcases hres with ⟨hidx, rfl⟩ | ⟨hidx, bn, bo, rfl, hix0⟩
 · have HF : Hid (objF h n = none) := objF_false hidx
   have bR3 := (bR0.out.below hbi (by simp)).alloc (.cells (List.toArray [.map none, .map none]) 77)
   have r0 := bR3.cell 0 rfl
   have r1 := bR3.cell 1 rfl
   have r2 := bR3.cell 2 rfl
   have rf := bR3.unfrozen
   have bR3' : Hid (Box (w1.alloc (.cells (List.toArray [.map none, .map none]) 77)) (w.heap.size + 1) [.int .i64 0, .int .i64 0, .slice none 0 0] 36) := bR3
   clear hidx bR3
   go_wp2_with fail
   have f0 := (Box.set (i := 0) bR3'.out (.int .i64 0)).cell 0 rfl
   have f1 := (Box.set (i := 1) (Box.set (i := 0) bR3'.out (.int .i64 0)) (.int .i64 0)).cell 1 rfl
   have f2 := (Box.set (i := 2) (Box.set (i := 1) (Box.set (i := 0) bR3'.out (.int .i64 0)) (.int .i64 0)) (.slice none 0 0)).cell 2 rfl
   refine bodyPost_ret (v := .tuple #[.agg #[.int .i64 0, .int .i64 0, .slice none 0 0], .bool false]) (by simp [results, Try.results37, go_sem, f0, f1, f2]) rfl ?_
   exact ⟨Or.inl ⟨HF.out, rfl⟩, (((hbw1.alloc hbw1.size _).setCell (by simp) _).setCell (by simp) _).setCell (by simp) _⟩
 have hix : Hid (IdxIn w w1 lo bn bo h) := hix0
 have HI : Hid (implB h = true) := hidx
 clear hidx hix0
 have hbx : Below w1.heap.size w1 (w1.alloc (.cells (List.toArray [.map (some bn), .map (some bo)]) 77)) := (Below.refl _ _).alloc (Nat.le_refl _) _
 have hbw2 : Below w.heap.size w (w1.alloc (.cells (List.toArray [.map (some bn), .map (some bo)]) 77)) := hbw1.trans (hbx.mono hbw1.size)
 have bX : Hid (Box (w1.alloc (.cells (List.toArray [.map (some bn), .map (some bo)]) 77)) w1.heap.size [.map (some bn), .map (some bo)] 77) := Box.new w1 _ _
 have bR : Hid (Box (w1.alloc (.cells (List.toArray [.map (some bn), .map (some bo)]) 77)) (w.heap.size + 1) [.int .i64 0, .int .i64 0, .slice none 0 0] 36) := (bR0.out.below hbi (by simp)).alloc _
 have hc4 := ((bH0.out.below hbi (by simp; omega)).alloc (.cells (List.toArray [.map (some bn), .map (some bo)]) 77)).cell 4 rfl
 go_wp2_with fail
 refine (heldBy_any (s4'.out.below FieldAt_stays hbw2)).mono ?_
 rintro e w3 ⟨rfl, hb3⟩
 have hbw3 : Below w.heap.size w w3 := hbw2.trans (hb3.mono hbw2.size)
 have bR3 := bR.out.below hb3 bR.out.lt
 have bX3 := bX.out.below hb3 bX.out.lt
 have bR3' : Hid (Box w3 (w.heap.size + 1) [.int .i64 0, .int .i64 0, .slice none 0 0] 36) := bR3
 have r0 := bR3.cell 0 rfl
 have r1 := bR3.cell 1 rfl
 have r2 := bR3.cell 2 rfl
 have rf := bR3.unfrozen
 have x1 := bX3.cell 1 rfl
 have hix3 : Hid (IdxIn w w3 lo bn bo h) := (hix.out.on hbx).on hb3
 clear bR3 bX3 hc4
 unfold heldR
 cases hq : heldAt h.vGlobals n with
 | none =>
  have HF : Hid (objF h n = none) := objF_none hq
  clear hq
  dsimp only
  go_wp2_with fail
  have f0 := (Box.set (i := 0) bR3'.out (.int .i64 0)).cell 0 rfl
  have f1 := (Box.set (i := 1) (Box.set (i := 0) bR3'.out (.int .i64 0)) (.int .i64 0)).cell 1 rfl
  have f2 := (Box.set (i := 2) (Box.set (i := 1) (Box.set (i := 0) bR3'.out (.int .i64 0)) (.int .i64 0)) (.slice none 0 0)).cell 2 rfl
  refine bodyPost_ret (v := .tuple #[.agg #[.int .i64 0, .int .i64 0, .slice none 0 0], .bool false]) (by simp [results, Try.results37, go_sem, f0, f1, f2]) rfl ?_
  exact ⟨Or.inl ⟨HF.out, rfl⟩, (((hbw3).setCell (by simp) _).setCell (by simp) _).setCell (by simp) _⟩
 | some i =>
  obtain ⟨HO, HS⟩ := objF_some HI.out hq
  cases ho : objAt h i with
  | none => rw [ho] at HS; cases HS
  | some o =>
  obtain ⟨co, hrun, hro⟩ := run_look1 hix3.out.2 Try.underlying75 i ho
  have HF : Hid (objF h n = some o) := by show _ = _; rw [HO, ho]
  have hro' : Hid (ObjAt w lo co o) := hro
  obtain ⟨g2, rfl, v2, _⟩ := hro
  obtain ⟨p2, d2, rfl⟩ := v2.form
  clear hq HO HS ho v2
  dsimp only
  go_wp2_with fail
  have f0 := (Box.set (i := 0) bR3'.out (.int .i64 o.vId)).cell 0 rfl
  have f1 := (Box.set (i := 1) (Box.set (i := 0) bR3'.out (.int .i64 o.vId)) (.int .i64 o.vNode)).cell 1 rfl
  have f2 := (Box.set (i := 2) (Box.set (i := 1) (Box.set (i := 0) bR3'.out (.int .i64 o.vId)) (.int .i64 o.vNode)) (.slice p2 o.vFields.length d2)).cell 2 rfl
  refine bodyPost_ret (v := .tuple #[.agg #[.int .i64 o.vId, .int .i64 o.vNode, .slice p2 o.vFields.length d2], .bool true]) (by simp [results, Try.results37, go_sem, f0, f1, f2]) rfl ?_
  have hbe : Below w.heap.size w (((w3.setCell ⟨w.heap.size + 1, 0, none⟩ (.int .i64 o.vId)).setCell ⟨w.heap.size + 1, 1, none⟩ (.int .i64 o.vNode)).setCell ⟨w.heap.size + 1, 2, none⟩ (.slice p2 o.vFields.length d2)) := (((hbw3).setCell (by simp) _).setCell (by simp) _).setCell (by simp) _
  exact ⟨Or.inr ⟨o, _, HF.out, ObjAt_stays _ _ _ lo _ _ (.of_below hbe) hro'.out, rfl⟩, hbe⟩
set_option maxRecDepth 100000 in
set_option maxHeartbeats 1600000 in
theorem implGlobalOf_any {w : World} {lo : Nat} {cs : List Value} {h : HeapD} {n : ByteArray} (hh : HeapAt w lo cs h) :
 Calls Try.prog 9 #[.agg cs.toArray, .string n] w fun e w' => e = .returned (.tuple #[.int .i64 (globalI h n).1, .bool (globalI h n).2]) ∧ Below w.heap.size w w' := by
 have hh' : Hid (HeapAt w lo cs h) := hh
 obtain ⟨k2, k3, k4, rfl, s2, s3, s4, _⟩ := hh
 have s3' : Hid (SeqAt 3 ObjAt w lo k3 h.vObjs) := s3
 have s4' : Hid (SeqAt 2 FieldAt w lo k4 h.vGlobals) := s4
 obtain ⟨a2, cap2, rfl⟩ := s2.form
 obtain ⟨a3, cap3, rfl⟩ := s3.form
 obtain ⟨a4, cap4, rfl⟩ := s4.form
 clear s2 s3 s4
 have hb1 : Below w.heap.size w (w.alloc (.cells (List.toArray [.int .i64 h.vNext, .int .i64 h.vDoc, .slice a2 h.vNodes.length cap2, .slice a3 h.vObjs.length cap3, .slice a4 h.vGlobals.length cap4]) 28)) := (Below.refl _ _).alloc (Nat.le_refl _) _
 go_enter Try.func9, Try.ntmps9
 go_wp2_with fail
 refine (objOf_any (HeapAt_stays _ _ _ lo _ _ (.of_below hb1) hh'.out)).mono ?_
 rintro e w1 ⟨hres, hbi⟩
 have hbw1 : Below w.heap.size w w1 := hb1.trans (hbi.mono hb1.size)
 rcases hres with ⟨ho, rfl⟩ | ⟨o, co, ho, hro, rfl⟩
 · have HF : Hid (globalI h n = (0, false)) := by show _ = _; unfold globalI; rw [ho]
   clear ho
   go_wp2_with fail
   go_ret2
   exact ⟨ret_pair HF.out, hbw1.alloc hbw1.size _⟩
 obtain ⟨g2, rfl, v2, _⟩ := hro
 have v2' : Hid (SeqAt 2 FieldAt w1 lo g2 o.vFields) := v2
 obtain ⟨p2, d2, rfl⟩ := v2.form
 clear v2
 have HF : Hid (globalI h n = (o.vId, true)) := by show _ = _; unfold globalI; rw [ho]
 clear ho
 go_wp2_with fail
 go_ret2
 exact ⟨ret_pair HF.out, hbw1.alloc hbw1.size _⟩
set_option maxRecDepth 100000 in
set_option maxHeartbeats 1600000 in
theorem implNodeOf_any {w : World} {lo : Nat} {cs : List Value} {h : HeapD} {n : ByteArray} (hh : HeapAt w lo cs h) :
 Calls Try.prog 11 #[.agg cs.toArray, .string n] w fun e w' => e = .returned (.tuple #[.int .i64 (nodeOfI h n).1, .bool (nodeOfI h n).2]) ∧ Below w.heap.size w w' := by
 have hh' : Hid (HeapAt w lo cs h) := hh
 obtain ⟨k2, k3, k4, rfl, s2, s3, s4, _⟩ := hh
 have s3' : Hid (SeqAt 3 ObjAt w lo k3 h.vObjs) := s3
 have s4' : Hid (SeqAt 2 FieldAt w lo k4 h.vGlobals) := s4
 obtain ⟨a2, cap2, rfl⟩ := s2.form
 obtain ⟨a3, cap3, rfl⟩ := s3.form
 obtain ⟨a4, cap4, rfl⟩ := s4.form
 clear s2 s3 s4
 have hb1 : Below w.heap.size w (w.alloc (.cells (List.toArray [.int .i64 h.vNext, .int .i64 h.vDoc, .slice a2 h.vNodes.length cap2, .slice a3 h.vObjs.length cap3, .slice a4 h.vGlobals.length cap4]) 28)) := (Below.refl _ _).alloc (Nat.le_refl _) _
 go_enter Try.func11, Try.ntmps11
 go_wp2_with fail
 refine (objOf_any (HeapAt_stays _ _ _ lo _ _ (.of_below hb1) hh'.out)).mono ?_
 rintro e w1 ⟨hres, hbi⟩
 have hbw1 : Below w.heap.size w w1 := hb1.trans (hbi.mono hb1.size)
 rcases hres with ⟨ho, rfl⟩ | ⟨o, co, ho, hro, rfl⟩
 · have HF : Hid (nodeOfI h n = (0, false)) := by show _ = _; unfold nodeOfI; rw [ho]
   clear ho
   have q1 := (Box.new w1 [.int .i64 0, .int .i64 0, .slice none 0 0] 36).cell 1 rfl
   go_wp2_with fail
   refine wp_region_held_drew (S := fun w' => w'.cell? ⟨w1.heap.size, 1, none⟩ = some (.int .i64 0)) (by kernel_rfl) (by assumption) (fun hHeld => ?_)
   refine tq (i := 0) (d := 14) ?_
   simp only [sz, ss]
   refine tq (i := 1) (d := 15) ?_
   simp only [sz, ss]
   refine tq (i := 2) (d := 16) ?_
   simp only [sz, ss]
   refine tq (i := 3) (d := 17) ?_
   simp only [sz, ss]
   refine tn (i := 4) (d := 18) ?_
   simp only [sz, ss]
   refine tn (i := 5) (d := 19) ?_
   simp only [sz, ss]
   refine tn (i := 6) (d := 20) ?_
   simp only [sz, ss]
   refine tq (i := 7) (d := 21) ?_
   simp only [sz, ss]
   refine tq (i := 8) (d := 4) ?_
   simp only [sz, ss]
   refine tq (i := 9) (d := 5) ?_
   simp only [sz, ss]
   refine wpAnyH_done (by kernel_rfl) ?_ _
   go_wp2_with fail
   go_ret2
   exact ⟨ret_pair HF.out, (hbw1.alloc hbw1.size _).drew⟩
 obtain ⟨g2, rfl, v2, _⟩ := hro
 have v2' : Hid (SeqAt 2 FieldAt w1 lo g2 o.vFields) := v2
 obtain ⟨p2, d2, rfl⟩ := v2.form
 clear v2
 by_cases h0 : o.vNode = 0
 · have HF : Hid (nodeOfI h n = (o.vNode, false)) := by show _ = _; unfold nodeOfI; rw [ho]; simp [h0]
   have h1 : (o.vNode != 0) = false := by simpa using h0
   clear ho h0
   have q1 := (Box.new w1 [.int .i64 o.vId, .int .i64 o.vNode, .slice p2 o.vFields.length d2] 36).cell 1 rfl
   go_wp2_with fail
   refine wp_region_held_drew (S := fun w' => w'.cell? ⟨w1.heap.size, 1, none⟩ = some (.int .i64 o.vNode)) (by kernel_rfl) (by assumption) (fun hHeld => ?_)
   refine tq (i := 0) (d := 14) ?_
   simp only [sz, ss]
   refine tq (i := 1) (d := 15) ?_
   simp only [sz, ss]
   refine tq (i := 2) (d := 16) ?_
   simp only [sz, ss]
   refine tq (i := 3) (d := 17) ?_
   simp only [sz, ss]
   refine tq (i := 4) (d := 18) ?_
   simp only [sz, ss]
   refine tq (i := 5) (d := 19) ?_
   simp only [sz, ss]
   refine tq (i := 6) (d := 20) ?_
   simp only [sz, ss]
   refine tq (i := 7) (d := 21) ?_
   simp only [sz, ss]
   refine tq (i := 8) (d := 4) ?_
   simp only [sz, ss]
   refine tq (i := 9) (d := 5) ?_
   simp only [sz, ss]
   refine wpAnyH_done (by kernel_rfl) ?_ _
   go_wp2_with fail
   go_ret2
   exact ⟨ret_pair HF.out, (hbw1.alloc hbw1.size _).drew⟩
 · have HF : Hid (nodeOfI h n = (o.vNode, true)) := by show _ = _; unfold nodeOfI; rw [ho]; simp [h0]
   have h1 : (o.vNode != 0) = true := by simpa using h0
   clear ho h0
   have q1 := (Box.new w1 [.int .i64 o.vId, .int .i64 o.vNode, .slice p2 o.vFields.length d2] 36).cell 1 rfl
   go_wp2_with fail
   refine wp_region_held_drew (S := fun w' => w'.cell? ⟨w1.heap.size, 1, none⟩ = some (.int .i64 o.vNode)) (by kernel_rfl) (by assumption) (fun hHeld => ?_)
   refine tq (i := 0) (d := 14) ?_
   simp only [sz, ss]
   refine tq (i := 1) (d := 15) ?_
   simp only [sz, ss]
   refine tq (i := 2) (d := 16) ?_
   simp only [sz, ss]
   refine tq (i := 3) (d := 17) ?_
   simp only [sz, ss]
   refine tq (i := 4) (d := 18) ?_
   simp only [sz, ss]
   refine tq (i := 5) (d := 19) ?_
   simp only [sz, ss]
   refine tq (i := 6) (d := 20) ?_
   simp only [sz, ss]
   refine tq (i := 7) (d := 21) ?_
   simp only [sz, ss]
   refine tq (i := 8) (d := 4) ?_
   simp only [sz, ss]
   refine tq (i := 9) (d := 5) ?_
   simp only [sz, ss]
   refine wpAnyH_done (by kernel_rfl) ?_ _
   go_wp2_with fail
   go_ret2
   exact ⟨ret_pair HF.out, (hbw1.alloc hbw1.size _).drew⟩
set_option maxRecDepth 100000 in
set_option maxHeartbeats 1600000 in
theorem implFieldOf_any {w : World} {lo : Nat} {cs : List Value} {h : HeapD} {n f : ByteArray} (hh : HeapAt w lo cs h) :
 Calls Try.prog 13 #[.agg cs.toArray, .string n, .string f] w fun e w' => e = .returned (.tuple #[.int .i64 (fieldOfI h n f).1, .bool (fieldOfI h n f).2]) ∧ Below w.heap.size w w' := by
 have hh' : Hid (HeapAt w lo cs h) := hh
 obtain ⟨k2, k3, k4, rfl, s2, s3, s4, _⟩ := hh
 have s3' : Hid (SeqAt 3 ObjAt w lo k3 h.vObjs) := s3
 have s4' : Hid (SeqAt 2 FieldAt w lo k4 h.vGlobals) := s4
 obtain ⟨a2, cap2, rfl⟩ := s2.form
 obtain ⟨a3, cap3, rfl⟩ := s3.form
 obtain ⟨a4, cap4, rfl⟩ := s4.form
 clear s2 s3 s4
 have hb1 : Below w.heap.size w (w.alloc (.cells (List.toArray [.int .i64 h.vNext, .int .i64 h.vDoc, .slice a2 h.vNodes.length cap2, .slice a3 h.vObjs.length cap3, .slice a4 h.vGlobals.length cap4]) 28)) := (Below.refl _ _).alloc (Nat.le_refl _) _
 go_enter Try.func13, Try.ntmps13
 go_wp2_with fail
 refine (objOf_any (HeapAt_stays _ _ _ lo _ _ (.of_below hb1) hh'.out)).mono ?_
 rintro e w1 ⟨hres, hbi⟩
 have hbw1 : Below w.heap.size w w1 := hb1.trans (hbi.mono hb1.size)
 rcases hres with ⟨ho, rfl⟩ | ⟨o, co, ho, hro, rfl⟩
 · have HF : Hid (fieldOfI h n f = (0, false)) := by show _ = _; unfold fieldOfI; rw [ho]
   clear ho
   go_wp2_with fail
   go_ret2
   exact ⟨ret_pair HF.out, hbw1.alloc hbw1.size _⟩
 obtain ⟨g2, rfl, v2, _⟩ := hro
 have v2' : Hid (SeqAt 2 FieldAt w1 lo g2 o.vFields) := v2
 obtain ⟨p2, d2, rfl⟩ := v2.form
 clear v2
 have HF : Hid (fieldOfI h n f = heldR o.vFields f) := by show _ = _; unfold fieldOfI; rw [ho]
 clear ho
 have hb2 : Below w1.heap.size w1 (w1.alloc (.cells (List.toArray [.int .i64 o.vId, .int .i64 o.vNode, .slice p2 o.vFields.length d2]) 36)) := (Below.refl _ _).alloc (Nat.le_refl _) _
 have hbw2 : Below w.heap.size w (w1.alloc (.cells (List.toArray [.int .i64 o.vId, .int .i64 o.vNode, .slice p2 o.vFields.length d2]) 36)) := hbw1.trans (hb2.mono hbw1.size)
 go_wp2_with fail
 refine (heldBy_any (v2'.out.below FieldAt_stays hb2)).mono ?_
 rintro e w3 ⟨rfl, hb3⟩
 have hbw3 : Below w.heap.size w w3 := hbw2.trans (hb3.mono hbw2.size)
 go_wp2_with fail
 go_ret2
 exact ⟨ret_pair HF.out, hbw3⟩
set_option maxRecDepth 100000 in
set_option maxHeartbeats 3200000 in
theorem specGlobalOf_any {w : World} {lo : Nat} {cs : List Value} {h : HeapD} {n : ByteArray} (hh : HeapAt w lo cs h) :
 Calls Try.prog 10 #[.agg cs.toArray, .string n] w fun e w' => e = .returned (.tuple #[.int .i64 (globalS h n).1, .bool (globalS h n).2]) ∧ Below w.heap.size w w' := by
 have hh' : Hid (HeapAt w lo cs h) := hh
 obtain ⟨k2, k3, k4, rfl, s2, s3, s4, _⟩ := hh
 have s3' : Hid (SeqAt 3 ObjAt w lo k3 h.vObjs) := s3
 have s4' : Hid (SeqAt 2 FieldAt w lo k4 h.vGlobals) := s4
 obtain ⟨a2, cap2, rfl⟩ := s2.form
 obtain ⟨a3, cap3, rfl⟩ := s3.form
 obtain ⟨a4, cap4, rfl⟩ := s4.form
 clear s2 s3 s4
 have hb0 : Below w.heap.size w (w.alloc (.cells (List.toArray [.int .i64 h.vNext, .int .i64 h.vDoc, .slice a2 h.vNodes.length cap2, .slice a3 h.vObjs.length cap3, .slice a4 h.vGlobals.length cap4]) 28)) := (Below.refl _ _).alloc (Nat.le_refl _) _
 have bH : Hid (Box (w.alloc (.cells (List.toArray [.int .i64 h.vNext, .int .i64 h.vDoc, .slice a2 h.vNodes.length cap2, .slice a3 h.vObjs.length cap3, .slice a4 h.vGlobals.length cap4]) 28)) w.heap.size [.int .i64 h.vNext, .int .i64 h.vDoc, .slice a2 h.vNodes.length cap2, .slice a3 h.vObjs.length cap3, .slice a4 h.vGlobals.length cap4] 28) := Box.new w _ _
 go_enter Try.func10, Try.ntmps10
 go_wp2_with fail
 refine (l2Field_any (s4'.out.below FieldAt_stays hb0)).mono ?_
 rintro e wq ⟨rfl, rfl⟩
 go_wp2_with fail
 refine (specHeapOk_any (HeapAt_stays _ _ _ lo _ _ (.of_below hb0) hh'.out)).mono ?_
 rintro e w1 ⟨rfl, hb1⟩
 have hbw1 : Below w.heap.size w w1 := hb0.trans (hb1.mono hb0.size)
 have bH1 := bH.out.below hb1 bH.out.lt
 have bH1' : Hid (Box w1 w.heap.size [.int .i64 h.vNext, .int .i64 h.vDoc, .slice a2 h.vNodes.length cap2, .slice a3 h.vObjs.length cap3, .slice a4 h.vGlobals.length cap4] 28) := bH1
 have c0 := bH1.cell 0 rfl
 have c1 := bH1.cell 1 rfl
 have c2 := bH1.cell 2 rfl
 have c3 := bH1.cell 3 rfl
 have c4 := bH1.cell 4 rfl
 clear bH1
 cases hs : specB h
 · have HF : Hid (globalS h n = (0, false)) := by show _ = _; simp [globalS, hs]
   clear hs
   go_wp2_with fail
   go_ret2
   exact ⟨ret_pair HF.out, hbw1⟩
 by_cases h0 : fieldR h.vGlobals n = 0
 · have HF : Hid (globalS h n = (0, false)) := by show _ = _; simp [globalS, h0]
   have h1 : (fieldR h.vGlobals n == 0) = true := by simpa using h0
   clear hs h0
   go_wp2_with fail
   go_ret2
   exact ⟨ret_pair HF.out, hbw1⟩
 · have HF : Hid (globalS h n = (fieldR h.vGlobals n, true)) := by show _ = _; simp [globalS, h0, hs]
   have h1 : (fieldR h.vGlobals n == 0) = false := by simpa using h0
   clear hs h0
   go_wp2_with fail
   go_ret2
   exact ⟨ret_pair HF.out, hbw1⟩
set_option maxRecDepth 100000 in
set_option maxHeartbeats 3200000 in
theorem specNodeOf_any {w : World} {lo : Nat} {cs : List Value} {h : HeapD} {n : ByteArray} (hh : HeapAt w lo cs h) :
 Calls Try.prog 12 #[.agg cs.toArray, .string n] w fun e w' => e = .returned (.tuple #[.int .i64 (nodeOfS h n).1, .bool (nodeOfS h n).2]) ∧ Below w.heap.size w w' := by
 have hh' : Hid (HeapAt w lo cs h) := hh
 obtain ⟨k2, k3, k4, rfl, s2, s3, s4, _⟩ := hh
 have s3' : Hid (SeqAt 3 ObjAt w lo k3 h.vObjs) := s3
 have s4' : Hid (SeqAt 2 FieldAt w lo k4 h.vGlobals) := s4
 obtain ⟨a2, cap2, rfl⟩ := s2.form
 obtain ⟨a3, cap3, rfl⟩ := s3.form
 obtain ⟨a4, cap4, rfl⟩ := s4.form
 clear s2 s3 s4
 have hb0 : Below w.heap.size w (w.alloc (.cells (List.toArray [.int .i64 h.vNext, .int .i64 h.vDoc, .slice a2 h.vNodes.length cap2, .slice a3 h.vObjs.length cap3, .slice a4 h.vGlobals.length cap4]) 28)) := (Below.refl _ _).alloc (Nat.le_refl _) _
 have bH : Hid (Box (w.alloc (.cells (List.toArray [.int .i64 h.vNext, .int .i64 h.vDoc, .slice a2 h.vNodes.length cap2, .slice a3 h.vObjs.length cap3, .slice a4 h.vGlobals.length cap4]) 28)) w.heap.size [.int .i64 h.vNext, .int .i64 h.vDoc, .slice a2 h.vNodes.length cap2, .slice a3 h.vObjs.length cap3, .slice a4 h.vGlobals.length cap4] 28) := Box.new w _ _
 go_enter Try.func12, Try.ntmps12
 go_wp2_with fail
 refine (specHeapOk_any (HeapAt_stays _ _ _ lo _ _ (.of_below hb0) hh'.out)).mono ?_
 rintro e w1 ⟨rfl, hb1⟩
 have hbw1 : Below w.heap.size w w1 := hb0.trans (hb1.mono hb0.size)
 have bH1 := bH.out.below hb1 bH.out.lt
 have bH1' : Hid (Box w1 w.heap.size [.int .i64 h.vNext, .int .i64 h.vDoc, .slice a2 h.vNodes.length cap2, .slice a3 h.vObjs.length cap3, .slice a4 h.vGlobals.length cap4] 28) := bH1
 have c0 := bH1.cell 0 rfl
 have c1 := bH1.cell 1 rfl
 have c2 := bH1.cell 2 rfl
 have c3 := bH1.cell 3 rfl
 have c4 := bH1.cell 4 rfl
 clear bH1
 cases hs : specB h
 · have HF : Hid (nodeOfS h n = (0, false)) := by show _ = _; simp [nodeOfS, hs]
   clear hs
   go_wp2_with fail
   go_ret2
   exact ⟨ret_pair HF.out, hbw1⟩
 have Hs : Hid _ := hs
 clear hs
 go_wp2_with fail
 refine (l2Wrapped_any (HeapAt_stays _ _ _ lo _ _ (.of_below hbw1) hh'.out)).mono ?_
 rintro e w2 ⟨rfl, hb2⟩
 have hbw2 : Below w.heap.size w w2 := hbw1.trans (hb2.mono hbw1.size)
 have bH2 := bH1'.out.below hb2 bH1'.out.lt
 clear c0 c1 c2 c3 c4
 have c0 := bH2.cell 0 rfl
 have c1 := bH2.cell 1 rfl
 have c2 := bH2.cell 2 rfl
 have c3 := bH2.cell 3 rfl
 have c4 := bH2.cell 4 rfl
 clear bH2
 by_cases h0 : wrappedR h n = 0
 · have HF : Hid (nodeOfS h n = (0, false)) := by show _ = _; simp [nodeOfS, h0]
   have h1 : (wrappedR h n == 0) = true := by simpa using h0
   clear h0
   go_wp2_with fail
   go_ret2
   exact ⟨ret_pair HF.out, hbw2⟩
 · have HF : Hid (nodeOfS h n = (wrappedR h n, true)) := by show _ = _; simp [nodeOfS, h0, Hs.out]
   have h1 : (wrappedR h n == 0) = false := by simpa using h0
   clear h0
   go_wp2_with fail
   refine (l2Wrapped_any (HeapAt_stays _ _ _ lo _ _ (.of_below hbw2) hh'.out)).mono ?_
   rintro e w3 ⟨rfl, hb3⟩
   have hbw3 : Below w.heap.size w w3 := hbw2.trans (hb3.mono hbw2.size)
   go_wp2_with fail
   go_ret2
   exact ⟨ret_pair HF.out, hbw3⟩
set_option maxRecDepth 100000 in
set_option maxHeartbeats 3200000 in
theorem specFieldOf_any {w : World} {lo : Nat} {cs : List Value} {h : HeapD} {n f : ByteArray} (hh : HeapAt w lo cs h) :
 Calls Try.prog 14 #[.agg cs.toArray, .string n, .string f] w fun e w' => e = .returned (.tuple #[.int .i64 (fieldOfS h n f).1, .bool (fieldOfS h n f).2]) ∧ Below w.heap.size w w' := by
 have hh' : Hid (HeapAt w lo cs h) := hh
 obtain ⟨k2, k3, k4, rfl, s2, s3, s4, _⟩ := hh
 have s3' : Hid (SeqAt 3 ObjAt w lo k3 h.vObjs) := s3
 have s4' : Hid (SeqAt 2 FieldAt w lo k4 h.vGlobals) := s4
 obtain ⟨a2, cap2, rfl⟩ := s2.form
 obtain ⟨a3, cap3, rfl⟩ := s3.form
 obtain ⟨a4, cap4, rfl⟩ := s4.form
 clear s2 s3 s4
 have hb0 : Below w.heap.size w (w.alloc (.cells (List.toArray [.int .i64 h.vNext, .int .i64 h.vDoc, .slice a2 h.vNodes.length cap2, .slice a3 h.vObjs.length cap3, .slice a4 h.vGlobals.length cap4]) 28)) := (Below.refl _ _).alloc (Nat.le_refl _) _
 have bH : Hid (Box (w.alloc (.cells (List.toArray [.int .i64 h.vNext, .int .i64 h.vDoc, .slice a2 h.vNodes.length cap2, .slice a3 h.vObjs.length cap3, .slice a4 h.vGlobals.length cap4]) 28)) w.heap.size [.int .i64 h.vNext, .int .i64 h.vDoc, .slice a2 h.vNodes.length cap2, .slice a3 h.vObjs.length cap3, .slice a4 h.vGlobals.length cap4] 28) := Box.new w _ _
 go_enter Try.func14, Try.ntmps14
 go_wp2_with fail
 refine (specHeapOk_any (HeapAt_stays _ _ _ lo _ _ (.of_below hb0) hh'.out)).mono ?_
 rintro e w1 ⟨rfl, hb1⟩
 have hbw1 : Below w.heap.size w w1 := hb0.trans (hb1.mono hb0.size)
 have bH1 := bH.out.below hb1 bH.out.lt
 have bH1' : Hid (Box w1 w.heap.size [.int .i64 h.vNext, .int .i64 h.vDoc, .slice a2 h.vNodes.length cap2, .slice a3 h.vObjs.length cap3, .slice a4 h.vGlobals.length cap4] 28) := bH1
 have c0 := bH1.cell 0 rfl
 have c1 := bH1.cell 1 rfl
 have c2 := bH1.cell 2 rfl
 have c3 := bH1.cell 3 rfl
 have c4 := bH1.cell 4 rfl
 clear bH1
 cases hs : specB h
 · have HF : Hid (fieldOfS h n f = (0, false)) := by show _ = _; simp [fieldOfS, hs]
   clear hs
   go_wp2_with fail
   go_ret2
   exact ⟨ret_pair HF.out, hbw1⟩
 have Hs : Hid (fieldOfS h n f = match objAt h (fieldR h.vGlobals n) with | none => (0, false) | some o => if fieldR o.vFields f = 0 then (0, false) else (fieldR o.vFields f, true)) := by show _ = _; unfold fieldOfS; rw [hs]; rfl
 have hb9 : Hid _ := hb1
 clear hs hb1
 go_wp2_with fail
 refine wp_region_held_drew (S := fun w' => w'.cell? ⟨w.heap.size, 0, none⟩ = some (.int .i64 h.vNext) ∧ w'.cell? ⟨w.heap.size, 1, none⟩ = some (.int .i64 h.vDoc) ∧ w'.cell? ⟨w.heap.size, 2, none⟩ = some (.slice a2 h.vNodes.length cap2) ∧ w'.cell? ⟨w.heap.size, 3, none⟩ = some (.slice a3 h.vObjs.length cap3) ∧ w'.cell? ⟨w.heap.size, 4, none⟩ = some (.slice a4 h.vGlobals.length cap4)) (by kernel_rfl) (by refine ⟨?_, ?_, ?_, ?_, ?_⟩ <;> assumption) (fun hHeld => ?_)
 refine tq (i := 0) (d := 12) ?_
 simp only [sz, ss]
 refine tq (i := 1) (d := 13) ?_
 simp only [sz, ss]
 refine tq (i := 2) (d := 14) ?_
 simp only [sz, ss]
 refine tq (i := 3) (d := 15) ?_
 simp only [sz, ss]
 refine wpAnyH_ready (rs := [4]) (by kernel_rfl) (by simp) ?_
 refine AllReadyH.cons rfl (fun K hK => ?_) AllReadyH.nil
 go_simp
 refine (l2Field_any (by exact s4'.out.below FieldAt_stays (Below.drew hbw1))).mono ?_
 rintro e wq ⟨rfl, rfl⟩
 refine hK.out _ _ (by assumption) (fun hHeld => ?_)
 clear hK K
 refine wpAnyH_ready (rs := [5]) (by kernel_rfl) (by simp) ?_
 refine AllReadyH.cons rfl (fun K hK => ?_) AllReadyH.nil
 go_simp
 refine (l2Obj_any (by exact HeapAt_stays _ _ _ lo _ _ (.of_below (Below.drew hbw1)) hh'.out)).mono ?_
 rintro e w2 ⟨rfl, hb1⟩
 refine hK.out _ _ ⟨cell_on hb1 hHeld.1, cell_on hb1 hHeld.2.1, cell_on hb1 hHeld.2.2.1, cell_on hb1 hHeld.2.2.2.1, cell_on hb1 hHeld.2.2.2.2⟩ (fun hHeld => ?_)
 clear hK K
 refine tq (i := 6) (d := 8) ?_
 simp only [sz, ss]
 refine wpAnyH_done (by kernel_rfl) ?_ _
 have hbw2 : Below w.heap.size w w2 := hbw1.drew.trans (hb1.mono (by exact hbw1.size))
 have bH2 : Box w2 w.heap.size [.int .i64 h.vNext, .int .i64 h.vDoc, .slice a2 h.vNodes.length cap2, .slice a3 h.vObjs.length cap3, .slice a4 h.vGlobals.length cap4] 28 := Box.below (w := w1.drew) bH1'.out hb1 (by exact bH1'.out.lt)
 clear c0 c1 c2 c3 c4
 have c2 := bH2.cell 2 rfl
 have c3 := bH2.cell 3 rfl
 clear bH2
 rcases idxO_is h (fieldR h.vGlobals n) with ⟨hix, hat⟩ | ⟨i', hi', hix, hid, hat⟩
 · rw [hix]
   have HF : Hid (fieldOfS h n f = (0, false)) := by show _ = _; rw [Hs.out, hat]
   clear hix hat
   go_wp2_with fail
   go_ret2
   exact ⟨ret_pair HF.out, hbw2⟩
 rw [hix]
 obtain ⟨ax, capx, hax, hmx, hxx⟩ := s3'.out
 injection hax with e1 e2 e3
 subst e1 e3
 obtain ⟨b, off, rfl, hlo, hbw0, hc⟩ := hxx (by omega)
 obtain ⟨csn, hcln, lien, hrn⟩ := hc i' hi'
 have lien1 := Lie.keep (lo := lo) (lo' := lo) lien (.of_below hbw2) hlo hbw0
 generalize h.vObjs[i'] = PO at *
 have hin : (0 : Int) ≤ (i' : Int) := by omega
 have hin2 : (i' : Int) < (h.vObjs.length : Int) := by omega
 unfold maxLen at hmx
 have HF0 : Hid (fieldOfS h n f = if fieldR PO.vFields f = 0 then (0, false) else (fieldR PO.vFields f, true)) := by show _ = _; rw [Hs.out, hat]
 have hlt0 : decide ((i' : Int) < 0) = false := by simp
 obtain ⟨g2, rfl, vf, _⟩ := hrn
 have vf' : Hid (SeqAt 2 FieldAt w lo g2 PO.vFields) := vf
 obtain ⟨pf, df, rfl⟩ := vf.form
 have y2 := lie_at lien1 2 rfl
 clear lien lien1 hcln hc hix hat hid hxx vf
 go_wp2_with fail
 refine (l2Field_any (vf'.out.below FieldAt_stays hbw2)).mono ?_
 rintro e wq ⟨rfl, rfl⟩
 by_cases h0 : fieldR PO.vFields f = 0
 · have HF : Hid (fieldOfS h n f = (0, false)) := by show _ = _; rw [HF0.out, if_pos h0]
   have h1 : (fieldR PO.vFields f == 0) = true := by simpa using h0
   clear h0
   go_wp2_with fail
   go_ret2
   exact ⟨ret_pair HF.out, hbw2⟩
 · have HF : Hid (fieldOfS h n f = (fieldR PO.vFields f, true)) := by show _ = _; rw [HF0.out, if_neg h0]
   have h1 : (fieldR PO.vFields f == 0) = false := by simpa using h0
   clear h0
   go_wp2_with fail
   refine (l2Field_any (vf'.out.below FieldAt_stays hbw2)).mono ?_
   rintro e wq ⟨rfl, rfl⟩
   go_wp2_with fail
   go_ret2
   exact ⟨ret_pair HF.out, hbw2⟩
end Go.Proofs.Ytdnembnlomnceaa
