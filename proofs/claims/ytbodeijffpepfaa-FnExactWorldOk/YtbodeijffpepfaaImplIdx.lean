/- The index of a heap, made: walked. -/
import Derived.Test.YtbodeijffpepfaaImplTwo
namespace Go.Proofs.Ytbodeijffpepfaa
open Go.RowKit
/-- an index, its records told in another world -/
def IdxIn (w0 w : World) (lo bn bo : Nat) (h : HeapD) : Prop :=
  (∃ es clock, w.heap[bn]? = some (.map es clock) ∧ Ents NodeD.vId NodeAt w0 lo es.toList h.vNodes) ∧
  (∃ es clock, w.heap[bo]? = some (.map es clock) ∧ Ents ObjD.vId ObjAt w0 lo es.toList h.vObjs)
theorem IdxIn.here {w0 w : World} {lo bn bo : Nat} {h : HeapD} (hi : IdxIn w0 w lo bn bo h) (hb : Below w0.heap.size w0 w) : IdxAt w lo bn bo h := by
  obtain ⟨⟨es, c, h1, h2⟩, es', c', h3, h4⟩ := hi
  exact ⟨⟨es, c, h1, Ents.keep NodeAt_stays (.of_below hb) _ _ h2⟩, es', c', h3, Ents.keep ObjAt_stays (.of_below hb) _ _ h4⟩
theorem IdxIn.on {w0 w w' : World} {lo bn bo : Nat} {h : HeapD} (hi : IdxIn w0 w lo bn bo h) (hb : Below w.heap.size w w') : IdxIn w0 w' lo bn bo h := by
  obtain ⟨⟨es, c, h1, h2⟩, es', c', h3, h4⟩ := hi
  have l1 : bn < w.heap.size := (Array.getElem?_eq_some_iff.1 h1).1
  have l3 : bo < w.heap.size := (Array.getElem?_eq_some_iff.1 h3).1
  exact ⟨⟨es, c, (hb.block _ l1).trans h1, h2⟩, es', c', (hb.block _ l3).trans h3, h4⟩
theorem IdxIn.set {w0 w : World} {lo bn bo g i : Nat} {h : HeapD} {cs : List Value} {T : TypeId} (hi : IdxIn w0 w lo bn bo h) (hb : Box w g cs T) (v : Value) : IdxIn w0 (w.setCell ⟨g, i, none⟩ v) lo bn bo h := by
  obtain ⟨⟨es, c, h1, h2⟩, es', c', h3, h4⟩ := hi
  have n1 : bn ≠ g := by intro e; subst e; unfold Box at hb; rw [h1] at hb; cases hb
  have n3 : bo ≠ g := by intro e; subst e; unfold Box at hb; rw [h3] at hb; cases hb
  exact ⟨⟨es, c, (set_other n1 v).trans h1, h2⟩, es', c', (set_other n3 v).trans h3, h4⟩
/-- a new entry, its elders told in another world -/
theorem run_put2 {α : Type} {f : α → Int} {R : World → Nat → List Value → α → Prop} {w w0 : World} {lo b : Nat} {xs : List α} {M E : TypeId} {es : Array MapEntry} {clock : Nat} (h1 : w.heap[b]? = some (.map es clock)) (h2 : Ents f R w0 lo es.toList xs) (hT : Try.prog.underlying M = some (.map 2 E)) (id : Int) (v : Value) (hn : getI f xs id = none) :
    (Instr.mapUpdate M (.map (some b)) (.int .i64 id) v).run Try.prog w = .ok () (putEnt w b es clock id v) := by
  have hc : ∀ e, (Instr.checkKey e 10000 2 (.int .i64 id)).run Try.prog w = .ok () w := fun e => MapKept.run_checkKey (k := .int .i64 id) Try.underlying2 (by simp [MapKept.IsKey]) e 9999
  rcases find_ents (id := id) es.toList xs 0 h2 with ⟨g1, g2⟩ | ⟨x, i', cs, g1, _, _⟩
  · simp [Instr.mapUpdate, run_underlying hT, MapKept.run_getObj_map h1, hc, MapKept.run_findKey Try.underlying2 g2, MapKept.run_setObj_map _ h1, Result.andThen, putEnt]
  · rw [hn] at g1; cases g1
/-- where the making of the index stands: j nodes and m objects are in -/
def IxSt (w0 w W wr : World) (lo : Nat) (h : HeapD) (j m : Nat) : Prop :=
  Below (w.heap.size + 2) W wr ∧ Box wr (w.heap.size + 1 + 1 + 1 + 1) [.map (some (w.heap.size + 1 + 1)), .map (some (w.heap.size + 1 + 1 + 1))] 86 ∧
  (∃ es clock, wr.heap[(w.heap.size + 1 + 1)]? = some (.map es clock) ∧ Ents NodeD.vId NodeAt w0 lo es.toList (h.vNodes.take j)) ∧
  (∃ es clock, wr.heap[(w.heap.size + 1 + 1 + 1)]? = some (.map es clock) ∧ Ents ObjD.vId ObjAt w0 lo es.toList (h.vObjs.take m))
theorem IxSt.on {w0 w W wr w' : World} {lo : Nat} {h : HeapD} {j m : Nat} (st : IxSt w0 w W wr lo h j m) (hb : Below wr.heap.size wr w') : IxSt w0 w W w' lo h j m := by
  obtain ⟨h1, h2, ⟨es, c, h3, h4⟩, es', c', h5, h6⟩ := st
  have l2 := h2.lt
  exact ⟨h1.trans (hb.mono (by omega)), h2.below hb l2, ⟨es, c, (hb.block _ (by omega)).trans h3, h4⟩, es', c', (hb.block _ (by omega)).trans h5, h6⟩
theorem IxSt.putN {w0 w W wr : World} {lo : Nat} {h : HeapD} {j m : Nat} {es : Array MapEntry} {clock : Nat} {cs : List Value} {v : Value} (st : IxSt w0 w W wr lo h j m) (he : wr.heap[(w.heap.size + 1 + 1)]? = some (.map es clock)) (hj : j < h.vNodes.length) (hv : v = .agg cs.toArray) (hr : NodeAt w0 lo cs h.vNodes[j]) :
    IxSt w0 w W (putEnt wr (w.heap.size + 1 + 1) es clock h.vNodes[j].vId v) lo h (j + 1) m := by
  obtain ⟨h1, h2, ⟨es0, c0, h3, h4⟩, es', c', h5, h6⟩ := st
  have l2 := h2.lt
  rw [he] at h3
  injection h3 with h3
  injection h3 with e1 e2
  subst e1 e2
  refine ⟨putEnt_below h1 (by omega), (putEnt_other (by omega)).trans h2, ⟨_, _, putEnt_at (by omega), ?_⟩, es', c', (putEnt_other (by omega)).trans h5, h6⟩
  rw [List.take_succ_eq_append_getElem hj, Array.toList_push]
  exact ents_snoc rfl ⟨cs, hv, hr⟩ _ _ h4
theorem IxSt.putO {w0 w W wr : World} {lo : Nat} {h : HeapD} {j m : Nat} {es : Array MapEntry} {clock : Nat} {cs : List Value} {v : Value} (st : IxSt w0 w W wr lo h j m) (he : wr.heap[(w.heap.size + 1 + 1 + 1)]? = some (.map es clock)) (hj : m < h.vObjs.length) (hv : v = .agg cs.toArray) (hr : ObjAt w0 lo cs h.vObjs[m]) :
    IxSt w0 w W (putEnt wr (w.heap.size + 1 + 1 + 1) es clock h.vObjs[m].vId v) lo h j (m + 1) := by
  obtain ⟨h1, h2, ⟨es', c', h5, h6⟩, es0, c0, h3, h4⟩ := st
  have l2 := h2.lt
  rw [he] at h3
  injection h3 with h3
  injection h3 with e1 e2
  subst e1 e2
  refine ⟨putEnt_below h1 (by omega), (putEnt_other (by omega)).trans h2, ⟨es', c', (putEnt_other (by omega)).trans h5, h6⟩, _, _, putEnt_at (by omega), ?_⟩
  rw [List.take_succ_eq_append_getElem hj, Array.toList_push]
  exact ents_snoc rfl ⟨cs, hv, hr⟩ _ _ h4
set_option maxRecDepth 100000 in
set_option maxHeartbeats 3200000 in
theorem indexOf_any {w0 w : World} {lo : Nat} {cs : List Value} {h : HeapD} (hh : HeapAt w0 lo cs h) (h00 : Below w0.heap.size w0 w) :
    Calls Try.prog 50 #[.agg cs.toArray] w fun e w' => ((idxB h = false ∧ e = .returned (.tuple #[.agg #[.map none, .map none], .bool false])) ∨ (idxB h = true ∧ ∃ bn bo, e = .returned (.tuple #[.agg #[.map (some bn), .map (some bo)], .bool true]) ∧ IdxIn w0 w' lo bn bo h)) ∧ Below w.heap.size w w' := by
  obtain ⟨k2, k3, k4, rfl, s2, s3, s4, rNext, rDoc, _⟩ := hh
  obtain ⟨a4, cap4, rfl⟩ := s4.form
  obtain ⟨a2, cap2, rfl, hm2, hx2⟩ := s2
  obtain ⟨a3, cap3, rfl, hm3, hx3⟩ := s3
  unfold maxLen at hm2 hm3
  have hx2' : Hid _ := hx2
  have hx3' : Hid _ := hx3
  clear hx2 hx3 s4 rNext rDoc
  have hb1 : Below w.heap.size w ((w.alloc (.cells (List.toArray [.int .i64 h.vNext, .int .i64 h.vDoc, .slice a2 h.vNodes.length cap2, .slice a3 h.vObjs.length cap3, .slice a4 h.vGlobals.length cap4]) 43)).alloc (.cells (List.toArray [.map none, .map none]) 86)) := ((Below.refl _ _).alloc (Nat.le_refl _) _).alloc (by simp) _
  by_cases c1 : 1 ≤ h.vNext
  rotate_left
  · have HF : Hid (idxB h = false) := by show _ = _; simp [idxB, c1]
    have c1' : h.vNext < 1 := by omega
    clear c1
    go_enter Try.func50, Try.ntmps50
    go_wp2_with fail
    refine bodyPost_ret (v := .tuple #[.agg #[.map none, .map none], .bool false]) (by simp [results, Try.results50, go_sem]) rfl ?_
    exact ⟨Or.inl ⟨HF.out, rfl⟩, hb1⟩
  have c1' : decide (h.vNext < 1) = false := by simp; omega
  by_cases c2 : h.vNext ≤ 1000000000
  rotate_left
  · have HF : Hid (idxB h = false) := by show _ = _; simp [idxB, c2]
    have c2' : (1000000000 : Int) < h.vNext := by omega
    clear c2
    go_enter Try.func50, Try.ntmps50
    go_wp2_with fail
    refine bodyPost_ret (v := .tuple #[.agg #[.map none, .map none], .bool false]) (by simp [results, Try.results50, go_sem]) rfl ?_
    exact ⟨Or.inl ⟨HF.out, rfl⟩, hb1⟩
  have c2' : decide ((1000000000 : Int) < h.vNext) = false := by simp; omega
  by_cases c3 : h.vNodes.length ≤ 16
  rotate_left
  · have HF : Hid (idxB h = false) := by show _ = _; simp [idxB, c3]
    have c3' : (16 : Int) < (h.vNodes.length : Int) := by omega
    clear c3
    go_enter Try.func50, Try.ntmps50
    go_wp2_with fail
    refine bodyPost_ret (v := .tuple #[.agg #[.map none, .map none], .bool false]) (by simp [results, Try.results50, go_sem]) rfl ?_
    exact ⟨Or.inl ⟨HF.out, rfl⟩, hb1⟩
  have c3' : decide ((16 : Int) < (h.vNodes.length : Int)) = false := by simp; omega
  by_cases c4 : h.vObjs.length ≤ 16
  rotate_left
  · have HF : Hid (idxB h = false) := by show _ = _; simp [idxB, c4]
    have c4' : (16 : Int) < (h.vObjs.length : Int) := by omega
    clear c4
    go_enter Try.func50, Try.ntmps50
    go_wp2_with fail
    refine bodyPost_ret (v := .tuple #[.agg #[.map none, .map none], .bool false]) (by simp [results, Try.results50, go_sem]) rfl ?_
    exact ⟨Or.inl ⟨HF.out, rfl⟩, hb1⟩
  have c4' : decide ((16 : Int) < (h.vObjs.length : Int)) = false := by simp; omega
  have HB : Hid (idxB h = (idxNB h 0 h.vNodes && idxOB h 0 h.vObjs)) := by show _ = _; simp [idxB, c1, c2, c3, c4]
  have hmk : ∀ t u, Sem.run Try.prog (Instr.makeMap t none) u = .ok (.map (some u.heap.size)) (u.alloc (.map #[] 0)) := by intro t u; simp [Instr.makeMap]
  have hbB : Below w.heap.size w (((((w.alloc (.cells (List.toArray [.int .i64 h.vNext, .int .i64 h.vDoc, .slice a2 h.vNodes.length cap2, .slice a3 h.vObjs.length cap3, .slice a4 h.vGlobals.length cap4]) 43)).alloc (.cells (List.toArray [.map none, .map none]) 86)).alloc (.map #[] 0)).alloc (.map #[] 0)).alloc (.cells (List.toArray [.map (some (w.heap.size + 1 + 1)), .map (some (w.heap.size + 1 + 1 + 1))]) 86)) := ((hb1.alloc (by simp; omega) _).alloc (by simp; omega) _).alloc (by simp; omega) _
  have bH : Hid (Box (((((w.alloc (.cells (List.toArray [.int .i64 h.vNext, .int .i64 h.vDoc, .slice a2 h.vNodes.length cap2, .slice a3 h.vObjs.length cap3, .slice a4 h.vGlobals.length cap4]) 43)).alloc (.cells (List.toArray [.map none, .map none]) 86)).alloc (.map #[] 0)).alloc (.map #[] 0)).alloc (.cells (List.toArray [.map (some (w.heap.size + 1 + 1)), .map (some (w.heap.size + 1 + 1 + 1))]) 86)) w.heap.size [.int .i64 h.vNext, .int .i64 h.vDoc, .slice a2 h.vNodes.length cap2, .slice a3 h.vObjs.length cap3, .slice a4 h.vGlobals.length cap4] 43) := ((((Box.new w [.int .i64 h.vNext, .int .i64 h.vDoc, .slice a2 h.vNodes.length cap2, .slice a3 h.vObjs.length cap3, .slice a4 h.vGlobals.length cap4] 43).alloc _).alloc _).alloc _).alloc _
  have bR : Hid (Box (((((w.alloc (.cells (List.toArray [.int .i64 h.vNext, .int .i64 h.vDoc, .slice a2 h.vNodes.length cap2, .slice a3 h.vObjs.length cap3, .slice a4 h.vGlobals.length cap4]) 43)).alloc (.cells (List.toArray [.map none, .map none]) 86)).alloc (.map #[] 0)).alloc (.map #[] 0)).alloc (.cells (List.toArray [.map (some (w.heap.size + 1 + 1)), .map (some (w.heap.size + 1 + 1 + 1))]) 86)) (w.heap.size + 1) [.map none, .map none] 86) := by have hb := (((Box.new (w.alloc (.cells (List.toArray [.int .i64 h.vNext, .int .i64 h.vDoc, .slice a2 h.vNodes.length cap2, .slice a3 h.vObjs.length cap3, .slice a4 h.vGlobals.length cap4]) 43)) [.map none, .map none] 86).alloc (.map #[] 0)).alloc (.map #[] 0)).alloc (.cells (List.toArray [.map (some (w.heap.size + 1 + 1)), .map (some (w.heap.size + 1 + 1 + 1))]) 86); rwa [show ((w.alloc (.cells (List.toArray [.int .i64 h.vNext, .int .i64 h.vDoc, .slice a2 h.vNodes.length cap2, .slice a3 h.vObjs.length cap3, .slice a4 h.vGlobals.length cap4]) 43))).heap.size = (w.heap.size + 1) by simp] at hb
  have st0 : Hid (IxSt w0 w (((((w.alloc (.cells (List.toArray [.int .i64 h.vNext, .int .i64 h.vDoc, .slice a2 h.vNodes.length cap2, .slice a3 h.vObjs.length cap3, .slice a4 h.vGlobals.length cap4]) 43)).alloc (.cells (List.toArray [.map none, .map none]) 86)).alloc (.map #[] 0)).alloc (.map #[] 0)).alloc (.cells (List.toArray [.map (some (w.heap.size + 1 + 1)), .map (some (w.heap.size + 1 + 1 + 1))]) 86)) (((((w.alloc (.cells (List.toArray [.int .i64 h.vNext, .int .i64 h.vDoc, .slice a2 h.vNodes.length cap2, .slice a3 h.vObjs.length cap3, .slice a4 h.vGlobals.length cap4]) 43)).alloc (.cells (List.toArray [.map none, .map none]) 86)).alloc (.map #[] 0)).alloc (.map #[] 0)).alloc (.cells (List.toArray [.map (some (w.heap.size + 1 + 1)), .map (some (w.heap.size + 1 + 1 + 1))]) 86)) lo h 0 0) := by
    have e3 : ((((w.alloc (.cells (List.toArray [.int .i64 h.vNext, .int .i64 h.vDoc, .slice a2 h.vNodes.length cap2, .slice a3 h.vObjs.length cap3, .slice a4 h.vGlobals.length cap4]) 43)).alloc (.cells (List.toArray [.map none, .map none]) 86)).alloc (.map #[] 0))).heap.size = (w.heap.size + 1 + 1 + 1) := by simp
    have e2 : (((w.alloc (.cells (List.toArray [.int .i64 h.vNext, .int .i64 h.vDoc, .slice a2 h.vNodes.length cap2, .slice a3 h.vObjs.length cap3, .slice a4 h.vGlobals.length cap4]) 43)).alloc (.cells (List.toArray [.map none, .map none]) 86))).heap.size = (w.heap.size + 1 + 1) := by simp
    have e4 : (((((w.alloc (.cells (List.toArray [.int .i64 h.vNext, .int .i64 h.vDoc, .slice a2 h.vNodes.length cap2, .slice a3 h.vObjs.length cap3, .slice a4 h.vGlobals.length cap4]) 43)).alloc (.cells (List.toArray [.map none, .map none]) 86)).alloc (.map #[] 0)).alloc (.map #[] 0))).heap.size = (w.heap.size + 1 + 1 + 1 + 1) := by simp
    refine ⟨Below.refl _ _, ?_, ⟨#[], 0, ?_, trivial⟩, #[], 0, ?_, trivial⟩
    · have hb := Box.new ((((w.alloc (.cells (List.toArray [.int .i64 h.vNext, .int .i64 h.vDoc, .slice a2 h.vNodes.length cap2, .slice a3 h.vObjs.length cap3, .slice a4 h.vGlobals.length cap4]) 43)).alloc (.cells (List.toArray [.map none, .map none]) 86)).alloc (.map #[] 0)).alloc (.map #[] 0)) [.map (some (w.heap.size + 1 + 1)), .map (some (w.heap.size + 1 + 1 + 1))] 86
      rwa [e4] at hb
    · rw [Below.heap_alloc _ _ _ (by simp), Below.heap_alloc _ _ _ (by simp)]
      have hb := (MapKept.heap_alloc ((w.alloc (.cells (List.toArray [.int .i64 h.vNext, .int .i64 h.vDoc, .slice a2 h.vNodes.length cap2, .slice a3 h.vObjs.length cap3, .slice a4 h.vGlobals.length cap4]) 43)).alloc (.cells (List.toArray [.map none, .map none]) 86)) (.map #[] 0)).1
      rwa [e2] at hb
    · rw [Below.heap_alloc _ _ _ (by simp)]
      have hb := (MapKept.heap_alloc (((w.alloc (.cells (List.toArray [.int .i64 h.vNext, .int .i64 h.vDoc, .slice a2 h.vNodes.length cap2, .slice a3 h.vObjs.length cap3, .slice a4 h.vGlobals.length cap4]) 43)).alloc (.cells (List.toArray [.map none, .map none]) 86)).alloc (.map #[] 0)) (.map #[] 0)).1
      rwa [e3] at hb
  have c34 : Hid (h.vNodes.length ≤ 16 ∧ h.vObjs.length ≤ 16) := ⟨c3, c4⟩
  clear c1 c2 c3 c4
  go_enter Try.func50, Try.ntmps50
  go_wp2_with fail
  go_loopw [5, 39] (fun z i wr => ∃ (j : Nat), j ≤ h.vNodes.length ∧ i = .int .i64 j ∧ z = .int .i64 (lastI NodeD.vId h.vNodes j) ∧ Hid (IxSt w0 w (((((w.alloc (.cells (List.toArray [.int .i64 h.vNext, .int .i64 h.vDoc, .slice a2 h.vNodes.length cap2, .slice a3 h.vObjs.length cap3, .slice a4 h.vGlobals.length cap4]) 43)).alloc (.cells (List.toArray [.map none, .map none]) 86)).alloc (.map #[] 0)).alloc (.map #[] 0)).alloc (.cells (List.toArray [.map (some (w.heap.size + 1 + 1)), .map (some (w.heap.size + 1 + 1 + 1))]) 86)) wr lo h j 0) ∧ Hid (UpTo NodeD.vId h.vNodes j) ∧ Hid (idxNB h 0 h.vNodes = idxNB h (lastI NodeD.vId h.vNodes j) (h.vNodes.drop j))) (fun _ i _ => h.vNodes.length - (intOf i).toNat)
  case atStart => exact ⟨0, by omega, rfl, rfl, st0, UpTo.zero, rfl⟩
  case round =>
    obtain ⟨j, hj, rfl, rfl, st, hup, hrem⟩ := hrel
    have hbw : Below w.heap.size w wr := hbB.trans (st.out.1.mono (by omega))
    have bH1 := bH.out.below st.out.1 (by omega)
    have bR1 := bR.out.below st.out.1 (by omega)
    have bX1 := st.out.2.1
    have hsz : w.heap.size + 5 ≤ wr.heap.size := by have := bX1.lt; omega
    by_cases hlt : j < h.vNodes.length
    · obtain ⟨b, off, rfl, hlo, hbw2, hc⟩ := hx2'.out (by omega)
      obtain ⟨cs, hcl, lie, hr⟩ := hc j hlt
      have lie1 := Lie.keep (lo := lo) (lo' := lo) lie (.of_below (h00.trans (hbw.mono h00.size))) hlo hbw2
      have hstep : Hid _ := idxNB_step (h := h) hlt
      have hlast : Hid _ := lastI_succ (f := NodeD.vId) hlt
      have hfr : Hid _ := hup.out.fresh hlt
      have hsu : Hid _ := hup.out.succ hlt
      have hput : Hid _ := fun (es : Array MapEntry) (clock : Nat) (W : World) (hW : Below wr.heap.size wr W) (he : W.heap[(w.heap.size + 1 + 1)]? = some (.map es clock)) => (st.out.on hW).putN (v := .agg cs.toArray) he hlt rfl hr
      generalize hQ0 : h.vNodes[j] = Q at hr hstep hlast hfr hsu hput
      obtain ⟨g3, g5, rfl, v3, v5, _⟩ := hr
      obtain ⟨p3, d3, rfl⟩ := v3.form
      obtain ⟨p5, d5, rfl⟩ := v5.form
      have z0 := lie_at lie1 0 rfl
      have z1 := lie_at lie1 1 rfl
      have z2 := lie_at lie1 2 rfl
      have z3 := lie_at lie1 3 rfl
      have z4 := lie_at lie1 4 rfl
      have z5 := lie_at lie1 5 rfl
      simp only [Nat.add_zero] at z0
      have hbk : Below wr.heap.size wr (wr.alloc (.cells (List.toArray [.int .i64 Q.vId, .string Q.vTag, .int .i64 Q.vParent, (.slice p3 Q.vKids.length d3), .int .i64 Q.vWrapper, (.slice p5 Q.vListeners.length d5)]) 69)) := (Below.refl _ _).alloc (Nat.le_refl _) _
      have hbwk : Below w.heap.size w (wr.alloc (.cells (List.toArray [.int .i64 Q.vId, .string Q.vTag, .int .i64 Q.vParent, (.slice p3 Q.vKids.length d3), .int .i64 Q.vWrapper, (.slice p5 Q.vListeners.length d5)]) 69)) := hbw.alloc hbw.size _
      have bR2 := bR1.alloc (.cells (List.toArray [.int .i64 Q.vId, .string Q.vTag, .int .i64 Q.vParent, (.slice p3 Q.vKids.length d3), .int .i64 Q.vWrapper, (.slice p5 Q.vListeners.length d5)]) 69)
      have r0 := bR2.cell 0 rfl
      have r1 := bR2.cell 1 rfl
      have rf := bR2.unfrozen
      have bR2' : Hid (Box (wr.alloc (.cells (List.toArray [.int .i64 Q.vId, .string Q.vTag, .int .i64 Q.vParent, (.slice p3 Q.vKids.length d3), .int .i64 Q.vWrapper, (.slice p5 Q.vListeners.length d5)]) 69)) (w.heap.size + 1) [.map none, .map none] 86) := bR2
      have hN := cell_on hbk (bH1.cell 0 rfl)
      have x0 := cell_on hbk (bX1.cell 0 rfl)
      clear lie lie1 hcl hc hQ0 bH1 bR1 bR2 bX1 v3 v5
      generalize hL : lastI NodeD.vId h.vNodes j = LN at *
      clear hL
      by_cases q1 : LN < Q.vId
      rotate_left
      · have HF : Hid (idxB h = false) := by show _ = _; rw [HB.out, hrem.out, hstep.out]; simp [q1]
        have q1' : Q.vId ≤ LN := by omega
        clear q1
        go_wp2_with fail
        have e0 := (Box.set (i := 0) bR2'.out (.map none)).cell 0 rfl
        have e1 := (Box.set (i := 1) (Box.set (i := 0) bR2'.out (.map none)) (.map none)).cell 1 rfl
        refine bodyPost_ret (v := .tuple #[.agg #[.map none, .map none], .bool false]) (by simp [results, Try.results50, go_sem, e0, e1]) rfl ?_
        exact ⟨Or.inl ⟨HF.out, rfl⟩, (hbwk.setCell (by simp) _).setCell (by simp) _⟩
      have q1' : decide (Q.vId ≤ LN) = false := by simp; omega
      by_cases q2 : Q.vId < h.vNext
      rotate_left
      · have HF : Hid (idxB h = false) := by show _ = _; rw [HB.out, hrem.out, hstep.out]; simp [q2]
        have q2' : h.vNext ≤ Q.vId := by omega
        clear q1 q2
        go_wp2_with fail
        have e0 := (Box.set (i := 0) bR2'.out (.map none)).cell 0 rfl
        have e1 := (Box.set (i := 1) (Box.set (i := 0) bR2'.out (.map none)) (.map none)).cell 1 rfl
        refine bodyPost_ret (v := .tuple #[.agg #[.map none, .map none], .bool false]) (by simp [results, Try.results50, go_sem, e0, e1]) rfl ?_
        exact ⟨Or.inl ⟨HF.out, rfl⟩, (hbwk.setCell (by simp) _).setCell (by simp) _⟩
      have q2' : decide (h.vNext ≤ Q.vId) = false := by simp; omega
      have HO : Hid (idxNB h 0 h.vNodes = idxNB h (lastI NodeD.vId h.vNodes (j + 1)) (h.vNodes.drop (j + 1))) := by show _ = _; rw [hrem.out, hstep.out]; simp [q1, q2]
      obtain ⟨es, clock, he, hen⟩ := st.out.2.2.1
      have he' := (hbk.block _ (by omega)).trans he
      have hrun := run_put2 he' hen Try.underlying83 Q.vId (.agg (List.toArray [.int .i64 Q.vId, .string Q.vTag, .int .i64 Q.vParent, (.slice p3 Q.vKids.length d3), .int .i64 Q.vWrapper, (.slice p5 Q.vListeners.length d5)])) (hfr.out q1)
      have nk : (putEnt (wr.alloc (.cells (List.toArray [.int .i64 Q.vId, .string Q.vTag, .int .i64 Q.vParent, (.slice p3 Q.vKids.length d3), .int .i64 Q.vWrapper, (.slice p5 Q.vListeners.length d5)]) 69)) (w.heap.size + 1 + 1) es clock Q.vId (.agg (List.toArray [.int .i64 Q.vId, .string Q.vTag, .int .i64 Q.vParent, (.slice p3 Q.vKids.length d3), .int .i64 Q.vWrapper, (.slice p5 Q.vListeners.length d5)]))).cell? ⟨wr.heap.size, 0, none⟩ = some (.int .i64 Q.vId) := Box.cell ((putEnt_other (by omega)).trans (Box.new wr [.int .i64 Q.vId, .string Q.vTag, .int .i64 Q.vParent, (.slice p3 Q.vKids.length d3), .int .i64 Q.vWrapper, (.slice p5 Q.vListeners.length d5)] 69)) 0 rfl
      have hup' : Hid _ := hsu.out q1
      have hst' : Hid _ := hput.out es clock _ hbk he'
      clear q1 q2 he he' hen hfr hsu hput
      go_wp2_with fail
      go_roundw
      case rel => exact ⟨j + 1, by omega, by go_num, by rw [hlast.out], hst', hup', HO⟩
      case measure => simp [intOf]; omega
    have HN : Hid (idxNB h 0 h.vNodes = true) := by show _ = _; rw [hrem.out]; exact idxNB_end hlt
    have HB2 : Hid (idxB h = idxOB h 0 h.vObjs) := by show _ = _; rw [HB.out, HN.out]; rfl
    have stL : Hid (IxSt w0 w (((((w.alloc (.cells (List.toArray [.int .i64 h.vNext, .int .i64 h.vDoc, .slice a2 h.vNodes.length cap2, .slice a3 h.vObjs.length cap3, .slice a4 h.vGlobals.length cap4]) 43)).alloc (.cells (List.toArray [.map none, .map none]) 86)).alloc (.map #[] 0)).alloc (.map #[] 0)).alloc (.cells (List.toArray [.map (some (w.heap.size + 1 + 1)), .map (some (w.heap.size + 1 + 1 + 1))]) 86)) wr lo h h.vNodes.length 0) := (show j = h.vNodes.length by omega) ▸ st.out
    have hc3 := bH1.cell 3 rfl
    clear bH1 bR1 bX1 st hup hrem HN HB hx2'
    go_wp2_with fail
    go_loopw [5, 66] (fun z i wr => ∃ (j : Nat), j ≤ h.vObjs.length ∧ i = .int .i64 j ∧ z = .int .i64 (lastI ObjD.vId h.vObjs j) ∧ Hid (IxSt w0 w (((((w.alloc (.cells (List.toArray [.int .i64 h.vNext, .int .i64 h.vDoc, .slice a2 h.vNodes.length cap2, .slice a3 h.vObjs.length cap3, .slice a4 h.vGlobals.length cap4]) 43)).alloc (.cells (List.toArray [.map none, .map none]) 86)).alloc (.map #[] 0)).alloc (.map #[] 0)).alloc (.cells (List.toArray [.map (some (w.heap.size + 1 + 1)), .map (some (w.heap.size + 1 + 1 + 1))]) 86)) wr lo h h.vNodes.length j) ∧ Hid (UpTo ObjD.vId h.vObjs j) ∧ Hid (idxOB h 0 h.vObjs = idxOB h (lastI ObjD.vId h.vObjs j) (h.vObjs.drop j))) (fun _ i _ => h.vObjs.length - (intOf i).toNat)
    case atStart => exact ⟨0, by omega, rfl, rfl, stL, UpTo.zero, rfl⟩
    case round =>
      clear hbw hsz stL
      obtain ⟨m, hm, rfl, rfl, st, hup, hrem⟩ := hrel
      have hbw : Below w.heap.size w wr := hbB.trans (st.out.1.mono (by omega))
      have bH1 := bH.out.below st.out.1 (by omega)
      have bR1 := bR.out.below st.out.1 (by omega)
      have bX1 := st.out.2.1
      have hsz : w.heap.size + 5 ≤ wr.heap.size := by have := bX1.lt; omega
      by_cases hlt : m < h.vObjs.length
      · obtain ⟨b, off, rfl, hlo, hbw2, hc⟩ := hx3'.out (by omega)
        obtain ⟨cs, hcl, lie, hr⟩ := hc m hlt
        have lie1 := Lie.keep (lo := lo) (lo' := lo) lie (.of_below (h00.trans (hbw.mono h00.size))) hlo hbw2
        have hstep : Hid _ := idxOB_step (h := h) hlt
        have hlast : Hid _ := lastI_succ (f := ObjD.vId) hlt
        have hfr : Hid _ := hup.out.fresh hlt
        have hsu : Hid _ := hup.out.succ hlt
        have hput : Hid _ := fun (es : Array MapEntry) (clock : Nat) (W : World) (hW : Below wr.heap.size wr W) (he : W.heap[(w.heap.size + 1 + 1 + 1)]? = some (.map es clock)) => (st.out.on hW).putO (v := .agg cs.toArray) he hlt rfl hr
        generalize hQ0 : h.vObjs[m] = Q at hr hstep hlast hfr hsu hput
        obtain ⟨g2, rfl, v2, _⟩ := hr
        obtain ⟨p2, d2, rfl⟩ := v2.form
        have z0 := lie_at lie1 0 rfl
        have z1 := lie_at lie1 1 rfl
        have z2 := lie_at lie1 2 rfl
        simp only [Nat.add_zero] at z0
        have hbk : Below wr.heap.size wr (wr.alloc (.cells (List.toArray [.int .i64 Q.vId, .int .i64 Q.vNode, (.slice p2 Q.vFields.length d2)]) 73)) := (Below.refl _ _).alloc (Nat.le_refl _) _
        have hbwk : Below w.heap.size w (wr.alloc (.cells (List.toArray [.int .i64 Q.vId, .int .i64 Q.vNode, (.slice p2 Q.vFields.length d2)]) 73)) := hbw.alloc hbw.size _
        have bR2' : Hid (Box (wr.alloc (.cells (List.toArray [.int .i64 Q.vId, .int .i64 Q.vNode, (.slice p2 Q.vFields.length d2)]) 73)) (w.heap.size + 1) [.map none, .map none] 86) := bR1.alloc _
        have bO' : Hid (Box (wr.alloc (.cells (List.toArray [.int .i64 Q.vId, .int .i64 Q.vNode, (.slice p2 Q.vFields.length d2)]) 73)) wr.heap.size [.int .i64 Q.vId, .int .i64 Q.vNode, (.slice p2 Q.vFields.length d2)] 73) := Box.new wr [.int .i64 Q.vId, .int .i64 Q.vNode, (.slice p2 Q.vFields.length d2)] 73
        have xk0 := cell_on hbk (bX1.cell 0 rfl)
        have hN0 : Hid _ := cell_on hbk (bH1.cell 0 rfl)
        have x1 : Hid _ := cell_on hbk (bX1.cell 1 rfl)
        obtain ⟨esn, clockn, hen1, hen2⟩ := st.out.2.2.1
        have hmn : MapAt NodeD.vId NodeAt (wr.alloc (.cells (List.toArray [.int .i64 Q.vId, .int .i64 Q.vNode, (.slice p2 Q.vFields.length d2)]) 73)) lo (w.heap.size + 1 + 1) h.vNodes := ⟨esn, clockn, (hbk.block _ (by omega)).trans hen1, Ents.keep NodeAt_stays (.of_below (h00.trans (hbwk.mono h00.size))) _ _ (by rwa [List.take_length] at hen2)⟩
        clear lie lie1 hcl hc hQ0 bH1 bR1 bX1 v2 hen1 hen2
        generalize hL : lastI ObjD.vId h.vObjs m = LN at *
        clear hL
        rcases run_look hmn Try.underlying83 zeroN Q.vId with ⟨hg, hlook⟩ | ⟨y, cy, hg, hlook, hy⟩
        rotate_left
        · have hg' : nodeAt h Q.vId = some y := hg
          have HF : Hid (idxB h = false) := by show _ = _; rw [HB2.out, hrem.out, hstep.out]; simp [hg']
          obtain ⟨t3, t5, rfl, v3, v5, _⟩ := hy
          obtain ⟨p3, d3, rfl⟩ := v3.form
          obtain ⟨p5, d5, rfl⟩ := v5.form
          have bR3 := bR2'.out.alloc (.cells (List.toArray [.int .i64 y.vId, .string y.vTag, .int .i64 y.vParent, (.slice p3 y.vKids.length d3), .int .i64 y.vWrapper, (.slice p5 y.vListeners.length d5)]) 69)
          have r0 := bR3.cell 0 rfl
          have r1 := bR3.cell 1 rfl
          have rf := bR3.unfrozen
          have bR3' : Hid (Box ((wr.alloc (.cells (List.toArray [.int .i64 Q.vId, .int .i64 Q.vNode, (.slice p2 Q.vFields.length d2)]) 73)).alloc (.cells (List.toArray [.int .i64 y.vId, .string y.vTag, .int .i64 y.vParent, (.slice p3 y.vKids.length d3), .int .i64 y.vWrapper, (.slice p5 y.vListeners.length d5)]) 69)) (w.heap.size + 1) [.map none, .map none] 86) := bR3
          clear hg hg' v3 v5 bR3 hmn
          go_wp2_with fail
          have e0 := (Box.set (i := 0) bR3'.out (.map none)).cell 0 rfl
          have e1 := (Box.set (i := 1) (Box.set (i := 0) bR3'.out (.map none)) (.map none)).cell 1 rfl
          refine bodyPost_ret (v := .tuple #[.agg #[.map none, .map none], .bool false]) (by simp [results, Try.results50, go_sem, e0, e1]) rfl ?_
          exact ⟨Or.inl ⟨HF.out, rfl⟩, ((hbwk.alloc hbwk.size _).setCell (by simp) _).setCell (by simp) _⟩
        have hg' : Hid (nodeAt h Q.vId = none) := hg
        have hbk2 : Below wr.heap.size wr ((wr.alloc (.cells (List.toArray [.int .i64 Q.vId, .int .i64 Q.vNode, (.slice p2 Q.vFields.length d2)]) 73)).alloc (.cells (List.toArray [.int .i64 0, .string ByteArray.empty, .int .i64 0, .slice none 0 0, .int .i64 0, .slice none 0 0]) 69)) := hbk.alloc (by simp) _
        have hbk3 : Below _ (wr.alloc (.cells (List.toArray [.int .i64 Q.vId, .int .i64 Q.vNode, (.slice p2 Q.vFields.length d2)]) 73)) ((wr.alloc (.cells (List.toArray [.int .i64 Q.vId, .int .i64 Q.vNode, (.slice p2 Q.vFields.length d2)]) 73)).alloc (.cells (List.toArray [.int .i64 0, .string ByteArray.empty, .int .i64 0, .slice none 0 0, .int .i64 0, .slice none 0 0]) 69)) := (Below.refl _ _).alloc (Nat.le_refl _) _
        have bR3 := bR2'.out.alloc (.cells (List.toArray [.int .i64 0, .string ByteArray.empty, .int .i64 0, .slice none 0 0, .int .i64 0, .slice none 0 0]) 69)
        have bO3 := bO'.out.alloc (.cells (List.toArray [.int .i64 0, .string ByteArray.empty, .int .i64 0, .slice none 0 0, .int .i64 0, .slice none 0 0]) 69)
        have r0 := bR3.cell 0 rfl
        have r1 := bR3.cell 1 rfl
        have rf := bR3.unfrozen
        have o0 := bO3.cell 0 rfl
        have o1 := bO3.cell 1 rfl
        have o2 := bO3.cell 2 rfl
        have hN := cell_on hbk3 hN0.out
        have xk1 := cell_on hbk3 x1.out
        have bR3' : Hid (Box ((wr.alloc (.cells (List.toArray [.int .i64 Q.vId, .int .i64 Q.vNode, (.slice p2 Q.vFields.length d2)]) 73)).alloc (.cells (List.toArray [.int .i64 0, .string ByteArray.empty, .int .i64 0, .slice none 0 0, .int .i64 0, .slice none 0 0]) 69)) (w.heap.size + 1) [.map none, .map none] 86) := bR3
        clear hg bR3 bO3 hmn
        by_cases q1 : LN < Q.vId
        rotate_left
        · have HF : Hid (idxB h = false) := by show _ = _; rw [HB2.out, hrem.out, hstep.out]; simp [q1]
          have q1' : Q.vId ≤ LN := by omega
          clear q1
          go_wp2_with fail
          have e0 := (Box.set (i := 0) bR3'.out (.map none)).cell 0 rfl
          have e1 := (Box.set (i := 1) (Box.set (i := 0) bR3'.out (.map none)) (.map none)).cell 1 rfl
          refine bodyPost_ret (v := .tuple #[.agg #[.map none, .map none], .bool false]) (by simp [results, Try.results50, go_sem, e0, e1]) rfl ?_
          exact ⟨Or.inl ⟨HF.out, rfl⟩, ((hbwk.alloc hbwk.size _).setCell (by simp) _).setCell (by simp) _⟩
        have q1' : decide (Q.vId ≤ LN) = false := by simp; omega
        by_cases q2 : Q.vId < h.vNext
        rotate_left
        · have HF : Hid (idxB h = false) := by show _ = _; rw [HB2.out, hrem.out, hstep.out]; simp [q2]
          have q2' : h.vNext ≤ Q.vId := by omega
          clear q1 q2
          go_wp2_with fail
          have e0 := (Box.set (i := 0) bR3'.out (.map none)).cell 0 rfl
          have e1 := (Box.set (i := 1) (Box.set (i := 0) bR3'.out (.map none)) (.map none)).cell 1 rfl
          refine bodyPost_ret (v := .tuple #[.agg #[.map none, .map none], .bool false]) (by simp [results, Try.results50, go_sem, e0, e1]) rfl ?_
          exact ⟨Or.inl ⟨HF.out, rfl⟩, ((hbwk.alloc hbwk.size _).setCell (by simp) _).setCell (by simp) _⟩
        have q2' : decide (h.vNext ≤ Q.vId) = false := by simp; omega
        have HO : Hid (idxOB h 0 h.vObjs = idxOB h (lastI ObjD.vId h.vObjs (m + 1)) (h.vObjs.drop (m + 1))) := by show _ = _; rw [hrem.out, hstep.out]; simp [q1, q2, hg'.out]
        obtain ⟨es, clock, he, hen⟩ := st.out.2.2.2
        have he' := (hbk2.block _ (by omega)).trans he
        have hrun := run_put2 he' hen Try.underlying84 Q.vId (.agg (List.toArray [.int .i64 Q.vId, .int .i64 Q.vNode, (.slice p2 Q.vFields.length d2)])) (hfr.out q1)
        have nk : (putEnt ((wr.alloc (.cells (List.toArray [.int .i64 Q.vId, .int .i64 Q.vNode, (.slice p2 Q.vFields.length d2)]) 73)).alloc (.cells (List.toArray [.int .i64 0, .string ByteArray.empty, .int .i64 0, .slice none 0 0, .int .i64 0, .slice none 0 0]) 69)) (w.heap.size + 1 + 1 + 1) es clock Q.vId (.agg (List.toArray [.int .i64 Q.vId, .int .i64 Q.vNode, (.slice p2 Q.vFields.length d2)]))).cell? ⟨wr.heap.size, 0, none⟩ = some (.int .i64 Q.vId) := Box.cell ((putEnt_other (by omega)).trans (bO'.out.alloc _)) 0 rfl
        have hup' : Hid _ := hsu.out q1
        have hst' : Hid _ := hput.out es clock _ hbk2 he'
        clear q1 q2 he he' hen hfr hsu hput
        go_wp2_with fail
        go_roundw
        case rel => exact ⟨m + 1, by omega, by go_num, by rw [hlast.out], hst', hup', HO⟩
        case measure => simp [intOf]; omega
      have HT : Hid (idxB h = true) := by show _ = _; rw [HB2.out, hrem.out]; exact idxOB_end hlt
      have stE : Hid (IxSt w0 w (((((w.alloc (.cells (List.toArray [.int .i64 h.vNext, .int .i64 h.vDoc, .slice a2 h.vNodes.length cap2, .slice a3 h.vObjs.length cap3, .slice a4 h.vGlobals.length cap4]) 43)).alloc (.cells (List.toArray [.map none, .map none]) 86)).alloc (.map #[] 0)).alloc (.map #[] 0)).alloc (.cells (List.toArray [.map (some (w.heap.size + 1 + 1)), .map (some (w.heap.size + 1 + 1 + 1))]) 86)) wr lo h h.vNodes.length h.vObjs.length) := (show m = h.vObjs.length by omega) ▸ st.out
      have r0 := bR1.cell 0 rfl
      have r1 := bR1.cell 1 rfl
      have rf := bR1.unfrozen
      have xe0 := bX1.cell 0 rfl
      have xe1 := bX1.cell 1 rfl
      have bR1' : Hid (Box wr (w.heap.size + 1) [.map none, .map none] 86) := bR1
      clear bH1 bR1 bX1 st hup hrem HB2
      go_wp2_with fail
      have e0 := (Box.set (i := 0) bR1'.out (.map (some (w.heap.size + 1 + 1)))).cell 0 rfl
      have e1 := (Box.set (i := 1) (Box.set (i := 0) bR1'.out (.map (some (w.heap.size + 1 + 1)))) (.map (some (w.heap.size + 1 + 1 + 1)))).cell 1 rfl
      refine bodyPost_ret (v := .tuple #[.agg #[.map (some (w.heap.size + 1 + 1)), .map (some (w.heap.size + 1 + 1 + 1))], .bool true]) (by simp [results, Try.results50, go_sem, e0, e1]) rfl ?_
      have hbe : Below w.heap.size w ((wr.setCell ⟨(w.heap.size + 1), 0, none⟩ (.map (some (w.heap.size + 1 + 1)))).setCell ⟨(w.heap.size + 1), 1, none⟩ (.map (some (w.heap.size + 1 + 1 + 1)))) := (hbw.setCell (by simp) _).setCell (by simp) _
      obtain ⟨_, _, ⟨es1, k1, m1, m2⟩, es2, k2, m3, m4⟩ := stE.out
      rw [List.take_length] at m2 m4
      exact ⟨Or.inr ⟨HT.out, _, _, rfl, ⟨es1, k1, (set_other (by omega) _).trans ((set_other (by omega) _).trans m1), m2⟩, es2, k2, (set_other (by omega) _).trans ((set_other (by omega) _).trans m3), m4⟩, hbe⟩
end Go.Proofs.Ytbodeijffpepfaa
