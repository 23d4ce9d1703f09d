/- The program's HeapOk, walked. -/
import Derived.Test.YtdnembnlomnceaaGreatImplOne
import Derived.Test.YtdnembnlomnceaaGreatHeapSmall
import Derived.Test.YtdnembnlomnceaaGreatHeapMore
import Derived.Test.YtdnembnlomnceaaGreatAbb
namespace Go.Proofs.YtdnembnlomnceaaGreat
open Go.RowKit
set_option maxHeartbeats 800000 in
theorem rootOk_any {w : World} {lo bn bo : Nat} {h : HeapD} {id : Int} (hm : IdxAt w lo bn bo h) :
 Calls Tryz.prog 79 #[.agg #[.map (some bn), .map (some bo)], .int .i64 id] w fun e w' => e = .returned (.bool (rootB h id)) ∧ Below w.heap.size w w' := by
 have hb0 : Below w.heap.size w (w.alloc (.cells (List.toArray [.map (some bn), .map (some bo)]) 79)) := (Below.refl _ _).alloc (Nat.le_refl _) _
 rcases run_look (hm.1.below NodeAt_stays hb0) Tryz.underlying76 zeroN id with ⟨hg, hrun⟩ | ⟨y, cy, hg, hrun, hy⟩
 · have HF : Hid (rootB h id = false) := by show _ = _; have hg' : nodeAt h id = none := hg; simp [rootB, hg']
   clear hg
   go_enter Tryz.func79, Tryz.ntmps79
   go_wp2_with fail
   go_ret
   exact ⟨ret_bool HF.out.symm, hb0.alloc (by simp) _⟩
 obtain ⟨g3, g5, rfl, v3, v5, _⟩ := hy
 obtain ⟨p3, c3, rfl⟩ := v3.form
 obtain ⟨p5, c5, rfl⟩ := v5.form
 clear v3 v5
 have hg' : nodeAt h id = some y := hg
 by_cases he : y.vParent = 0
 · have he' : (y.vParent == 0) = true := by simpa using he
   have HF : Hid (rootB h id = true) := by show _ = _; simp [rootB, hg', he]
   clear hg hg' he
   go_enter Tryz.func79, Tryz.ntmps79
   go_wp2_with fail
   go_ret
   exact ⟨ret_bool HF.out.symm, hb0.alloc (by simp) _⟩
 · have he' : (y.vParent == 0) = false := by simpa using he
   have HF : Hid (rootB h id = false) := by show _ = _; simp [rootB, hg', he]
   clear hg hg' he
   go_enter Tryz.func79, Tryz.ntmps79
   go_wp2_with fail
   go_ret
   exact ⟨ret_bool HF.out.symm, hb0.alloc (by simp) _⟩
set_option maxHeartbeats 800000 in
theorem listenersOk_any {w : World} {lo : Nat} {k : Value} {xs : List ListenerD} (hk : SeqAt 5 ListenerAt w lo k xs) :
 Calls Tryz.prog 103 #[k] w fun e w' => e = .returned (.bool (decide (xs.length ≤ 4) && lissB xs)) ∧ Below w.heap.size w w' := by
 obtain ⟨a, cap, rfl, hm, hx⟩ := hk
 unfold maxLen at hm
 have hx' : Hid _ := hx
 clear hx
 by_cases h4 : xs.length ≤ 4
 rotate_left
 · have HF : Hid ((decide (xs.length ≤ 4) && lissB xs) = false) := by show _ = _; simp [h4]
   have hq : (4 : Int) < (xs.length : Int) := by omega
   go_enter Tryz.func103, Tryz.ntmps103
   go_wp2_with fail
   go_ret
   exact ⟨ret_bool HF.out.symm, Below.refl _ _⟩
 have hq : decide ((4 : Int) < (xs.length : Int)) = false := by simp; omega
 have HB : Hid ((decide (xs.length ≤ 4) && lissB xs) = lissB xs) := by show _ = _; simp [h4]
 have h4' : Hid _ := h4
 clear h4
 go_enter Tryz.func103, Tryz.ntmps103
 go_wp2_with fail
 go_loopw [10] (fun i wr => ∃ (j : Nat), j ≤ xs.length ∧ i = .int .i64 j ∧ Hid (Below w.heap.size w wr) ∧ Hid (lissB xs = lissB (xs.drop j))) (fun i _ => xs.length - (intOf i).toNat)
 case atStart => exact ⟨0, by omega, rfl, Below.refl _ _, rfl⟩
 case round =>
  obtain ⟨j, hj, rfl, hbr, hrem⟩ := hrel
  by_cases hlt : j < xs.length
  · obtain ⟨b, off, rfl, hlo, hbw2, hc⟩ := hx'.out (by omega)
    obtain ⟨cs, hcl, lie, hr⟩ := hc j hlt
    have lie1 := Lie.keep (lo := lo) (lo' := lo) lie (.of_below hbr.out) hlo hbw2
    generalize hX0 : xs[j] = X at hr
    have hX : Hid _ := hX0
    have hr3 : Hid (ListenerAt w lo cs X) := hr
    obtain ⟨rfl, _⟩ := hr
    have z0 := lie_at lie1 0 rfl
    have z1 := lie_at lie1 1 rfl
    have z2 := lie_at lie1 2 rfl
    have z3 := lie_at lie1 3 rfl
    have z4 := lie_at lie1 4 rfl
    simp only [Nat.add_zero] at z0
    clear lie lie1 hcl hc hX0 hx'
    have hb1 : Below w.heap.size w (wr.alloc (.cells (List.toArray [.string X.vType, .bool X.vCapture, .bool X.vOnce, .int .i64 X.vStop, .string X.vName]) 89)) := hbr.out.alloc hbr.out.size _
    go_wp2_with fail
    refine (listenerOk_any (ListenerAt_stays _ _ _ lo _ _ (.of_below hb1) hr3.out)).mono ?_
    rintro e w2 ⟨rfl, hb2⟩
    have hb3 : Below w.heap.size w w2 := hb1.trans (hb2.mono hb1.size)
    cases hq : lisB X
    · have HF : Hid (lissB xs = false) := by show _ = _; rw [hrem.out, lissB_no hlt (by rw [hX.out]; exact hq)]
      clear hq
      go_wp2_with fail
      go_ret
      exact ⟨ret_bool (by rw [HB.out, HF.out]), hb3⟩
    · have HO : Hid _ := lissB_on hlt (by rw [hX.out]; exact hq)
      clear hq
      go_wp2_with fail
      go_roundw
      case rel => exact ⟨j + 1, by omega, by go_num, hb3, by show _ = _; rw [hrem.out, HO.out]⟩
      case measure => simp [intOf]; omega
  · have H2 : Hid _ := lissB_end hlt
    go_wp2_with fail
    go_ret
    exact ⟨ret_bool (by rw [HB.out, hrem.out, H2.out]), hbr.out⟩
set_option maxRecDepth 100000 in
set_option maxHeartbeats 1600000 in
theorem kidsOk_any {w : World} {lo bn bo : Nat} {cs : List Value} {h : HeapD} {x : NodeD} (hm : IdxAt w lo bn bo h) (hx : NodeAt w lo cs x) :
 Calls Tryz.prog 99 #[.agg #[.map (some bn), .map (some bo)], .agg cs.toArray] w fun e w' => e = .returned (.bool (kidsB h x)) ∧ Below w.heap.size w w' := by
 obtain ⟨q3, q5, rfl, u3, u5, _⟩ := hx
 obtain ⟨a5, c5, rfl⟩ := u5.form
 have u3' : Hid (SeqAt 1 IntAt w lo q3 x.vKids) := u3
 obtain ⟨a3, c3, rfl, hm3, hx3⟩ := u3
 unfold maxLen at hm3
 have hx3' : Hid _ := hx3
 clear hx3 u5
 have hb0 : Below w.heap.size w ((w.alloc (.cells (List.toArray [.map (some bn), .map (some bo)]) 79)).alloc (.cells (List.toArray (cNd x a3 c3 a5 c5)) 73)) := ((Below.refl _ _).alloc (Nat.le_refl _) _).alloc (by simp) _
 have bX : Hid (Box ((w.alloc (.cells (List.toArray [.map (some bn), .map (some bo)]) 79)).alloc (.cells (List.toArray (cNd x a3 c3 a5 c5)) 73)) w.heap.size [.map (some bn), .map (some bo)] 79) := (Box.new w [.map (some bn), .map (some bo)] 79).alloc _
 have bN : Hid (Box ((w.alloc (.cells (List.toArray [.map (some bn), .map (some bo)]) 79)).alloc (.cells (List.toArray (cNd x a3 c3 a5 c5)) 73)) (w.heap.size + 1) (cNd x a3 c3 a5 c5) 73) := by have hb := Box.new (w.alloc (.cells (List.toArray [.map (some bn), .map (some bo)]) 79)) (cNd x a3 c3 a5 c5) 73; rwa [show ((w.alloc (.cells (List.toArray [.map (some bn), .map (some bo)]) 79))).heap.size = w.heap.size + 1 by simp] at hb
 have hm' : Hid (IdxAt w lo bn bo h) := hm
 clear hm
 go_enter Tryz.func99, Tryz.ntmps99
 go_wp2_with fail
 go_loopw [12] (fun i wr => ∃ (j : Nat), j ≤ x.vKids.length ∧ i = .int .i64 j ∧ Hid (Below (w.heap.size + 2) ((w.alloc (.cells (List.toArray [.map (some bn), .map (some bo)]) 79)).alloc (.cells (List.toArray (cNd x a3 c3 a5 c5)) 73)) wr) ∧ Hid (kidsB h x = kidsF h x.vId (x.vKids.take j) (x.vKids.drop j))) (fun i _ => x.vKids.length - (intOf i).toNat)
 case atStart => exact ⟨0, by omega, rfl, Below.refl _ _, rfl⟩
 case round =>
  obtain ⟨j, hj, rfl, hbr, hrem⟩ := hrel
  by_cases hlt : j < x.vKids.length
  · have hbw : Below w.heap.size w wr := hb0.trans (hbr.out.mono (by omega))
    have bX1 := bX.out.below hbr.out (by omega)
    have bN1 := bN.out.below hbr.out (by omega)
    obtain ⟨b, off, rfl, hlo, hbw2, hc⟩ := hx3'.out (by omega)
    obtain ⟨cs, hcl, lie, hr⟩ := hc j hlt
    have lie1 := Lie.keep (lo := lo) (lo' := lo) lie (.of_below hbw) hlo hbw2
    have hstep : Hid _ := kidsF_step (h := h) (id := x.vId) hlt
    generalize hK0 : x.vKids[j] = K at hr hstep
    obtain ⟨rfl, hI⟩ := hr
    have z0 := lie_at lie1 0 rfl
    simp only [Nat.add_zero, Nat.mul_one] at z0
    have x0 := bX1.cell 0 rfl
    have n0 := bN1.cell 0 rfl
    have n3 := bN1.cell 3 rfl
    have hcon : Hid (SeqAt 1 IntAt w lo (.slice (some ⟨b, off, none⟩) x.vKids.length c3) x.vKids) := u3'.out
    clear lie lie1 hcl hc hK0 bX1 bN1
    rcases run_look ((hm'.out.below hbw).1) Tryz.underlying76 zeroN K with ⟨hg, hrun⟩ | ⟨y, cy, hg, hrun, hy⟩
    · have hg' : nodeAt h K = none := hg
      have HF : Hid (kidsB h x = false) := by show _ = _; rw [hrem.out, hstep.out]; simp [kidB, hg']
      clear hg hg'
      go_wp2_with fail
      go_ret
      exact ⟨ret_bool HF.out.symm, hbw.alloc hbw.size _⟩
    have hg' : nodeAt h K = some y := hg
    obtain ⟨g3, g5, rfl, v3, v5, _⟩ := hy
    obtain ⟨p3, d3, rfl⟩ := v3.form
    obtain ⟨p5, d5, rfl⟩ := v5.form
    clear v3 v5
    have hbk : Below wr.heap.size wr (wr.alloc (.cells (List.toArray (cNd y p3 d3 p5 d5)) 73)) := (Below.refl _ _).alloc (Nat.le_refl _) _
    have n0k := cell_on hbk n0
    have n3k := cell_on hbk n3
    by_cases hp : y.vParent = x.vId
    rotate_left
    · have hp' : (y.vParent != x.vId) = true := by simpa using hp
      have HF : Hid (kidsB h x = false) := by show _ = _; rw [hrem.out, hstep.out]; simp [kidB, hg', hp]
      clear hp hg hg'
      go_wp2_with fail
      go_ret
      exact ⟨ret_bool HF.out.symm, hbw.alloc hbw.size _⟩
    have hp' : (y.vParent != x.vId) = false := by simpa using hp
    have HK : Hid (kidsB h x = (!hasB (x.vKids.take j) K && kidsF h x.vId (x.vKids.take (j + 1)) (x.vKids.drop (j + 1)))) := by show _ = _; rw [hrem.out, hstep.out]; simp [kidB, hg', hp]
    clear hp hg hg'
    go_wp2_with fail
    refine (slContains_any (((SeqAt.take hcon.out j hj).below intAt_stays hbw).below intAt_stays hbk)).mono ?_
    rintro e w1 ⟨rfl, rfl⟩
    cases hq : hasB (x.vKids.take j) K
    · have HO : Hid _ := HK.out
      rw [hq] at HO
      clear hq
      go_wp2_with fail
      go_roundw
      case rel => exact ⟨j + 1, by omega, by go_num, hbr.out.alloc (by have := hbr.out.size; simp at this; omega) _, by show _ = _; rw [HO.out]; rfl⟩
      case measure => simp [intOf]; omega
    · have HF : Hid (kidsB h x = false) := by show _ = _; rw [HK.out, hq]; rfl
      clear hq
      go_wp2_with fail
      go_ret
      exact ⟨ret_bool HF.out.symm, hbw.alloc hbw.size _⟩
  · have H2 : Hid _ := kidsF_end (h := h) (id := x.vId) hlt
    have hbw : Below w.heap.size w wr := hb0.trans (hbr.out.mono (by omega))
    go_wp2_with fail
    go_ret
    exact ⟨ret_bool (by rw [hrem.out, H2.out]), hbw⟩
set_option maxRecDepth 100000 in
set_option maxHeartbeats 1600000 in
theorem endsAbove_any {w : World} {lo bn bo : Nat} {cs : List Value} {h : HeapD} {x : NodeD} (hlen : h.vNodes.length ≤ 9223372036854775807) (hm : IdxAt w lo bn bo h) (hx : NodeAt w lo cs x) :
 Calls Tryz.prog 101 #[.agg #[.map (some bn), .map (some bo)], .agg cs.toArray] w fun e w' => e = .returned (.bool (endF h h.vNodes.length x)) ∧ Below w.heap.size w w' := by
 obtain ⟨q3, q5, rfl, u3, u5, _⟩ := hx
 obtain ⟨a3, c3, rfl⟩ := u3.form
 obtain ⟨a5, c5, rfl⟩ := u5.form
 clear u3 u5
 have hb0 : Below w.heap.size w ((w.alloc (.cells (List.toArray [.map (some bn), .map (some bo)]) 79)).alloc (.cells (List.toArray (cNd x a3 c3 a5 c5)) 73)) := ((Below.refl _ _).alloc (Nat.le_refl _) _).alloc (by simp) _
 have bX : Hid (Box ((w.alloc (.cells (List.toArray [.map (some bn), .map (some bo)]) 79)).alloc (.cells (List.toArray (cNd x a3 c3 a5 c5)) 73)) w.heap.size [.map (some bn), .map (some bo)] 79) := (Box.new w [.map (some bn), .map (some bo)] 79).alloc _
 have bN : Hid (Box ((w.alloc (.cells (List.toArray [.map (some bn), .map (some bo)]) 79)).alloc (.cells (List.toArray (cNd x a3 c3 a5 c5)) 73)) (w.heap.size + 1) (cNd x a3 c3 a5 c5) 73) := by have hb := Box.new (w.alloc (.cells (List.toArray [.map (some bn), .map (some bo)]) 79)) (cNd x a3 c3 a5 c5) 73; rwa [show ((w.alloc (.cells (List.toArray [.map (some bn), .map (some bo)]) 79))).heap.size = w.heap.size + 1 by simp] at hb
 have hm' : Hid (IdxAt w lo bn bo h) := hm
 obtain ⟨es, clock, hes, hents⟩ := (hm.below hb0).1
 have hel : es.size = h.vNodes.length := by have := ents_length _ _ hents; simpa using this
 have hlr : Sem.run Tryz.prog (Builtin.len_ #[76] 3 #[.map (some bn)]) ((w.alloc (.cells (List.toArray [.map (some bn), .map (some bo)]) 79)).alloc (.cells (List.toArray (cNd x a3 c3 a5 c5)) 73)) = .ok (.int .i64 (h.vNodes.length : Int)) ((w.alloc (.cells (List.toArray [.map (some bn), .map (some bo)]) 79)).alloc (.cells (List.toArray (cNd x a3 c3 a5 c5)) 73)) := by
  rw [← hel]; simp [Builtin.len_, run_underlying Tryz.underlying76, MapKept.run_getObj_map hes, goInt]
 clear hm hes hents hel
 go_enter Tryz.func101, Tryz.ntmps101
 go_wp2_with fail
 go_loopw [10] (fun i wr => ∃ (j : Nat) (Y : NodeD) (r3 r5 : Option Addr) (e3 e5 : Nat), j ≤ h.vNodes.length ∧ i = .int .i64 j ∧ Hid (Below (w.heap.size + 1) ((w.alloc (.cells (List.toArray [.map (some bn), .map (some bo)]) 79)).alloc (.cells (List.toArray (cNd x a3 c3 a5 c5)) 73)) wr) ∧ Hid (Box wr (w.heap.size + 1) (cNd Y r3 e3 r5 e5) 73) ∧ Hid (endF h h.vNodes.length x = endF h (h.vNodes.length - j) Y)) (fun i _ => h.vNodes.length - (intOf i).toNat)
 case atStart => exact ⟨0, x, a3, a5, c3, c5, by omega, rfl, Below.refl _ _, bN.out, rfl⟩
 case round =>
  obtain ⟨j, Y, r3, r5, e3, e5, hj, rfl, hbr, hbox, hrem⟩ := hrel
  have hbw : Below w.heap.size w wr := hb0.trans (hbr.out.mono (by omega))
  by_cases hlt : j < h.vNodes.length
  · have bX1 := bX.out.below hbr.out (by omega)
    have x0 := bX1.cell 0 rfl
    have n2 := hbox.out.cell 2 rfl
    by_cases h0 : Y.vParent = 0
    · have h0' : (Y.vParent == 0) = true := by simpa using h0
      have HF : Hid (endF h h.vNodes.length x = true) := by show _ = _; rw [hrem.out]; exact endF_root (by omega) h0
      clear h0
      go_wp2_with fail
      go_ret
      exact ⟨ret_bool HF.out.symm, hbw⟩
    have h0' : (Y.vParent == 0) = false := by simpa using h0
    rcases run_look ((hm'.out.below hbw).1) Tryz.underlying76 zeroN Y.vParent with ⟨hg, hrun⟩ | ⟨y, cy, hg, hrun, hy⟩
    · have HF : Hid (endF h h.vNodes.length x = false) := by show _ = _; rw [hrem.out]; exact endF_none h0 hg
      clear h0 hg
      go_wp2_with fail
      go_ret
      exact ⟨ret_bool HF.out.symm, hbw.alloc hbw.size _⟩
    obtain ⟨g3, g5, rfl, v3, v5, _⟩ := hy
    obtain ⟨p3, d3, rfl⟩ := v3.form
    obtain ⟨p5, d5, rfl⟩ := v5.form
    clear v3 v5
    have HK : Hid (endF h h.vNodes.length x = endF h (h.vNodes.length - (j + 1)) y) := by show _ = _; rw [hrem.out, show h.vNodes.length - j = h.vNodes.length - (j + 1) + 1 by omega]; exact endF_up h0 hg
    clear h0 hg
    have hbs : w.heap.size + 2 ≤ wr.heap.size := by have := hbr.out.size; simpa using this
    have bK := hbox.out.alloc (.cells (List.toArray (cNd y p3 d3 p5 d5)) 73)
    have k0 := bK.cell 0 rfl
    have k1 := bK.cell 1 rfl
    have k2 := bK.cell 2 rfl
    have k3 := bK.cell 3 rfl
    have k4 := bK.cell 4 rfl
    have k5 := bK.cell 5 rfl
    have kf := bK.unfrozen
    have bK' : Hid (Box (wr.alloc (.cells (List.toArray (cNd y p3 d3 p5 d5)) 73)) (w.heap.size + 1) (cNd Y r3 e3 r5 e5) 73) := bK
    clear bK
    go_wp2_with fail
    go_roundw
    case rel =>
     refine ⟨j + 1, y, p3, p5, d3, d5, by omega, by go_num, putCells_below (cNd y p3 d3 p5 d5) (w.heap.size + 1) _ _ (w.heap.size + 1) 0 (Nat.le_refl _) (hbr.out.alloc (by omega) _), ?_, HK⟩
     exact (((((bK'.out.set (i := 0) _).set (i := 1) _).set (i := 2) _).set (i := 3) _).set (i := 4) _).set (i := 5) _
    case measure => simp [intOf]; omega
  · have HF : Hid (endF h h.vNodes.length x = false) := by show _ = _; rw [hrem.out, show h.vNodes.length - j = 0 by omega]; rfl
    go_wp2_with fail
    go_ret
    exact ⟨ret_bool HF.out.symm, hbw⟩
set_option maxRecDepth 100000 in
set_option maxHeartbeats 1600000 in
theorem nodeOk_any {w : World} {lo bn bo : Nat} {cs : List Value} {h : HeapD} {x : NodeD} (hlen : h.vNodes.length ≤ 9223372036854775807) (hm : IdxAt w lo bn bo h) (hx : NodeAt w lo cs x) :
 Calls Tryz.prog 76 #[.agg #[.map (some bn), .map (some bo)], .agg cs.toArray] w fun e w' => e = .returned (.bool (nodeI h x)) ∧ Below w.heap.size w w' := by
 have hx' : Hid (NodeAt w lo cs x) := hx
 obtain ⟨q3, q5, rfl, u3, u5, _, rTag, _⟩ := hx
 have u5' : Hid (SeqAt 5 ListenerAt w lo q5 x.vListeners) := u5
 obtain ⟨a3, c3, rfl⟩ := u3.form
 obtain ⟨a5, c5, rfl⟩ := u5.form
 clear u3 u5
 have hb0 : Below w.heap.size w ((w.alloc (.cells (List.toArray [.map (some bn), .map (some bo)]) 79)).alloc (.cells (List.toArray (cNd x a3 c3 a5 c5)) 73)) := ((Below.refl _ _).alloc (Nat.le_refl _) _).alloc (by simp) _
 have bX : Hid (Box ((w.alloc (.cells (List.toArray [.map (some bn), .map (some bo)]) 79)).alloc (.cells (List.toArray (cNd x a3 c3 a5 c5)) 73)) w.heap.size [.map (some bn), .map (some bo)] 79) := (Box.new w [.map (some bn), .map (some bo)] 79).alloc _
 have bN : Hid (Box ((w.alloc (.cells (List.toArray [.map (some bn), .map (some bo)]) 79)).alloc (.cells (List.toArray (cNd x a3 c3 a5 c5)) 73)) (w.heap.size + 1) (cNd x a3 c3 a5 c5) 73) := by have hb := Box.new (w.alloc (.cells (List.toArray [.map (some bn), .map (some bo)]) 79)) (cNd x a3 c3 a5 c5) 73; rwa [show ((w.alloc (.cells (List.toArray [.map (some bn), .map (some bo)]) 79))).heap.size = w.heap.size + 1 by simp] at hb
 have hm' : Hid (IdxAt w lo bn bo h) := hm
 have rTag' : Hid (x.vTag.size ≤ maxLen) := rTag
 clear hm rTag
 go_enter Tryz.func76, Tryz.ntmps76
 go_wp2_with fail
 refine (implNameOk_any _ _ rTag'.out).mono ?_
 rintro e w1 ⟨rfl, rfl⟩
 cases hq : nameB x.vTag.data.toList
 · have HF : Hid (nodeI h x = false) := by show _ = _; simp [nodeI, nmB, hq]
   clear hq
   go_wp2_with fail
   go_ret
   exact ⟨ret_bool HF.out.symm, hb0⟩
 have H0 : Hid (nmB x.vTag = true) := hq
 clear hq
 have hbr0 : Below (w.heap.size + 2) ((w.alloc (.cells (List.toArray [.map (some bn), .map (some bo)]) 79)).alloc (.cells (List.toArray (cNd x a3 c3 a5 c5)) 73)) ((w.alloc (.cells (List.toArray [.map (some bn), .map (some bo)]) 79)).alloc (.cells (List.toArray (cNd x a3 c3 a5 c5)) 73)) := Below.refl _ _
 have hbw0 : Below w.heap.size w ((w.alloc (.cells (List.toArray [.map (some bn), .map (some bo)]) 79)).alloc (.cells (List.toArray (cNd x a3 c3 a5 c5)) 73)) := hb0.trans (hbr0.mono (by omega))
 go_wp2_with fail
 refine (kidsOk_any (hm'.out.below hbw0) (NodeAt_stays _ _ _ lo _ _ (.of_below hbw0) hx'.out)).mono ?_
 rintro e v0 ⟨rfl, hc0⟩
 cases hq : kidsB h x
 · have HF : Hid (nodeI h x = false) := by show _ = _; simp [nodeI, hq]
   have hbe : Below w.heap.size w v0 := hbw0.trans (hc0.mono hbw0.size)
   clear hq
   go_wp2_with fail
   go_ret
   exact ⟨ret_bool HF.out.symm, hbe⟩
 have H1 : Hid (kidsB h x = true) := hq
 have hbr1 : Below (w.heap.size + 2) ((w.alloc (.cells (List.toArray [.map (some bn), .map (some bo)]) 79)).alloc (.cells (List.toArray (cNd x a3 c3 a5 c5)) 73)) v0 := hbr0.trans (hc0.mono (by simp))
 clear hq
 have hbw1 : Below w.heap.size w v0 := hb0.trans (hbr1.mono (by omega))
 have bX1 := bX.out.below hbr1 (by omega)
 have bN1 := bN.out.below hbr1 (by omega)
 have x0_1 := bX1.cell 0 rfl
 have x1_1 := bX1.cell 1 rfl
 have n0_1 := bN1.cell 0 rfl
 have n1_1 := bN1.cell 1 rfl
 have n2_1 := bN1.cell 2 rfl
 have n3_1 := bN1.cell 3 rfl
 have n4_1 := bN1.cell 4 rfl
 have n5_1 := bN1.cell 5 rfl
 clear bX1 bN1
 go_wp2_with fail
 refine (parentOk_any (hm'.out.below hbw1) (NodeAt_stays _ _ _ lo _ _ (.of_below hbw1) hx'.out)).mono ?_
 rintro e v1 ⟨rfl, hc1⟩
 cases hq : parB h x
 · have HF : Hid (nodeI h x = false) := by show _ = _; simp [nodeI, hq]
   have hbe : Below w.heap.size w v1 := hbw1.trans (hc1.mono hbw1.size)
   clear hq
   go_wp2_with fail
   go_ret
   exact ⟨ret_bool HF.out.symm, hbe⟩
 have H2 : Hid (parB h x = true) := hq
 have hbr2 : Below (w.heap.size + 2) ((w.alloc (.cells (List.toArray [.map (some bn), .map (some bo)]) 79)).alloc (.cells (List.toArray (cNd x a3 c3 a5 c5)) 73)) v1 := hbr1.trans (hc1.mono (by have := hbr1.size; simpa using this))
 clear hq x0_1 x1_1 n0_1 n1_1 n2_1 n3_1 n4_1 n5_1
 have hbw2 : Below w.heap.size w v1 := hb0.trans (hbr2.mono (by omega))
 have bX2 := bX.out.below hbr2 (by omega)
 have bN2 := bN.out.below hbr2 (by omega)
 have x0_2 := bX2.cell 0 rfl
 have x1_2 := bX2.cell 1 rfl
 have n0_2 := bN2.cell 0 rfl
 have n1_2 := bN2.cell 1 rfl
 have n2_2 := bN2.cell 2 rfl
 have n3_2 := bN2.cell 3 rfl
 have n4_2 := bN2.cell 4 rfl
 have n5_2 := bN2.cell 5 rfl
 clear bX2 bN2
 go_wp2_with fail
 refine (endsAbove_any hlen (hm'.out.below hbw2) (NodeAt_stays _ _ _ lo _ _ (.of_below hbw2) hx'.out)).mono ?_
 rintro e v2 ⟨rfl, hc2⟩
 cases hq : endF h h.vNodes.length x
 · have HF : Hid (nodeI h x = false) := by show _ = _; simp [nodeI, hq]
   have hbe : Below w.heap.size w v2 := hbw2.trans (hc2.mono hbw2.size)
   clear hq
   go_wp2_with fail
   go_ret
   exact ⟨ret_bool HF.out.symm, hbe⟩
 have H3 : Hid (endF h h.vNodes.length x = true) := hq
 have hbr3 : Below (w.heap.size + 2) ((w.alloc (.cells (List.toArray [.map (some bn), .map (some bo)]) 79)).alloc (.cells (List.toArray (cNd x a3 c3 a5 c5)) 73)) v2 := hbr2.trans (hc2.mono (by have := hbr2.size; simpa using this))
 clear hq x0_2 x1_2 n0_2 n1_2 n2_2 n3_2 n4_2 n5_2
 have hbw3 : Below w.heap.size w v2 := hb0.trans (hbr3.mono (by omega))
 have bX3 := bX.out.below hbr3 (by omega)
 have bN3 := bN.out.below hbr3 (by omega)
 have x0_3 := bX3.cell 0 rfl
 have x1_3 := bX3.cell 1 rfl
 have n0_3 := bN3.cell 0 rfl
 have n1_3 := bN3.cell 1 rfl
 have n2_3 := bN3.cell 2 rfl
 have n3_3 := bN3.cell 3 rfl
 have n4_3 := bN3.cell 4 rfl
 have n5_3 := bN3.cell 5 rfl
 clear bX3 bN3
 go_wp2_with fail
 refine (wrapperOk_any (hm'.out.below hbw3) (NodeAt_stays _ _ _ lo _ _ (.of_below hbw3) hx'.out)).mono ?_
 rintro e v3 ⟨rfl, hc3⟩
 cases hq : wrapB h x
 · have HF : Hid (nodeI h x = false) := by show _ = _; simp [nodeI, hq]
   have hbe : Below w.heap.size w v3 := hbw3.trans (hc3.mono hbw3.size)
   clear hq
   go_wp2_with fail
   go_ret
   exact ⟨ret_bool HF.out.symm, hbe⟩
 have H4 : Hid (wrapB h x = true) := hq
 have hbr4 : Below (w.heap.size + 2) ((w.alloc (.cells (List.toArray [.map (some bn), .map (some bo)]) 79)).alloc (.cells (List.toArray (cNd x a3 c3 a5 c5)) 73)) v3 := hbr3.trans (hc3.mono (by have := hbr3.size; simpa using this))
 clear hq x0_3 x1_3 n0_3 n1_3 n2_3 n3_3 n4_3 n5_3
 have hbw4 : Below w.heap.size w v3 := hb0.trans (hbr4.mono (by omega))
 have bN4 := bN.out.below hbr4 (by omega)
 have n5_4 := bN4.cell 5 rfl
 clear bN4
 go_wp2_with fail
 refine (listenersOk_any (u5'.out.below ListenerAt_stays hbw4)).mono ?_
 rintro e v4 ⟨rfl, hc4⟩
 have HF : Hid (nodeI h x = (decide (x.vListeners.length ≤ 4) && lissB x.vListeners)) := by show _ = _; rw [nodeI, H0.out, H1.out, H2.out, H3.out, H4.out]; rfl
 have hbe : Below w.heap.size w v4 := hbw4.trans (hc4.mono hbw4.size)
 go_wp2_with fail
 go_ret
 exact ⟨ret_bool HF.out.symm, hbe⟩
set_option maxRecDepth 100000 in
set_option maxHeartbeats 1600000 in
theorem fieldsOk_any {w : World} {lo bn bo : Nat} {k : Value} {h : HeapD} {xs : List FieldD} {most : Int} (hm : IdxAt w lo bn bo h) (hk : SeqAt 2 FieldAt w lo k xs) :
 Calls Tryz.prog 78 #[.agg #[.map (some bn), .map (some bo)], k, .int .i64 most] w fun e w' => e = .returned (.bool (fieldsI h xs most)) ∧ Below w.heap.size w w' := by
 obtain ⟨a, cap, rfl, hml, hx⟩ := hk
 unfold maxLen at hml
 have hx' : Hid _ := hx
 clear hx
 have hb0 : Below w.heap.size w (w.alloc (.cells (List.toArray [.map (some bn), .map (some bo)]) 79)) := (Below.refl _ _).alloc (Nat.le_refl _) _
 have bX : Hid (Box (w.alloc (.cells (List.toArray [.map (some bn), .map (some bo)]) 79)) w.heap.size [.map (some bn), .map (some bo)] 79) := Box.new w [.map (some bn), .map (some bo)] 79
 have hm' : Hid (IdxAt w lo bn bo h) := hm
 clear hm
 by_cases hle : (xs.length : Int) ≤ most
 rotate_left
 · have HF : Hid (fieldsI h xs most = false) := by show _ = _; simp [fieldsI, hle]
   have hq : most < (xs.length : Int) := by omega
   go_enter Tryz.func78, Tryz.ntmps78
   go_wp2_with fail
   go_ret
   exact ⟨ret_bool HF.out.symm, hb0⟩
 have hq : decide (most < (xs.length : Int)) = false := by simp; omega
 have HB : Hid (fieldsI h xs most = fldsI h ⟨#[]⟩ xs) := by show _ = _; simp [fieldsI, hle]
 have hle' : Hid _ := hle
 clear hle
 go_enter Tryz.func78, Tryz.ntmps78
 go_wp2_with fail
 go_loopw [7, 18] (fun z i wr => ∃ (j : Nat), j ≤ xs.length ∧ i = .int .i64 j ∧ z = .string (lastN xs j) ∧ Hid (Below (w.heap.size + 1) (w.alloc (.cells (List.toArray [.map (some bn), .map (some bo)]) 79)) wr) ∧ Hid (fldsI h ⟨#[]⟩ xs = fldsI h (lastN xs j) (xs.drop j))) (fun _ i _ => xs.length - (intOf i).toNat)
 case atStart => exact ⟨0, by omega, rfl, rfl, Below.refl _ _, rfl⟩
 case round =>
  obtain ⟨j, hj, rfl, rfl, hbr, hrem⟩ := hrel
  have hbw : Below w.heap.size w wr := hb0.trans (hbr.out.mono (by omega))
  by_cases hlt : j < xs.length
  · have bX1 := bX.out.below hbr.out (by omega)
    obtain ⟨b, off, rfl, hlo, hbw2, hc⟩ := hx'.out (by omega)
    obtain ⟨cs, hcl, lie, hr⟩ := hc j hlt
    have lie1 := Lie.keep (lo := lo) (lo' := lo) lie (.of_below hbw) hlo hbw2
    have hstep : Hid _ := fldsI_step (h := h) hlt
    have hlast : Hid _ := lastN_succ hlt
    generalize hQ0 : xs[j] = Q at hr hstep hlast
    obtain ⟨rfl, rName, rObj, _⟩ := hr
    have rName' : Hid (Q.vName.size ≤ maxLen) := rName
    have z0 := lie_at lie1 0 rfl
    have z1 := lie_at lie1 1 rfl
    simp only [Nat.add_zero] at z0
    have hbk : Below wr.heap.size wr (wr.alloc (.cells (List.toArray [.string Q.vName, .int .i64 Q.vObj]) 118)) := (Below.refl _ _).alloc (Nat.le_refl _) _
    have hbwk : Below w.heap.size w (wr.alloc (.cells (List.toArray [.string Q.vName, .int .i64 Q.vObj]) 118)) := hbw.alloc hbw.size _
    have x1k := cell_on hbk (bX1.cell 1 rfl)
    clear lie lie1 hcl hc hQ0 bX1 rName
    generalize hL : lastN xs j = LN at *
    clear hL
    rcases run_look ((hm'.out.below hbwk).2) Tryz.underlying77 zeroO Q.vObj with ⟨hg, hrun⟩ | ⟨y, cy, hg, hrun, hy⟩
    · have hg' : objAt h Q.vObj = none := hg
      have HF : Hid (fieldsI h xs most = false) := by show _ = _; rw [HB.out, hrem.out, hstep.out]; simp [hg']
      clear hg hg'
      go_wp2_with fail
      go_ret
      exact ⟨ret_bool HF.out.symm, hbwk.alloc hbwk.size _⟩
    have hg' : objAt h Q.vObj = some y := hg
    obtain ⟨g2, rfl, v2, _⟩ := hy
    obtain ⟨p2, d2, rfl⟩ := v2.form
    clear v2
    have bF := Box.new wr [.string Q.vName, .int .i64 Q.vObj] 118
    have bF2 := bF.alloc (.cells (List.toArray (cOb y p2 d2)) 75)
    have f0 := bF2.cell 0 rfl
    clear bF bF2
    go_wp2_with fail
    refine (implNameOk_any _ _ rName'.out).mono ?_
    rintro e w1 ⟨rfl, rfl⟩
    cases hn : nameB Q.vName.data.toList
    · have HF : Hid (fieldsI h xs most = false) := by show _ = _; rw [HB.out, hrem.out, hstep.out]; simp [nmB, hn]
      clear hg hg' hn
      go_wp2_with fail
      go_ret
      exact ⟨ret_bool HF.out.symm, hbwk.alloc hbwk.size _⟩
    cases hls : leS Q.vName LN
    rotate_left
    · have HF : Hid (fieldsI h xs most = false) := by show _ = _; rw [HB.out, hrem.out, hstep.out]; simp [hls]
      have hls2 : (Op.bytesLess Q.vName.toList LN.toList || Q.vName.toList == LN.toList) = true := hls
      clear hg hg' hn hls
      go_wp2_with fail
      go_ret
      exact ⟨ret_bool HF.out.symm, hbwk.alloc hbwk.size _⟩
    have HO : Hid (fldsI h ⟨#[]⟩ xs = fldsI h (lastN xs (j + 1)) (xs.drop (j + 1))) := by show _ = _; rw [hrem.out, hstep.out]; simp [hg', nmB, hn, hls]
    have hls2 : (Op.bytesLess Q.vName.toList LN.toList || Q.vName.toList == LN.toList) = false := hls
    clear hg hg' hn hls
    go_wp2_with fail
    go_roundw
    case rel => exact ⟨j + 1, by omega, by go_num, by rw [hlast.out], (hbr.out.alloc (by have := hbr.out.size; simp at this; omega) _).alloc (by have := hbr.out.size; simp at this ⊢; omega) _, HO⟩
    case measure => simp [intOf]; omega
  · have H2 : Hid _ := fldsI_end (h := h) hlt
    go_wp2_with fail
    go_ret
    exact ⟨ret_bool (by rw [HB.out, hrem.out, H2.out]), hbw⟩
set_option maxRecDepth 100000 in
set_option maxHeartbeats 1600000 in
theorem objOk_any {w : World} {lo bn bo : Nat} {cs : List Value} {h : HeapD} {x : ObjD} (hm : IdxAt w lo bn bo h) (hx : ObjAt w lo cs x) :
 Calls Tryz.prog 77 #[.agg #[.map (some bn), .map (some bo)], .agg cs.toArray] w fun e w' => e = .returned (.bool (objI h x)) ∧ Below w.heap.size w w' := by
 have hx' : Hid (ObjAt w lo cs x) := hx
 obtain ⟨q2, rfl, u2, _⟩ := hx
 have u2' : Hid (SeqAt 2 FieldAt w lo q2 x.vFields) := u2
 obtain ⟨a2, c2, rfl⟩ := u2.form
 clear u2
 have hb0 : Below w.heap.size w ((w.alloc (.cells (List.toArray [.map (some bn), .map (some bo)]) 79)).alloc (.cells (List.toArray (cOb x a2 c2)) 75)) := ((Below.refl _ _).alloc (Nat.le_refl _) _).alloc (by simp) _
 have bX : Hid (Box ((w.alloc (.cells (List.toArray [.map (some bn), .map (some bo)]) 79)).alloc (.cells (List.toArray (cOb x a2 c2)) 75)) w.heap.size [.map (some bn), .map (some bo)] 79) := (Box.new w [.map (some bn), .map (some bo)] 79).alloc _
 have bN : Hid (Box ((w.alloc (.cells (List.toArray [.map (some bn), .map (some bo)]) 79)).alloc (.cells (List.toArray (cOb x a2 c2)) 75)) (w.heap.size + 1) (cOb x a2 c2) 75) := by have hb := Box.new (w.alloc (.cells (List.toArray [.map (some bn), .map (some bo)]) 79)) (cOb x a2 c2) 75; rwa [show ((w.alloc (.cells (List.toArray [.map (some bn), .map (some bo)]) 79))).heap.size = w.heap.size + 1 by simp] at hb
 have hm' : Hid (IdxAt w lo bn bo h) := hm
 clear hm
 go_enter Tryz.func77, Tryz.ntmps77
 go_wp2_with fail
 refine (wrappedOk_any (hm'.out.below hb0) (ObjAt_stays _ _ _ lo _ _ (.of_below hb0) hx'.out)).mono ?_
 rintro e v0 ⟨rfl, hc0⟩
 have hbr1 : Below (w.heap.size + 2) ((w.alloc (.cells (List.toArray [.map (some bn), .map (some bo)]) 79)).alloc (.cells (List.toArray (cOb x a2 c2)) 75)) v0 := hc0.mono (by simp)
 have hbw1 : Below w.heap.size w v0 := hb0.trans (hbr1.mono (by omega))
 cases hq : oNodeB h x
 · have HF : Hid (objI h x = false) := by show _ = _; simp [objI, hq]
   clear hq
   go_wp2_with fail
   go_ret
   exact ⟨ret_bool HF.out.symm, hbw1⟩
 have HF : Hid (objI h x = fieldsI h x.vFields 5) := by show _ = _; simp [objI, hq]
 clear hq
 have bX1 := bX.out.below hbr1 (by omega)
 have bN1 := bN.out.below hbr1 (by omega)
 have x0 := bX1.cell 0 rfl
 have x1 := bX1.cell 1 rfl
 have n2 := bN1.cell 2 rfl
 clear bX1 bN1
 go_wp2_with fail
 refine (fieldsOk_any (hm'.out.below hbw1) (u2'.out.below FieldAt_stays hbw1)).mono ?_
 rintro e v1 ⟨rfl, hc1⟩
 have hbe : Below w.heap.size w v1 := hbw1.trans (hc1.mono hbw1.size)
 go_wp2_with fail
 go_ret
 exact ⟨ret_bool HF.out.symm, hbe⟩
end Go.Proofs.YtdnembnlomnceaaGreat
namespace Go.Proofs.YtdnembnlomnceaaGreat
open Go.RowKit
/-- an index, its records told in another world -/
def IdxIn (w0 w : World) (lo bn bo : Nat) (h : HeapD) : Prop :=
 (∃ es clock, w.heap[bn]? = some (.map es clock) ∧ Ents NodeD.vId NodeAt w0 lo es.toList h.vNodes) ∧
 (∃ es clock, w.heap[bo]? = some (.map es clock) ∧ Ents ObjD.vId ObjAt w0 lo es.toList h.vObjs)
theorem IdxIn.here {w0 w : World} {lo bn bo : Nat} {h : HeapD} (hi : IdxIn w0 w lo bn bo h) (hb : Below w0.heap.size w0 w) : IdxAt w lo bn bo h := by
 obtain ⟨⟨es, c, h1, h2⟩, es', c', h3, h4⟩ := hi
 exact ⟨⟨es, c, h1, Ents.keep NodeAt_stays (.of_below hb) _ _ h2⟩, es', c', h3, Ents.keep ObjAt_stays (.of_below hb) _ _ h4⟩
theorem IdxIn.on {w0 w w' : World} {lo bn bo : Nat} {h : HeapD} (hi : IdxIn w0 w lo bn bo h) (hb : Below w.heap.size w w') : IdxIn w0 w' lo bn bo h := by
 obtain ⟨⟨es, c, h1, h2⟩, es', c', h3, h4⟩ := hi
 have l1 : bn < w.heap.size := (Array.getElem?_eq_some_iff.1 h1).1
 have l3 : bo < w.heap.size := (Array.getElem?_eq_some_iff.1 h3).1
 exact ⟨⟨es, c, (hb.block _ l1).trans h1, h2⟩, es', c', (hb.block _ l3).trans h3, h4⟩
theorem IdxIn.set {w0 w : World} {lo bn bo g i : Nat} {h : HeapD} {cs : List Value} {T : TypeId} (hi : IdxIn w0 w lo bn bo h) (hb : Box w g cs T) (v : Value) : IdxIn w0 (w.setCell ⟨g, i, none⟩ v) lo bn bo h := by
 obtain ⟨⟨es, c, h1, h2⟩, es', c', h3, h4⟩ := hi
 have n1 : bn ≠ g := by intro e; subst e; unfold Box at hb; rw [h1] at hb; cases hb
 have n3 : bo ≠ g := by intro e; subst e; unfold Box at hb; rw [h3] at hb; cases hb
 exact ⟨⟨es, c, (set_other n1 v).trans h1, h2⟩, es', c', (set_other n3 v).trans h3, h4⟩
/-- a new entry, its elders told in another world -/
theorem run_put2 {α : Type} {f : α → Int} {R : World → Nat → List Value → α → Prop} {w w0 : World} {lo b : Nat} {xs : List α} {M E : TypeId} {es : Array MapEntry} {clock : Nat} (h1 : w.heap[b]? = some (.map es clock)) (h2 : Ents f R w0 lo es.toList xs) (hT : Tryz.prog.underlying M = some (.map 2 E)) (id : Int) (v : Value) (hn : getI f xs id = none) :
 (Instr.mapUpdate M (.map (some b)) (.int .i64 id) v).run Tryz.prog w = .ok () (putEnt w b es clock id v) := by
 have hc : ∀ e, (Instr.checkKey e 10000 2 (.int .i64 id)).run Tryz.prog w = .ok () w := fun e => MapKept.run_checkKey (k := .int .i64 id) Tryz.underlying2 (by simp [MapKept.IsKey]) e 9999
 rcases find_ents (id := id) es.toList xs 0 h2 with ⟨g1, g2⟩ | ⟨x, i', cs, g1, _, _⟩
 · simp [Instr.mapUpdate, run_underlying hT, MapKept.run_getObj_map h1, hc, MapKept.run_findKey Tryz.underlying2 g2, MapKept.run_setObj_map _ h1, Result.andThen, putEnt]
 · rw [hn] at g1; cases g1
/-- where the making of the index stands: j nodes and m objects are in -/
def IxSt (w0 w W wr : World) (lo : Nat) (h : HeapD) (j m : Nat) : Prop :=
 Below (w.heap.size + 2) W wr ∧ Box wr (w.heap.size + 1 + 1 + 1 + 1) [.map (some (w.heap.size + 1 + 1)), .map (some (w.heap.size + 1 + 1 + 1))] 79 ∧
 (∃ es clock, wr.heap[(w.heap.size + 1 + 1)]? = some (.map es clock) ∧ Ents NodeD.vId NodeAt w0 lo es.toList (h.vNodes.take j)) ∧
 (∃ es clock, wr.heap[(w.heap.size + 1 + 1 + 1)]? = some (.map es clock) ∧ Ents ObjD.vId ObjAt w0 lo es.toList (h.vObjs.take m))
theorem IxSt.on {w0 w W wr w' : World} {lo : Nat} {h : HeapD} {j m : Nat} (st : IxSt w0 w W wr lo h j m) (hb : Below wr.heap.size wr w') : IxSt w0 w W w' lo h j m := by
 obtain ⟨h1, h2, ⟨es, c, h3, h4⟩, es', c', h5, h6⟩ := st
 have l2 := h2.lt
 exact ⟨h1.trans (hb.mono (by omega)), h2.below hb l2, ⟨es, c, (hb.block _ (by omega)).trans h3, h4⟩, es', c', (hb.block _ (by omega)).trans h5, h6⟩
theorem IxSt.putN {w0 w W wr : World} {lo : Nat} {h : HeapD} {j m : Nat} {es : Array MapEntry} {clock : Nat} {cs : List Value} {v : Value} (st : IxSt w0 w W wr lo h j m) (he : wr.heap[(w.heap.size + 1 + 1)]? = some (.map es clock)) (hj : j < h.vNodes.length) (hv : v = .agg cs.toArray) (hr : NodeAt w0 lo cs h.vNodes[j]) :
 IxSt w0 w W (putEnt wr (w.heap.size + 1 + 1) es clock h.vNodes[j].vId v) lo h (j + 1) m := by
 obtain ⟨h1, h2, ⟨es0, c0, h3, h4⟩, es', c', h5, h6⟩ := st
 have l2 := h2.lt
 rw [he] at h3
 injection h3 with h3
 injection h3 with e1 e2
 subst e1 e2
 refine ⟨putEnt_below h1 (by omega), (putEnt_other (by omega)).trans h2, ⟨_, _, putEnt_at (by omega), ?_⟩, es', c', (putEnt_other (by omega)).trans h5, h6⟩
 rw [List.take_succ_eq_append_getElem hj, Array.toList_push]
 exact ents_snoc rfl ⟨cs, hv, hr⟩ _ _ h4
theorem IxSt.putO {w0 w W wr : World} {lo : Nat} {h : HeapD} {j m : Nat} {es : Array MapEntry} {clock : Nat} {cs : List Value} {v : Value} (st : IxSt w0 w W wr lo h j m) (he : wr.heap[(w.heap.size + 1 + 1 + 1)]? = some (.map es clock)) (hj : m < h.vObjs.length) (hv : v = .agg cs.toArray) (hr : ObjAt w0 lo cs h.vObjs[m]) :
 IxSt w0 w W (putEnt wr (w.heap.size + 1 + 1 + 1) es clock h.vObjs[m].vId v) lo h j (m + 1) := by
 obtain ⟨h1, h2, ⟨es', c', h5, h6⟩, es0, c0, h3, h4⟩ := st
 have l2 := h2.lt
 rw [he] at h3
 injection h3 with h3
 injection h3 with e1 e2
 subst e1 e2
 refine ⟨putEnt_below h1 (by omega), (putEnt_other (by omega)).trans h2, ⟨es', c', (putEnt_other (by omega)).trans h5, h6⟩, _, _, putEnt_at (by omega), ?_⟩
 rw [List.take_succ_eq_append_getElem hj, Array.toList_push]
 exact ents_snoc rfl ⟨cs, hv, hr⟩ _ _ h4
set_option maxRecDepth 100000 in
set_option maxHeartbeats 3200000 in
theorem indexOf_any {w0 w : World} {lo : Nat} {cs : List Value} {h : HeapD} (hh : HeapAt w0 lo cs h) (h00 : Below w0.heap.size w0 w) :
 Calls Tryz.prog 75 #[.agg cs.toArray] w fun e w' => ((idxB h = false ∧ e = .returned (.tuple #[.agg #[.map none, .map none], .bool false])) ∨ (idxB h = true ∧ ∃ bn bo, e = .returned (.tuple #[.agg #[.map (some bn), .map (some bo)], .bool true]) ∧ IdxIn w0 w' lo bn bo h)) ∧ Below w.heap.size w w' := by
 obtain ⟨k2, k3, k4, rfl, s2, s3, s4, rNext, rDoc, _⟩ := hh
 obtain ⟨a4, cap4, rfl⟩ := s4.form
 obtain ⟨a2, cap2, rfl, hm2, hx2⟩ := s2
 obtain ⟨a3, cap3, rfl, hm3, hx3⟩ := s3
 unfold maxLen at hm2 hm3
 have hx2' : Hid _ := hx2
 have hx3' : Hid _ := hx3
 clear hx2 hx3 s4 rNext rDoc
 have hb1 : Below w.heap.size w ((w.alloc (.cells (List.toArray (cHp h a2 cap2 a3 cap3 a4 cap4)) 28)).alloc (.cells (List.toArray [.map none, .map none]) 79)) := ((Below.refl _ _).alloc (Nat.le_refl _) _).alloc (by simp) _
 by_cases c1 : 1 ≤ h.vNext
 rotate_left
 · have HF : Hid (idxB h = false) := by show _ = _; simp [idxB, c1]
   have c1' : h.vNext < 1 := by omega
   clear c1
   go_enter Tryz.func75, Tryz.ntmps75
   go_wp2_with fail
   refine bodyPost_ret (v := .tuple #[.agg #[.map none, .map none], .bool false]) (by simp [results, Tryz.results75, go_sem]) rfl ?_
   exact ⟨Or.inl ⟨HF.out, rfl⟩, hb1⟩
 have c1' : decide (h.vNext < 1) = false := by simp; omega
 by_cases c2 : h.vNext ≤ 1000000000
 rotate_left
 · have HF : Hid (idxB h = false) := by show _ = _; simp [idxB, c2]
   have c2' : (1000000000 : Int) < h.vNext := by omega
   clear c2
   go_enter Tryz.func75, Tryz.ntmps75
   go_wp2_with fail
   refine bodyPost_ret (v := .tuple #[.agg #[.map none, .map none], .bool false]) (by simp [results, Tryz.results75, go_sem]) rfl ?_
   exact ⟨Or.inl ⟨HF.out, rfl⟩, hb1⟩
 have c2' : decide ((1000000000 : Int) < h.vNext) = false := by simp; omega
 by_cases c3 : h.vNodes.length ≤ 16
 rotate_left
 · have HF : Hid (idxB h = false) := by show _ = _; simp [idxB, c3]
   have c3' : (16 : Int) < (h.vNodes.length : Int) := by omega
   clear c3
   go_enter Tryz.func75, Tryz.ntmps75
   go_wp2_with fail
   refine bodyPost_ret (v := .tuple #[.agg #[.map none, .map none], .bool false]) (by simp [results, Tryz.results75, go_sem]) rfl ?_
   exact ⟨Or.inl ⟨HF.out, rfl⟩, hb1⟩
 have c3' : decide ((16 : Int) < (h.vNodes.length : Int)) = false := by simp; omega
 by_cases c4 : h.vObjs.length ≤ 16
 rotate_left
 · have HF : Hid (idxB h = false) := by show _ = _; simp [idxB, c4]
   have c4' : (16 : Int) < (h.vObjs.length : Int) := by omega
   clear c4
   go_enter Tryz.func75, Tryz.ntmps75
   go_wp2_with fail
   refine bodyPost_ret (v := .tuple #[.agg #[.map none, .map none], .bool false]) (by simp [results, Tryz.results75, go_sem]) rfl ?_
   exact ⟨Or.inl ⟨HF.out, rfl⟩, hb1⟩
 have c4' : decide ((16 : Int) < (h.vObjs.length : Int)) = false := by simp; omega
 have HB : Hid (idxB h = (idxNB h 0 h.vNodes && idxOB h 0 h.vObjs)) := by show _ = _; simp [idxB, c1, c2, c3, c4]
 have hmk : ∀ t u, Sem.run Tryz.prog (Instr.makeMap t none) u = .ok (.map (some u.heap.size)) (u.alloc (.map #[] 0)) := by intro t u; simp [Instr.makeMap]
 have hbB : Below w.heap.size w (((((w.alloc (.cells (List.toArray (cHp h a2 cap2 a3 cap3 a4 cap4)) 28)).alloc (.cells (List.toArray [.map none, .map none]) 79)).alloc (.map #[] 0)).alloc (.map #[] 0)).alloc (.cells (List.toArray [.map (some (w.heap.size + 1 + 1)), .map (some (w.heap.size + 1 + 1 + 1))]) 79)) := ((hb1.alloc (by simp; omega) _).alloc (by simp; omega) _).alloc (by simp; omega) _
 have bH : Hid (Box (((((w.alloc (.cells (List.toArray (cHp h a2 cap2 a3 cap3 a4 cap4)) 28)).alloc (.cells (List.toArray [.map none, .map none]) 79)).alloc (.map #[] 0)).alloc (.map #[] 0)).alloc (.cells (List.toArray [.map (some (w.heap.size + 1 + 1)), .map (some (w.heap.size + 1 + 1 + 1))]) 79)) w.heap.size (cHp h a2 cap2 a3 cap3 a4 cap4) 28) := ((((Box.new w (cHp h a2 cap2 a3 cap3 a4 cap4) 28).alloc _).alloc _).alloc _).alloc _
 have bR : Hid (Box (((((w.alloc (.cells (List.toArray (cHp h a2 cap2 a3 cap3 a4 cap4)) 28)).alloc (.cells (List.toArray [.map none, .map none]) 79)).alloc (.map #[] 0)).alloc (.map #[] 0)).alloc (.cells (List.toArray [.map (some (w.heap.size + 1 + 1)), .map (some (w.heap.size + 1 + 1 + 1))]) 79)) (w.heap.size + 1) [.map none, .map none] 79) := by have hb := (((Box.new (w.alloc (.cells (List.toArray (cHp h a2 cap2 a3 cap3 a4 cap4)) 28)) [.map none, .map none] 79).alloc (.map #[] 0)).alloc (.map #[] 0)).alloc (.cells (List.toArray [.map (some (w.heap.size + 1 + 1)), .map (some (w.heap.size + 1 + 1 + 1))]) 79); rwa [show ((w.alloc (.cells (List.toArray (cHp h a2 cap2 a3 cap3 a4 cap4)) 28))).heap.size = (w.heap.size + 1) by simp] at hb
 have st0 : Hid (IxSt w0 w (((((w.alloc (.cells (List.toArray (cHp h a2 cap2 a3 cap3 a4 cap4)) 28)).alloc (.cells (List.toArray [.map none, .map none]) 79)).alloc (.map #[] 0)).alloc (.map #[] 0)).alloc (.cells (List.toArray [.map (some (w.heap.size + 1 + 1)), .map (some (w.heap.size + 1 + 1 + 1))]) 79)) (((((w.alloc (.cells (List.toArray (cHp h a2 cap2 a3 cap3 a4 cap4)) 28)).alloc (.cells (List.toArray [.map none, .map none]) 79)).alloc (.map #[] 0)).alloc (.map #[] 0)).alloc (.cells (List.toArray [.map (some (w.heap.size + 1 + 1)), .map (some (w.heap.size + 1 + 1 + 1))]) 79)) lo h 0 0) := by
  have e3 : ((((w.alloc (.cells (List.toArray (cHp h a2 cap2 a3 cap3 a4 cap4)) 28)).alloc (.cells (List.toArray [.map none, .map none]) 79)).alloc (.map #[] 0))).heap.size = (w.heap.size + 1 + 1 + 1) := by simp
  have e2 : (((w.alloc (.cells (List.toArray (cHp h a2 cap2 a3 cap3 a4 cap4)) 28)).alloc (.cells (List.toArray [.map none, .map none]) 79))).heap.size = (w.heap.size + 1 + 1) := by simp
  have e4 : (((((w.alloc (.cells (List.toArray (cHp h a2 cap2 a3 cap3 a4 cap4)) 28)).alloc (.cells (List.toArray [.map none, .map none]) 79)).alloc (.map #[] 0)).alloc (.map #[] 0))).heap.size = (w.heap.size + 1 + 1 + 1 + 1) := by simp
  refine ⟨Below.refl _ _, ?_, ⟨#[], 0, ?_, trivial⟩, #[], 0, ?_, trivial⟩
  · have hb := Box.new ((((w.alloc (.cells (List.toArray (cHp h a2 cap2 a3 cap3 a4 cap4)) 28)).alloc (.cells (List.toArray [.map none, .map none]) 79)).alloc (.map #[] 0)).alloc (.map #[] 0)) [.map (some (w.heap.size + 1 + 1)), .map (some (w.heap.size + 1 + 1 + 1))] 79
    rwa [e4] at hb
  · rw [Below.heap_alloc _ _ _ (by simp), Below.heap_alloc _ _ _ (by simp)]
    have hb := (MapKept.heap_alloc ((w.alloc (.cells (List.toArray (cHp h a2 cap2 a3 cap3 a4 cap4)) 28)).alloc (.cells (List.toArray [.map none, .map none]) 79)) (.map #[] 0)).1
    rwa [e2] at hb
  · rw [Below.heap_alloc _ _ _ (by simp)]
    have hb := (MapKept.heap_alloc (((w.alloc (.cells (List.toArray (cHp h a2 cap2 a3 cap3 a4 cap4)) 28)).alloc (.cells (List.toArray [.map none, .map none]) 79)).alloc (.map #[] 0)) (.map #[] 0)).1
    rwa [e3] at hb
 have c34 : Hid (h.vNodes.length ≤ 16 ∧ h.vObjs.length ≤ 16) := ⟨c3, c4⟩
 clear c1 c2 c3 c4
 go_enter Tryz.func75, Tryz.ntmps75
 go_wp2_with fail
 go_loopw [5, 39] (fun z i wr => ∃ (j : Nat), j ≤ h.vNodes.length ∧ i = .int .i64 j ∧ z = .int .i64 (lastI NodeD.vId h.vNodes j) ∧ Hid (IxSt w0 w (((((w.alloc (.cells (List.toArray (cHp h a2 cap2 a3 cap3 a4 cap4)) 28)).alloc (.cells (List.toArray [.map none, .map none]) 79)).alloc (.map #[] 0)).alloc (.map #[] 0)).alloc (.cells (List.toArray [.map (some (w.heap.size + 1 + 1)), .map (some (w.heap.size + 1 + 1 + 1))]) 79)) wr lo h j 0) ∧ Hid (UpTo NodeD.vId h.vNodes j) ∧ Hid (idxNB h 0 h.vNodes = idxNB h (lastI NodeD.vId h.vNodes j) (h.vNodes.drop j))) (fun _ i _ => h.vNodes.length - (intOf i).toNat)
 case atStart => exact ⟨0, by omega, rfl, rfl, st0, UpTo.zero, rfl⟩
 case round =>
  obtain ⟨j, hj, rfl, rfl, st, hup, hrem⟩ := hrel
  have hbw : Below w.heap.size w wr := hbB.trans (st.out.1.mono (by omega))
  have bH1 := bH.out.below st.out.1 (by omega)
  have bR1 := bR.out.below st.out.1 (by omega)
  have bX1 := st.out.2.1
  have hsz : w.heap.size + 5 ≤ wr.heap.size := by have := bX1.lt; omega
  by_cases hlt : j < h.vNodes.length
  · obtain ⟨b, off, rfl, hlo, hbw2, hc⟩ := hx2'.out (by omega)
    obtain ⟨cs, hcl, lie, hr⟩ := hc j hlt
    have lie1 := Lie.keep (lo := lo) (lo' := lo) lie (.of_below (h00.trans (hbw.mono h00.size))) hlo hbw2
    have hstep : Hid _ := idxNB_step (h := h) hlt
    have hlast : Hid _ := lastI_succ (f := NodeD.vId) hlt
    have hfr : Hid _ := hup.out.fresh hlt
    have hsu : Hid _ := hup.out.succ hlt
    have hput : Hid _ := fun (es : Array MapEntry) (clock : Nat) (W : World) (hW : Below wr.heap.size wr W) (he : W.heap[(w.heap.size + 1 + 1)]? = some (.map es clock)) => (st.out.on hW).putN (v := .agg cs.toArray) he hlt rfl hr
    generalize hQ0 : h.vNodes[j] = Q at hr hstep hlast hfr hsu hput
    obtain ⟨g3, g5, rfl, v3, v5, _⟩ := hr
    obtain ⟨p3, d3, rfl⟩ := v3.form
    obtain ⟨p5, d5, rfl⟩ := v5.form
    have z0 := lie_at lie1 0 rfl
    have z1 := lie_at lie1 1 rfl
    have z2 := lie_at lie1 2 rfl
    have z3 := lie_at lie1 3 rfl
    have z4 := lie_at lie1 4 rfl
    have z5 := lie_at lie1 5 rfl
    simp only [Nat.add_zero] at z0
    have hbk : Below wr.heap.size wr (wr.alloc (.cells (List.toArray (cNd Q p3 d3 p5 d5)) 73)) := (Below.refl _ _).alloc (Nat.le_refl _) _
    have hbwk : Below w.heap.size w (wr.alloc (.cells (List.toArray (cNd Q p3 d3 p5 d5)) 73)) := hbw.alloc hbw.size _
    have bR2 := bR1.alloc (.cells (List.toArray (cNd Q p3 d3 p5 d5)) 73)
    have r0 := bR2.cell 0 rfl
    have r1 := bR2.cell 1 rfl
    have rf := bR2.unfrozen
    have bR2' : Hid (Box (wr.alloc (.cells (List.toArray (cNd Q p3 d3 p5 d5)) 73)) (w.heap.size + 1) [.map none, .map none] 79) := bR2
    have hN := cell_on hbk (bH1.cell 0 rfl)
    have x0 := cell_on hbk (bX1.cell 0 rfl)
    clear lie lie1 hcl hc hQ0 bH1 bR1 bR2 bX1 v3 v5
    generalize hL : lastI NodeD.vId h.vNodes j = LN at *
    clear hL
    by_cases q1 : LN < Q.vId
    rotate_left
    · have HF : Hid (idxB h = false) := by show _ = _; rw [HB.out, hrem.out, hstep.out]; simp [q1]
      have q1' : Q.vId ≤ LN := by omega
      clear q1
      go_wp2_with fail
      have e0 := (Box.set (i := 0) bR2'.out (.map none)).cell 0 rfl
      have e1 := (Box.set (i := 1) (Box.set (i := 0) bR2'.out (.map none)) (.map none)).cell 1 rfl
      refine bodyPost_ret (v := .tuple #[.agg #[.map none, .map none], .bool false]) (by simp [results, Tryz.results75, go_sem, e0, e1]) rfl ?_
      exact ⟨Or.inl ⟨HF.out, rfl⟩, (hbwk.setCell (by simp) _).setCell (by simp) _⟩
    have q1' : decide (Q.vId ≤ LN) = false := by simp; omega
    by_cases q2 : Q.vId < h.vNext
    rotate_left
    · have HF : Hid (idxB h = false) := by show _ = _; rw [HB.out, hrem.out, hstep.out]; simp [q2]
      have q2' : h.vNext ≤ Q.vId := by omega
      clear q1 q2
      go_wp2_with fail
      have e0 := (Box.set (i := 0) bR2'.out (.map none)).cell 0 rfl
      have e1 := (Box.set (i := 1) (Box.set (i := 0) bR2'.out (.map none)) (.map none)).cell 1 rfl
      refine bodyPost_ret (v := .tuple #[.agg #[.map none, .map none], .bool false]) (by simp [results, Tryz.results75, go_sem, e0, e1]) rfl ?_
      exact ⟨Or.inl ⟨HF.out, rfl⟩, (hbwk.setCell (by simp) _).setCell (by simp) _⟩
    have q2' : decide (h.vNext ≤ Q.vId) = false := by simp; omega
    have HO : Hid (idxNB h 0 h.vNodes = idxNB h (lastI NodeD.vId h.vNodes (j + 1)) (h.vNodes.drop (j + 1))) := by show _ = _; rw [hrem.out, hstep.out]; simp [q1, q2]
    obtain ⟨es, clock, he, hen⟩ := st.out.2.2.1
    have he' := (hbk.block _ (by omega)).trans he
    have hrun := run_put2 he' hen Tryz.underlying76 Q.vId (.agg (List.toArray (cNd Q p3 d3 p5 d5))) (hfr.out q1)
    have nk : (putEnt (wr.alloc (.cells (List.toArray (cNd Q p3 d3 p5 d5)) 73)) (w.heap.size + 1 + 1) es clock Q.vId (.agg (List.toArray (cNd Q p3 d3 p5 d5)))).cell? ⟨wr.heap.size, 0, none⟩ = some (.int .i64 Q.vId) := Box.cell ((putEnt_other (by omega)).trans (Box.new wr (cNd Q p3 d3 p5 d5) 73)) 0 rfl
    have hup' : Hid _ := hsu.out q1
    have hst' : Hid _ := hput.out es clock _ hbk he'
    clear q1 q2 he he' hen hfr hsu hput
    go_wp2_with fail
    go_roundw
    case rel => exact ⟨j + 1, by omega, by go_num, by rw [hlast.out], hst', hup', HO⟩
    case measure => simp [intOf]; omega
  have HN : Hid (idxNB h 0 h.vNodes = true) := by show _ = _; rw [hrem.out]; exact idxNB_end hlt
  have HB2 : Hid (idxB h = idxOB h 0 h.vObjs) := by show _ = _; rw [HB.out, HN.out]; rfl
  have stL : Hid (IxSt w0 w (((((w.alloc (.cells (List.toArray (cHp h a2 cap2 a3 cap3 a4 cap4)) 28)).alloc (.cells (List.toArray [.map none, .map none]) 79)).alloc (.map #[] 0)).alloc (.map #[] 0)).alloc (.cells (List.toArray [.map (some (w.heap.size + 1 + 1)), .map (some (w.heap.size + 1 + 1 + 1))]) 79)) wr lo h h.vNodes.length 0) := (show j = h.vNodes.length by omega) ▸ st.out
  have hc3 := bH1.cell 3 rfl
  clear bH1 bR1 bX1 st hup hrem HN HB hx2'
  go_wp2_with fail
  go_loopw [5, 66] (fun z i wr => ∃ (j : Nat), j ≤ h.vObjs.length ∧ i = .int .i64 j ∧ z = .int .i64 (lastI ObjD.vId h.vObjs j) ∧ Hid (IxSt w0 w (((((w.alloc (.cells (List.toArray (cHp h a2 cap2 a3 cap3 a4 cap4)) 28)).alloc (.cells (List.toArray [.map none, .map none]) 79)).alloc (.map #[] 0)).alloc (.map #[] 0)).alloc (.cells (List.toArray [.map (some (w.heap.size + 1 + 1)), .map (some (w.heap.size + 1 + 1 + 1))]) 79)) wr lo h h.vNodes.length j) ∧ Hid (UpTo ObjD.vId h.vObjs j) ∧ Hid (idxOB h 0 h.vObjs = idxOB h (lastI ObjD.vId h.vObjs j) (h.vObjs.drop j))) (fun _ i _ => h.vObjs.length - (intOf i).toNat)
  case atStart => exact ⟨0, by omega, rfl, rfl, stL, UpTo.zero, rfl⟩
  case round =>
   clear hbw hsz stL
   obtain ⟨m, hm, rfl, rfl, st, hup, hrem⟩ := hrel
   have hbw : Below w.heap.size w wr := hbB.trans (st.out.1.mono (by omega))
   have bH1 := bH.out.below st.out.1 (by omega)
   have bR1 := bR.out.below st.out.1 (by omega)
   have bX1 := st.out.2.1
   have hsz : w.heap.size + 5 ≤ wr.heap.size := by have := bX1.lt; omega
   by_cases hlt : m < h.vObjs.length
   · obtain ⟨b, off, rfl, hlo, hbw2, hc⟩ := hx3'.out (by omega)
     obtain ⟨cs, hcl, lie, hr⟩ := hc m hlt
     have lie1 := Lie.keep (lo := lo) (lo' := lo) lie (.of_below (h00.trans (hbw.mono h00.size))) hlo hbw2
     have hstep : Hid _ := idxOB_step (h := h) hlt
     have hlast : Hid _ := lastI_succ (f := ObjD.vId) hlt
     have hfr : Hid _ := hup.out.fresh hlt
     have hsu : Hid _ := hup.out.succ hlt
     have hput : Hid _ := fun (es : Array MapEntry) (clock : Nat) (W : World) (hW : Below wr.heap.size wr W) (he : W.heap[(w.heap.size + 1 + 1 + 1)]? = some (.map es clock)) => (st.out.on hW).putO (v := .agg cs.toArray) he hlt rfl hr
     generalize hQ0 : h.vObjs[m] = Q at hr hstep hlast hfr hsu hput
     obtain ⟨g2, rfl, v2, _⟩ := hr
     obtain ⟨p2, d2, rfl⟩ := v2.form
     have z0 := lie_at lie1 0 rfl
     have z1 := lie_at lie1 1 rfl
     have z2 := lie_at lie1 2 rfl
     simp only [Nat.add_zero] at z0
     have hbk : Below wr.heap.size wr (wr.alloc (.cells (List.toArray (cOb Q p2 d2)) 75)) := (Below.refl _ _).alloc (Nat.le_refl _) _
     have hbwk : Below w.heap.size w (wr.alloc (.cells (List.toArray (cOb Q p2 d2)) 75)) := hbw.alloc hbw.size _
     have bR2' : Hid (Box (wr.alloc (.cells (List.toArray (cOb Q p2 d2)) 75)) (w.heap.size + 1) [.map none, .map none] 79) := bR1.alloc _
     have bO' : Hid (Box (wr.alloc (.cells (List.toArray (cOb Q p2 d2)) 75)) wr.heap.size (cOb Q p2 d2) 75) := Box.new wr (cOb Q p2 d2) 75
     have xk0 := cell_on hbk (bX1.cell 0 rfl)
     have hN0 : Hid _ := cell_on hbk (bH1.cell 0 rfl)
     have x1 : Hid _ := cell_on hbk (bX1.cell 1 rfl)
     obtain ⟨esn, clockn, hen1, hen2⟩ := st.out.2.2.1
     have hmn : MapAt NodeD.vId NodeAt (wr.alloc (.cells (List.toArray (cOb Q p2 d2)) 75)) lo (w.heap.size + 1 + 1) h.vNodes := ⟨esn, clockn, (hbk.block _ (by omega)).trans hen1, Ents.keep NodeAt_stays (.of_below (h00.trans (hbwk.mono h00.size))) _ _ (by rwa [List.take_length] at hen2)⟩
     clear lie lie1 hcl hc hQ0 bH1 bR1 bX1 v2 hen1 hen2
     generalize hL : lastI ObjD.vId h.vObjs m = LN at *
     clear hL
     rcases run_look hmn Tryz.underlying76 zeroN Q.vId with ⟨hg, hlook⟩ | ⟨y, cy, hg, hlook, hy⟩
     rotate_left
     · have hg' : nodeAt h Q.vId = some y := hg
       have HF : Hid (idxB h = false) := by show _ = _; rw [HB2.out, hrem.out, hstep.out]; simp [hg']
       obtain ⟨t3, t5, rfl, v3, v5, _⟩ := hy
       obtain ⟨p3, d3, rfl⟩ := v3.form
       obtain ⟨p5, d5, rfl⟩ := v5.form
       have bR3 := bR2'.out.alloc (.cells (List.toArray (cNd y p3 d3 p5 d5)) 73)
       have r0 := bR3.cell 0 rfl
       have r1 := bR3.cell 1 rfl
       have rf := bR3.unfrozen
       have bR3' : Hid (Box ((wr.alloc (.cells (List.toArray (cOb Q p2 d2)) 75)).alloc (.cells (List.toArray (cNd y p3 d3 p5 d5)) 73)) (w.heap.size + 1) [.map none, .map none] 79) := bR3
       clear hg hg' v3 v5 bR3 hmn
       go_wp2_with fail
       have e0 := (Box.set (i := 0) bR3'.out (.map none)).cell 0 rfl
       have e1 := (Box.set (i := 1) (Box.set (i := 0) bR3'.out (.map none)) (.map none)).cell 1 rfl
       refine bodyPost_ret (v := .tuple #[.agg #[.map none, .map none], .bool false]) (by simp [results, Tryz.results75, go_sem, e0, e1]) rfl ?_
       exact ⟨Or.inl ⟨HF.out, rfl⟩, ((hbwk.alloc hbwk.size _).setCell (by simp) _).setCell (by simp) _⟩
     have hg' : Hid (nodeAt h Q.vId = none) := hg
     have hbk2 : Below wr.heap.size wr ((wr.alloc (.cells (List.toArray (cOb Q p2 d2)) 75)).alloc (.cells (List.toArray [.int .i64 0, .string ByteArray.empty, .int .i64 0, .slice none 0 0, .int .i64 0, .slice none 0 0]) 73)) := hbk.alloc (by simp) _
     have hbk3 : Below _ (wr.alloc (.cells (List.toArray (cOb Q p2 d2)) 75)) ((wr.alloc (.cells (List.toArray (cOb Q p2 d2)) 75)).alloc (.cells (List.toArray [.int .i64 0, .string ByteArray.empty, .int .i64 0, .slice none 0 0, .int .i64 0, .slice none 0 0]) 73)) := (Below.refl _ _).alloc (Nat.le_refl _) _
     have bR3 := bR2'.out.alloc (.cells (List.toArray [.int .i64 0, .string ByteArray.empty, .int .i64 0, .slice none 0 0, .int .i64 0, .slice none 0 0]) 73)
     have bO3 := bO'.out.alloc (.cells (List.toArray [.int .i64 0, .string ByteArray.empty, .int .i64 0, .slice none 0 0, .int .i64 0, .slice none 0 0]) 73)
     have r0 := bR3.cell 0 rfl
     have r1 := bR3.cell 1 rfl
     have rf := bR3.unfrozen
     have o0 := bO3.cell 0 rfl
     have o1 := bO3.cell 1 rfl
     have o2 := bO3.cell 2 rfl
     have hN := cell_on hbk3 hN0.out
     have xk1 := cell_on hbk3 x1.out
     have bR3' : Hid (Box ((wr.alloc (.cells (List.toArray (cOb Q p2 d2)) 75)).alloc (.cells (List.toArray [.int .i64 0, .string ByteArray.empty, .int .i64 0, .slice none 0 0, .int .i64 0, .slice none 0 0]) 73)) (w.heap.size + 1) [.map none, .map none] 79) := bR3
     clear hg bR3 bO3 hmn
     by_cases q1 : LN < Q.vId
     rotate_left
     · have HF : Hid (idxB h = false) := by show _ = _; rw [HB2.out, hrem.out, hstep.out]; simp [q1]
       have q1' : Q.vId ≤ LN := by omega
       clear q1
       go_wp2_with fail
       have e0 := (Box.set (i := 0) bR3'.out (.map none)).cell 0 rfl
       have e1 := (Box.set (i := 1) (Box.set (i := 0) bR3'.out (.map none)) (.map none)).cell 1 rfl
       refine bodyPost_ret (v := .tuple #[.agg #[.map none, .map none], .bool false]) (by simp [results, Tryz.results75, go_sem, e0, e1]) rfl ?_
       exact ⟨Or.inl ⟨HF.out, rfl⟩, ((hbwk.alloc hbwk.size _).setCell (by simp) _).setCell (by simp) _⟩
     have q1' : decide (Q.vId ≤ LN) = false := by simp; omega
     by_cases q2 : Q.vId < h.vNext
     rotate_left
     · have HF : Hid (idxB h = false) := by show _ = _; rw [HB2.out, hrem.out, hstep.out]; simp [q2]
       have q2' : h.vNext ≤ Q.vId := by omega
       clear q1 q2
       go_wp2_with fail
       have e0 := (Box.set (i := 0) bR3'.out (.map none)).cell 0 rfl
       have e1 := (Box.set (i := 1) (Box.set (i := 0) bR3'.out (.map none)) (.map none)).cell 1 rfl
       refine bodyPost_ret (v := .tuple #[.agg #[.map none, .map none], .bool false]) (by simp [results, Tryz.results75, go_sem, e0, e1]) rfl ?_
       exact ⟨Or.inl ⟨HF.out, rfl⟩, ((hbwk.alloc hbwk.size _).setCell (by simp) _).setCell (by simp) _⟩
     have q2' : decide (h.vNext ≤ Q.vId) = false := by simp; omega
     have HO : Hid (idxOB h 0 h.vObjs = idxOB h (lastI ObjD.vId h.vObjs (m + 1)) (h.vObjs.drop (m + 1))) := by show _ = _; rw [hrem.out, hstep.out]; simp [q1, q2, hg'.out]
     obtain ⟨es, clock, he, hen⟩ := st.out.2.2.2
     have he' := (hbk2.block _ (by omega)).trans he
     have hrun := run_put2 he' hen Tryz.underlying77 Q.vId (.agg (List.toArray (cOb Q p2 d2))) (hfr.out q1)
     have nk : (putEnt ((wr.alloc (.cells (List.toArray (cOb Q p2 d2)) 75)).alloc (.cells (List.toArray [.int .i64 0, .string ByteArray.empty, .int .i64 0, .slice none 0 0, .int .i64 0, .slice none 0 0]) 73)) (w.heap.size + 1 + 1 + 1) es clock Q.vId (.agg (List.toArray (cOb Q p2 d2)))).cell? ⟨wr.heap.size, 0, none⟩ = some (.int .i64 Q.vId) := Box.cell ((putEnt_other (by omega)).trans (bO'.out.alloc _)) 0 rfl
     have hup' : Hid _ := hsu.out q1
     have hst' : Hid _ := hput.out es clock _ hbk2 he'
     clear q1 q2 he he' hen hfr hsu hput
     go_wp2_with fail
     go_roundw
     case rel => exact ⟨m + 1, by omega, by go_num, by rw [hlast.out], hst', hup', HO⟩
     case measure => simp [intOf]; omega
   have HT : Hid (idxB h = true) := by show _ = _; rw [HB2.out, hrem.out]; exact idxOB_end hlt
   have stE : Hid (IxSt w0 w (((((w.alloc (.cells (List.toArray (cHp h a2 cap2 a3 cap3 a4 cap4)) 28)).alloc (.cells (List.toArray [.map none, .map none]) 79)).alloc (.map #[] 0)).alloc (.map #[] 0)).alloc (.cells (List.toArray [.map (some (w.heap.size + 1 + 1)), .map (some (w.heap.size + 1 + 1 + 1))]) 79)) wr lo h h.vNodes.length h.vObjs.length) := (show m = h.vObjs.length by omega) ▸ st.out
   have r0 := bR1.cell 0 rfl
   have r1 := bR1.cell 1 rfl
   have rf := bR1.unfrozen
   have xe0 := bX1.cell 0 rfl
   have xe1 := bX1.cell 1 rfl
   have bR1' : Hid (Box wr (w.heap.size + 1) [.map none, .map none] 79) := bR1
   clear bH1 bR1 bX1 st hup hrem HB2
   go_wp2_with fail
   have e0 := (Box.set (i := 0) bR1'.out (.map (some (w.heap.size + 1 + 1)))).cell 0 rfl
   have e1 := (Box.set (i := 1) (Box.set (i := 0) bR1'.out (.map (some (w.heap.size + 1 + 1)))) (.map (some (w.heap.size + 1 + 1 + 1)))).cell 1 rfl
   refine bodyPost_ret (v := .tuple #[.agg #[.map (some (w.heap.size + 1 + 1)), .map (some (w.heap.size + 1 + 1 + 1))], .bool true]) (by simp [results, Tryz.results75, go_sem, e0, e1]) rfl ?_
   have hbe : Below w.heap.size w ((wr.setCell ⟨(w.heap.size + 1), 0, none⟩ (.map (some (w.heap.size + 1 + 1)))).setCell ⟨(w.heap.size + 1), 1, none⟩ (.map (some (w.heap.size + 1 + 1 + 1)))) := (hbw.setCell (by simp) _).setCell (by simp) _
   obtain ⟨_, _, ⟨es1, k1, m1, m2⟩, es2, k2, m3, m4⟩ := stE.out
   rw [List.take_length] at m2 m4
   exact ⟨Or.inr ⟨HT.out, _, _, rfl, ⟨es1, k1, (set_other (by omega) _).trans ((set_other (by omega) _).trans m1), m2⟩, es2, k2, (set_other (by omega) _).trans ((set_other (by omega) _).trans m3), m4⟩, hbe⟩
end Go.Proofs.YtdnembnlomnceaaGreat
namespace Go.Proofs.YtdnembnlomnceaaGreat
open Go.RowKit
def nodesI (h : HeapD) : List NodeD → Bool
 | [] => true
 | x :: xs => nodeI h x && nodesI h xs
def objsI (h : HeapD) : List ObjD → Bool
 | [] => true
 | x :: xs => objI h x && objsI h xs
/-- a right heap, as the program asks it -/
def implB (h : HeapD) : Bool := idxB h && nodesI h h.vNodes && objsI h h.vObjs && fieldsI h h.vGlobals 8 && rootB h h.vDoc
theorem nodesI_step {h : HeapD} {xs : List NodeD} {j : Nat} (hj : j < xs.length) : nodesI h (xs.drop j) = (nodeI h xs[j] && nodesI h (xs.drop (j + 1))) := by
 rw [drop_cons xs j hj]; rfl
theorem nodesI_end {h : HeapD} {xs : List NodeD} {j : Nat} (hj : ¬ j < xs.length) : nodesI h (xs.drop j) = true := by
 rw [List.drop_of_length_le (by omega)]; rfl
theorem objsI_step {h : HeapD} {xs : List ObjD} {j : Nat} (hj : j < xs.length) : objsI h (xs.drop j) = (objI h xs[j] && objsI h (xs.drop (j + 1))) := by
 rw [drop_cons xs j hj]; rfl
theorem objsI_end {h : HeapD} {xs : List ObjD} {j : Nat} (hj : ¬ j < xs.length) : objsI h (xs.drop j) = true := by
 rw [List.drop_of_length_le (by omega)]; rfl
set_option maxRecDepth 100000 in
set_option maxHeartbeats 3200000 in
theorem rightIndex_any {w0 w : World} {lo : Nat} {cs : List Value} {h : HeapD} (hh : HeapAt w0 lo cs h) (h00 : Below w0.heap.size w0 w) :
 Calls Tryz.prog 41 #[.agg cs.toArray] w fun e w' => ((implB h = false ∧ e = .returned (.tuple #[.agg #[.map none, .map none], .bool false])) ∨ (implB h = true ∧ ∃ bn bo, e = .returned (.tuple #[.agg #[.map (some bn), .map (some bo)], .bool true]) ∧ IdxIn w0 w' lo bn bo h)) ∧ Below w.heap.size w w' := by
 have hh' : Hid (HeapAt w0 lo cs h) := hh
 obtain ⟨k2, k3, k4, rfl, s2, s3, s4, rNext, rDoc, _⟩ := hh
 have s4' : Hid (SeqAt 2 FieldAt w0 lo k4 h.vGlobals) := s4
 obtain ⟨a4, cap4, rfl⟩ := s4.form
 obtain ⟨a2, cap2, rfl, hm2, hx2⟩ := s2
 obtain ⟨a3, cap3, rfl, hm3, hx3⟩ := s3
 unfold maxLen at hm2 hm3
 have hx2' : Hid _ := hx2
 have hx3' : Hid _ := hx3
 have hlen : Hid (h.vNodes.length ≤ 9223372036854775807) := by show _ ≤ _; omega
 clear hx2 hx3 s4 rNext rDoc
 have hb1 : Below w.heap.size w ((w.alloc (.cells (List.toArray (cHp h a2 cap2 a3 cap3 a4 cap4)) 28)).alloc (.cells (List.toArray [.map none, .map none]) 79)) := ((Below.refl _ _).alloc (Nat.le_refl _) _).alloc (by simp) _
 have bH0 : Hid (Box ((w.alloc (.cells (List.toArray (cHp h a2 cap2 a3 cap3 a4 cap4)) 28)).alloc (.cells (List.toArray [.map none, .map none]) 79)) w.heap.size (cHp h a2 cap2 a3 cap3 a4 cap4) 28) := (Box.new w (cHp h a2 cap2 a3 cap3 a4 cap4) 28).alloc _
 have bR0 : Hid (Box ((w.alloc (.cells (List.toArray (cHp h a2 cap2 a3 cap3 a4 cap4)) 28)).alloc (.cells (List.toArray [.map none, .map none]) 79)) (w.heap.size + 1) [.map none, .map none] 79) := by have hb := Box.new (w.alloc (.cells (List.toArray (cHp h a2 cap2 a3 cap3 a4 cap4)) 28)) [.map none, .map none] 79; rwa [show ((w.alloc (.cells (List.toArray (cHp h a2 cap2 a3 cap3 a4 cap4)) 28))).heap.size = w.heap.size + 1 by simp] at hb
 go_enter Tryz.func41, Tryz.ntmps41
 go_wp2_with fail
 refine (indexOf_any hh'.out (h00.trans (hb1.mono h00.size))).mono ?_
 rintro e w1 ⟨hres, hbi⟩
 have hbw1 : Below w.heap.size w w1 := hb1.trans (hbi.mono hb1.size)
 have hsz1 : w.heap.size + 2 ≤ w1.heap.size := by have := hbi.size; simpa using this
 rcases hres with ⟨hidx, rfl⟩ | ⟨hidx, bn, bo, rfl, hix0⟩
 · have HF : Hid (implB h = false) := by show _ = _; simp [implB, hidx]
   have bR3 := (bR0.out.below hbi (by simp)).alloc (.cells (List.toArray [.map none, .map none]) 79)
   have r0 := bR3.cell 0 rfl
   have r1 := bR3.cell 1 rfl
   have rf := bR3.unfrozen
   have bR3' : Hid (Box (w1.alloc (.cells (List.toArray [.map none, .map none]) 79)) (w.heap.size + 1) [.map none, .map none] 79) := bR3
   clear hidx bR3
   go_wp2_with fail
   have e0 := (Box.set (i := 0) bR3'.out (.map none)).cell 0 rfl
   have e1 := (Box.set (i := 1) (Box.set (i := 0) bR3'.out (.map none)) (.map none)).cell 1 rfl
   refine bodyPost_ret (v := .tuple #[.agg #[.map none, .map none], .bool false]) (by simp [results, Tryz.results41, go_sem, e0, e1]) rfl ?_
   exact ⟨Or.inl ⟨HF.out, rfl⟩, ((hbw1.alloc hbw1.size _).setCell (by simp) _).setCell (by simp) _⟩
 have hix : Hid (IdxIn w0 w1 lo bn bo h) := hix0
 have HI : Hid (implB h = (nodesI h h.vNodes && objsI h h.vObjs && fieldsI h h.vGlobals 8 && rootB h h.vDoc)) := by show _ = _; simp [implB, hidx]
 clear hidx hix0
 have hbW1 : Below w1.heap.size w1 (w1.alloc (.cells (List.toArray [.map (some bn), .map (some bo)]) 79)) := (Below.refl _ _).alloc (Nat.le_refl _) _
 have hbW : Below w.heap.size w (w1.alloc (.cells (List.toArray [.map (some bn), .map (some bo)]) 79)) := hbw1.trans (hbW1.mono hbw1.size)
 have bH : Hid (Box (w1.alloc (.cells (List.toArray [.map (some bn), .map (some bo)]) 79)) w.heap.size (cHp h a2 cap2 a3 cap3 a4 cap4) 28) := (bH0.out.below hbi (by simp; omega)).below hbW1 (by omega)
 have bR : Hid (Box (w1.alloc (.cells (List.toArray [.map (some bn), .map (some bo)]) 79)) (w.heap.size + 1) [.map none, .map none] 79) := (bR0.out.below hbi (by simp)).below hbW1 (by omega)
 have bX : Hid (Box (w1.alloc (.cells (List.toArray [.map (some bn), .map (some bo)]) 79)) w1.heap.size [.map (some bn), .map (some bo)] 79) := Box.new w1 _ _
 have hc2 := bH.out.cell 2 rfl
 go_wp2_with fail
 clear hc2
 go_loopw [21] (fun i wr => ∃ (j : Nat), j ≤ h.vNodes.length ∧ i = .int .i64 j ∧ Hid (Below (w1.heap.size + 1) (w1.alloc (.cells (List.toArray [.map (some bn), .map (some bo)]) 79)) wr) ∧ Hid (nodesI h h.vNodes = nodesI h (h.vNodes.drop j))) (fun i _ => h.vNodes.length - (intOf i).toNat)
 case atStart => exact ⟨0, by omega, rfl, Below.refl _ _, rfl⟩
 case round =>
  obtain ⟨j, hj, rfl, hbr, hrem⟩ := hrel
  have hbw : Below w.heap.size w wr := hbW.trans (hbr.out.mono (by omega))
  have hbx : Below w1.heap.size w1 wr := hbW1.trans (hbr.out.mono (by omega))
  have bH1 := bH.out.below hbr.out (by omega)
  have bR1 := bR.out.below hbr.out (by omega)
  have bX1 := bX.out.below hbr.out (by omega)
  by_cases hlt : j < h.vNodes.length
  · obtain ⟨b, off, rfl, hlo, hbw2, hc⟩ := hx2'.out (by omega)
    obtain ⟨cs, hcl, lie, hr⟩ := hc j hlt
    have lie1 := Lie.keep (lo := lo) (lo' := lo) lie (.of_below (h00.trans (hbw.mono h00.size))) hlo hbw2
    have hstep : Hid _ := nodesI_step (h := h) hlt
    generalize hQ0 : h.vNodes[j] = Q at hr hstep
    have hr3 : Hid (NodeAt w0 lo cs Q) := hr
    obtain ⟨g3, g5, rfl, v3, v5, _⟩ := hr
    obtain ⟨p3, d3, rfl⟩ := v3.form
    obtain ⟨p5, d5, rfl⟩ := v5.form
    clear v3 v5
    have z0 := lie_at lie1 0 rfl
    have z1 := lie_at lie1 1 rfl
    have z2 := lie_at lie1 2 rfl
    have z3 := lie_at lie1 3 rfl
    have z4 := lie_at lie1 4 rfl
    have z5 := lie_at lie1 5 rfl
    simp only [Nat.add_zero] at z0
    have hbk : Below wr.heap.size wr (wr.alloc (.cells (List.toArray (cNd Q p3 d3 p5 d5)) 73)) := (Below.refl _ _).alloc (Nat.le_refl _) _
    have hbwk : Below w.heap.size w (wr.alloc (.cells (List.toArray (cNd Q p3 d3 p5 d5)) 73)) := hbw.alloc hbw.size _
    have hbxk : Below w1.heap.size w1 (wr.alloc (.cells (List.toArray (cNd Q p3 d3 p5 d5)) 73)) := hbx.alloc hbx.size _
    have x0 := cell_on hbk (bX1.cell 0 rfl)
    have x1 := cell_on hbk (bX1.cell 1 rfl)
    have bR2 : Hid (Box (wr.alloc (.cells (List.toArray (cNd Q p3 d3 p5 d5)) 73)) (w.heap.size + 1) [.map none, .map none] 79) := bR1.alloc _
    clear lie lie1 hcl hc hQ0 bH1 bR1 bX1
    go_wp2_with fail
    refine (nodeOk_any hlen.out ((hix.out.on hbxk).here (h00.trans (hbwk.mono h00.size))) (NodeAt_stays _ _ _ lo _ _ (.of_below (h00.trans (hbwk.mono h00.size))) hr3.out)).mono ?_
    rintro e w2 ⟨rfl, hb2⟩
    have hbw2 : Below w.heap.size w w2 := hbwk.trans (hb2.mono hbwk.size)
    cases hq : nodeI h Q
    · have HF : Hid (implB h = false) := by show _ = _; rw [HI.out, hrem.out, hstep.out, hq]; simp
      have bR3 : Box w2 (w.heap.size + 1) [.map none, .map none] 79 := bR2.out.below hb2 bR2.out.lt
      have r0 := bR3.cell 0 rfl
      have r1 := bR3.cell 1 rfl
      have rf := bR3.unfrozen
      have bR3' : Hid (Box w2 (w.heap.size + 1) [.map none, .map none] 79) := bR3
      clear hq bR3
      go_wp2_with fail
      have e0 := (Box.set (i := 0) bR3'.out (.map none)).cell 0 rfl
      have e1 := (Box.set (i := 1) (Box.set (i := 0) bR3'.out (.map none)) (.map none)).cell 1 rfl
      refine bodyPost_ret (v := .tuple #[.agg #[.map none, .map none], .bool false]) (by simp [results, Tryz.results41, go_sem, e0, e1]) rfl ?_
      exact ⟨Or.inl ⟨HF.out, rfl⟩, (hbw2.setCell (by simp) _).setCell (by simp) _⟩
    · have HO : Hid (nodesI h h.vNodes = nodesI h (h.vNodes.drop (j + 1))) := by show _ = _; rw [hrem.out, hstep.out, hq]; rfl
      have hbo : Below (w1.heap.size + 1) (w1.alloc (.cells (List.toArray [.map (some bn), .map (some bo)]) 79)) w2 := (hbr.out.alloc (by have := hbr.out.size; simp at this; omega) _).trans (hb2.mono (by have := hbr.out.size; simp at this ⊢; omega))
      clear hq
      go_wp2_with fail
      go_roundw
      case rel => exact ⟨j + 1, by omega, by go_num, hbo, HO⟩
      case measure => simp [intOf]; omega
  have HI2 : Hid (implB h = (objsI h h.vObjs && fieldsI h h.vGlobals 8 && rootB h h.vDoc)) := by show _ = _; rw [HI.out, hrem.out, nodesI_end hlt]; rfl
  have hc3 := bH1.cell 3 rfl
  have hbr0 := hbr
  clear hrem HI bH1 bR1 bX1 hbw hbx hbr hx2'
  have HI := HI2
  clear HI2
  go_wp2_with fail
  clear hc3
  go_loopw [34] (fun i wr => ∃ (j : Nat), j ≤ h.vObjs.length ∧ i = .int .i64 j ∧ Hid (Below (w1.heap.size + 1) (w1.alloc (.cells (List.toArray [.map (some bn), .map (some bo)]) 79)) wr) ∧ Hid (objsI h h.vObjs = objsI h (h.vObjs.drop j))) (fun i _ => h.vObjs.length - (intOf i).toNat)
  case atStart => exact ⟨0, by omega, rfl, hbr0, rfl⟩
  case round =>
   obtain ⟨j, hj, rfl, hbr, hrem⟩ := hrel
   have hbw : Below w.heap.size w wr := hbW.trans (hbr.out.mono (by omega))
   have hbx : Below w1.heap.size w1 wr := hbW1.trans (hbr.out.mono (by omega))
   have bH1 := bH.out.below hbr.out (by omega)
   have bR1 := bR.out.below hbr.out (by omega)
   have bX1 := bX.out.below hbr.out (by omega)
   by_cases hlt : j < h.vObjs.length
   · obtain ⟨b, off, rfl, hlo, hbw2, hc⟩ := hx3'.out (by omega)
     obtain ⟨cs, hcl, lie, hr⟩ := hc j hlt
     have lie1 := Lie.keep (lo := lo) (lo' := lo) lie (.of_below (h00.trans (hbw.mono h00.size))) hlo hbw2
     have hstep : Hid _ := objsI_step (h := h) hlt
     generalize hQ0 : h.vObjs[j] = Q at hr hstep
     have hr3 : Hid (ObjAt w0 lo cs Q) := hr
     obtain ⟨g2, rfl, v2, _⟩ := hr
     obtain ⟨p2, d2, rfl⟩ := v2.form
     clear v2
     have z0 := lie_at lie1 0 rfl
     have z1 := lie_at lie1 1 rfl
     have z2 := lie_at lie1 2 rfl
     simp only [Nat.add_zero] at z0
     have hbk : Below wr.heap.size wr (wr.alloc (.cells (List.toArray (cOb Q p2 d2)) 75)) := (Below.refl _ _).alloc (Nat.le_refl _) _
     have hbwk : Below w.heap.size w (wr.alloc (.cells (List.toArray (cOb Q p2 d2)) 75)) := hbw.alloc hbw.size _
     have hbxk : Below w1.heap.size w1 (wr.alloc (.cells (List.toArray (cOb Q p2 d2)) 75)) := hbx.alloc hbx.size _
     have x0 := cell_on hbk (bX1.cell 0 rfl)
     have x1 := cell_on hbk (bX1.cell 1 rfl)
     have bR2 : Hid (Box (wr.alloc (.cells (List.toArray (cOb Q p2 d2)) 75)) (w.heap.size + 1) [.map none, .map none] 79) := bR1.alloc _
     clear lie lie1 hcl hc hQ0 bH1 bR1 bX1
     go_wp2_with fail
     refine (objOk_any ((hix.out.on hbxk).here (h00.trans (hbwk.mono h00.size))) (ObjAt_stays _ _ _ lo _ _ (.of_below (h00.trans (hbwk.mono h00.size))) hr3.out)).mono ?_
     rintro e w2 ⟨rfl, hb2⟩
     have hbw2 : Below w.heap.size w w2 := hbwk.trans (hb2.mono hbwk.size)
     cases hq : objI h Q
     · have HF : Hid (implB h = false) := by show _ = _; rw [HI.out, hrem.out, hstep.out, hq]; simp
       have bR3 : Box w2 (w.heap.size + 1) [.map none, .map none] 79 := bR2.out.below hb2 bR2.out.lt
       have r0 := bR3.cell 0 rfl
       have r1 := bR3.cell 1 rfl
       have rf := bR3.unfrozen
       have bR3' : Hid (Box w2 (w.heap.size + 1) [.map none, .map none] 79) := bR3
       clear hq bR3
       go_wp2_with fail
       have e0 := (Box.set (i := 0) bR3'.out (.map none)).cell 0 rfl
       have e1 := (Box.set (i := 1) (Box.set (i := 0) bR3'.out (.map none)) (.map none)).cell 1 rfl
       refine bodyPost_ret (v := .tuple #[.agg #[.map none, .map none], .bool false]) (by simp [results, Tryz.results41, go_sem, e0, e1]) rfl ?_
       exact ⟨Or.inl ⟨HF.out, rfl⟩, (hbw2.setCell (by simp) _).setCell (by simp) _⟩
     · have HO : Hid (objsI h h.vObjs = objsI h (h.vObjs.drop (j + 1))) := by show _ = _; rw [hrem.out, hstep.out, hq]; rfl
       have hbo : Below (w1.heap.size + 1) (w1.alloc (.cells (List.toArray [.map (some bn), .map (some bo)]) 79)) w2 := (hbr.out.alloc (by have := hbr.out.size; simp at this; omega) _).trans (hb2.mono (by have := hbr.out.size; simp at this ⊢; omega))
       clear hq
       go_wp2_with fail
       go_roundw
       case rel => exact ⟨j + 1, by omega, by go_num, hbo, HO⟩
       case measure => simp [intOf]; omega
   have HI2 : Hid (implB h = (fieldsI h h.vGlobals 8 && rootB h h.vDoc)) := by show _ = _; rw [HI.out, hrem.out, objsI_end hlt]; rfl
   have hc4 := bH1.cell 4 rfl
   have x0 := bX1.cell 0 rfl
   have x1 := bX1.cell 1 rfl
   clear hrem HI bH1 bR1 bX1 hx3'
   go_wp2_with fail
   refine (fieldsOk_any ((hix.out.on hbx).here (h00.trans (hbw.mono h00.size))) (s4'.out.below FieldAt_stays (h00.trans (hbw.mono h00.size)))).mono ?_
   rintro e v1 ⟨rfl, hq1⟩
   have hbr1 : Hid (Below (w1.heap.size + 1) (w1.alloc (.cells (List.toArray [.map (some bn), .map (some bo)]) 79)) v1) := hbr.out.trans (hq1.mono (by have := hbr.out.size; simpa using this))
   have hbw1' : Below w.heap.size w v1 := hbw.trans (hq1.mono hbw.size)
   have hbx1' : Below w1.heap.size w1 v1 := hbx.trans (hq1.mono hbx.size)
   clear hc4 x0 x1
   have bR3 : Box v1 (w.heap.size + 1) [.map none, .map none] 79 := bR.out.below hbr1.out (by omega)
   have bR3' : Hid (Box v1 (w.heap.size + 1) [.map none, .map none] 79) := bR3
   cases hq : fieldsI h h.vGlobals 8
   · have HF : Hid (implB h = false) := by show _ = _; rw [HI2.out, hq]; rfl
     have r0 := bR3.cell 0 rfl
     have r1 := bR3.cell 1 rfl
     have rf := bR3.unfrozen
     clear hq bR3
     go_wp2_with fail
     have e0 := (Box.set (i := 0) bR3'.out (.map none)).cell 0 rfl
     have e1 := (Box.set (i := 1) (Box.set (i := 0) bR3'.out (.map none)) (.map none)).cell 1 rfl
     refine bodyPost_ret (v := .tuple #[.agg #[.map none, .map none], .bool false]) (by simp [results, Tryz.results41, go_sem, e0, e1]) rfl ?_
     exact ⟨Or.inl ⟨HF.out, rfl⟩, (hbw1'.setCell (by simp) _).setCell (by simp) _⟩
   have HI3 : Hid (implB h = rootB h h.vDoc) := by show _ = _; rw [HI2.out, hq]; rfl
   have hc1 := (bH.out.below hbr1.out (by omega)).cell 1 rfl
   have x0 := (bX.out.below hbr1.out (by omega)).cell 0 rfl
   have x1 := (bX.out.below hbr1.out (by omega)).cell 1 rfl
   clear hq HI2 bR3
   go_wp2_with fail
   refine (rootOk_any ((hix.out.on hbx1').here (h00.trans (hbw1'.mono h00.size)))).mono ?_
   rintro e v2 ⟨rfl, hq2⟩
   have hbr2 : Hid (Below (w1.heap.size + 1) (w1.alloc (.cells (List.toArray [.map (some bn), .map (some bo)]) 79)) v2) := hbr1.out.trans (hq2.mono (by have := hbr1.out.size; simpa using this))
   have hbw2 : Below w.heap.size w v2 := hbw1'.trans (hq2.mono hbw1'.size)
   have hbx2 : Below w1.heap.size w1 v2 := hbx1'.trans (hq2.mono hbx1'.size)
   clear hc1 x0 x1
   have bR4 : Box v2 (w.heap.size + 1) [.map none, .map none] 79 := bR.out.below hbr2.out (by omega)
   have bR4' : Hid (Box v2 (w.heap.size + 1) [.map none, .map none] 79) := bR4
   have r0 := bR4.cell 0 rfl
   have r1 := bR4.cell 1 rfl
   have rf := bR4.unfrozen
   clear bR4
   cases hq : rootB h h.vDoc
   · have HF : Hid (implB h = false) := by show _ = _; rw [HI3.out, hq]
     clear hq
     go_wp2_with fail
     have e0 := (Box.set (i := 0) bR4'.out (.map none)).cell 0 rfl
     have e1 := (Box.set (i := 1) (Box.set (i := 0) bR4'.out (.map none)) (.map none)).cell 1 rfl
     refine bodyPost_ret (v := .tuple #[.agg #[.map none, .map none], .bool false]) (by simp [results, Tryz.results41, go_sem, e0, e1]) rfl ?_
     exact ⟨Or.inl ⟨HF.out, rfl⟩, (hbw2.setCell (by simp) _).setCell (by simp) _⟩
   have HT : Hid (implB h = true) := by show _ = _; rw [HI3.out, hq]
   have x0 := (bX.out.below hbr2.out (by omega)).cell 0 rfl
   have x1 := (bX.out.below hbr2.out (by omega)).cell 1 rfl
   clear hq HI3
   go_wp2_with fail
   have e0 := (Box.set (i := 0) bR4'.out (.map (some bn))).cell 0 rfl
   have e1 := (Box.set (i := 1) (Box.set (i := 0) bR4'.out (.map (some bn))) (.map (some bo))).cell 1 rfl
   refine bodyPost_ret (v := .tuple #[.agg #[.map (some bn), .map (some bo)], .bool true]) (by simp [results, Tryz.results41, go_sem, e0, e1]) rfl ?_
   have hbe : Below w.heap.size w ((v2.setCell ⟨w.heap.size + 1, 0, none⟩ (.map (some bn))).setCell ⟨w.heap.size + 1, 1, none⟩ (.map (some bo))) := (hbw2.setCell (by simp) _).setCell (by simp) _
   exact ⟨Or.inr ⟨HT.out, bn, bo, rfl, ((hix.out.on hbx2).set bR4'.out _).set (bR4'.out.set _) _⟩, hbe⟩
set_option maxRecDepth 100000 in
set_option maxHeartbeats 800000 in
theorem implHeapOk_any {w : World} {lo : Nat} {cs : List Value} {h : HeapD} (hh : HeapAt w lo cs h) :
 Calls Tryz.prog 22 #[.agg cs.toArray] w fun e w' => e = .returned (.bool (implB h)) ∧ Below w.heap.size w w' := by
 have hh' : Hid (HeapAt w lo cs h) := hh
 obtain ⟨k2, k3, k4, rfl, s2, s3, s4, _⟩ := hh
 obtain ⟨a2, cap2, rfl⟩ := s2.form
 obtain ⟨a3, cap3, rfl⟩ := s3.form
 obtain ⟨a4, cap4, rfl⟩ := s4.form
 clear s2 s3 s4
 have hb1 : Below w.heap.size w (w.alloc (.cells (List.toArray (cHp h a2 cap2 a3 cap3 a4 cap4)) 28)) := (Below.refl _ _).alloc (Nat.le_refl _) _
 go_enter Tryz.func22, Tryz.ntmps22
 go_wp2_with fail
 refine (rightIndex_any hh'.out hb1).mono ?_
 rintro e w1 ⟨hres, hbi⟩
 have hbw1 : Below w.heap.size w w1 := hb1.trans (hbi.mono hb1.size)
 rcases hres with ⟨hidx, rfl⟩ | ⟨hidx, bn, bo, rfl, hix0⟩
 · have HF : Hid _ := hidx
   clear hidx
   go_wp2_with fail
   go_ret
   exact ⟨ret_bool HF.out.symm, hbw1.alloc hbw1.size _⟩
 · have HF : Hid _ := hidx
   clear hidx hix0
   go_wp2_with fail
   go_ret
   exact ⟨ret_bool HF.out.symm, hbw1.alloc hbw1.size _⟩
end Go.Proofs.YtdnembnlomnceaaGreat
