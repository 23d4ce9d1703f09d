/- The program's tests on nodes, objects and fields against its index, walked. -/
import Derived.Test.YtbodeijffpepfaaImplOne
import Derived.Test.YtbodeijffpepfaaHeapSmall
import Derived.Test.YtbodeijffpepfaaHeapMore
namespace Go.Proofs.Ytbodeijffpepfaa
open Go.RowKit
set_option maxHeartbeats 800000 in
theorem rootOk_any {w : World} {lo bn bo : Nat} {h : HeapD} {id : Int} (hm : IdxAt w lo bn bo h) :
    Calls Try.prog 54 #[.agg #[.map (some bn), .map (some bo)], .int .i64 id] w fun e w' => e = .returned (.bool (rootB h id)) ∧ Below w.heap.size w w' := by
  have hb0 : Below w.heap.size w (w.alloc (.cells (List.toArray [.map (some bn), .map (some bo)]) 86)) := (Below.refl _ _).alloc (Nat.le_refl _) _
  rcases run_look (hm.1.below NodeAt_stays hb0) Try.underlying83 zeroN id with ⟨hg, hrun⟩ | ⟨y, cy, hg, hrun, hy⟩
  · have HF : Hid (rootB h id = false) := by show _ = _; have hg' : nodeAt h id = none := hg; simp [rootB, hg']
    clear hg
    go_enter Try.func54, Try.ntmps54
    go_wp2_with fail
    go_ret
    exact ⟨ret_bool HF.out.symm, hb0.alloc (by simp) _⟩
  obtain ⟨g3, g5, rfl, v3, v5, _⟩ := hy
  obtain ⟨p3, c3, rfl⟩ := v3.form
  obtain ⟨p5, c5, rfl⟩ := v5.form
  clear v3 v5
  have hg' : nodeAt h id = some y := hg
  by_cases he : y.vParent = 0
  · have he' : (y.vParent == 0) = true := by simpa using he
    have HF : Hid (rootB h id = true) := by show _ = _; simp [rootB, hg', he]
    clear hg hg' he
    go_enter Try.func54, Try.ntmps54
    go_wp2_with fail
    go_ret
    exact ⟨ret_bool HF.out.symm, hb0.alloc (by simp) _⟩
  · have he' : (y.vParent == 0) = false := by simpa using he
    have HF : Hid (rootB h id = false) := by show _ = _; simp [rootB, hg', he]
    clear hg hg' he
    go_enter Try.func54, Try.ntmps54
    go_wp2_with fail
    go_ret
    exact ⟨ret_bool HF.out.symm, hb0.alloc (by simp) _⟩
set_option maxHeartbeats 800000 in
theorem listenersOk_any {w : World} {lo : Nat} {k : Value} {xs : List ListenerD} (hk : SeqAt 5 ListenerAt w lo k xs) :
    Calls Try.prog 72 #[k] w fun e w' => e = .returned (.bool (decide (xs.length ≤ 4) && lissB xs)) ∧ Below w.heap.size w w' := by
  obtain ⟨a, cap, rfl, hm, hx⟩ := hk
  unfold maxLen at hm
  have hx' : Hid _ := hx
  clear hx
  by_cases h4 : xs.length ≤ 4
  rotate_left
  · have HF : Hid ((decide (xs.length ≤ 4) && lissB xs) = false) := by show _ = _; simp [h4]
    have hq : (4 : Int) < (xs.length : Int) := by omega
    go_enter Try.func72, Try.ntmps72
    go_wp2_with fail
    go_ret
    exact ⟨ret_bool HF.out.symm, Below.refl _ _⟩
  have hq : decide ((4 : Int) < (xs.length : Int)) = false := by simp; omega
  have HB : Hid ((decide (xs.length ≤ 4) && lissB xs) = lissB xs) := by show _ = _; simp [h4]
  have h4' : Hid _ := h4
  clear h4
  go_enter Try.func72, Try.ntmps72
  go_wp2_with fail
  go_loopw [10] (fun i wr => ∃ (j : Nat), j ≤ xs.length ∧ i = .int .i64 j ∧ Hid (Below w.heap.size w wr) ∧ Hid (lissB xs = lissB (xs.drop j))) (fun i _ => xs.length - (intOf i).toNat)
  case atStart => exact ⟨0, by omega, rfl, Below.refl _ _, rfl⟩
  case round =>
    obtain ⟨j, hj, rfl, hbr, hrem⟩ := hrel
    by_cases hlt : j < xs.length
    · obtain ⟨b, off, rfl, hlo, hbw2, hc⟩ := hx'.out (by omega)
      obtain ⟨cs, hcl, lie, hr⟩ := hc j hlt
      have lie1 := Lie.keep (lo := lo) (lo' := lo) lie (.of_below hbr.out) hlo hbw2
      generalize hX0 : xs[j] = X at hr
      have hX : Hid _ := hX0
      have hr3 : Hid (ListenerAt w lo cs X) := hr
      obtain ⟨rfl, _⟩ := hr
      have z0 := lie_at lie1 0 rfl
      have z1 := lie_at lie1 1 rfl
      have z2 := lie_at lie1 2 rfl
      have z3 := lie_at lie1 3 rfl
      have z4 := lie_at lie1 4 rfl
      simp only [Nat.add_zero] at z0
      clear lie lie1 hcl hc hX0 hx'
      have hb1 : Below w.heap.size w (wr.alloc (.cells (List.toArray [.string X.vType, .bool X.vCapture, .bool X.vOnce, .int .i64 X.vStop, .string X.vName]) 100)) := hbr.out.alloc hbr.out.size _
      go_wp2_with fail
      refine (listenerOk_any (ListenerAt_stays _ _ _ lo _ _ (.of_below hb1) hr3.out)).mono ?_
      rintro e w2 ⟨rfl, hb2⟩
      have hb3 : Below w.heap.size w w2 := hb1.trans (hb2.mono hb1.size)
      cases hq : lisB X
      · have HF : Hid (lissB xs = false) := by show _ = _; rw [hrem.out, lissB_no hlt (by rw [hX.out]; exact hq)]
        clear hq
        go_wp2_with fail
        go_ret
        exact ⟨ret_bool (by rw [HB.out, HF.out]), hb3⟩
      · have HO : Hid _ := lissB_on hlt (by rw [hX.out]; exact hq)
        clear hq
        go_wp2_with fail
        go_roundw
        case rel => exact ⟨j + 1, by omega, by go_num, hb3, by show _ = _; rw [hrem.out, HO.out]⟩
        case measure => simp [intOf]; omega
    · have H2 : Hid _ := lissB_end hlt
      go_wp2_with fail
      go_ret
      exact ⟨ret_bool (by rw [HB.out, hrem.out, H2.out]), hbr.out⟩
set_option maxRecDepth 100000 in
set_option maxHeartbeats 1600000 in
theorem kidsOk_any {w : World} {lo bn bo : Nat} {cs : List Value} {h : HeapD} {x : NodeD} (hm : IdxAt w lo bn bo h) (hx : NodeAt w lo cs x) :
    Calls Try.prog 68 #[.agg #[.map (some bn), .map (some bo)], .agg cs.toArray] w fun e w' => e = .returned (.bool (kidsB h x)) ∧ Below w.heap.size w w' := by
  obtain ⟨q3, q5, rfl, u3, u5, _⟩ := hx
  obtain ⟨a5, c5, rfl⟩ := u5.form
  have u3' : Hid (SeqAt 1 IntAt w lo q3 x.vKids) := u3
  obtain ⟨a3, c3, rfl, hm3, hx3⟩ := u3
  unfold maxLen at hm3
  have hx3' : Hid _ := hx3
  clear hx3 u5
  have hb0 : Below w.heap.size w ((w.alloc (.cells (List.toArray [.map (some bn), .map (some bo)]) 86)).alloc (.cells (List.toArray [.int .i64 x.vId, .string x.vTag, .int .i64 x.vParent, (.slice a3 x.vKids.length c3), .int .i64 x.vWrapper, (.slice a5 x.vListeners.length c5)]) 69)) := ((Below.refl _ _).alloc (Nat.le_refl _) _).alloc (by simp) _
  have bX : Hid (Box ((w.alloc (.cells (List.toArray [.map (some bn), .map (some bo)]) 86)).alloc (.cells (List.toArray [.int .i64 x.vId, .string x.vTag, .int .i64 x.vParent, (.slice a3 x.vKids.length c3), .int .i64 x.vWrapper, (.slice a5 x.vListeners.length c5)]) 69)) w.heap.size [.map (some bn), .map (some bo)] 86) := (Box.new w [.map (some bn), .map (some bo)] 86).alloc _
  have bN : Hid (Box ((w.alloc (.cells (List.toArray [.map (some bn), .map (some bo)]) 86)).alloc (.cells (List.toArray [.int .i64 x.vId, .string x.vTag, .int .i64 x.vParent, (.slice a3 x.vKids.length c3), .int .i64 x.vWrapper, (.slice a5 x.vListeners.length c5)]) 69)) (w.heap.size + 1) [.int .i64 x.vId, .string x.vTag, .int .i64 x.vParent, (.slice a3 x.vKids.length c3), .int .i64 x.vWrapper, (.slice a5 x.vListeners.length c5)] 69) := by have hb := Box.new (w.alloc (.cells (List.toArray [.map (some bn), .map (some bo)]) 86)) [.int .i64 x.vId, .string x.vTag, .int .i64 x.vParent, (.slice a3 x.vKids.length c3), .int .i64 x.vWrapper, (.slice a5 x.vListeners.length c5)] 69; rwa [show ((w.alloc (.cells (List.toArray [.map (some bn), .map (some bo)]) 86))).heap.size = w.heap.size + 1 by simp] at hb
  have hm' : Hid (IdxAt w lo bn bo h) := hm
  clear hm
  go_enter Try.func68, Try.ntmps68
  go_wp2_with fail
  go_loopw [12] (fun i wr => ∃ (j : Nat), j ≤ x.vKids.length ∧ i = .int .i64 j ∧ Hid (Below (w.heap.size + 2) ((w.alloc (.cells (List.toArray [.map (some bn), .map (some bo)]) 86)).alloc (.cells (List.toArray [.int .i64 x.vId, .string x.vTag, .int .i64 x.vParent, (.slice a3 x.vKids.length c3), .int .i64 x.vWrapper, (.slice a5 x.vListeners.length c5)]) 69)) wr) ∧ Hid (kidsB h x = kidsF h x.vId (x.vKids.take j) (x.vKids.drop j))) (fun i _ => x.vKids.length - (intOf i).toNat)
  case atStart => exact ⟨0, by omega, rfl, Below.refl _ _, rfl⟩
  case round =>
    obtain ⟨j, hj, rfl, hbr, hrem⟩ := hrel
    by_cases hlt : j < x.vKids.length
    · have hbw : Below w.heap.size w wr := hb0.trans (hbr.out.mono (by omega))
      have bX1 := bX.out.below hbr.out (by omega)
      have bN1 := bN.out.below hbr.out (by omega)
      obtain ⟨b, off, rfl, hlo, hbw2, hc⟩ := hx3'.out (by omega)
      obtain ⟨cs, hcl, lie, hr⟩ := hc j hlt
      have lie1 := Lie.keep (lo := lo) (lo' := lo) lie (.of_below hbw) hlo hbw2
      have hstep : Hid _ := kidsF_step (h := h) (id := x.vId) hlt
      generalize hK0 : x.vKids[j] = K at hr hstep
      obtain ⟨rfl, hI⟩ := hr
      have z0 := lie_at lie1 0 rfl
      simp only [Nat.add_zero, Nat.mul_one] at z0
      have x0 := bX1.cell 0 rfl
      have n0 := bN1.cell 0 rfl
      have n3 := bN1.cell 3 rfl
      have hcon : Hid (SeqAt 1 IntAt w lo (.slice (some ⟨b, off, none⟩) x.vKids.length c3) x.vKids) := u3'.out
      clear lie lie1 hcl hc hK0 bX1 bN1
      rcases run_look ((hm'.out.below hbw).1) Try.underlying83 zeroN K with ⟨hg, hrun⟩ | ⟨y, cy, hg, hrun, hy⟩
      · have hg' : nodeAt h K = none := hg
        have HF : Hid (kidsB h x = false) := by show _ = _; rw [hrem.out, hstep.out]; simp [kidB, hg']
        clear hg hg'
        go_wp2_with fail
        go_ret
        exact ⟨ret_bool HF.out.symm, hbw.alloc hbw.size _⟩
      have hg' : nodeAt h K = some y := hg
      obtain ⟨g3, g5, rfl, v3, v5, _⟩ := hy
      obtain ⟨p3, d3, rfl⟩ := v3.form
      obtain ⟨p5, d5, rfl⟩ := v5.form
      clear v3 v5
      have hbk : Below wr.heap.size wr (wr.alloc (.cells (List.toArray [.int .i64 y.vId, .string y.vTag, .int .i64 y.vParent, (.slice p3 y.vKids.length d3), .int .i64 y.vWrapper, (.slice p5 y.vListeners.length d5)]) 69)) := (Below.refl _ _).alloc (Nat.le_refl _) _
      have n0k := cell_on hbk n0
      have n3k := cell_on hbk n3
      by_cases hp : y.vParent = x.vId
      rotate_left
      · have hp' : (y.vParent != x.vId) = true := by simpa using hp
        have HF : Hid (kidsB h x = false) := by show _ = _; rw [hrem.out, hstep.out]; simp [kidB, hg', hp]
        clear hp hg hg'
        go_wp2_with fail
        go_ret
        exact ⟨ret_bool HF.out.symm, hbw.alloc hbw.size _⟩
      have hp' : (y.vParent != x.vId) = false := by simpa using hp
      have HK : Hid (kidsB h x = (!hasB (x.vKids.take j) K && kidsF h x.vId (x.vKids.take (j + 1)) (x.vKids.drop (j + 1)))) := by show _ = _; rw [hrem.out, hstep.out]; simp [kidB, hg', hp]
      clear hp hg hg'
      go_wp2_with fail
      refine (slContains_any (((SeqAt.take hcon.out j hj).below intAt_stays hbw).below intAt_stays hbk)).mono ?_
      rintro e w1 ⟨rfl, rfl⟩
      cases hq : hasB (x.vKids.take j) K
      · have HO : Hid _ := HK.out
        rw [hq] at HO
        clear hq
        go_wp2_with fail
        go_roundw
        case rel => exact ⟨j + 1, by omega, by go_num, hbr.out.alloc (by have := hbr.out.size; simp at this; omega) _, by show _ = _; rw [HO.out]; rfl⟩
        case measure => simp [intOf]; omega
      · have HF : Hid (kidsB h x = false) := by show _ = _; rw [HK.out, hq]; rfl
        clear hq
        go_wp2_with fail
        go_ret
        exact ⟨ret_bool HF.out.symm, hbw.alloc hbw.size _⟩
    · have H2 : Hid _ := kidsF_end (h := h) (id := x.vId) hlt
      have hbw : Below w.heap.size w wr := hb0.trans (hbr.out.mono (by omega))
      go_wp2_with fail
      go_ret
      exact ⟨ret_bool (by rw [hrem.out, H2.out]), hbw⟩
set_option maxRecDepth 100000 in
set_option maxHeartbeats 1600000 in
theorem endsAbove_any {w : World} {lo bn bo : Nat} {cs : List Value} {h : HeapD} {x : NodeD} (hlen : h.vNodes.length ≤ 9223372036854775807) (hm : IdxAt w lo bn bo h) (hx : NodeAt w lo cs x) :
    Calls Try.prog 70 #[.agg #[.map (some bn), .map (some bo)], .agg cs.toArray] w fun e w' => e = .returned (.bool (endF h h.vNodes.length x)) ∧ Below w.heap.size w w' := by
  obtain ⟨q3, q5, rfl, u3, u5, _⟩ := hx
  obtain ⟨a3, c3, rfl⟩ := u3.form
  obtain ⟨a5, c5, rfl⟩ := u5.form
  clear u3 u5
  have hb0 : Below w.heap.size w ((w.alloc (.cells (List.toArray [.map (some bn), .map (some bo)]) 86)).alloc (.cells (List.toArray [.int .i64 x.vId, .string x.vTag, .int .i64 x.vParent, (.slice a3 x.vKids.length c3), .int .i64 x.vWrapper, (.slice a5 x.vListeners.length c5)]) 69)) := ((Below.refl _ _).alloc (Nat.le_refl _) _).alloc (by simp) _
  have bX : Hid (Box ((w.alloc (.cells (List.toArray [.map (some bn), .map (some bo)]) 86)).alloc (.cells (List.toArray [.int .i64 x.vId, .string x.vTag, .int .i64 x.vParent, (.slice a3 x.vKids.length c3), .int .i64 x.vWrapper, (.slice a5 x.vListeners.length c5)]) 69)) w.heap.size [.map (some bn), .map (some bo)] 86) := (Box.new w [.map (some bn), .map (some bo)] 86).alloc _
  have bN : Hid (Box ((w.alloc (.cells (List.toArray [.map (some bn), .map (some bo)]) 86)).alloc (.cells (List.toArray [.int .i64 x.vId, .string x.vTag, .int .i64 x.vParent, (.slice a3 x.vKids.length c3), .int .i64 x.vWrapper, (.slice a5 x.vListeners.length c5)]) 69)) (w.heap.size + 1) [.int .i64 x.vId, .string x.vTag, .int .i64 x.vParent, (.slice a3 x.vKids.length c3), .int .i64 x.vWrapper, (.slice a5 x.vListeners.length c5)] 69) := by have hb := Box.new (w.alloc (.cells (List.toArray [.map (some bn), .map (some bo)]) 86)) [.int .i64 x.vId, .string x.vTag, .int .i64 x.vParent, (.slice a3 x.vKids.length c3), .int .i64 x.vWrapper, (.slice a5 x.vListeners.length c5)] 69; rwa [show ((w.alloc (.cells (List.toArray [.map (some bn), .map (some bo)]) 86))).heap.size = w.heap.size + 1 by simp] at hb
  have hm' : Hid (IdxAt w lo bn bo h) := hm
  obtain ⟨es, clock, hes, hents⟩ := (hm.below hb0).1
  have hel : es.size = h.vNodes.length := by have := ents_length _ _ hents; simpa using this
  have hlr : Sem.run Try.prog (Builtin.len_ #[83] 3 #[.map (some bn)]) ((w.alloc (.cells (List.toArray [.map (some bn), .map (some bo)]) 86)).alloc (.cells (List.toArray [.int .i64 x.vId, .string x.vTag, .int .i64 x.vParent, (.slice a3 x.vKids.length c3), .int .i64 x.vWrapper, (.slice a5 x.vListeners.length c5)]) 69)) = .ok (.int .i64 (h.vNodes.length : Int)) ((w.alloc (.cells (List.toArray [.map (some bn), .map (some bo)]) 86)).alloc (.cells (List.toArray [.int .i64 x.vId, .string x.vTag, .int .i64 x.vParent, (.slice a3 x.vKids.length c3), .int .i64 x.vWrapper, (.slice a5 x.vListeners.length c5)]) 69)) := by
    rw [← hel]; simp [Builtin.len_, run_underlying Try.underlying83, MapKept.run_getObj_map hes, goInt]
  clear hm hes hents hel
  go_enter Try.func70, Try.ntmps70
  go_wp2_with fail
  go_loopw [10] (fun i wr => ∃ (j : Nat) (Y : NodeD) (r3 r5 : Option Addr) (e3 e5 : Nat), j ≤ h.vNodes.length ∧ i = .int .i64 j ∧ Hid (Below (w.heap.size + 1) ((w.alloc (.cells (List.toArray [.map (some bn), .map (some bo)]) 86)).alloc (.cells (List.toArray [.int .i64 x.vId, .string x.vTag, .int .i64 x.vParent, (.slice a3 x.vKids.length c3), .int .i64 x.vWrapper, (.slice a5 x.vListeners.length c5)]) 69)) wr) ∧ Hid (Box wr (w.heap.size + 1) [.int .i64 Y.vId, .string Y.vTag, .int .i64 Y.vParent, (.slice r3 Y.vKids.length e3), .int .i64 Y.vWrapper, (.slice r5 Y.vListeners.length e5)] 69) ∧ Hid (endF h h.vNodes.length x = endF h (h.vNodes.length - j) Y)) (fun i _ => h.vNodes.length - (intOf i).toNat)
  case atStart => exact ⟨0, x, a3, a5, c3, c5, by omega, rfl, Below.refl _ _, bN.out, rfl⟩
  case round =>
    obtain ⟨j, Y, r3, r5, e3, e5, hj, rfl, hbr, hbox, hrem⟩ := hrel
    have hbw : Below w.heap.size w wr := hb0.trans (hbr.out.mono (by omega))
    by_cases hlt : j < h.vNodes.length
    · have bX1 := bX.out.below hbr.out (by omega)
      have x0 := bX1.cell 0 rfl
      have n2 := hbox.out.cell 2 rfl
      by_cases h0 : Y.vParent = 0
      · have h0' : (Y.vParent == 0) = true := by simpa using h0
        have HF : Hid (endF h h.vNodes.length x = true) := by show _ = _; rw [hrem.out]; exact endF_root (by omega) h0
        clear h0
        go_wp2_with fail
        go_ret
        exact ⟨ret_bool HF.out.symm, hbw⟩
      have h0' : (Y.vParent == 0) = false := by simpa using h0
      rcases run_look ((hm'.out.below hbw).1) Try.underlying83 zeroN Y.vParent with ⟨hg, hrun⟩ | ⟨y, cy, hg, hrun, hy⟩
      · have HF : Hid (endF h h.vNodes.length x = false) := by show _ = _; rw [hrem.out]; exact endF_none h0 hg
        clear h0 hg
        go_wp2_with fail
        go_ret
        exact ⟨ret_bool HF.out.symm, hbw.alloc hbw.size _⟩
      obtain ⟨g3, g5, rfl, v3, v5, _⟩ := hy
      obtain ⟨p3, d3, rfl⟩ := v3.form
      obtain ⟨p5, d5, rfl⟩ := v5.form
      clear v3 v5
      have HK : Hid (endF h h.vNodes.length x = endF h (h.vNodes.length - (j + 1)) y) := by show _ = _; rw [hrem.out, show h.vNodes.length - j = h.vNodes.length - (j + 1) + 1 by omega]; exact endF_up h0 hg
      clear h0 hg
      have hbs : w.heap.size + 2 ≤ wr.heap.size := by have := hbr.out.size; simpa using this
      have bK := hbox.out.alloc (.cells (List.toArray [.int .i64 y.vId, .string y.vTag, .int .i64 y.vParent, (.slice p3 y.vKids.length d3), .int .i64 y.vWrapper, (.slice p5 y.vListeners.length d5)]) 69)
      have k0 := bK.cell 0 rfl
      have k1 := bK.cell 1 rfl
      have k2 := bK.cell 2 rfl
      have k3 := bK.cell 3 rfl
      have k4 := bK.cell 4 rfl
      have k5 := bK.cell 5 rfl
      have kf := bK.unfrozen
      have bK' : Hid (Box (wr.alloc (.cells (List.toArray [.int .i64 y.vId, .string y.vTag, .int .i64 y.vParent, (.slice p3 y.vKids.length d3), .int .i64 y.vWrapper, (.slice p5 y.vListeners.length d5)]) 69)) (w.heap.size + 1) [.int .i64 Y.vId, .string Y.vTag, .int .i64 Y.vParent, (.slice r3 Y.vKids.length e3), .int .i64 Y.vWrapper, (.slice r5 Y.vListeners.length e5)] 69) := bK
      clear bK
      go_wp2_with fail
      go_roundw
      case rel =>
        refine ⟨j + 1, y, p3, p5, d3, d5, by omega, by go_num, putCells_below [.int .i64 y.vId, .string y.vTag, .int .i64 y.vParent, (.slice p3 y.vKids.length d3), .int .i64 y.vWrapper, (.slice p5 y.vListeners.length d5)] (w.heap.size + 1) _ _ (w.heap.size + 1) 0 (Nat.le_refl _) (hbr.out.alloc (by omega) _), ?_, HK⟩
        exact (((((bK'.out.set (i := 0) _).set (i := 1) _).set (i := 2) _).set (i := 3) _).set (i := 4) _).set (i := 5) _
      case measure => simp [intOf]; omega
    · have HF : Hid (endF h h.vNodes.length x = false) := by show _ = _; rw [hrem.out, show h.vNodes.length - j = 0 by omega]; rfl
      go_wp2_with fail
      go_ret
      exact ⟨ret_bool HF.out.symm, hbw⟩
set_option maxRecDepth 100000 in
set_option maxHeartbeats 1600000 in
theorem nodeOk_any {w : World} {lo bn bo : Nat} {cs : List Value} {h : HeapD} {x : NodeD} (hlen : h.vNodes.length ≤ 9223372036854775807) (hm : IdxAt w lo bn bo h) (hx : NodeAt w lo cs x) :
    Calls Try.prog 51 #[.agg #[.map (some bn), .map (some bo)], .agg cs.toArray] w fun e w' => e = .returned (.bool (nodeI h x)) ∧ Below w.heap.size w w' := by
  have hx' : Hid (NodeAt w lo cs x) := hx
  obtain ⟨q3, q5, rfl, u3, u5, _, rTag, _⟩ := hx
  have u5' : Hid (SeqAt 5 ListenerAt w lo q5 x.vListeners) := u5
  obtain ⟨a3, c3, rfl⟩ := u3.form
  obtain ⟨a5, c5, rfl⟩ := u5.form
  clear u3 u5
  have hb0 : Below w.heap.size w ((w.alloc (.cells (List.toArray [.map (some bn), .map (some bo)]) 86)).alloc (.cells (List.toArray [.int .i64 x.vId, .string x.vTag, .int .i64 x.vParent, (.slice a3 x.vKids.length c3), .int .i64 x.vWrapper, (.slice a5 x.vListeners.length c5)]) 69)) := ((Below.refl _ _).alloc (Nat.le_refl _) _).alloc (by simp) _
  have bX : Hid (Box ((w.alloc (.cells (List.toArray [.map (some bn), .map (some bo)]) 86)).alloc (.cells (List.toArray [.int .i64 x.vId, .string x.vTag, .int .i64 x.vParent, (.slice a3 x.vKids.length c3), .int .i64 x.vWrapper, (.slice a5 x.vListeners.length c5)]) 69)) w.heap.size [.map (some bn), .map (some bo)] 86) := (Box.new w [.map (some bn), .map (some bo)] 86).alloc _
  have bN : Hid (Box ((w.alloc (.cells (List.toArray [.map (some bn), .map (some bo)]) 86)).alloc (.cells (List.toArray [.int .i64 x.vId, .string x.vTag, .int .i64 x.vParent, (.slice a3 x.vKids.length c3), .int .i64 x.vWrapper, (.slice a5 x.vListeners.length c5)]) 69)) (w.heap.size + 1) [.int .i64 x.vId, .string x.vTag, .int .i64 x.vParent, (.slice a3 x.vKids.length c3), .int .i64 x.vWrapper, (.slice a5 x.vListeners.length c5)] 69) := by have hb := Box.new (w.alloc (.cells (List.toArray [.map (some bn), .map (some bo)]) 86)) [.int .i64 x.vId, .string x.vTag, .int .i64 x.vParent, (.slice a3 x.vKids.length c3), .int .i64 x.vWrapper, (.slice a5 x.vListeners.length c5)] 69; rwa [show ((w.alloc (.cells (List.toArray [.map (some bn), .map (some bo)]) 86))).heap.size = w.heap.size + 1 by simp] at hb
  have hm' : Hid (IdxAt w lo bn bo h) := hm
  have rTag' : Hid (x.vTag.size ≤ maxLen) := rTag
  clear hm rTag
  go_enter Try.func51, Try.ntmps51
  go_wp2_with fail
  refine (implNameOk_any _ _ rTag'.out).mono ?_
  rintro e w1 ⟨rfl, rfl⟩
  cases hq : nameB x.vTag.data.toList
  · have HF : Hid (nodeI h x = false) := by show _ = _; simp [nodeI, nmB, hq]
    clear hq
    go_wp2_with fail
    go_ret
    exact ⟨ret_bool HF.out.symm, hb0⟩
  have H0 : Hid (nmB x.vTag = true) := hq
  clear hq
  have hbr0 : Below (w.heap.size + 2) ((w.alloc (.cells (List.toArray [.map (some bn), .map (some bo)]) 86)).alloc (.cells (List.toArray [.int .i64 x.vId, .string x.vTag, .int .i64 x.vParent, (.slice a3 x.vKids.length c3), .int .i64 x.vWrapper, (.slice a5 x.vListeners.length c5)]) 69)) ((w.alloc (.cells (List.toArray [.map (some bn), .map (some bo)]) 86)).alloc (.cells (List.toArray [.int .i64 x.vId, .string x.vTag, .int .i64 x.vParent, (.slice a3 x.vKids.length c3), .int .i64 x.vWrapper, (.slice a5 x.vListeners.length c5)]) 69)) := Below.refl _ _
  have hbw0 : Below w.heap.size w ((w.alloc (.cells (List.toArray [.map (some bn), .map (some bo)]) 86)).alloc (.cells (List.toArray [.int .i64 x.vId, .string x.vTag, .int .i64 x.vParent, (.slice a3 x.vKids.length c3), .int .i64 x.vWrapper, (.slice a5 x.vListeners.length c5)]) 69)) := hb0.trans (hbr0.mono (by omega))
  go_wp2_with fail
  refine (kidsOk_any (hm'.out.below hbw0) (NodeAt_stays _ _ _ lo _ _ (.of_below hbw0) hx'.out)).mono ?_
  rintro e v0 ⟨rfl, hc0⟩
  cases hq : kidsB h x
  · have HF : Hid (nodeI h x = false) := by show _ = _; simp [nodeI, hq]
    have hbe : Below w.heap.size w v0 := hbw0.trans (hc0.mono hbw0.size)
    clear hq
    go_wp2_with fail
    go_ret
    exact ⟨ret_bool HF.out.symm, hbe⟩
  have H1 : Hid (kidsB h x = true) := hq
  have hbr1 : Below (w.heap.size + 2) ((w.alloc (.cells (List.toArray [.map (some bn), .map (some bo)]) 86)).alloc (.cells (List.toArray [.int .i64 x.vId, .string x.vTag, .int .i64 x.vParent, (.slice a3 x.vKids.length c3), .int .i64 x.vWrapper, (.slice a5 x.vListeners.length c5)]) 69)) v0 := hbr0.trans (hc0.mono (by simp))
  clear hq
  have hbw1 : Below w.heap.size w v0 := hb0.trans (hbr1.mono (by omega))
  have bX1 := bX.out.below hbr1 (by omega)
  have bN1 := bN.out.below hbr1 (by omega)
  have x0_1 := bX1.cell 0 rfl
  have x1_1 := bX1.cell 1 rfl
  have n0_1 := bN1.cell 0 rfl
  have n1_1 := bN1.cell 1 rfl
  have n2_1 := bN1.cell 2 rfl
  have n3_1 := bN1.cell 3 rfl
  have n4_1 := bN1.cell 4 rfl
  have n5_1 := bN1.cell 5 rfl
  clear bX1 bN1
  go_wp2_with fail
  refine (parentOk_any (hm'.out.below hbw1) (NodeAt_stays _ _ _ lo _ _ (.of_below hbw1) hx'.out)).mono ?_
  rintro e v1 ⟨rfl, hc1⟩
  cases hq : parB h x
  · have HF : Hid (nodeI h x = false) := by show _ = _; simp [nodeI, hq]
    have hbe : Below w.heap.size w v1 := hbw1.trans (hc1.mono hbw1.size)
    clear hq
    go_wp2_with fail
    go_ret
    exact ⟨ret_bool HF.out.symm, hbe⟩
  have H2 : Hid (parB h x = true) := hq
  have hbr2 : Below (w.heap.size + 2) ((w.alloc (.cells (List.toArray [.map (some bn), .map (some bo)]) 86)).alloc (.cells (List.toArray [.int .i64 x.vId, .string x.vTag, .int .i64 x.vParent, (.slice a3 x.vKids.length c3), .int .i64 x.vWrapper, (.slice a5 x.vListeners.length c5)]) 69)) v1 := hbr1.trans (hc1.mono (by have := hbr1.size; simpa using this))
  clear hq x0_1 x1_1 n0_1 n1_1 n2_1 n3_1 n4_1 n5_1
  have hbw2 : Below w.heap.size w v1 := hb0.trans (hbr2.mono (by omega))
  have bX2 := bX.out.below hbr2 (by omega)
  have bN2 := bN.out.below hbr2 (by omega)
  have x0_2 := bX2.cell 0 rfl
  have x1_2 := bX2.cell 1 rfl
  have n0_2 := bN2.cell 0 rfl
  have n1_2 := bN2.cell 1 rfl
  have n2_2 := bN2.cell 2 rfl
  have n3_2 := bN2.cell 3 rfl
  have n4_2 := bN2.cell 4 rfl
  have n5_2 := bN2.cell 5 rfl
  clear bX2 bN2
  go_wp2_with fail
  refine (endsAbove_any hlen (hm'.out.below hbw2) (NodeAt_stays _ _ _ lo _ _ (.of_below hbw2) hx'.out)).mono ?_
  rintro e v2 ⟨rfl, hc2⟩
  cases hq : endF h h.vNodes.length x
  · have HF : Hid (nodeI h x = false) := by show _ = _; simp [nodeI, hq]
    have hbe : Below w.heap.size w v2 := hbw2.trans (hc2.mono hbw2.size)
    clear hq
    go_wp2_with fail
    go_ret
    exact ⟨ret_bool HF.out.symm, hbe⟩
  have H3 : Hid (endF h h.vNodes.length x = true) := hq
  have hbr3 : Below (w.heap.size + 2) ((w.alloc (.cells (List.toArray [.map (some bn), .map (some bo)]) 86)).alloc (.cells (List.toArray [.int .i64 x.vId, .string x.vTag, .int .i64 x.vParent, (.slice a3 x.vKids.length c3), .int .i64 x.vWrapper, (.slice a5 x.vListeners.length c5)]) 69)) v2 := hbr2.trans (hc2.mono (by have := hbr2.size; simpa using this))
  clear hq x0_2 x1_2 n0_2 n1_2 n2_2 n3_2 n4_2 n5_2
  have hbw3 : Below w.heap.size w v2 := hb0.trans (hbr3.mono (by omega))
  have bX3 := bX.out.below hbr3 (by omega)
  have bN3 := bN.out.below hbr3 (by omega)
  have x0_3 := bX3.cell 0 rfl
  have x1_3 := bX3.cell 1 rfl
  have n0_3 := bN3.cell 0 rfl
  have n1_3 := bN3.cell 1 rfl
  have n2_3 := bN3.cell 2 rfl
  have n3_3 := bN3.cell 3 rfl
  have n4_3 := bN3.cell 4 rfl
  have n5_3 := bN3.cell 5 rfl
  clear bX3 bN3
  go_wp2_with fail
  refine (wrapperOk_any (hm'.out.below hbw3) (NodeAt_stays _ _ _ lo _ _ (.of_below hbw3) hx'.out)).mono ?_
  rintro e v3 ⟨rfl, hc3⟩
  cases hq : wrapB h x
  · have HF : Hid (nodeI h x = false) := by show _ = _; simp [nodeI, hq]
    have hbe : Below w.heap.size w v3 := hbw3.trans (hc3.mono hbw3.size)
    clear hq
    go_wp2_with fail
    go_ret
    exact ⟨ret_bool HF.out.symm, hbe⟩
  have H4 : Hid (wrapB h x = true) := hq
  have hbr4 : Below (w.heap.size + 2) ((w.alloc (.cells (List.toArray [.map (some bn), .map (some bo)]) 86)).alloc (.cells (List.toArray [.int .i64 x.vId, .string x.vTag, .int .i64 x.vParent, (.slice a3 x.vKids.length c3), .int .i64 x.vWrapper, (.slice a5 x.vListeners.length c5)]) 69)) v3 := hbr3.trans (hc3.mono (by have := hbr3.size; simpa using this))
  clear hq x0_3 x1_3 n0_3 n1_3 n2_3 n3_3 n4_3 n5_3
  have hbw4 : Below w.heap.size w v3 := hb0.trans (hbr4.mono (by omega))
  have bN4 := bN.out.below hbr4 (by omega)
  have n5_4 := bN4.cell 5 rfl
  clear bN4
  go_wp2_with fail
  refine (listenersOk_any (u5'.out.below ListenerAt_stays hbw4)).mono ?_
  rintro e v4 ⟨rfl, hc4⟩
  have HF : Hid (nodeI h x = (decide (x.vListeners.length ≤ 4) && lissB x.vListeners)) := by show _ = _; rw [nodeI, H0.out, H1.out, H2.out, H3.out, H4.out]; rfl
  have hbe : Below w.heap.size w v4 := hbw4.trans (hc4.mono hbw4.size)
  go_wp2_with fail
  go_ret
  exact ⟨ret_bool HF.out.symm, hbe⟩
set_option maxRecDepth 100000 in
set_option maxHeartbeats 1600000 in
theorem fieldsOk_any {w : World} {lo bn bo : Nat} {k : Value} {h : HeapD} {xs : List FieldD} {most : Int} (hm : IdxAt w lo bn bo h) (hk : SeqAt 2 FieldAt w lo k xs) :
    Calls Try.prog 53 #[.agg #[.map (some bn), .map (some bo)], k, .int .i64 most] w fun e w' => e = .returned (.bool (fieldsI h xs most)) ∧ Below w.heap.size w w' := by
  obtain ⟨a, cap, rfl, hml, hx⟩ := hk
  unfold maxLen at hml
  have hx' : Hid _ := hx
  clear hx
  have hb0 : Below w.heap.size w (w.alloc (.cells (List.toArray [.map (some bn), .map (some bo)]) 86)) := (Below.refl _ _).alloc (Nat.le_refl _) _
  have bX : Hid (Box (w.alloc (.cells (List.toArray [.map (some bn), .map (some bo)]) 86)) w.heap.size [.map (some bn), .map (some bo)] 86) := Box.new w [.map (some bn), .map (some bo)] 86
  have hm' : Hid (IdxAt w lo bn bo h) := hm
  clear hm
  by_cases hle : (xs.length : Int) ≤ most
  rotate_left
  · have HF : Hid (fieldsI h xs most = false) := by show _ = _; simp [fieldsI, hle]
    have hq : most < (xs.length : Int) := by omega
    go_enter Try.func53, Try.ntmps53
    go_wp2_with fail
    go_ret
    exact ⟨ret_bool HF.out.symm, hb0⟩
  have hq : decide (most < (xs.length : Int)) = false := by simp; omega
  have HB : Hid (fieldsI h xs most = fldsI h ⟨#[]⟩ xs) := by show _ = _; simp [fieldsI, hle]
  have hle' : Hid _ := hle
  clear hle
  go_enter Try.func53, Try.ntmps53
  go_wp2_with fail
  go_loopw [7, 18] (fun z i wr => ∃ (j : Nat), j ≤ xs.length ∧ i = .int .i64 j ∧ z = .string (lastN xs j) ∧ Hid (Below (w.heap.size + 1) (w.alloc (.cells (List.toArray [.map (some bn), .map (some bo)]) 86)) wr) ∧ Hid (fldsI h ⟨#[]⟩ xs = fldsI h (lastN xs j) (xs.drop j))) (fun _ i _ => xs.length - (intOf i).toNat)
  case atStart => exact ⟨0, by omega, rfl, rfl, Below.refl _ _, rfl⟩
  case round =>
    obtain ⟨j, hj, rfl, rfl, hbr, hrem⟩ := hrel
    have hbw : Below w.heap.size w wr := hb0.trans (hbr.out.mono (by omega))
    by_cases hlt : j < xs.length
    · have bX1 := bX.out.below hbr.out (by omega)
      obtain ⟨b, off, rfl, hlo, hbw2, hc⟩ := hx'.out (by omega)
      obtain ⟨cs, hcl, lie, hr⟩ := hc j hlt
      have lie1 := Lie.keep (lo := lo) (lo' := lo) lie (.of_below hbw) hlo hbw2
      have hstep : Hid _ := fldsI_step (h := h) hlt
      have hlast : Hid _ := lastN_succ hlt
      generalize hQ0 : xs[j] = Q at hr hstep hlast
      obtain ⟨rfl, rName, rObj, _⟩ := hr
      have rName' : Hid (Q.vName.size ≤ maxLen) := rName
      have z0 := lie_at lie1 0 rfl
      have z1 := lie_at lie1 1 rfl
      simp only [Nat.add_zero] at z0
      have hbk : Below wr.heap.size wr (wr.alloc (.cells (List.toArray [.string Q.vName, .int .i64 Q.vObj]) 97)) := (Below.refl _ _).alloc (Nat.le_refl _) _
      have hbwk : Below w.heap.size w (wr.alloc (.cells (List.toArray [.string Q.vName, .int .i64 Q.vObj]) 97)) := hbw.alloc hbw.size _
      have x1k := cell_on hbk (bX1.cell 1 rfl)
      clear lie lie1 hcl hc hQ0 bX1 rName
      generalize hL : lastN xs j = LN at *
      clear hL
      rcases run_look ((hm'.out.below hbwk).2) Try.underlying84 zeroO Q.vObj with ⟨hg, hrun⟩ | ⟨y, cy, hg, hrun, hy⟩
      · have hg' : objAt h Q.vObj = none := hg
        have HF : Hid (fieldsI h xs most = false) := by show _ = _; rw [HB.out, hrem.out, hstep.out]; simp [hg']
        clear hg hg'
        go_wp2_with fail
        go_ret
        exact ⟨ret_bool HF.out.symm, hbwk.alloc hbwk.size _⟩
      have hg' : objAt h Q.vObj = some y := hg
      obtain ⟨g2, rfl, v2, _⟩ := hy
      obtain ⟨p2, d2, rfl⟩ := v2.form
      clear v2
      have bF := Box.new wr [.string Q.vName, .int .i64 Q.vObj] 97
      have bF2 := bF.alloc (.cells (List.toArray [.int .i64 y.vId, .int .i64 y.vNode, (.slice p2 y.vFields.length d2)]) 73)
      have f0 := bF2.cell 0 rfl
      clear bF bF2
      go_wp2_with fail
      refine (implNameOk_any _ _ rName'.out).mono ?_
      rintro e w1 ⟨rfl, rfl⟩
      cases hn : nameB Q.vName.data.toList
      · have HF : Hid (fieldsI h xs most = false) := by show _ = _; rw [HB.out, hrem.out, hstep.out]; simp [nmB, hn]
        clear hg hg' hn
        go_wp2_with fail
        go_ret
        exact ⟨ret_bool HF.out.symm, hbwk.alloc hbwk.size _⟩
      cases hls : leS Q.vName LN
      rotate_left
      · have HF : Hid (fieldsI h xs most = false) := by show _ = _; rw [HB.out, hrem.out, hstep.out]; simp [hls]
        have hls2 : (Op.bytesLess Q.vName.toList LN.toList || Q.vName.toList == LN.toList) = true := hls
        clear hg hg' hn hls
        go_wp2_with fail
        go_ret
        exact ⟨ret_bool HF.out.symm, hbwk.alloc hbwk.size _⟩
      have HO : Hid (fldsI h ⟨#[]⟩ xs = fldsI h (lastN xs (j + 1)) (xs.drop (j + 1))) := by show _ = _; rw [hrem.out, hstep.out]; simp [hg', nmB, hn, hls]
      have hls2 : (Op.bytesLess Q.vName.toList LN.toList || Q.vName.toList == LN.toList) = false := hls
      clear hg hg' hn hls
      go_wp2_with fail
      go_roundw
      case rel => exact ⟨j + 1, by omega, by go_num, by rw [hlast.out], (hbr.out.alloc (by have := hbr.out.size; simp at this; omega) _).alloc (by have := hbr.out.size; simp at this ⊢; omega) _, HO⟩
      case measure => simp [intOf]; omega
    · have H2 : Hid _ := fldsI_end (h := h) hlt
      go_wp2_with fail
      go_ret
      exact ⟨ret_bool (by rw [HB.out, hrem.out, H2.out]), hbw⟩
set_option maxRecDepth 100000 in
set_option maxHeartbeats 1600000 in
theorem objOk_any {w : World} {lo bn bo : Nat} {cs : List Value} {h : HeapD} {x : ObjD} (hm : IdxAt w lo bn bo h) (hx : ObjAt w lo cs x) :
    Calls Try.prog 52 #[.agg #[.map (some bn), .map (some bo)], .agg cs.toArray] w fun e w' => e = .returned (.bool (objI h x)) ∧ Below w.heap.size w w' := by
  have hx' : Hid (ObjAt w lo cs x) := hx
  obtain ⟨q2, rfl, u2, _⟩ := hx
  have u2' : Hid (SeqAt 2 FieldAt w lo q2 x.vFields) := u2
  obtain ⟨a2, c2, rfl⟩ := u2.form
  clear u2
  have hb0 : Below w.heap.size w ((w.alloc (.cells (List.toArray [.map (some bn), .map (some bo)]) 86)).alloc (.cells (List.toArray [.int .i64 x.vId, .int .i64 x.vNode, (.slice a2 x.vFields.length c2)]) 73)) := ((Below.refl _ _).alloc (Nat.le_refl _) _).alloc (by simp) _
  have bX : Hid (Box ((w.alloc (.cells (List.toArray [.map (some bn), .map (some bo)]) 86)).alloc (.cells (List.toArray [.int .i64 x.vId, .int .i64 x.vNode, (.slice a2 x.vFields.length c2)]) 73)) w.heap.size [.map (some bn), .map (some bo)] 86) := (Box.new w [.map (some bn), .map (some bo)] 86).alloc _
  have bN : Hid (Box ((w.alloc (.cells (List.toArray [.map (some bn), .map (some bo)]) 86)).alloc (.cells (List.toArray [.int .i64 x.vId, .int .i64 x.vNode, (.slice a2 x.vFields.length c2)]) 73)) (w.heap.size + 1) [.int .i64 x.vId, .int .i64 x.vNode, (.slice a2 x.vFields.length c2)] 73) := by have hb := Box.new (w.alloc (.cells (List.toArray [.map (some bn), .map (some bo)]) 86)) [.int .i64 x.vId, .int .i64 x.vNode, (.slice a2 x.vFields.length c2)] 73; rwa [show ((w.alloc (.cells (List.toArray [.map (some bn), .map (some bo)]) 86))).heap.size = w.heap.size + 1 by simp] at hb
  have hm' : Hid (IdxAt w lo bn bo h) := hm
  clear hm
  go_enter Try.func52, Try.ntmps52
  go_wp2_with fail
  refine (wrappedOk_any (hm'.out.below hb0) (ObjAt_stays _ _ _ lo _ _ (.of_below hb0) hx'.out)).mono ?_
  rintro e v0 ⟨rfl, hc0⟩
  have hbr1 : Below (w.heap.size + 2) ((w.alloc (.cells (List.toArray [.map (some bn), .map (some bo)]) 86)).alloc (.cells (List.toArray [.int .i64 x.vId, .int .i64 x.vNode, (.slice a2 x.vFields.length c2)]) 73)) v0 := hc0.mono (by simp)
  have hbw1 : Below w.heap.size w v0 := hb0.trans (hbr1.mono (by omega))
  cases hq : oNodeB h x
  · have HF : Hid (objI h x = false) := by show _ = _; simp [objI, hq]
    clear hq
    go_wp2_with fail
    go_ret
    exact ⟨ret_bool HF.out.symm, hbw1⟩
  have HF : Hid (objI h x = fieldsI h x.vFields 5) := by show _ = _; simp [objI, hq]
  clear hq
  have bX1 := bX.out.below hbr1 (by omega)
  have bN1 := bN.out.below hbr1 (by omega)
  have x0 := bX1.cell 0 rfl
  have x1 := bX1.cell 1 rfl
  have n2 := bN1.cell 2 rfl
  clear bX1 bN1
  go_wp2_with fail
  refine (fieldsOk_any (hm'.out.below hbw1) (u2'.out.below FieldAt_stays hbw1)).mono ?_
  rintro e v1 ⟨rfl, hc1⟩
  have hbe : Below w.heap.size w v1 := hbw1.trans (hc1.mono hbw1.size)
  go_wp2_with fail
  go_ret
  exact ⟨ret_bool HF.out.symm, hbe⟩
end Go.Proofs.Ytbodeijffpepfaa
