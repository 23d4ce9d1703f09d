/- A heap without some: l5Without of the specification, walked; its answer owns its memory. -/
import Derived.Test.YtnonfehmbabfhaaGreatHCopy
import Derived.Test.YtnonfehmbabfhaaGreatDelFunc
import Derived.Test.YtnonfehmbabfhaaGreatHeapSmall
import Derived.Test.YtnonfehmbabfhaaGreatCopyOf
namespace Go.Proofs.YtnonfehmbabfhaaGreat
open Go.RowKit Go.Deep
def withoutD (gone : List Int) (h : HeapD) : HeapD := { h with vNodes := leftNode gone h.vNodes, vObjs := leftObj gone h.vObjs }
theorem leftNode_succ {gone : List Int} {xs : List NodeD} {j : Nat} (h : j < xs.length) : leftNode gone (xs.take (j + 1)) = leftNode gone (xs.take j) ++ if hasB gone xs[j].vId = true then [] else [xs[j]] := by
  unfold leftNode
  rw [List.take_succ_eq_append_getElem h, List.filter_append]
  cases hp : hasB gone xs[j].vId <;> simp [hp]
theorem leftObj_succ {gone : List Int} {xs : List ObjD} {j : Nat} (h : j < xs.length) : leftObj gone (xs.take (j + 1)) = leftObj gone (xs.take j) ++ if hasB gone xs[j].vId = true then [] else [xs[j]] := by
  unfold leftObj
  rw [List.take_succ_eq_append_getElem h, List.filter_append]
  cases hp : hasB gone xs[j].vId <;> simp [hp]
set_option maxRecDepth 100000 in
set_option maxHeartbeats 8000000 in
theorem l5Without_any {w : World} {lo lo2 : Nat} {cs : List Value} {x : HeapD} {kg : Value} {gone : List Int} (hx : HeapAt w lo cs x) (hs : x.small) (hg : SeqAt 1 IntAt w lo2 kg gone) :
    Calls Tryz.prog 23 #[.agg cs.toArray, kg] w fun e w' => (∃ cs', e = .returned (.agg cs'.toArray) ∧ AnsH w w' cs' (withoutD gone x)) ∧ Below w.heap.size w w' := by
  have hgo : Hid (SeqAt 1 IntAt w lo2 kg gone) := hg
  have hxx : Hid (HeapAt w lo cs x) := hx
  obtain ⟨ga, gc, rfl⟩ := hg.form
  clear hg
  obtain ⟨k2, k3, k4, rfl, s2, s3, s4, rN, rD, _⟩ := hx
  obtain ⟨a2, c2, rfl⟩ := s2.form
  obtain ⟨a3, c3, rfl⟩ := s3.form
  obtain ⟨a4, c4, rfl⟩ := s4.form
  have hsN : Hid (SeqAt 6 NodeAt w lo (.slice a2 x.vNodes.length c2) x.vNodes) := s2
  have hsO : Hid (SeqAt 3 ObjAt w lo (.slice a3 x.vObjs.length c3) x.vObjs) := s3
  have hrr : Hid (InI x.vNext ∧ InI x.vDoc) := ⟨rN, rD⟩
  have hl2 : x.vNodes.length ≤ 1048576 := hs.1.1
  have hl3 : x.vObjs.length ≤ 1048576 := hs.2.1.1
  have hl4 : x.vGlobals.length ≤ 1048576 := hs.2.2.1.1
  have hsm : Hid x.small := hs
  obtain ⟨iF, hF0, hF1⟩ := infoFieldC
  have hiF : Hid (Tryz.prog.info? 102 = some iF) := hF0
  have heF : Hid _ := hF1
  obtain ⟨iN, hN0, hN1⟩ := infoNodeC
  have hiN : Hid (Tryz.prog.info? 91 = some iN) := hN0
  have heN : Hid _ := hN1
  obtain ⟨iO, hO0, hO1⟩ := infoObjC
  have hiO : Hid (Tryz.prog.info? 95 = some iO) := hO0
  have heO : Hid _ := hO1
  clear s2 s3 s4 rN rD hs hF0 hF1 hN0 hN1 hO0 hO1
  have hbA : Hid (Below w.heap.size w ((w.alloc (.cells #[.int .i64 x.vNext, .int .i64 x.vDoc, .slice a2 x.vNodes.length c2, .slice a3 x.vObjs.length c3, .slice a4 x.vGlobals.length c4] 32)).alloc (.cells #[.int .i64 0, .int .i64 0, .slice none 0 0, .slice none 0 0, .slice none 0 0] 32))) := ((Below.refl _ _).alloc (Nat.le_refl _) _).alloc (by simp) _
  have hzA : ((w.alloc (.cells #[.int .i64 x.vNext, .int .i64 x.vDoc, .slice a2 x.vNodes.length c2, .slice a3 x.vObjs.length c3, .slice a4 x.vGlobals.length c4] 32)).alloc (.cells #[.int .i64 0, .int .i64 0, .slice none 0 0, .slice none 0 0, .slice none 0 0] 32)).heap.size = w.heap.size + 2 := by simp
  have bx0 : Hid (Box ((w.alloc (.cells #[.int .i64 x.vNext, .int .i64 x.vDoc, .slice a2 x.vNodes.length c2, .slice a3 x.vObjs.length c3, .slice a4 x.vGlobals.length c4] 32)).alloc (.cells #[.int .i64 0, .int .i64 0, .slice none 0 0, .slice none 0 0, .slice none 0 0] 32)) w.heap.size [.int .i64 x.vNext, .int .i64 x.vDoc, .slice a2 x.vNodes.length c2, .slice a3 x.vObjs.length c3, .slice a4 x.vGlobals.length c4] 32) := (Box.new w _ _).alloc _
  have bz0 : Hid (Box ((w.alloc (.cells #[.int .i64 x.vNext, .int .i64 x.vDoc, .slice a2 x.vNodes.length c2, .slice a3 x.vObjs.length c3, .slice a4 x.vGlobals.length c4] 32)).alloc (.cells #[.int .i64 0, .int .i64 0, .slice none 0 0, .slice none 0 0, .slice none 0 0] 32)) (w.heap.size + 1) [.int .i64 0, .int .i64 0, .slice none 0 0, .slice none 0 0, .slice none 0 0] 32) := by have h5 := Box.new (w.alloc (.cells #[.int .i64 x.vNext, .int .i64 x.vDoc, .slice a2 x.vNodes.length c2, .slice a3 x.vObjs.length c3, .slice a4 x.vGlobals.length c4] 32)) [.int .i64 0, .int .i64 0, .slice none 0 0, .slice none 0 0, .slice none 0 0] 32; simp only [World.size_alloc] at h5; exact h5
  go_enter Tryz.func23, Tryz.ntmps23
  · go_wp2_with fail
    refine (l4Copy_any (HeapAt_stays _ _ _ lo _ _ (.of_below hbA.out) hxx.out) hsm.out).mono ?_
    rintro e u1 ⟨⟨cs1, rfl, f1, ho1, nd1, lo1⟩, hq1⟩
    rw [hzA] at lo1
    have hlt1 := HeapOwn_lt _ _ _ _ ho1
    have hzu : w.heap.size + 2 ≤ u1.heap.size := by have h5 := hq1.size; rw [hzA] at h5; exact h5
    obtain ⟨k2, k3, k4, f2, f3, f4, rfl, q2, q3, q4, _, _, hfe⟩ := ho1
    obtain ⟨p2, d2, rfl⟩ := q2.form
    obtain ⟨p3, d3, rfl⟩ := q3.form
    obtain ⟨p4, d4, rfl⟩ := q4.form
    subst hfe
    have hkc : Hid (Below (w.heap.size + 2) ((w.alloc (.cells #[.int .i64 x.vNext, .int .i64 x.vDoc, .slice a2 x.vNodes.length c2, .slice a3 x.vObjs.length c3, .slice a4 x.vGlobals.length c4] 32)).alloc (.cells #[.int .i64 0, .int .i64 0, .slice none 0 0, .slice none 0 0, .slice none 0 0] 32)) (u1.alloc (.cells #[.int .i64 x.vNext, .int .i64 x.vDoc, .slice none 0 0, .slice none 0 0, .slice p4 x.vGlobals.length d4] 32))) := (hq1.mono (by rw [hzA]; exact Nat.le_refl _)).alloc hzu _
    have bTn : Hid (Box (u1.alloc (.cells #[.int .i64 x.vNext, .int .i64 x.vDoc, .slice none 0 0, .slice none 0 0, .slice p4 x.vGlobals.length d4] 32)) u1.heap.size [.int .i64 x.vNext, .int .i64 x.vDoc, .slice none 0 0, .slice none 0 0, .slice p4 x.vGlobals.length d4] 32) := Box.new _ _ _
    have hsG : Hid (SeqOwn 2 FieldOwn (u1.alloc (.cells #[.int .i64 x.vNext, .int .i64 x.vDoc, .slice none 0 0, .slice none 0 0, .slice p4 x.vGlobals.length d4] 32)) (.slice p4 x.vGlobals.length d4) x.vGlobals f4) := q4.stays FieldOwn_stays (fun b qq => Below.heap_alloc _ _ _ (SeqOwn.lt FieldOwn_lt q4 b qq))
    have hloG : Hid (∀ b ∈ f4, (w.heap.size + 2) ≤ b ∧ b ≠ u1.heap.size) := fun b qq => ⟨lo1 b (List.mem_append_right _ qq), by have := SeqOwn.lt FieldOwn_lt q4 b qq; omega⟩
    have hTb : (w.heap.size + 2) ≤ u1.heap.size := hzu
    clear q2 q3 q4 lo1 nd1 hq1 hlt1 hzu
    go_wp2_with fail
    generalize u1.heap.size = T at hkc bTn hsG hloG hTb
    generalize (u1.alloc (.cells #[.int .i64 x.vNext, .int .i64 x.vDoc, .slice none 0 0, .slice none 0 0, .slice p4 x.vGlobals.length d4] 32)) = wc at hkc bTn hsG
    have hon : Hid (Out [T] wc wc) := Out.refl _ _
    have hzc : w.heap.size + 2 ≤ wc.heap.size := by have := hkc.out.size; rw [hzA] at this; exact this
    have hTc : T < wc.heap.size := bTn.out.lt
    have bxc : Hid (Box wc w.heap.size [.int .i64 x.vNext, .int .i64 x.vDoc, .slice a2 x.vNodes.length c2, .slice a3 x.vObjs.length c3, .slice a4 x.vGlobals.length c4] 32) := bx0.out.below hkc.out (by omega)
    have bzc : Hid (Box wc (w.heap.size + 1) [.int .i64 0, .int .i64 0, .slice none 0 0, .slice none 0 0, .slice none 0 0] 32) := bz0.out.below hkc.out (by omega)
    have hwc : Hid (Below w.heap.size w wc) := hbA.out.trans (hkc.out.mono (by omega))
    clear bx0 bz0 hkc hbA hzA hxx
    go_loopw [6] (fun i wr => ∃ (j L : Nat) (av : Option Addr) (cv : Nat) (bss : List (List Nat)) (css : List (List Value)), j ≤ x.vNodes.length ∧ L ≤ j ∧ i = .int .i64 j ∧ Hid ((leftNode gone (x.vNodes.take j)).length = L) ∧ Hid (GrowOwn 91 6 NodeOwn wc.heap.size wr (.slice av L cv) (leftNode gone (x.vNodes.take j)) bss css) ∧ Hid (Box wr T [.int .i64 x.vNext, .int .i64 x.vDoc, .slice av L cv, .slice none 0 0, .slice p4 x.vGlobals.length d4] 32) ∧ Hid (Out [T] wc wr)) (fun i _ => x.vNodes.length - (intOf i).toNat)
    case atStart => exact ⟨0, 0, none, 0, [], [], by omega, by omega, rfl, rfl, GrowOwn.nil, bTn, hon⟩
    case round =>
      obtain ⟨j, L, av, cv, bss, css, hj, hLj, rfl, hlenj, hgr, bTr, hout⟩ := hrel
      have hzr : wc.heap.size ≤ wr.heap.size := hout.out.2.2.2.1
      have bxr : Hid (Box wr w.heap.size [.int .i64 x.vNext, .int .i64 x.vDoc, .slice a2 x.vNodes.length c2, .slice a3 x.vObjs.length c3, .slice a4 x.vGlobals.length c4] 32) := (hout.out.keep bxc.out.lt (by simp; omega)).trans bxc.out
      have bzr : Hid (Box wr (w.heap.size + 1) [.int .i64 0, .int .i64 0, .slice none 0 0, .slice none 0 0, .slice none 0 0] 32) := (hout.out.keep bzc.out.lt (by simp; omega)).trans bzc.out
      have hwr : Hid (Below w.heap.size w wr) := hwc.out.trans (hout.out.below (by omega) (by simp; omega))
      by_cases hlt : j < x.vNodes.length
      · obtain ⟨a_, cap_, e_, _, hc_⟩ := hsN.out
        injection e_ with e1 e2 e3
        subst e1 e3
        obtain ⟨bn, on, rfl, _, hbn, hc⟩ := hc_ (by omega)
        obtain ⟨cs, hcl, lie, hXr⟩ := hc j hlt
        have htk0 : Hid (leftNode gone (x.vNodes.take (j + 1)) = leftNode gone (x.vNodes.take j) ++ if hasB gone x.vNodes[j].vId = true then [] else [x.vNodes[j]]) := leftNode_succ hlt
        have hsX : Hid (NodeD.small x.vNodes[j]) := hsm.out.1.2 j hlt
        generalize x.vNodes[j] = X at hXr htk0 hsX
        have hXat : Hid (NodeAt w lo cs X) := hXr
        obtain ⟨k3, k5, rfl, q3, q5, _⟩ := hXr
        obtain ⟨a7, c7, rfl⟩ := q3.form
        obtain ⟨a8, c8, rfl⟩ := q5.form
        have hcell : ∀ m v, [.int .i64 X.vId, .string X.vTag, .int .i64 X.vParent, .slice a7 X.vKids.length c7, .int .i64 X.vWrapper, .slice a8 X.vListeners.length c8][m]? = some v → wr.cell? ⟨bn, on + j * 6 + m, none⟩ = some v := fun m v e => cell_on hwr.out (by have hm : m < 6 := (by rcases Nat.lt_or_ge m 6 with r | r; (exact r); (rw [List.getElem?_eq_none (by simpa using r)] at e; cases e)); have h5 := lie m (by simpa using hm); rw [h5]; exact e)
        have z0 := hcell 0 _ rfl
        have z1 := hcell 1 _ rfl
        have z2 := hcell 2 _ rfl
        have z3 := hcell 3 _ rfl
        have z4 := hcell 4 _ rfl
        have z5 := hcell 5 _ rfl
        simp only [Nat.add_zero] at z0
        have cA2 := bxr.out.cell 2 rfl
        have hgr' : Hid (GrowOwn 91 6 NodeOwn wc.heap.size wr (.slice av L cv) (leftNode gone (x.vNodes.take j)) bss css) := hgr
        have hlt' : (j : Int) < (x.vNodes.length : Int) := by omega
        have hj0 : (0 : Int) ≤ (j : Int) := by omega
        clear hcell lie hcl hc hc_ q3 q5 e2 hgr
        go_wp2_with fail
        refine (l2Has_any (hgo.out.below intAt_stays hwr.out)).mono ?_
        rintro e w_ ⟨rfl, rfl⟩
        obtain ⟨wr, rfl⟩ : ∃ q, q = w_ := ⟨w_, rfl⟩
        cases hv : hasB gone X.vId with
        | true =>
          have htk : Hid (leftNode gone (x.vNodes.take (j + 1)) = leftNode gone (x.vNodes.take j)) := by show _ = _; rw [htk0.out, if_pos hv, List.append_nil]
          clear hv htk0
          go_wp2_with fail
          go_roundw
          case rel => exact ⟨j + 1, L, av, cv, bss, css, by omega, by omega, by go_num, by rw [htk.out]; exact hlenj.out, by rw [htk.out]; exact hgr'.out, bTr, hout⟩
          case measure => simp [intOf]; omega
        | false =>
        have htk : Hid (leftNode gone (x.vNodes.take (j + 1)) = leftNode gone (x.vNodes.take j) ++ [X]) := by show _ = _; rw [htk0.out, if_neg (by simp [hv])]
        clear hv htk0
        go_wp2_with fail
        refine wp_region_held_drew (S := fun w' => w'.cell? ⟨w.heap.size, 2, none⟩ = some (.slice (some ⟨bn, on, none⟩) x.vNodes.length c2) ∧ w'.cell? ⟨bn, on + j * 6, none⟩ = some (.int .i64 X.vId) ∧ w'.cell? ⟨bn, on + j * 6 + 1, none⟩ = some (.string X.vTag) ∧ w'.cell? ⟨bn, on + j * 6 + 2, none⟩ = some (.int .i64 X.vParent) ∧ w'.cell? ⟨bn, on + j * 6 + 3, none⟩ = some (.slice a7 X.vKids.length c7) ∧ w'.cell? ⟨bn, on + j * 6 + 4, none⟩ = some (.int .i64 X.vWrapper) ∧ w'.cell? ⟨bn, on + j * 6 + 5, none⟩ = some (.slice a8 X.vListeners.length c8)) (by kernel_rfl) ⟨cA2, z0, z1, z2, z3, z4, z5⟩ (fun hHeld => ?_)
        refine tq (i := 0) (d := 29) ?_
        simp only [sz, ss]
        refine tq (i := 2) (d := 31) ?_
        simp only [sz, ss]
        refine tq (i := 3) (d := 32) ?_
        simp only [sz, ss]
        refine tq (i := 4) (d := 33) ?_
        simp only [sz, ss]
        refine tq (i := 5) (d := 34) ?_
        simp only [sz, ss]
        refine tq (i := 6) (d := 35) ?_
        simp only [sz, ss]
        refine wpAnyH_ready (rs := [1, 7]) (by kernel_rfl) (by simp) ?_
        refine (AllReadyH.cons rfl (fun K hK => ?_) (AllReadyH.cons rfl (fun K hK => ?_) AllReadyH.nil))
        · have cT : wr.drew.cell? ⟨T, 2, none⟩ = some (.slice av L cv) := bTr.out.cell 2 rfl
          go_simp
          clear cT
          refine hK.out _ _ hHeld (fun hHeld => ?_)
          clear hK K
          refine wpAnyH_ready (rs := [7]) (by kernel_rfl) (by simp) ?_
          refine AllReadyH.cons rfl (fun K hK => ?_) AllReadyH.nil
          go_simp
          refine (l4CopyNode_any (by exact NodeAt_stays _ _ _ lo _ _ (.of_below hwr.out.drew) hXat.out) hsX.out).mono ?_
          rintro e u1 ⟨⟨cs1, fs1, rfl, ho1, nd1, lo1⟩, hq1⟩
          have hu1 : Hid (Below wr.heap.size wr u1) := undrew hq1
          have hi1 : Hid (∀ b ∈ fs1, b < u1.heap.size) := NodeOwn_lt _ _ _ _ ho1
          have lo1' : Hid (∀ b ∈ fs1, wr.heap.size ≤ b) := fun b qq => by have := lo1 b qq; simpa using this
          have ho1' : Hid (NodeOwn u1 cs1 X fs1) := ho1
          have nd1' : Hid fs1.Nodup := nd1
          obtain ⟨m3, m5, _, _, rfl, q3, q5, _⟩ := ho1
          obtain ⟨p3, d3, rfl⟩ := q3.form
          obtain ⟨p5, d5, rfl⟩ := q5.form
          have bT1 : Hid (Box u1 T [.int .i64 x.vNext, .int .i64 x.vDoc, .slice av L cv, .slice none 0 0, .slice p4 x.vGlobals.length d4] 32) := bTr.out.below hu1.out bTr.out.lt
          clear q3 q5 lo1 nd1
          refine hK.out _ _ ⟨cell_on hq1 hHeld.1, cell_on hq1 hHeld.2.1, cell_on hq1 hHeld.2.2.1, cell_on hq1 hHeld.2.2.2.1, cell_on hq1 hHeld.2.2.2.2.1, cell_on hq1 hHeld.2.2.2.2.2.1, cell_on hq1 hHeld.2.2.2.2.2.2⟩ (fun hHeld => ?_)
          clear hK K
          refine wpAnyH_ready (rs := [8]) (by kernel_rfl) (by simp) ?_
          refine AllReadyH.cons rfl (fun K hK => ?_) AllReadyH.nil
          have bT2 : Hid (Box (u1.alloc (.cells #[.int .i64 X.vId, .string X.vTag, .int .i64 X.vParent, .slice p3 X.vKids.length d3, .int .i64 X.vWrapper, .slice p5 X.vListeners.length d5] 91)) T [.int .i64 x.vNext, .int .i64 x.vDoc, .slice av L cv, .slice none 0 0, .slice p4 x.vGlobals.length d4] 32) := bT1.out.alloc _
          have nb : Hid (Box (u1.alloc (.cells #[.int .i64 X.vId, .string X.vTag, .int .i64 X.vParent, .slice p3 X.vKids.length d3, .int .i64 X.vWrapper, .slice p5 X.vListeners.length d5] 91)) u1.heap.size [.int .i64 X.vId, .string X.vTag, .int .i64 X.vParent, .slice p3 X.vKids.length d3, .int .i64 X.vWrapper, .slice p5 X.vListeners.length d5] 91) := Box.new u1 _ _
          go_simp
          refine hK.out _ _ ⟨cell_alloc2 hHeld.1 _, cell_alloc2 hHeld.2.1 _, cell_alloc2 hHeld.2.2.1 _, cell_alloc2 hHeld.2.2.2.1 _, cell_alloc2 hHeld.2.2.2.2.1 _, cell_alloc2 hHeld.2.2.2.2.2.1 _, cell_alloc2 hHeld.2.2.2.2.2.2 _⟩ (fun hHeld => ?_)
          clear hK K
          refine wpAnyH_ready (rs := [9]) (by kernel_rfl) (by simp) ?_
          refine AllReadyH.cons rfl (fun K hK => ?_) AllReadyH.nil
          refine step_append_lies (u1.alloc (.cells #[.int .i64 X.vId, .string X.vTag, .int .i64 X.vParent, .slice p3 X.vKids.length d3, .int .i64 X.vWrapper, .slice p5 X.vListeners.length d5] 91)) rfl _ _ 28 rfl wc.heap.size 91 iN _ 6 88 Tryz.underlying28 hiN.out heN.out.1 heN.out.2.1 heN.out.2.2 rfl (by decide) (.slice av L cv) L css.flatten rfl (by have h5 := row_below hgr'.out.2.2.2.1 (hu1.out.alloc hu1.out.size (.cells #[.int .i64 X.vId, .string X.vTag, .int .i64 X.vParent, .slice p3 X.vKids.length d3, .int .i64 X.vWrapper, .slice p5 X.vListeners.length d5] 91)); rw [hlenj.out] at h5; exact h5) ⟨u1.heap.size, 0, none⟩ 1 1 [.int .i64 X.vId, .string X.vTag, .int .i64 X.vParent, .slice p3 X.vKids.length d3, .int .i64 X.vWrapper, .slice p5 X.vListeners.length d5] rfl rfl (by intro i u hu; match i, hu with | 0, hu => (simp at hu; subst hu; simp [Addr.add]) | 1, hu => (simp at hu; subst hu; simp [Addr.add]) | 2, hu => (simp at hu; subst hu; simp [Addr.add]) | 3, hu => (simp at hu; subst hu; simp [Addr.add]) | 4, hu => (simp at hu; subst hu; simp [Addr.add]) | 5, hu => (simp at hu; subst hu; simp [Addr.add]) | i + 6, hu => simp at hu) (by intro u hu; simp at hu; rcases hu with rfl | rfl | rfl | rfl | rfl | rfl <;> rfl) (by omega) (by unfold maxLen; omega) (by omega) (by have := hu1.out.size; simp; omega) _ rfl ?_
          intro g capg w3 hown3 hgrow3 hat3 hlt3
          have hb3 : Hid (Below wc.heap.size (u1.alloc (.cells #[.int .i64 X.vId, .string X.vTag, .int .i64 X.vParent, .slice p3 X.vKids.length d3, .int .i64 X.vWrapper, .slice p5 X.vListeners.length d5] 91)) w3) := (Below.refl _ _).grown hgrow3 (by have := hu1.out.size; simp; omega) (fun k e => own_block2 hgr'.out.2.2.2.1 k e)
          have bT3 : Hid (Box w3 T [.int .i64 x.vNext, .int .i64 x.vDoc, .slice av L cv, .slice none 0 0, .slice p4 x.vGlobals.length d4] 32) := bT2.out.below hb3.out (by omega)
          go_simp
          refine hK.out _ _ ⟨(hb3.out.cell (p := ⟨w.heap.size, 2, none⟩) (by simp; omega)).trans hHeld.1, (hb3.out.cell (p := ⟨bn, on + j * 6, none⟩) (by simp; omega)).trans hHeld.2.1, (hb3.out.cell (p := ⟨bn, on + j * 6 + 1, none⟩) (by simp; omega)).trans hHeld.2.2.1, (hb3.out.cell (p := ⟨bn, on + j * 6 + 2, none⟩) (by simp; omega)).trans hHeld.2.2.2.1, (hb3.out.cell (p := ⟨bn, on + j * 6 + 3, none⟩) (by simp; omega)).trans hHeld.2.2.2.2.1, (hb3.out.cell (p := ⟨bn, on + j * 6 + 4, none⟩) (by simp; omega)).trans hHeld.2.2.2.2.2.1, (hb3.out.cell (p := ⟨bn, on + j * 6 + 5, none⟩) (by simp; omega)).trans hHeld.2.2.2.2.2.2⟩ (fun hHeld => ?_)
          clear hK K
          refine tq (i := 10) (d := 39) ?_
          simp only [sz, ss]
          refine wpAnyH_ready (rs := [11]) (by kernel_rfl) (by simp) ?_
          refine AllReadyH.cons rfl (fun K hK => ?_) AllReadyH.nil
          have cT3 := bT3.out.cell 2 rfl
          have fT3 := bT3.out.unfrozen
          go_simp
          refine hK.out _ _ ⟨cell_set hHeld.1 (by omega) _, cell_set hHeld.2.1 (by omega) _, cell_set hHeld.2.2.1 (by omega) _, cell_set hHeld.2.2.2.1 (by omega) _, cell_set hHeld.2.2.2.2.1 (by omega) _, cell_set hHeld.2.2.2.2.2.1 (by omega) _, cell_set hHeld.2.2.2.2.2.2 (by omega) _⟩ (fun hHeld => ?_)
          clear hK K
          refine wpAnyH_done (by kernel_rfl) ?_ _
          clear hHeld cT3 fT3
          go_wp2_with fail
          go_roundw
          case rel =>
            have hsz1 := hu1.out.size
            have hg3 := GrowOwn.snoc NodeOwn_stays hgr'.out (w2 := (u1.alloc (.cells #[.int .i64 X.vId, .string X.vTag, .int .i64 X.vParent, .slice p3 X.vKids.length d3, .int .i64 X.vWrapper, .slice p5 X.vListeners.length d5] 91))) (hu1.out.alloc hsz1 _) (by omega) rfl (NodeOwn_stays _ _ _ _ _ (fun b qq => Below.heap_alloc _ _ _ (hi1.out b qq)) ho1'.out) nd1'.out lo1'.out (fun b qq => by have := hi1.out b qq; simp; omega) (by rw [hlenj.out]) hown3 hgrow3 hat3
            refine ⟨j + 1, L + 1, some ⟨g, 0, none⟩, capg, bss ++ [fs1], css ++ [[.int .i64 X.vId, .string X.vTag, .int .i64 X.vParent, .slice p3 X.vKids.length d3, .int .i64 X.vWrapper, .slice p5 X.vListeners.length d5]], by omega, by omega, by go_num, by rw [htk.out]; simp; exact hlenj.out, ?_, bT3.out.set (i := 2) _, ?_⟩
            · show GrowOwn _ _ _ _ _ _ _ _ _
              rw [htk.out]
              exact hg3.set NodeOwn_stays hTc
            · exact Out.set (Out.far hout.out (((hu1.out.mono (by omega)).alloc (by omega) _).trans hb3.out)) List.mem_cons_self _
          case measure => simp [intOf]; omega
        · go_simp
          refine (l4CopyNode_any (by exact NodeAt_stays _ _ _ lo _ _ (.of_below hwr.out.drew) hXat.out) hsX.out).mono ?_
          rintro e u1 ⟨⟨cs1, fs1, rfl, ho1, nd1, lo1⟩, hq1⟩
          have hu1 : Hid (Below wr.heap.size wr u1) := undrew hq1
          have hi1 : Hid (∀ b ∈ fs1, b < u1.heap.size) := NodeOwn_lt _ _ _ _ ho1
          have lo1' : Hid (∀ b ∈ fs1, wr.heap.size ≤ b) := fun b qq => by have := lo1 b qq; simpa using this
          have ho1' : Hid (NodeOwn u1 cs1 X fs1) := ho1
          have nd1' : Hid fs1.Nodup := nd1
          obtain ⟨m3, m5, _, _, rfl, q3, q5, _⟩ := ho1
          obtain ⟨p3, d3, rfl⟩ := q3.form
          obtain ⟨p5, d5, rfl⟩ := q5.form
          have bT1 : Hid (Box u1 T [.int .i64 x.vNext, .int .i64 x.vDoc, .slice av L cv, .slice none 0 0, .slice p4 x.vGlobals.length d4] 32) := bTr.out.below hu1.out bTr.out.lt
          clear q3 q5 lo1 nd1
          refine hK.out _ _ ⟨cell_on hq1 hHeld.1, cell_on hq1 hHeld.2.1, cell_on hq1 hHeld.2.2.1, cell_on hq1 hHeld.2.2.2.1, cell_on hq1 hHeld.2.2.2.2.1, cell_on hq1 hHeld.2.2.2.2.2.1, cell_on hq1 hHeld.2.2.2.2.2.2⟩ (fun hHeld => ?_)
          clear hK K
          refine wpAnyH_ready (rs := [1, 8]) (by kernel_rfl) (by simp) ?_
          refine (AllReadyH.cons rfl (fun K hK => ?_) (AllReadyH.cons rfl (fun K hK => ?_) AllReadyH.nil))
          · have cT : u1.cell? ⟨T, 2, none⟩ = some (.slice av L cv) := bT1.out.cell 2 rfl
            go_simp
            clear cT
            refine hK.out _ _ hHeld (fun hHeld => ?_)
            clear hK K
            refine wpAnyH_ready (rs := [8]) (by kernel_rfl) (by simp) ?_
            refine AllReadyH.cons rfl (fun K hK => ?_) AllReadyH.nil
            have bT2 : Hid (Box (u1.alloc (.cells #[.int .i64 X.vId, .string X.vTag, .int .i64 X.vParent, .slice p3 X.vKids.length d3, .int .i64 X.vWrapper, .slice p5 X.vListeners.length d5] 91)) T [.int .i64 x.vNext, .int .i64 x.vDoc, .slice av L cv, .slice none 0 0, .slice p4 x.vGlobals.length d4] 32) := bT1.out.alloc _
            have nb : Hid (Box (u1.alloc (.cells #[.int .i64 X.vId, .string X.vTag, .int .i64 X.vParent, .slice p3 X.vKids.length d3, .int .i64 X.vWrapper, .slice p5 X.vListeners.length d5] 91)) u1.heap.size [.int .i64 X.vId, .string X.vTag, .int .i64 X.vParent, .slice p3 X.vKids.length d3, .int .i64 X.vWrapper, .slice p5 X.vListeners.length d5] 91) := Box.new u1 _ _
            go_simp
            refine hK.out _ _ ⟨cell_alloc2 hHeld.1 _, cell_alloc2 hHeld.2.1 _, cell_alloc2 hHeld.2.2.1 _, cell_alloc2 hHeld.2.2.2.1 _, cell_alloc2 hHeld.2.2.2.2.1 _, cell_alloc2 hHeld.2.2.2.2.2.1 _, cell_alloc2 hHeld.2.2.2.2.2.2 _⟩ (fun hHeld => ?_)
            clear hK K
            refine wpAnyH_ready (rs := [9]) (by kernel_rfl) (by simp) ?_
            refine AllReadyH.cons rfl (fun K hK => ?_) AllReadyH.nil
            refine step_append_lies (u1.alloc (.cells #[.int .i64 X.vId, .string X.vTag, .int .i64 X.vParent, .slice p3 X.vKids.length d3, .int .i64 X.vWrapper, .slice p5 X.vListeners.length d5] 91)) rfl _ _ 28 rfl wc.heap.size 91 iN _ 6 88 Tryz.underlying28 hiN.out heN.out.1 heN.out.2.1 heN.out.2.2 rfl (by decide) (.slice av L cv) L css.flatten rfl (by have h5 := row_below hgr'.out.2.2.2.1 (hu1.out.alloc hu1.out.size (.cells #[.int .i64 X.vId, .string X.vTag, .int .i64 X.vParent, .slice p3 X.vKids.length d3, .int .i64 X.vWrapper, .slice p5 X.vListeners.length d5] 91)); rw [hlenj.out] at h5; exact h5) ⟨u1.heap.size, 0, none⟩ 1 1 [.int .i64 X.vId, .string X.vTag, .int .i64 X.vParent, .slice p3 X.vKids.length d3, .int .i64 X.vWrapper, .slice p5 X.vListeners.length d5] rfl rfl (by intro i u hu; match i, hu with | 0, hu => (simp at hu; subst hu; simp [Addr.add]) | 1, hu => (simp at hu; subst hu; simp [Addr.add]) | 2, hu => (simp at hu; subst hu; simp [Addr.add]) | 3, hu => (simp at hu; subst hu; simp [Addr.add]) | 4, hu => (simp at hu; subst hu; simp [Addr.add]) | 5, hu => (simp at hu; subst hu; simp [Addr.add]) | i + 6, hu => simp at hu) (by intro u hu; simp at hu; rcases hu with rfl | rfl | rfl | rfl | rfl | rfl <;> rfl) (by omega) (by unfold maxLen; omega) (by omega) (by have := hu1.out.size; simp; omega) _ rfl ?_
            intro g capg w3 hown3 hgrow3 hat3 hlt3
            have hb3 : Hid (Below wc.heap.size (u1.alloc (.cells #[.int .i64 X.vId, .string X.vTag, .int .i64 X.vParent, .slice p3 X.vKids.length d3, .int .i64 X.vWrapper, .slice p5 X.vListeners.length d5] 91)) w3) := (Below.refl _ _).grown hgrow3 (by have := hu1.out.size; simp; omega) (fun k e => own_block2 hgr'.out.2.2.2.1 k e)
            have bT3 : Hid (Box w3 T [.int .i64 x.vNext, .int .i64 x.vDoc, .slice av L cv, .slice none 0 0, .slice p4 x.vGlobals.length d4] 32) := bT2.out.below hb3.out (by omega)
            go_simp
            refine hK.out _ _ ⟨(hb3.out.cell (p := ⟨w.heap.size, 2, none⟩) (by simp; omega)).trans hHeld.1, (hb3.out.cell (p := ⟨bn, on + j * 6, none⟩) (by simp; omega)).trans hHeld.2.1, (hb3.out.cell (p := ⟨bn, on + j * 6 + 1, none⟩) (by simp; omega)).trans hHeld.2.2.1, (hb3.out.cell (p := ⟨bn, on + j * 6 + 2, none⟩) (by simp; omega)).trans hHeld.2.2.2.1, (hb3.out.cell (p := ⟨bn, on + j * 6 + 3, none⟩) (by simp; omega)).trans hHeld.2.2.2.2.1, (hb3.out.cell (p := ⟨bn, on + j * 6 + 4, none⟩) (by simp; omega)).trans hHeld.2.2.2.2.2.1, (hb3.out.cell (p := ⟨bn, on + j * 6 + 5, none⟩) (by simp; omega)).trans hHeld.2.2.2.2.2.2⟩ (fun hHeld => ?_)
            clear hK K
            refine tq (i := 10) (d := 39) ?_
            simp only [sz, ss]
            refine wpAnyH_ready (rs := [11]) (by kernel_rfl) (by simp) ?_
            refine AllReadyH.cons rfl (fun K hK => ?_) AllReadyH.nil
            have cT3 := bT3.out.cell 2 rfl
            have fT3 := bT3.out.unfrozen
            go_simp
            refine hK.out _ _ ⟨cell_set hHeld.1 (by omega) _, cell_set hHeld.2.1 (by omega) _, cell_set hHeld.2.2.1 (by omega) _, cell_set hHeld.2.2.2.1 (by omega) _, cell_set hHeld.2.2.2.2.1 (by omega) _, cell_set hHeld.2.2.2.2.2.1 (by omega) _, cell_set hHeld.2.2.2.2.2.2 (by omega) _⟩ (fun hHeld => ?_)
            clear hK K
            refine wpAnyH_done (by kernel_rfl) ?_ _
            clear hHeld cT3 fT3
            go_wp2_with fail
            go_roundw
            case rel =>
              have hsz1 := hu1.out.size
              have hg3 := GrowOwn.snoc NodeOwn_stays hgr'.out (w2 := (u1.alloc (.cells #[.int .i64 X.vId, .string X.vTag, .int .i64 X.vParent, .slice p3 X.vKids.length d3, .int .i64 X.vWrapper, .slice p5 X.vListeners.length d5] 91))) (hu1.out.alloc hsz1 _) (by omega) rfl (NodeOwn_stays _ _ _ _ _ (fun b qq => Below.heap_alloc _ _ _ (hi1.out b qq)) ho1'.out) nd1'.out lo1'.out (fun b qq => by have := hi1.out b qq; simp; omega) (by rw [hlenj.out]) hown3 hgrow3 hat3
              refine ⟨j + 1, L + 1, some ⟨g, 0, none⟩, capg, bss ++ [fs1], css ++ [[.int .i64 X.vId, .string X.vTag, .int .i64 X.vParent, .slice p3 X.vKids.length d3, .int .i64 X.vWrapper, .slice p5 X.vListeners.length d5]], by omega, by omega, by go_num, by rw [htk.out]; simp; exact hlenj.out, ?_, bT3.out.set (i := 2) _, ?_⟩
              · show GrowOwn _ _ _ _ _ _ _ _ _
                rw [htk.out]
                exact hg3.set NodeOwn_stays hTc
              · exact Out.set (Out.far hout.out (((hu1.out.mono (by omega)).alloc (by omega) _).trans hb3.out)) List.mem_cons_self _
            case measure => simp [intOf]; omega
          · have bT2 : Hid (Box (u1.alloc (.cells #[.int .i64 X.vId, .string X.vTag, .int .i64 X.vParent, .slice p3 X.vKids.length d3, .int .i64 X.vWrapper, .slice p5 X.vListeners.length d5] 91)) T [.int .i64 x.vNext, .int .i64 x.vDoc, .slice av L cv, .slice none 0 0, .slice p4 x.vGlobals.length d4] 32) := bT1.out.alloc _
            have nb : Hid (Box (u1.alloc (.cells #[.int .i64 X.vId, .string X.vTag, .int .i64 X.vParent, .slice p3 X.vKids.length d3, .int .i64 X.vWrapper, .slice p5 X.vListeners.length d5] 91)) u1.heap.size [.int .i64 X.vId, .string X.vTag, .int .i64 X.vParent, .slice p3 X.vKids.length d3, .int .i64 X.vWrapper, .slice p5 X.vListeners.length d5] 91) := Box.new u1 _ _
            go_simp
            refine hK.out _ _ ⟨cell_alloc2 hHeld.1 _, cell_alloc2 hHeld.2.1 _, cell_alloc2 hHeld.2.2.1 _, cell_alloc2 hHeld.2.2.2.1 _, cell_alloc2 hHeld.2.2.2.2.1 _, cell_alloc2 hHeld.2.2.2.2.2.1 _, cell_alloc2 hHeld.2.2.2.2.2.2 _⟩ (fun hHeld => ?_)
            clear hK K
            refine wpAnyH_ready (rs := [1]) (by kernel_rfl) (by simp) ?_
            refine AllReadyH.cons rfl (fun K hK => ?_) AllReadyH.nil
            have cT : (u1.alloc (.cells #[.int .i64 X.vId, .string X.vTag, .int .i64 X.vParent, .slice p3 X.vKids.length d3, .int .i64 X.vWrapper, .slice p5 X.vListeners.length d5] 91)).cell? ⟨T, 2, none⟩ = some (.slice av L cv) := bT2.out.cell 2 rfl
            go_simp
            clear cT
            refine hK.out _ _ hHeld (fun hHeld => ?_)
            clear hK K
            refine wpAnyH_ready (rs := [9]) (by kernel_rfl) (by simp) ?_
            refine AllReadyH.cons rfl (fun K hK => ?_) AllReadyH.nil
            refine step_append_lies (u1.alloc (.cells #[.int .i64 X.vId, .string X.vTag, .int .i64 X.vParent, .slice p3 X.vKids.length d3, .int .i64 X.vWrapper, .slice p5 X.vListeners.length d5] 91)) rfl _ _ 28 rfl wc.heap.size 91 iN _ 6 88 Tryz.underlying28 hiN.out heN.out.1 heN.out.2.1 heN.out.2.2 rfl (by decide) (.slice av L cv) L css.flatten rfl (by have h5 := row_below hgr'.out.2.2.2.1 (hu1.out.alloc hu1.out.size (.cells #[.int .i64 X.vId, .string X.vTag, .int .i64 X.vParent, .slice p3 X.vKids.length d3, .int .i64 X.vWrapper, .slice p5 X.vListeners.length d5] 91)); rw [hlenj.out] at h5; exact h5) ⟨u1.heap.size, 0, none⟩ 1 1 [.int .i64 X.vId, .string X.vTag, .int .i64 X.vParent, .slice p3 X.vKids.length d3, .int .i64 X.vWrapper, .slice p5 X.vListeners.length d5] rfl rfl (by intro i u hu; match i, hu with | 0, hu => (simp at hu; subst hu; simp [Addr.add]) | 1, hu => (simp at hu; subst hu; simp [Addr.add]) | 2, hu => (simp at hu; subst hu; simp [Addr.add]) | 3, hu => (simp at hu; subst hu; simp [Addr.add]) | 4, hu => (simp at hu; subst hu; simp [Addr.add]) | 5, hu => (simp at hu; subst hu; simp [Addr.add]) | i + 6, hu => simp at hu) (by intro u hu; simp at hu; rcases hu with rfl | rfl | rfl | rfl | rfl | rfl <;> rfl) (by omega) (by unfold maxLen; omega) (by omega) (by have := hu1.out.size; simp; omega) _ rfl ?_
            intro g capg w3 hown3 hgrow3 hat3 hlt3
            have hb3 : Hid (Below wc.heap.size (u1.alloc (.cells #[.int .i64 X.vId, .string X.vTag, .int .i64 X.vParent, .slice p3 X.vKids.length d3, .int .i64 X.vWrapper, .slice p5 X.vListeners.length d5] 91)) w3) := (Below.refl _ _).grown hgrow3 (by have := hu1.out.size; simp; omega) (fun k e => own_block2 hgr'.out.2.2.2.1 k e)
            have bT3 : Hid (Box w3 T [.int .i64 x.vNext, .int .i64 x.vDoc, .slice av L cv, .slice none 0 0, .slice p4 x.vGlobals.length d4] 32) := bT2.out.below hb3.out (by omega)
            go_simp
            refine hK.out _ _ ⟨(hb3.out.cell (p := ⟨w.heap.size, 2, none⟩) (by simp; omega)).trans hHeld.1, (hb3.out.cell (p := ⟨bn, on + j * 6, none⟩) (by simp; omega)).trans hHeld.2.1, (hb3.out.cell (p := ⟨bn, on + j * 6 + 1, none⟩) (by simp; omega)).trans hHeld.2.2.1, (hb3.out.cell (p := ⟨bn, on + j * 6 + 2, none⟩) (by simp; omega)).trans hHeld.2.2.2.1, (hb3.out.cell (p := ⟨bn, on + j * 6 + 3, none⟩) (by simp; omega)).trans hHeld.2.2.2.2.1, (hb3.out.cell (p := ⟨bn, on + j * 6 + 4, none⟩) (by simp; omega)).trans hHeld.2.2.2.2.2.1, (hb3.out.cell (p := ⟨bn, on + j * 6 + 5, none⟩) (by simp; omega)).trans hHeld.2.2.2.2.2.2⟩ (fun hHeld => ?_)
            clear hK K
            refine tq (i := 10) (d := 39) ?_
            simp only [sz, ss]
            refine wpAnyH_ready (rs := [11]) (by kernel_rfl) (by simp) ?_
            refine AllReadyH.cons rfl (fun K hK => ?_) AllReadyH.nil
            have cT3 := bT3.out.cell 2 rfl
            have fT3 := bT3.out.unfrozen
            go_simp
            refine hK.out _ _ ⟨cell_set hHeld.1 (by omega) _, cell_set hHeld.2.1 (by omega) _, cell_set hHeld.2.2.1 (by omega) _, cell_set hHeld.2.2.2.1 (by omega) _, cell_set hHeld.2.2.2.2.1 (by omega) _, cell_set hHeld.2.2.2.2.2.1 (by omega) _, cell_set hHeld.2.2.2.2.2.2 (by omega) _⟩ (fun hHeld => ?_)
            clear hK K
            refine wpAnyH_done (by kernel_rfl) ?_ _
            clear hHeld cT3 fT3
            go_wp2_with fail
            go_roundw
            case rel =>
              have hsz1 := hu1.out.size
              have hg3 := GrowOwn.snoc NodeOwn_stays hgr'.out (w2 := (u1.alloc (.cells #[.int .i64 X.vId, .string X.vTag, .int .i64 X.vParent, .slice p3 X.vKids.length d3, .int .i64 X.vWrapper, .slice p5 X.vListeners.length d5] 91))) (hu1.out.alloc hsz1 _) (by omega) rfl (NodeOwn_stays _ _ _ _ _ (fun b qq => Below.heap_alloc _ _ _ (hi1.out b qq)) ho1'.out) nd1'.out lo1'.out (fun b qq => by have := hi1.out b qq; simp; omega) (by rw [hlenj.out]) hown3 hgrow3 hat3
              refine ⟨j + 1, L + 1, some ⟨g, 0, none⟩, capg, bss ++ [fs1], css ++ [[.int .i64 X.vId, .string X.vTag, .int .i64 X.vParent, .slice p3 X.vKids.length d3, .int .i64 X.vWrapper, .slice p5 X.vListeners.length d5]], by omega, by omega, by go_num, by rw [htk.out]; simp; exact hlenj.out, ?_, bT3.out.set (i := 2) _, ?_⟩
              · show GrowOwn _ _ _ _ _ _ _ _ _
                rw [htk.out]
                exact hg3.set NodeOwn_stays hTc
              · exact Out.set (Out.far hout.out (((hu1.out.mono (by omega)).alloc (by omega) _).trans hb3.out)) List.mem_cons_self _
            case measure => simp [intOf]; omega
      · obtain rfl : j = x.vNodes.length := by omega
        have hgr2 := hgr.out
        rw [List.take_length] at hgr2
        have hLn : Hid ((leftNode gone x.vNodes).length = L) := by have h5 := hlenj.out; rw [List.take_length] at h5; exact h5
        obtain ⟨fN, hsNo, hloN⟩ := hgr2.done
        have hsNo' : Hid (SeqOwn 6 NodeOwn wr (.slice av L cv) (leftNode gone x.vNodes) fN) := hsNo
        have hloN' : Hid (∀ b ∈ fN, wc.heap.size ≤ b) := hloN
        have hsGr : Hid (SeqOwn 2 FieldOwn wr (.slice p4 x.vGlobals.length d4) x.vGlobals f4) := hsG.out.stays FieldOwn_stays (fun b qq => hout.out.keep (SeqOwn.lt FieldOwn_lt hsG.out b qq) (by have := (hloG.out b qq).2; simpa using this))
        have hltG : Hid (∀ b ∈ f4, b < wc.heap.size) := SeqOwn.lt FieldOwn_lt hsG.out
        have cA2 := bxr.out.cell 2 rfl
        clear hgr hgr2 hsNo hloN hsG bxc bzc hwc hout bTn hon
        go_wp2_with fail
        clear cA2
        obtain ⟨wo, rfl⟩ : ∃ wo, wo = wr := ⟨wr, rfl⟩
        obtain ⟨pN, dN, rfl, rfl⟩ : ∃ pN dN, pN = av ∧ dN = cv := ⟨av, cv, rfl, rfl⟩
        go_loopw [7] (fun i wr => ∃ (k M : Nat) (ao : Option Addr) (co : Nat) (bss : List (List Nat)) (css : List (List Value)), k ≤ x.vObjs.length ∧ M ≤ k ∧ i = .int .i64 k ∧ Hid ((leftObj gone (x.vObjs.take k)).length = M) ∧ Hid (GrowOwn 95 3 ObjOwn wo.heap.size wr (.slice ao M co) (leftObj gone (x.vObjs.take k)) bss css) ∧ Hid (Box wr T [.int .i64 x.vNext, .int .i64 x.vDoc, .slice pN L dN, .slice ao M co, .slice p4 x.vGlobals.length d4] 32) ∧ Hid (Out [T] wo wr)) (fun i _ => x.vObjs.length - (intOf i).toNat)
        case atStart => exact ⟨0, 0, none, 0, [], [], by omega, by omega, rfl, rfl, GrowOwn.nil, bTr, Out.refl _ _⟩
        case round =>
          obtain ⟨k, M, ao, co, bss, css, hk, hMk, rfl, hlenk, hgr, bTo, hout⟩ := hrel
          have hzo : wo.heap.size ≤ wr.heap.size := hout.out.2.2.2.1
          have bxo : Hid (Box wr w.heap.size [.int .i64 x.vNext, .int .i64 x.vDoc, .slice a2 x.vNodes.length c2, .slice a3 x.vObjs.length c3, .slice a4 x.vGlobals.length c4] 32) := (hout.out.keep bxr.out.lt (by simp; omega)).trans bxr.out
          have bzo : Hid (Box wr (w.heap.size + 1) [.int .i64 0, .int .i64 0, .slice none 0 0, .slice none 0 0, .slice none 0 0] 32) := (hout.out.keep bzr.out.lt (by simp; omega)).trans bzr.out
          have hwo : Hid (Below w.heap.size w wr) := hwr.out.trans (hout.out.below (by omega) (by simp; omega))
          by_cases hltk : k < x.vObjs.length
          · obtain ⟨a_, cap_, e_, _, hc_⟩ := hsO.out
            injection e_ with e1 e2 e3
            subst e1 e3
            obtain ⟨bo, oo, rfl, _, hbo, hc⟩ := hc_ (by omega)
            obtain ⟨cs, hcl, lie, hYr⟩ := hc k hltk
            have htk0 : Hid (leftObj gone (x.vObjs.take (k + 1)) = leftObj gone (x.vObjs.take k) ++ if hasB gone x.vObjs[k].vId = true then [] else [x.vObjs[k]]) := leftObj_succ hltk
            have hsY : ObjD.small x.vObjs[k] := hsm.out.2.1.2 k hltk
            generalize x.vObjs[k] = Y at hYr htk0 hsY
            have hl9 : Y.vFields.length ≤ 1048576 := hsY.1.1
            obtain ⟨k9, rfl, q9, rI, rN, _⟩ := hYr
            obtain ⟨a9, c9, rfl⟩ := q9.form
            obtain ⟨css9, hcF0⟩ := seq_css (by decide) q9
            have hcF : Hid (CssAt 2 FieldAt w lo a9 Y.vFields css9) := hcF0
            have hrY : Hid (InI Y.vId ∧ InI Y.vNode) := ⟨rI, rN⟩
            have z0 : wr.cell? ⟨bo, oo + k * 3, none⟩ = some (.int .i64 Y.vId) := cell_on hwo.out (by have h5 := lie 0 (by simp); simpa using h5)
            have z1 : wr.cell? ⟨bo, oo + k * 3 + 1, none⟩ = some (.int .i64 Y.vNode) := cell_on hwo.out (by have h5 := lie 1 (by simp); simpa using h5)
            have z2 : wr.cell? ⟨bo, oo + k * 3 + 2, none⟩ = some (.slice a9 Y.vFields.length c9) := cell_on hwo.out (by have h5 := lie 2 (by simp); simpa using h5)
            have cA3 := bxo.out.cell 3 rfl
            have hltk' : (k : Int) < (x.vObjs.length : Int) := by omega
            have hk0 : (0 : Int) ≤ (k : Int) := by omega
            have hbY : Below wr.heap.size wr ((wr.alloc (.cells #[.int .i64 Y.vId, .int .i64 Y.vNode, .slice a9 Y.vFields.length c9] 95)).alloc (.cells #[] 102)) := ((Below.refl _ _).alloc (Nat.le_refl _) _).alloc (by simp) _
            have bY0 : Hid (Box ((wr.alloc (.cells #[.int .i64 Y.vId, .int .i64 Y.vNode, .slice a9 Y.vFields.length c9] 95)).alloc (.cells #[] 102)) wr.heap.size [.int .i64 Y.vId, .int .i64 Y.vNode, .slice a9 Y.vFields.length c9] 95) := (Box.new wr _ _).alloc _
            have cY2 := (Box.new wr [.int .i64 Y.vId, .int .i64 Y.vNode, .slice a9 Y.vFields.length c9] 95).cell 2 rfl
            have cY2' := bY0.out.cell 2 rfl
            have hr9 : Hid (((wr.alloc (.cells #[.int .i64 Y.vId, .int .i64 Y.vNode, .slice a9 Y.vFields.length c9] 95)).alloc (.cells #[] 102)).ownsRow (wr.heap.size + 1) 102 2 (.slice (some ⟨wr.heap.size + 1, 0, none⟩) 0 0) 0 []) := by have h5 := row_new (w := (wr.alloc (.cells #[.int .i64 Y.vId, .int .i64 Y.vNode, .slice a9 Y.vFields.length c9] 95))) (B := wr.heap.size + 1) (T := 102) (c := 2) (by simp); simpa [Hid] using h5
            have hcZ : Hid (CssAt 2 (fun _ => FieldAt w) ((wr.alloc (.cells #[.int .i64 Y.vId, .int .i64 Y.vNode, .slice a9 Y.vFields.length c9] 95)).alloc (.cells #[] 102)) lo a9 Y.vFields css9) := hcF.out.on (hwo.out.trans (hbY.mono (by have := hwo.out.size; omega)))
            have hzZ : ((wr.alloc (.cells #[.int .i64 Y.vId, .int .i64 Y.vNode, .slice a9 Y.vFields.length c9] 95)).alloc (.cells #[] 102)).heap.size = wr.heap.size + 2 := by simp
            have hbY1 : Below wr.heap.size wr (wr.alloc (.cells #[.int .i64 Y.vId, .int .i64 Y.vNode, .slice a9 Y.vFields.length c9] 95)) := (Below.refl _ _).alloc (Nat.le_refl _) _
            have cY0 := (Box.new wr [.int .i64 Y.vId, .int .i64 Y.vNode, .slice a9 Y.vFields.length c9] 95).cell 0 rfl
            have hgY : Hid (SeqAt 1 IntAt (wr.alloc (.cells #[.int .i64 Y.vId, .int .i64 Y.vNode, .slice a9 Y.vFields.length c9] 95)) lo2 (.slice ga gone.length gc) gone) := hgo.out.below intAt_stays (hwo.out.trans (hbY1.mono hwo.out.size))
            clear lie hcl hc hc_ q9 e2 hcF0 rI rN hsY
            go_wp2_with fail
            refine (l2Has_any hgY.out).mono ?_
            rintro e w_ ⟨rfl, rfl⟩
            cases hv : hasB gone Y.vId with
            | true =>
              have htk : Hid (leftObj gone (x.vObjs.take (k + 1)) = leftObj gone (x.vObjs.take k)) := by show _ = _; rw [htk0.out, if_pos hv, List.append_nil]
              clear hv htk0
              go_wp2_with fail
              go_roundw
              case rel => exact ⟨k + 1, M, ao, co, bss, css, by omega, by omega, by go_num, by rw [htk.out]; exact hlenk.out, by rw [htk.out]; exact hgr.out.below ObjOwn_stays hbY1, bTo.out.below hbY1 bTo.out.lt, Out.far hout.out (hbY1.mono hzo)⟩
              case measure => simp [intOf]; omega
            | false =>
            have htk : Hid (leftObj gone (x.vObjs.take (k + 1)) = leftObj gone (x.vObjs.take k) ++ [Y]) := by show _ = _; rw [htk0.out, if_neg (by simp [hv])]
            clear hv htk0 cY0 hgY
            go_wp2_with (at_builtin; refine wpList_append_rows (R := fun _ => FieldAt w) rfl _ _ 30 rfl (wr.heap.size + 1) lo 102 iF _ 24 Tryz.underlying30 hiF.out heF.out.1 heF.out.2.1 heF.out.2.2 rfl (by decide) (.slice (some ⟨wr.heap.size + 1, 0, none⟩) 0 0) (0) ([]) rfl (by simp) hr9.out a9 c9 Y.vFields css9 rfl hcZ.out (Field_css hcZ.out) (by unfold maxLen; omega) (by omega) (by first | omega | (simp; omega) | simp) ?_)
            intro v9 u3 hown9 hgrow9 hnn9 hat9
            obtain ⟨g9, d9, rfl⟩ := nonnil_row hown9 hnn9
            have hb9 : Below (wr.heap.size + 1) ((wr.alloc (.cells #[.int .i64 Y.vId, .int .i64 Y.vNode, .slice a9 Y.vFields.length c9] 95)).alloc (.cells #[] 102)) u3 := (Below.refl _ _).grown hgrow9 (by omega) (own_block2 hr9.out)
            have bY3 : Box u3 wr.heap.size [.int .i64 Y.vId, .int .i64 Y.vNode, .slice a9 Y.vFields.length c9] 95 := bY0.out.below hb9 (by omega)
            have hz9 := hb9.size
            rw [hzZ] at hz9
            have hu3 : Hid (Below wr.heap.size wr u3) := hbY.trans (hb9.mono (by omega))
            have hown9' : Hid (u3.ownsRow (wr.heap.size + 1) 102 2 (.slice (some ⟨g9, 0, none⟩) Y.vFields.length d9) Y.vFields.length css9.flatten) := by have h5 := hown9; simpa [Hid] using h5
            have y2 := bY3.cell 2 rfl
            have uy := bY3.unfrozen
            have bYS : Box (u3.setCell ⟨wr.heap.size, 2, none⟩ (.slice (some ⟨g9, 0, none⟩) Y.vFields.length d9)) wr.heap.size [.int .i64 Y.vId, .int .i64 Y.vNode, .slice (some ⟨g9, 0, none⟩) Y.vFields.length d9] 95 := bY3.set (i := 2) _
            have y0s := bYS.cell 0 rfl
            have y1s := bYS.cell 1 rfl
            have y2s := bYS.cell 2 rfl
            have hzS : (u3.setCell ⟨wr.heap.size, 2, none⟩ (.slice (some ⟨g9, 0, none⟩) Y.vFields.length d9)).heap.size = u3.heap.size := set_size ..
            have hYSb : Hid (Below wr.heap.size wr ((u3.setCell ⟨wr.heap.size, 2, none⟩ (.slice (some ⟨g9, 0, none⟩) Y.vFields.length d9)).alloc (.cells #[.int .i64 Y.vId, .int .i64 Y.vNode, .slice (some ⟨g9, 0, none⟩) Y.vFields.length d9] 95))) := (hu3.out.setCell (p := ⟨wr.heap.size, 2, none⟩) (Nat.le_refl _) _).alloc (by rw [hzS]; omega) _
            have bTS : Hid (Box (u3.setCell ⟨wr.heap.size, 2, none⟩ (.slice (some ⟨g9, 0, none⟩) Y.vFields.length d9)) T [.int .i64 x.vNext, .int .i64 x.vDoc, .slice pN L dN, .slice ao M co, .slice p4 x.vGlobals.length d4] 32) := (bTo.out.below hu3.out bTo.out.lt).other (by have := bTo.out.lt; omega) _
            have cT3 := bTS.out.cell 3 rfl
            have bTB : Hid (Box ((u3.setCell ⟨wr.heap.size, 2, none⟩ (.slice (some ⟨g9, 0, none⟩) Y.vFields.length d9)).alloc (.cells #[.int .i64 Y.vId, .int .i64 Y.vNode, .slice (some ⟨g9, 0, none⟩) Y.vFields.length d9] 95)) T [.int .i64 x.vNext, .int .i64 x.vDoc, .slice pN L dN, .slice ao M co, .slice p4 x.vGlobals.length d4] 32) := bTS.out.alloc _
            have nb : Hid (Box ((u3.setCell ⟨wr.heap.size, 2, none⟩ (.slice (some ⟨g9, 0, none⟩) Y.vFields.length d9)).alloc (.cells #[.int .i64 Y.vId, .int .i64 Y.vNode, .slice (some ⟨g9, 0, none⟩) Y.vFields.length d9] 95)) u3.heap.size [.int .i64 Y.vId, .int .i64 Y.vNode, .slice (some ⟨g9, 0, none⟩) Y.vFields.length d9] 95) := by have h5 := Box.new (u3.setCell ⟨wr.heap.size, 2, none⟩ (.slice (some ⟨g9, 0, none⟩) Y.vFields.length d9)) [.int .i64 Y.vId, .int .i64 Y.vNode, .slice (some ⟨g9, 0, none⟩) Y.vFields.length d9] 95; rw [hzS] at h5; exact h5
            have hfY : Hid (∃ fs, ObjOwn ((u3.setCell ⟨wr.heap.size, 2, none⟩ (.slice (some ⟨g9, 0, none⟩) Y.vFields.length d9)).alloc (.cells #[.int .i64 Y.vId, .int .i64 Y.vNode, .slice (some ⟨g9, 0, none⟩) Y.vFields.length d9] 95)) [.int .i64 Y.vId, .int .i64 Y.vNode, .slice (some ⟨g9, 0, none⟩) Y.vFields.length d9] Y fs ∧ fs.Nodup ∧ (∀ b ∈ fs, wr.heap.size ≤ b) ∧ ∀ b ∈ fs, b < ((u3.setCell ⟨wr.heap.size, 2, none⟩ (.slice (some ⟨g9, 0, none⟩) Y.vFields.length d9)).alloc (.cells #[.int .i64 Y.vId, .int .i64 Y.vNode, .slice (some ⟨g9, 0, none⟩) Y.vFields.length d9] 95)).heap.size) := by
              have r9 : ((u3.setCell ⟨wr.heap.size, 2, none⟩ (.slice (some ⟨g9, 0, none⟩) Y.vFields.length d9)).alloc (.cells #[.int .i64 Y.vId, .int .i64 Y.vNode, .slice (some ⟨g9, 0, none⟩) Y.vFields.length d9] 95)).ownsRow (wr.heap.size + 1) 102 2 (.slice (some ⟨g9, 0, none⟩) Y.vFields.length d9) Y.vFields.length css9.flatten := row_keep2 hown9'.out (fun kk e => by
                have l1 := own_block2 hown9'.out kk e
                have l2 := row_lt hown9'.out kk e
                rw [Below.heap_alloc _ _ _ (by rw [hzS]; exact l2), set_other (by omega)])
              obtain ⟨f9, s9, lo9⟩ := seqOwn_of_css (O := FieldOwn) hcF.out r9 (fun cs y => field_own2 cs y)
              exact ⟨f9, ⟨_, f9, rfl, s9, hrY.out.1, hrY.out.2, rfl⟩, s9.nodup, fun b qq => by have := lo9 b qq; omega, SeqOwn.lt FieldOwn_lt s9⟩
            obtain ⟨fY, ho0, nd0, lo0, hi0⟩ := hfY.out
            have hoY : Hid (ObjOwn ((u3.setCell ⟨wr.heap.size, 2, none⟩ (.slice (some ⟨g9, 0, none⟩) Y.vFields.length d9)).alloc (.cells #[.int .i64 Y.vId, .int .i64 Y.vNode, .slice (some ⟨g9, 0, none⟩) Y.vFields.length d9] 95)) [.int .i64 Y.vId, .int .i64 Y.vNode, .slice (some ⟨g9, 0, none⟩) Y.vFields.length d9] Y fY) := ho0
            have ndY : Hid fY.Nodup := nd0
            have loY : Hid (∀ b ∈ fY, wr.heap.size ≤ b) := lo0
            have hiY : Hid (∀ b ∈ fY, b < ((u3.setCell ⟨wr.heap.size, 2, none⟩ (.slice (some ⟨g9, 0, none⟩) Y.vFields.length d9)).alloc (.cells #[.int .i64 Y.vId, .int .i64 Y.vNode, .slice (some ⟨g9, 0, none⟩) Y.vFields.length d9] 95)).heap.size) := hi0
            clear hown9 hgrow9 hnn9 hat9 hbY bY0 cY2 cY2' hr9 hcZ hb9 ho0 nd0 lo0 hi0 hfY hcF
            go_wp2_with (at_builtin; refine wpList_append_grow ObjOwn_stays rfl _ _ 29 rfl wo.heap.size iO _ 40 Tryz.underlying29 hiO.out heO.out.1 heO.out.2.1 heO.out.2.2 rfl (by decide) (y := Y) (fs := fY) (cs := [.int .i64 Y.vId, .int .i64 Y.vNode, .slice (some ⟨g9, 0, none⟩) Y.vFields.length d9]) (v := .slice ao M co) rfl hgr.out hYSb.out hzo _ _ rfl rfl (by intro i u hu; match i, hu with | 0, hu => (simp at hu; subst hu; exact nb.out.cell 0 rfl) | 1, hu => (simp at hu; subst hu; exact nb.out.cell 1 rfl) | 2, hu => (simp at hu; subst hu; exact nb.out.cell 2 rfl) | i + 3, hu => simp at hu) (by intro u hu; simp at hu; rcases hu with rfl | rfl | rfl <;> rfl) hoY.out ndY.out loY.out hiY.out (by rw [hlenk.out]; unfold maxLen; omega) (by rw [hlenk.out]; omega) ?_; intro g capg w3 hgr3 hg3 hb3; rw [hlenk.out] at hgr3 ⊢; have hgr3' : Hid (GrowOwn 95 3 ObjOwn wo.heap.size w3 (.slice (some ⟨g, 0, none⟩) (M + 1) capg) (leftObj gone (x.vObjs.take k) ++ [Y]) (bss ++ [fY]) (css ++ [[.int .i64 Y.vId, .int .i64 Y.vNode, .slice (some ⟨g9, 0, none⟩) Y.vFields.length d9]])) := hgr3; have bT3 : Hid (Box w3 T [.int .i64 x.vNext, .int .i64 x.vDoc, .slice pN L dN, .slice ao M co, .slice p4 x.vGlobals.length d4] 32) := bTB.out.below hb3 (by omega); have hb3' : Hid (Below wo.heap.size ((u3.setCell ⟨wr.heap.size, 2, none⟩ (.slice (some ⟨g9, 0, none⟩) Y.vFields.length d9)).alloc (.cells #[.int .i64 Y.vId, .int .i64 Y.vNode, .slice (some ⟨g9, 0, none⟩) Y.vFields.length d9] 95)) w3) := hb3; have cT33 := bT3.out.cell 3 rfl; have fT33 := bT3.out.unfrozen; clear hgr3 hg3 hb3)
            go_roundw
            case rel =>
              refine ⟨k + 1, M + 1, some ⟨g, 0, none⟩, capg, bss ++ [fY], css ++ [[.int .i64 Y.vId, .int .i64 Y.vNode, .slice (some ⟨g9, 0, none⟩) Y.vFields.length d9]], by omega, by omega, by go_num, by rw [htk.out]; simp; exact hlenk.out, ?_, bT3.out.set (i := 3) _, ?_⟩
              · show GrowOwn _ _ _ _ _ _ _ _ _
                rw [htk.out]
                exact hgr3'.out.set ObjOwn_stays (by omega)
              · exact Out.set (Out.far hout.out ((hYSb.out.mono hzo).trans hb3'.out)) List.mem_cons_self _
            case measure => simp [intOf]; omega
          · obtain rfl : k = x.vObjs.length := by omega
            have hgr2 := hgr.out
            rw [List.take_length] at hgr2
            obtain ⟨fO, hsOo, hloO⟩ := hgr2.done
            have hltO := SeqOwn.lt ObjOwn_lt hsOo
            have hltN : ∀ b ∈ fN, b < wo.heap.size := SeqOwn.lt NodeOwn_lt hsNo'.out
            obtain ⟨pO, dO, rfl, rfl⟩ : ∃ pO dO, pO = ao ∧ dO = co := ⟨ao, co, rfl, rfl⟩
            have bF : Box (((((wr.setCell ⟨w.heap.size + 1, 0, none⟩ (.int .i64 x.vNext)).setCell ⟨w.heap.size + 1, 1, none⟩ (.int .i64 x.vDoc)).setCell ⟨w.heap.size + 1, 2, none⟩ (.slice pN L dN)).setCell ⟨w.heap.size + 1, 3, none⟩ (.slice pO M dO)).setCell ⟨w.heap.size + 1, 4, none⟩ (.slice p4 x.vGlobals.length d4)) (w.heap.size + 1) [.int .i64 x.vNext, .int .i64 x.vDoc, .slice pN L dN, .slice pO M dO, .slice p4 x.vGlobals.length d4] 32 := ((((bzo.out.set (i := 0) _).set (i := 1) _).set (i := 2) _).set (i := 3) _).set (i := 4) _
            have hKF : ∀ b, w.heap.size + 2 ≤ b → (((((wr.setCell ⟨w.heap.size + 1, 0, none⟩ (.int .i64 x.vNext)).setCell ⟨w.heap.size + 1, 1, none⟩ (.int .i64 x.vDoc)).setCell ⟨w.heap.size + 1, 2, none⟩ (.slice pN L dN)).setCell ⟨w.heap.size + 1, 3, none⟩ (.slice pO M dO)).setCell ⟨w.heap.size + 1, 4, none⟩ (.slice p4 x.vGlobals.length d4)).heap[b]? = wr.heap[b]? := fun b qq => by
              rw [set_other (by omega), set_other (by omega), set_other (by omega), set_other (by omega), set_other (by omega)]
            have hBF : Hid (Below w.heap.size w (((((wr.setCell ⟨w.heap.size + 1, 0, none⟩ (.int .i64 x.vNext)).setCell ⟨w.heap.size + 1, 1, none⟩ (.int .i64 x.vDoc)).setCell ⟨w.heap.size + 1, 2, none⟩ (.slice pN L dN)).setCell ⟨w.heap.size + 1, 3, none⟩ (.slice pO M dO)).setCell ⟨w.heap.size + 1, 4, none⟩ (.slice p4 x.vGlobals.length d4))) := (((((hwo.out.setCell (by simp) _).setCell (by simp) _).setCell (by simp) _).setCell (by simp) _).setCell (by simp) _)
            have hans : Hid (AnsH w (((((wr.setCell ⟨w.heap.size + 1, 0, none⟩ (.int .i64 x.vNext)).setCell ⟨w.heap.size + 1, 1, none⟩ (.int .i64 x.vDoc)).setCell ⟨w.heap.size + 1, 2, none⟩ (.slice pN L dN)).setCell ⟨w.heap.size + 1, 3, none⟩ (.slice pO M dO)).setCell ⟨w.heap.size + 1, 4, none⟩ (.slice p4 x.vGlobals.length d4)) [.int .i64 x.vNext, .int .i64 x.vDoc, .slice pN L dN, .slice pO M dO, .slice p4 x.vGlobals.length d4] (withoutD gone x)) := by
              have q2 := hsNo'.out.stays (w' := (((((wr.setCell ⟨w.heap.size + 1, 0, none⟩ (.int .i64 x.vNext)).setCell ⟨w.heap.size + 1, 1, none⟩ (.int .i64 x.vDoc)).setCell ⟨w.heap.size + 1, 2, none⟩ (.slice pN L dN)).setCell ⟨w.heap.size + 1, 3, none⟩ (.slice pO M dO)).setCell ⟨w.heap.size + 1, 4, none⟩ (.slice p4 x.vGlobals.length d4))) NodeOwn_stays (fun b qq => by have l1 := hloN'.out b qq; have l2 := hltN b qq; rw [hKF b (by omega), hout.out.keep l2 (by simp; omega)])
              have q3 := hsOo.stays (w' := (((((wr.setCell ⟨w.heap.size + 1, 0, none⟩ (.int .i64 x.vNext)).setCell ⟨w.heap.size + 1, 1, none⟩ (.int .i64 x.vDoc)).setCell ⟨w.heap.size + 1, 2, none⟩ (.slice pN L dN)).setCell ⟨w.heap.size + 1, 3, none⟩ (.slice pO M dO)).setCell ⟨w.heap.size + 1, 4, none⟩ (.slice p4 x.vGlobals.length d4))) ObjOwn_stays (fun b qq => by have l1 := hloO b qq; rw [hKF b (by omega)])
              have q4 := hsGr.out.stays (w' := (((((wr.setCell ⟨w.heap.size + 1, 0, none⟩ (.int .i64 x.vNext)).setCell ⟨w.heap.size + 1, 1, none⟩ (.int .i64 x.vDoc)).setCell ⟨w.heap.size + 1, 2, none⟩ (.slice pN L dN)).setCell ⟨w.heap.size + 1, 3, none⟩ (.slice pO M dO)).setCell ⟨w.heap.size + 1, 4, none⟩ (.slice p4 x.vGlobals.length d4))) FieldOwn_stays (fun b qq => by have l1 := hloG.out b qq; have l2 := hltG.out b qq; rw [hKF b l1.1, hout.out.keep (by omega) (by simpa using l1.2)])
              refine ⟨fN ++ fO ++ f4, ⟨_, _, _, fN, fO, f4, rfl, q2, q3, q4, hrr.out.1, hrr.out.2, rfl⟩, ?_, fun b qq => ?_⟩
              · refine List.nodup_append.2 ⟨nodup_two (q := wo.heap.size) q2.nodup q3.nodup hltN hloO, q4.nodup, fun a ha b hb' e => ?_⟩
                subst e
                have l4 := hltG.out a hb'
                rcases List.mem_append.1 ha with r | r
                · have := hloN'.out a r; omega
                · have := hloO a r; omega
              · rcases List.mem_append.1 qq with r | r
                · rcases List.mem_append.1 r with r2 | r2
                  · have := hloN'.out b r2; omega
                  · have := hloO b r2; omega
                · have := (hloG.out b r).1; omega
            have cA3 := bxo.out.cell 3 rfl
            have e0 := bTo.out.cell 0 rfl
            have e1 := bTo.out.cell 1 rfl
            have e2 := bTo.out.cell 2 rfl
            have e3 := bTo.out.cell 3 rfl
            have e4 := bTo.out.cell 4 rfl
            have z0 := bzo.out.cell 0 rfl
            have z1 := bzo.out.cell 1 rfl
            have z2 := bzo.out.cell 2 rfl
            have z3 := bzo.out.cell 3 rfl
            have z4 := bzo.out.cell 4 rfl
            have uz := bzo.out.unfrozen
            have g0 := bF.cell 0 rfl
            have g1 := bF.cell 1 rfl
            have g2 := bF.cell 2 rfl
            have g3 := bF.cell 3 rfl
            have g4 := bF.cell 4 rfl
            clear hgr hgr2 hsOo hloO hltO hltN hKF bF hout
            go_wp2_with fail
            refine bodyPost_ret (v := .agg #[.int .i64 x.vNext, .int .i64 x.vDoc, .slice pN L dN, .slice pO M dO, .slice p4 x.vGlobals.length d4]) (by simp [results, Tryz.results23, go_sem, g0, g1, g2, g3, g4]) rfl ?_
            exact ⟨⟨[.int .i64 x.vNext, .int .i64 x.vDoc, .slice pN L dN, .slice pO M dO, .slice p4 x.vGlobals.length d4], rfl, hans.out⟩, hBF.out⟩
end Go.Proofs.YtnonfehmbabfhaaGreat
namespace Go.Proofs.YtnonfehmbabfhaaGreat
open Go.RowKit
theorem left_small {gone : List Int} {x : HeapD} (h : x.small) : (withoutD gone x).small := by
  obtain ⟨h1, h2, h3, h4⟩ := h
  refine ⟨⟨Nat.le_trans (List.length_filter_le _ _) h1.1, fun i hi => ?_⟩, ⟨Nat.le_trans (List.length_filter_le _ _) h2.1, fun i hi => ?_⟩, h3, h4⟩
  · have hm : (leftNode gone x.vNodes)[i] ∈ x.vNodes := (List.mem_filter.1 (List.getElem_mem hi)).1
    obtain ⟨j, hj, e⟩ := List.getElem_of_mem hm
    have := h1.2 j hj
    rw [e] at this
    exact this
  · have hm : (leftObj gone x.vObjs)[i] ∈ x.vObjs := (List.mem_filter.1 (List.getElem_mem hi)).1
    obtain ⟨j, hj, e⟩ := List.getElem_of_mem hm
    have := h2.2 j hj
    rw [e] at this
    exact this
set_option maxRecDepth 100000 in
set_option maxHeartbeats 4000000 in
theorem heapWithout_any {w : World} {lo lo2 : Nat} {cs : List Value} {x : HeapD} {kg : Value} {gone : List Int} (hx : HeapAt w lo cs x) (hs : x.small) (hg : SeqAt 1 IntAt w lo2 kg gone) :
    Calls Tryz.prog 31 #[.agg cs.toArray, kg] w fun e w' => (∃ cs', e = .returned (.agg cs'.toArray) ∧ AnsH w w' cs' (withoutD gone x)) ∧ Below w.heap.size w w' := by
  have hgo : Hid (SeqAt 1 IntAt w lo2 kg gone) := hg
  have hxx : Hid (HeapAt w lo cs x) := hx
  obtain ⟨ga, gc, rfl⟩ := hg.form
  obtain ⟨k2, k3, k4, rfl, s2, s3, s4, _⟩ := hx
  obtain ⟨a2, c2, rfl⟩ := s2.form
  obtain ⟨a3, c3, rfl⟩ := s3.form
  obtain ⟨a4, c4, rfl⟩ := s4.form
  have hl2 : x.vNodes.length ≤ 1048576 := hs.1.1
  have hl3 : x.vObjs.length ≤ 1048576 := hs.2.1.1
  have hsm : Hid x.small := hs
  clear s2 s3 s4 hs hg
  have hb3 : Hid (Below w.heap.size w (((w.alloc (.cells #[.int .i64 x.vNext, .int .i64 x.vDoc, .slice a2 x.vNodes.length c2, .slice a3 x.vObjs.length c3, .slice a4 x.vGlobals.length c4] 32)).alloc (.cells #[.slice ga gone.length gc] 33)).alloc (.cells #[.int .i64 0, .int .i64 0, .slice none 0 0, .slice none 0 0, .slice none 0 0] 32))) := (((Below.refl _ _).alloc (Nat.le_refl _) _).alloc (by simp) _).alloc (by simp; omega) _
  have hz3 : (((w.alloc (.cells #[.int .i64 x.vNext, .int .i64 x.vDoc, .slice a2 x.vNodes.length c2, .slice a3 x.vObjs.length c3, .slice a4 x.vGlobals.length c4] 32)).alloc (.cells #[.slice ga gone.length gc] 33)).alloc (.cells #[.int .i64 0, .int .i64 0, .slice none 0 0, .slice none 0 0, .slice none 0 0] 32)).heap.size = w.heap.size + 3 := by simp
  have bx0 : Hid (Box (((w.alloc (.cells #[.int .i64 x.vNext, .int .i64 x.vDoc, .slice a2 x.vNodes.length c2, .slice a3 x.vObjs.length c3, .slice a4 x.vGlobals.length c4] 32)).alloc (.cells #[.slice ga gone.length gc] 33)).alloc (.cells #[.int .i64 0, .int .i64 0, .slice none 0 0, .slice none 0 0, .slice none 0 0] 32)) w.heap.size [.int .i64 x.vNext, .int .i64 x.vDoc, .slice a2 x.vNodes.length c2, .slice a3 x.vObjs.length c3, .slice a4 x.vGlobals.length c4] 32) := ((Box.new w _ _).alloc _).alloc _
  have bp0 : Hid (Box (((w.alloc (.cells #[.int .i64 x.vNext, .int .i64 x.vDoc, .slice a2 x.vNodes.length c2, .slice a3 x.vObjs.length c3, .slice a4 x.vGlobals.length c4] 32)).alloc (.cells #[.slice ga gone.length gc] 33)).alloc (.cells #[.int .i64 0, .int .i64 0, .slice none 0 0, .slice none 0 0, .slice none 0 0] 32)) (w.heap.size + 1) [.slice ga gone.length gc] 33) := by have h5 := (Box.new (w.alloc (.cells #[.int .i64 x.vNext, .int .i64 x.vDoc, .slice a2 x.vNodes.length c2, .slice a3 x.vObjs.length c3, .slice a4 x.vGlobals.length c4] 32)) [.slice ga gone.length gc] 33).alloc (.cells #[.int .i64 0, .int .i64 0, .slice none 0 0, .slice none 0 0, .slice none 0 0] 32); simpa only [World.size_alloc, Hid] using h5
  have bz0 : Hid (Box (((w.alloc (.cells #[.int .i64 x.vNext, .int .i64 x.vDoc, .slice a2 x.vNodes.length c2, .slice a3 x.vObjs.length c3, .slice a4 x.vGlobals.length c4] 32)).alloc (.cells #[.slice ga gone.length gc] 33)).alloc (.cells #[.int .i64 0, .int .i64 0, .slice none 0 0, .slice none 0 0, .slice none 0 0] 32)) (w.heap.size + 2) [.int .i64 0, .int .i64 0, .slice none 0 0, .slice none 0 0, .slice none 0 0] 32) := by have h5 := Box.new ((w.alloc (.cells #[.int .i64 x.vNext, .int .i64 x.vDoc, .slice a2 x.vNodes.length c2, .slice a3 x.vObjs.length c3, .slice a4 x.vGlobals.length c4] 32)).alloc (.cells #[.slice ga gone.length gc] 33)) [.int .i64 0, .int .i64 0, .slice none 0 0, .slice none 0 0, .slice none 0 0] 32; simpa only [World.size_alloc, Hid] using h5
  go_enter Tryz.func31, Tryz.ntmps31
  go_wp2_with fail
  refine (copyOf_any (HeapAt_stays _ _ _ lo _ _ (.of_below hb3.out) hxx.out) hsm.out).mono ?_
  rintro e u1 ⟨⟨cs1, rfl, f1, ho1, nd1, lo1⟩, hq1⟩
  rw [hz3] at lo1
  have hlt1 := HeapOwn_lt _ _ _ _ ho1
  have bx1 : Box u1 w.heap.size [.int .i64 x.vNext, .int .i64 x.vDoc, .slice a2 x.vNodes.length c2, .slice a3 x.vObjs.length c3, .slice a4 x.vGlobals.length c4] 32 := bx0.out.below hq1 bx0.out.lt
  have bp1 : Box u1 (w.heap.size + 1) [.slice ga gone.length gc] 33 := bp0.out.below hq1 bp0.out.lt
  have bz1 : Box u1 (w.heap.size + 2) [.int .i64 0, .int .i64 0, .slice none 0 0, .slice none 0 0, .slice none 0 0] 32 := bz0.out.below hq1 bz0.out.lt
  have hB1 : Below w.heap.size w u1 := hb3.out.trans (hq1.mono (by rw [hz3]; omega))
  obtain ⟨k2, k3, k4, f2, f3, f4, rfl, q2, q3, q4, rN, rD, hfe⟩ := ho1
  obtain ⟨p2, d2, rfl⟩ := q2.form
  obtain ⟨p3, d3, rfl⟩ := q3.form
  obtain ⟨p4, d4, rfl⟩ := q4.form
  subst hfe
  have l2 : Hid (∀ b ∈ f2, w.heap.size + 3 ≤ b) := fun b qq => lo1 b (List.mem_append_left _ (List.mem_append_left _ qq))
  have l3 : Hid (∀ b ∈ f3, w.heap.size + 3 ≤ b) := fun b qq => lo1 b (List.mem_append_left _ (List.mem_append_right _ qq))
  have l4 : Hid (∀ b ∈ f4, w.heap.size + 3 ≤ b) := fun b qq => lo1 b (List.mem_append_right _ qq)
  have d23 : Hid (∀ b ∈ f3, b ∉ f2) := fun b r1 r2 => (List.nodup_append.1 (List.nodup_append.1 nd1).1).2.2 b r2 b r1 rfl
  have d24 : Hid (∀ b ∈ f4, b ∉ f2 ∧ b ∉ f3) := fun b r1 => ⟨fun r2 => (List.nodup_append.1 nd1).2.2 b (List.mem_append_left _ r2) b r1 rfl, fun r2 => (List.nodup_append.1 nd1).2.2 b (List.mem_append_right _ r2) b r1 rfl⟩
  have hrr : Hid (InI x.vNext ∧ InI x.vDoc) := ⟨rN, rD⟩
  have hKS : Hid (∀ b, w.heap.size + 1 ≤ b → (((((u1.setCell ⟨w.heap.size, 0, none⟩ (.int .i64 x.vNext)).setCell ⟨w.heap.size, 1, none⟩ (.int .i64 x.vDoc)).setCell ⟨w.heap.size, 2, none⟩ (.slice p2 x.vNodes.length d2)).setCell ⟨w.heap.size, 3, none⟩ (.slice p3 x.vObjs.length d3)).setCell ⟨w.heap.size, 4, none⟩ (.slice p4 x.vGlobals.length d4)).heap[b]? = u1.heap[b]?) := fun b qq => by rw [set_other (by omega), set_other (by omega), set_other (by omega), set_other (by omega), set_other (by omega)]
  have o2 : Hid (SeqOwn 6 NodeOwn (((((u1.setCell ⟨w.heap.size, 0, none⟩ (.int .i64 x.vNext)).setCell ⟨w.heap.size, 1, none⟩ (.int .i64 x.vDoc)).setCell ⟨w.heap.size, 2, none⟩ (.slice p2 x.vNodes.length d2)).setCell ⟨w.heap.size, 3, none⟩ (.slice p3 x.vObjs.length d3)).setCell ⟨w.heap.size, 4, none⟩ (.slice p4 x.vGlobals.length d4)) (.slice p2 x.vNodes.length d2) x.vNodes f2) := q2.stays NodeOwn_stays (fun b qq => hKS.out b (by have := l2.out b qq; omega))
  have o3 : Hid (SeqOwn 3 ObjOwn (((((u1.setCell ⟨w.heap.size, 0, none⟩ (.int .i64 x.vNext)).setCell ⟨w.heap.size, 1, none⟩ (.int .i64 x.vDoc)).setCell ⟨w.heap.size, 2, none⟩ (.slice p2 x.vNodes.length d2)).setCell ⟨w.heap.size, 3, none⟩ (.slice p3 x.vObjs.length d3)).setCell ⟨w.heap.size, 4, none⟩ (.slice p4 x.vGlobals.length d4)) (.slice p3 x.vObjs.length d3) x.vObjs f3) := q3.stays ObjOwn_stays (fun b qq => hKS.out b (by have := l3.out b qq; omega))
  have o4 : Hid (SeqOwn 2 FieldOwn (((((u1.setCell ⟨w.heap.size, 0, none⟩ (.int .i64 x.vNext)).setCell ⟨w.heap.size, 1, none⟩ (.int .i64 x.vDoc)).setCell ⟨w.heap.size, 2, none⟩ (.slice p2 x.vNodes.length d2)).setCell ⟨w.heap.size, 3, none⟩ (.slice p3 x.vObjs.length d3)).setCell ⟨w.heap.size, 4, none⟩ (.slice p4 x.vGlobals.length d4)) (.slice p4 x.vGlobals.length d4) x.vGlobals f4) := q4.stays FieldOwn_stays (fun b qq => hKS.out b (by have := l4.out b qq; omega))
  have bxS : Hid (Box (((((u1.setCell ⟨w.heap.size, 0, none⟩ (.int .i64 x.vNext)).setCell ⟨w.heap.size, 1, none⟩ (.int .i64 x.vDoc)).setCell ⟨w.heap.size, 2, none⟩ (.slice p2 x.vNodes.length d2)).setCell ⟨w.heap.size, 3, none⟩ (.slice p3 x.vObjs.length d3)).setCell ⟨w.heap.size, 4, none⟩ (.slice p4 x.vGlobals.length d4)) w.heap.size [.int .i64 x.vNext, .int .i64 x.vDoc, .slice p2 x.vNodes.length d2, .slice p3 x.vObjs.length d3, .slice p4 x.vGlobals.length d4] 32) := ((((bx1.set (i := 0) _).set (i := 1) _).set (i := 2) _).set (i := 3) _).set (i := 4) _
  have bpS : Hid (Box (((((u1.setCell ⟨w.heap.size, 0, none⟩ (.int .i64 x.vNext)).setCell ⟨w.heap.size, 1, none⟩ (.int .i64 x.vDoc)).setCell ⟨w.heap.size, 2, none⟩ (.slice p2 x.vNodes.length d2)).setCell ⟨w.heap.size, 3, none⟩ (.slice p3 x.vObjs.length d3)).setCell ⟨w.heap.size, 4, none⟩ (.slice p4 x.vGlobals.length d4)) (w.heap.size + 1) [.slice ga gone.length gc] 33) := (hKS.out _ (by omega)).trans bp1
  have bzS : Hid (Box (((((u1.setCell ⟨w.heap.size, 0, none⟩ (.int .i64 x.vNext)).setCell ⟨w.heap.size, 1, none⟩ (.int .i64 x.vDoc)).setCell ⟨w.heap.size, 2, none⟩ (.slice p2 x.vNodes.length d2)).setCell ⟨w.heap.size, 3, none⟩ (.slice p3 x.vObjs.length d3)).setCell ⟨w.heap.size, 4, none⟩ (.slice p4 x.vGlobals.length d4)) (w.heap.size + 2) [.int .i64 0, .int .i64 0, .slice none 0 0, .slice none 0 0, .slice none 0 0] 32) := (hKS.out _ (by omega)).trans bz1
  have hBS : Hid (Below w.heap.size w (((((u1.setCell ⟨w.heap.size, 0, none⟩ (.int .i64 x.vNext)).setCell ⟨w.heap.size, 1, none⟩ (.int .i64 x.vDoc)).setCell ⟨w.heap.size, 2, none⟩ (.slice p2 x.vNodes.length d2)).setCell ⟨w.heap.size, 3, none⟩ (.slice p3 x.vObjs.length d3)).setCell ⟨w.heap.size, 4, none⟩ (.slice p4 x.vGlobals.length d4))) := ((((hB1.setCell (by simp) _).setCell (by simp) _).setCell (by simp) _).setCell (by simp) _).setCell (by simp) _
  have x0 := bx1.cell 0 rfl
  have x1 := bx1.cell 1 rfl
  have x2 := bx1.cell 2 rfl
  have x3 := bx1.cell 3 rfl
  have x4 := bx1.cell 4 rfl
  have ux := bx1.unfrozen
  have y0 := bxS.out.cell 0 rfl
  have y1 := bxS.out.cell 1 rfl
  have y2 := bxS.out.cell 2 rfl
  have y3 := bxS.out.cell 3 rfl
  have y4 := bxS.out.cell 4 rfl
  have uy := bxS.out.unfrozen
  clear q2 q3 q4 lo1 nd1 hq1 hlt1 bx0 bp0 bz0 bp1 bz1 hKS rN rD hB1
  go_wp2_with fail
  clear x0 x1 x2 x3 x4 y0 y1 y2 y3 y4 ux uy bx1
  generalize (((((u1.setCell ⟨w.heap.size, 0, none⟩ (.int .i64 x.vNext)).setCell ⟨w.heap.size, 1, none⟩ (.int .i64 x.vDoc)).setCell ⟨w.heap.size, 2, none⟩ (.slice p2 x.vNodes.length d2)).setCell ⟨w.heap.size, 3, none⟩ (.slice p3 x.vObjs.length d3)).setCell ⟨w.heap.size, 4, none⟩ (.slice p4 x.vGlobals.length d4)) = ws at o2 o3 o4 bxS bpS bzS hBS
  refine (delNode_any (w0 := w) (P := w.heap.size + 1) o2.out hl2 (bpS.out.cell 0 rfl) (fun qq => by have := l2.out _ qq; omega) hBS.out (fun b qq => by have := l2.out b qq; omega) hgo.out).mono ?_
  rintro e u2 ⟨⟨v2, g2, rfl, n2, hs2⟩, ho2⟩
  obtain ⟨r2, e2, rfl⟩ := n2.form
  have bx2 : Box u2 w.heap.size [.int .i64 x.vNext, .int .i64 x.vDoc, .slice p2 x.vNodes.length d2, .slice p3 x.vObjs.length d3, .slice p4 x.vGlobals.length d4] 32 := (ho2.keep bxS.out.lt (fun qq => by have := l2.out _ qq; omega)).trans bxS.out
  have bp2 : Box u2 (w.heap.size + 1) [.slice ga gone.length gc] 33 := (ho2.keep bpS.out.lt (fun qq => by have := l2.out _ qq; omega)).trans bpS.out
  have bz2 : Box u2 (w.heap.size + 2) [.int .i64 0, .int .i64 0, .slice none 0 0, .slice none 0 0, .slice none 0 0] 32 := (ho2.keep bzS.out.lt (fun qq => by have := l2.out _ qq; omega)).trans bzS.out
  have hB2 : Below w.heap.size w u2 := hBS.out.trans (ho2.below hBS.out.size (fun b qq => by have := l2.out b qq; omega))
  have n2' : Hid (SeqOwn 6 NodeOwn (u2.setCell ⟨w.heap.size, 2, none⟩ (.slice r2 (leftNode gone x.vNodes).length e2)) (.slice r2 (leftNode gone x.vNodes).length e2) (leftNode gone x.vNodes) g2) := n2.stays NodeOwn_stays (fun b qq => set_other (by have := l2.out b (hs2 b qq); omega) _)
  have hs2' : Hid (∀ b ∈ g2, b ∈ f2) := hs2
  have o3b : Hid (SeqOwn 3 ObjOwn (u2.setCell ⟨w.heap.size, 2, none⟩ (.slice r2 (leftNode gone x.vNodes).length e2)) (.slice p3 x.vObjs.length d3) x.vObjs f3) := o3.out.stays ObjOwn_stays (fun b qq => (set_other (by have := l3.out b qq; omega) _).trans (ho2.keep (SeqOwn.lt ObjOwn_lt o3.out b qq) (d23.out b qq)))
  have o4b : Hid (SeqOwn 2 FieldOwn (u2.setCell ⟨w.heap.size, 2, none⟩ (.slice r2 (leftNode gone x.vNodes).length e2)) (.slice p4 x.vGlobals.length d4) x.vGlobals f4) := o4.out.stays FieldOwn_stays (fun b qq => (set_other (by have := l4.out b qq; omega) _).trans (ho2.keep (SeqOwn.lt FieldOwn_lt o4.out b qq) (d24.out b qq).1))
  have bx3 : Hid (Box (u2.setCell ⟨w.heap.size, 2, none⟩ (.slice r2 (leftNode gone x.vNodes).length e2)) w.heap.size [.int .i64 x.vNext, .int .i64 x.vDoc, .slice r2 (leftNode gone x.vNodes).length e2, .slice p3 x.vObjs.length d3, .slice p4 x.vGlobals.length d4] 32) := bx2.set (i := 2) _
  have bp3 : Hid (Box (u2.setCell ⟨w.heap.size, 2, none⟩ (.slice r2 (leftNode gone x.vNodes).length e2)) (w.heap.size + 1) [.slice ga gone.length gc] 33) := bp2.other (by omega) _
  have bz3 : Hid (Box (u2.setCell ⟨w.heap.size, 2, none⟩ (.slice r2 (leftNode gone x.vNodes).length e2)) (w.heap.size + 2) [.int .i64 0, .int .i64 0, .slice none 0 0, .slice none 0 0, .slice none 0 0] 32) := bz2.other (by omega) _
  have hB3 : Hid (Below w.heap.size w (u2.setCell ⟨w.heap.size, 2, none⟩ (.slice r2 (leftNode gone x.vNodes).length e2))) := hB2.setCell (by simp) _
  have x2 := bx2.cell 2 rfl
  have ux := bx2.unfrozen
  have y3 := bx3.out.cell 3 rfl
  have uy := bx3.out.unfrozen
  clear n2 hs2 ho2 o2 o3 o4 bxS bpS bzS hBS bp2 bz2 hB2
  go_wp2_with fail
  clear x2 ux y3 uy bx2
  generalize (u2.setCell ⟨w.heap.size, 2, none⟩ (.slice r2 (leftNode gone x.vNodes).length e2)) = wt at n2' o3b o4b bx3 bp3 bz3 hB3
  refine (delObj_any (w0 := w) (P := w.heap.size + 1) o3b.out hl3 (bp3.out.cell 0 rfl) (fun qq => by have := l3.out _ qq; omega) hB3.out (fun b qq => by have := l3.out b qq; omega) hgo.out).mono ?_
  rintro e u3 ⟨⟨v3, g3, rfl, n3, hs3⟩, ho3⟩
  obtain ⟨r3, e3, rfl⟩ := n3.form
  have bx4 : Box u3 w.heap.size [.int .i64 x.vNext, .int .i64 x.vDoc, .slice r2 (leftNode gone x.vNodes).length e2, .slice p3 x.vObjs.length d3, .slice p4 x.vGlobals.length d4] 32 := (ho3.keep bx3.out.lt (fun qq => by have := l3.out _ qq; omega)).trans bx3.out
  have bz4 : Box u3 (w.heap.size + 2) [.int .i64 0, .int .i64 0, .slice none 0 0, .slice none 0 0, .slice none 0 0] 32 := (ho3.keep bz3.out.lt (fun qq => by have := l3.out _ qq; omega)).trans bz3.out
  have hB4 : Below w.heap.size w u3 := hB3.out.trans (ho3.below hB3.out.size (fun b qq => by have := l3.out b qq; omega))
  have bx5 : Box (u3.setCell ⟨w.heap.size, 3, none⟩ (.slice r3 (leftObj gone x.vObjs).length e3)) w.heap.size [.int .i64 x.vNext, .int .i64 x.vDoc, .slice r2 (leftNode gone x.vNodes).length e2, .slice r3 (leftObj gone x.vObjs).length e3, .slice p4 x.vGlobals.length d4] 32 := bx4.set (i := 3) _
  have bz5 : Box (u3.setCell ⟨w.heap.size, 3, none⟩ (.slice r3 (leftObj gone x.vObjs).length e3)) (w.heap.size + 2) [.int .i64 0, .int .i64 0, .slice none 0 0, .slice none 0 0, .slice none 0 0] 32 := bz4.other (by omega) _
  have bF : Box ((((((u3.setCell ⟨w.heap.size, 3, none⟩ (.slice r3 (leftObj gone x.vObjs).length e3)).setCell ⟨w.heap.size + 2, 0, none⟩ (.int .i64 x.vNext)).setCell ⟨w.heap.size + 2, 1, none⟩ (.int .i64 x.vDoc)).setCell ⟨w.heap.size + 2, 2, none⟩ (.slice r2 (leftNode gone x.vNodes).length e2)).setCell ⟨w.heap.size + 2, 3, none⟩ (.slice r3 (leftObj gone x.vObjs).length e3)).setCell ⟨w.heap.size + 2, 4, none⟩ (.slice p4 x.vGlobals.length d4)) (w.heap.size + 2) [.int .i64 x.vNext, .int .i64 x.vDoc, .slice r2 (leftNode gone x.vNodes).length e2, .slice r3 (leftObj gone x.vObjs).length e3, .slice p4 x.vGlobals.length d4] 32 := ((((bz5.set (i := 0) _).set (i := 1) _).set (i := 2) _).set (i := 3) _).set (i := 4) _
  have hKF : ∀ b, w.heap.size + 3 ≤ b → ((((((u3.setCell ⟨w.heap.size, 3, none⟩ (.slice r3 (leftObj gone x.vObjs).length e3)).setCell ⟨w.heap.size + 2, 0, none⟩ (.int .i64 x.vNext)).setCell ⟨w.heap.size + 2, 1, none⟩ (.int .i64 x.vDoc)).setCell ⟨w.heap.size + 2, 2, none⟩ (.slice r2 (leftNode gone x.vNodes).length e2)).setCell ⟨w.heap.size + 2, 3, none⟩ (.slice r3 (leftObj gone x.vObjs).length e3)).setCell ⟨w.heap.size + 2, 4, none⟩ (.slice p4 x.vGlobals.length d4)).heap[b]? = u3.heap[b]? := fun b qq => by rw [set_other (by omega), set_other (by omega), set_other (by omega), set_other (by omega), set_other (by omega), set_other (by omega)]
  have hBF : Hid (Below w.heap.size w ((((((u3.setCell ⟨w.heap.size, 3, none⟩ (.slice r3 (leftObj gone x.vObjs).length e3)).setCell ⟨w.heap.size + 2, 0, none⟩ (.int .i64 x.vNext)).setCell ⟨w.heap.size + 2, 1, none⟩ (.int .i64 x.vDoc)).setCell ⟨w.heap.size + 2, 2, none⟩ (.slice r2 (leftNode gone x.vNodes).length e2)).setCell ⟨w.heap.size + 2, 3, none⟩ (.slice r3 (leftObj gone x.vObjs).length e3)).setCell ⟨w.heap.size + 2, 4, none⟩ (.slice p4 x.vGlobals.length d4))) := ((((((hB4.setCell (by simp) _).setCell (by simp) _).setCell (by simp) _).setCell (by simp) _).setCell (by simp) _).setCell (by simp) _)
  have hans : Hid (AnsH w ((((((u3.setCell ⟨w.heap.size, 3, none⟩ (.slice r3 (leftObj gone x.vObjs).length e3)).setCell ⟨w.heap.size + 2, 0, none⟩ (.int .i64 x.vNext)).setCell ⟨w.heap.size + 2, 1, none⟩ (.int .i64 x.vDoc)).setCell ⟨w.heap.size + 2, 2, none⟩ (.slice r2 (leftNode gone x.vNodes).length e2)).setCell ⟨w.heap.size + 2, 3, none⟩ (.slice r3 (leftObj gone x.vObjs).length e3)).setCell ⟨w.heap.size + 2, 4, none⟩ (.slice p4 x.vGlobals.length d4)) [.int .i64 x.vNext, .int .i64 x.vDoc, .slice r2 (leftNode gone x.vNodes).length e2, .slice r3 (leftObj gone x.vObjs).length e3, .slice p4 x.vGlobals.length d4] (withoutD gone x)) := by
    have m2 := n2'.out.stays (w' := ((((((u3.setCell ⟨w.heap.size, 3, none⟩ (.slice r3 (leftObj gone x.vObjs).length e3)).setCell ⟨w.heap.size + 2, 0, none⟩ (.int .i64 x.vNext)).setCell ⟨w.heap.size + 2, 1, none⟩ (.int .i64 x.vDoc)).setCell ⟨w.heap.size + 2, 2, none⟩ (.slice r2 (leftNode gone x.vNodes).length e2)).setCell ⟨w.heap.size + 2, 3, none⟩ (.slice r3 (leftObj gone x.vObjs).length e3)).setCell ⟨w.heap.size + 2, 4, none⟩ (.slice p4 x.vGlobals.length d4))) NodeOwn_stays (fun b qq => by
      have r1 := hs2'.out b qq
      rw [hKF b (l2.out b r1), ho3.keep (SeqOwn.lt NodeOwn_lt n2'.out b qq) (fun r => d23.out b r r1)])
    have m3 := n3.stays (w' := ((((((u3.setCell ⟨w.heap.size, 3, none⟩ (.slice r3 (leftObj gone x.vObjs).length e3)).setCell ⟨w.heap.size + 2, 0, none⟩ (.int .i64 x.vNext)).setCell ⟨w.heap.size + 2, 1, none⟩ (.int .i64 x.vDoc)).setCell ⟨w.heap.size + 2, 2, none⟩ (.slice r2 (leftNode gone x.vNodes).length e2)).setCell ⟨w.heap.size + 2, 3, none⟩ (.slice r3 (leftObj gone x.vObjs).length e3)).setCell ⟨w.heap.size + 2, 4, none⟩ (.slice p4 x.vGlobals.length d4))) ObjOwn_stays (fun b qq => hKF b (l3.out b (hs3 b qq)))
    have m4 := o4b.out.stays (w' := ((((((u3.setCell ⟨w.heap.size, 3, none⟩ (.slice r3 (leftObj gone x.vObjs).length e3)).setCell ⟨w.heap.size + 2, 0, none⟩ (.int .i64 x.vNext)).setCell ⟨w.heap.size + 2, 1, none⟩ (.int .i64 x.vDoc)).setCell ⟨w.heap.size + 2, 2, none⟩ (.slice r2 (leftNode gone x.vNodes).length e2)).setCell ⟨w.heap.size + 2, 3, none⟩ (.slice r3 (leftObj gone x.vObjs).length e3)).setCell ⟨w.heap.size + 2, 4, none⟩ (.slice p4 x.vGlobals.length d4))) FieldOwn_stays (fun b qq => by rw [hKF b (l4.out b qq), ho3.keep (SeqOwn.lt FieldOwn_lt o4b.out b qq) (d24.out b qq).2])
    refine ⟨g2 ++ g3 ++ f4, ⟨_, _, _, g2, g3, f4, rfl, m2, m3, m4, hrr.out.1, hrr.out.2, rfl⟩, ?_, fun b qq => ?_⟩
    · refine List.nodup_append.2 ⟨List.nodup_append.2 ⟨m2.nodup, m3.nodup, fun a ha b hb' e => ?_⟩, m4.nodup, fun a ha b hb' e => ?_⟩
      · subst e
        exact d23.out a (hs3 a hb') (hs2'.out a ha)
      · subst e
        rcases List.mem_append.1 ha with r | r
        · exact (d24.out a hb').1 (hs2'.out a r)
        · exact (d24.out a hb').2 (hs3 a r)
    · rcases List.mem_append.1 qq with r | r
      · rcases List.mem_append.1 r with r2 | r2
        · have := l2.out b (hs2'.out b r2); omega
        · have := l3.out b (hs3 b r2); omega
      · have := l4.out b r; omega
  have x3 := bx4.cell 3 rfl
  have ux := bx4.unfrozen
  have y0 := bx5.cell 0 rfl
  have y1 := bx5.cell 1 rfl
  have y2 := bx5.cell 2 rfl
  have y3 := bx5.cell 3 rfl
  have y4 := bx5.cell 4 rfl
  have z0 := bz5.cell 0 rfl
  have z1 := bz5.cell 1 rfl
  have z2 := bz5.cell 2 rfl
  have z3 := bz5.cell 3 rfl
  have z4 := bz5.cell 4 rfl
  have uz := bz5.unfrozen
  have g0 := bF.cell 0 rfl
  have g1 := bF.cell 1 rfl
  have g2 := bF.cell 2 rfl
  have g3 := bF.cell 3 rfl
  have g4 := bF.cell 4 rfl
  clear n3 hs3 ho3 bF hKF n2' o3b o4b hB4
  go_wp2_with fail
  refine bodyPost_ret (v := .agg #[.int .i64 x.vNext, .int .i64 x.vDoc, .slice r2 (leftNode gone x.vNodes).length e2, .slice r3 (leftObj gone x.vObjs).length e3, .slice p4 x.vGlobals.length d4]) (by simp [results, Tryz.results31, go_sem, g0, g1, g2, g3, g4]) rfl ?_
  exact ⟨⟨[.int .i64 x.vNext, .int .i64 x.vDoc, .slice r2 (leftNode gone x.vNodes).length e2, .slice r3 (leftObj gone x.vObjs).length e3, .slice p4 x.vGlobals.length d4], rfl, hans.out⟩, hBF.out⟩
end Go.Proofs.YtnonfehmbabfhaaGreat
