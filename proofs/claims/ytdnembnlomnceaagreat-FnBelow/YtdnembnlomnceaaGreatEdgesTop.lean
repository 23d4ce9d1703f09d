/- EdgesOf, of the specification and of the program: walked. -/
import Derived.Test.YtdnembnlomnceaaGreatRightGraph
import Derived.Test.YtdnembnlomnceaaGreatAbb
import Derived.Test.YtdnembnlomnceaaGreatAppendRows
import Derived.Test.YtdnembnlomnceaaGreatHeapSmall
import Derived.Test.YtdnembnlomnceaaGreatHeapSpec
import Derived.Test.YtdnembnlomnceaaGreatOwnRows
namespace Go.Proofs.YtdnembnlomnceaaGreat
open Go.RowKit
theorem pair_inj {α : Type} {f : α → Int} {xs : List α} (h : (xs.map f).Nodup) : ∀ i j, (hi : i < xs.length) → (hj : j < xs.length) → f xs[i] = f xs[j] → i = j := by
 intro i j hi hj e
 exact nodup_inj h i j (by simpa using hi) (by simpa using hj) (by simpa using e)
theorem nodes_inj {h : HeapD} (e : idxB h = true) : ∀ i j, (hi : i < h.vNodes.length) → (hj : j < h.vNodes.length) → h.vNodes[i].vId = h.vNodes[j].vId → i = j := pair_inj (lt_nodup (rs_pair _ _ (idx_rs e).1))
theorem objs_inj {h : HeapD} (e : idxB h = true) : ∀ i j, (hi : i < h.vObjs.length) → (hj : j < h.vObjs.length) → h.vObjs[i].vId = h.vObjs[j].vId → i = j := pair_inj (lt_nodup (rs_pair _ _ (idx_rs e).2.1))
theorem holds_edges {h : HeapD} (e : implB h = true) {id : Int} (h0 : id ≠ 0) : holdsC (accG h) id = edgesS h id := by
 have hi := impl_idx e
 unfold accG
 rw [holdsC_append, holdsC_append, holdsC_other _ (fun q => h0 q.symm), List.append_nil]
 have e1 : holdsC (accN h.vNodes) id = (nodeAt h id).elim [] edgeN := holdsC_flat NodeD.vId edgeN id h.vNodes (nodes_inj hi)
 have e2 : holdsC (accO h.vObjs) id = (objAt h id).elim [] edgeO := holdsC_flat ObjD.vId edgeO id h.vObjs (objs_inj hi)
 rw [e1, e2]
 unfold edgesS
 cases hn : nodeAt h id with
 | none => cases ho : objAt h id with
  | none => rfl
  | some y => rfl
 | some x =>
  cases ho : objAt h id with
  | none => simp
  | some y =>
   obtain ⟨_, q2, q3⟩ := ids_pos hi ho
   have := (idx_rs hi).2.2 y q3
   rw [q2, hn] at this
   cases this
theorem linkA_there {h : HeapD} {p : Int} {ks : List Int} : ∀ a ∈ linkA h p ks, isT h a.2 = true := fun a ha => by
 unfold linkA at ha
 obtain ⟨k, hk, rfl⟩ := List.mem_map.1 ha
 exact (List.mem_filter.1 hk).2
theorem accG_there {h : HeapD} (e : specB h = true) : ∀ a ∈ accG h, isT h a.2 = true := fun a ha => by
 unfold accG accN accO at ha
 rw [List.mem_append, List.mem_append, List.mem_flatMap, List.mem_flatMap] at ha
 rcases ha with (⟨x, hx, ha⟩ | ⟨x, hx, ha⟩) | ha
 · rw [← linkA_node e hx, List.mem_append, List.mem_append] at ha
   rcases ha with (ha | ha) | ha <;> exact linkA_there a ha
 · rw [← linkA_obj e hx, List.mem_append] at ha
   rcases ha with ha | ha <;> exact linkA_there a ha
 · rw [← linkA_root e, List.mem_append] at ha
   rcases ha with ha | ha <;> exact linkA_there a ha
theorem holdsC_there {h : HeapD} (e : specB h = true) {id k : Int} (hk : k ∈ holdsC (accG h) id) : isT h k = true := by
 unfold holdsC at hk
 obtain ⟨a, ha, rfl⟩ := List.mem_map.1 hk
 exact accG_there e a (List.mem_filter.1 ha).1
def thOf (Ts : List ThD) (k : Int) : ThD := (getI ThD.id Ts k).getD ⟨0, 0, 0⟩
theorem thOf_is {Ts : List ThD} {k : Int} (h : (getI ThD.id Ts k).isSome = true) : thOf Ts k ∈ Ts ∧ (thOf Ts k).id = k ∧ ptrOf Ts k = .pointer (some ⟨(thOf Ts k).blk, 0, none⟩) := by
 obtain ⟨t, ht⟩ := Option.isSome_iff_exists.1 h
 obtain ⟨h1, h2⟩ := get_mem Ts t ht
 simp only [thOf, ptrOf, ht, Option.getD_some]
 exact ⟨h1, h2, trivial⟩
theorem things_map {Ts : List ThD} {ks : List Int} (h : ∀ k ∈ ks, (getI ThD.id Ts k).isSome = true) : ks.map (ptrOf Ts) = (ks.map (thOf Ts)).map (fun t => Value.pointer (some ⟨t.blk, 0, none⟩)) ∧ (ks.map (thOf Ts)).map (fun t => Value.int .i64 t.id) = ks.map fun n => Value.int .i64 n := by
 constructor
 · rw [List.map_map]
   exact List.map_congr_left fun k hk => (thOf_is (h k hk)).2.2
 · rw [List.map_map]
   exact List.map_congr_left fun k hk => by show Value.int .i64 (thOf Ts k).id = _; rw [(thOf_is (h k hk)).2.1]
theorem seq_in {w : World} {lo : Nat} {k : Value} {xs : List Int} (h : SeqAt 1 IntAt w lo k xs) : ∀ x ∈ xs, InI x := fun x hx => by
 obtain ⟨i, hi, rfl⟩ := List.getElem_of_mem hx
 obtain ⟨a, cap, _, _, hc⟩ := h
 obtain ⟨b, off, _, _, _, hcc⟩ := hc (by omega)
 obtain ⟨cs, _, _, r⟩ := hcc i hi
 exact r.2
theorem seq_recs {α : Type} {c : Nat} {R : World → Nat → List Value → α → Prop} {w : World} {lo : Nat} {k : Value} {xs : List α} (h : SeqAt c R w lo k xs) {x : α} (hx : x ∈ xs) : ∃ cs, R w lo cs x := by
 obtain ⟨i, hi, rfl⟩ := List.getElem_of_mem hx
 obtain ⟨a, cap, _, _, hc⟩ := h
 obtain ⟨b, off, _, _, _, hcc⟩ := hc (by omega)
 obtain ⟨cs, _, _, r⟩ := hcc i hi
 exact ⟨cs, r⟩
theorem flds_in {w : World} {lo : Nat} {k : Value} {xs : List FieldD} (h : SeqAt 2 FieldAt w lo k xs) : ∀ x ∈ xs.map FieldD.vObj, InI x := fun x hx => by
 obtain ⟨y, hy, rfl⟩ := List.mem_map.1 hx
 obtain ⟨cs, r⟩ := seq_recs h hy
 exact r.2.2.1
theorem nzI_in {n : Int} (h : InI n) : ∀ x ∈ nzI n, InI x := fun x hx => by
 unfold nzI at hx
 split at hx
 · cases hx
 · simp at hx; subst hx; exact h
theorem edges_in {w : World} {lo : Nat} {cs : List Value} {h : HeapD} {id : Int} (hh : HeapAt w lo cs h) : ∀ x ∈ edgesS h id, InI x := by
 obtain ⟨k2, k3, k4, _, s2, s3, s4, _⟩ := hh
 intro x hx
 unfold edgesS at hx
 cases hn : nodeAt h id with
 | some y =>
  rw [hn] at hx
  obtain ⟨cy, g3, g5, _, v3, _, _, _, rP, rW, _⟩ := seq_recs s2 (get_mem _ _ hn).1
  simp only [edgeN, List.mem_append] at hx
  rcases hx with (hx | hx) | hx
  · exact nzI_in rP x hx
  · exact seq_in v3 x hx
  · exact nzI_in rW x hx
 | none =>
  rw [hn] at hx
  cases ho : objAt h id with
  | none => rw [ho] at hx; cases hx
  | some y =>
   rw [ho] at hx
   obtain ⟨cy, g2, _, v2, _, rN, _⟩ := seq_recs s3 (get_mem _ _ ho).1
   simp only [edgeO, List.mem_append] at hx
   rcases hx with hx | hx
   · exact nzI_in rN x hx
   · exact flds_in v2 x hx
theorem edges_len {h : HeapD} (hs : h.small) (id : Int) : (edgesD h id).length ≤ 1048578 := by
 unfold edgesD
 split
 · unfold edgesS
   cases hn : nodeAt h id with
   | some y =>
    obtain ⟨i, hi, rfl⟩ := List.getElem_of_mem (get_mem _ _ hn).1
    obtain ⟨_, hk, _⟩ := hs.1.2 i hi
    have hk' : h.vNodes[i].vKids.length ≤ 1048576 := hk
    have n1 := nzI_len h.vNodes[i].vParent
    have n2 := nzI_len h.vNodes[i].vWrapper
    simp only [edgeN, List.length_append]
    omega
   | none =>
    cases ho : objAt h id with
    | none => simp
    | some y =>
     obtain ⟨i, hi, rfl⟩ := List.getElem_of_mem (get_mem _ _ ho).1
     obtain ⟨hf, _⟩ := hs.2.1.2 i hi
     have hf' := hf.1
     have n1 := nzI_len h.vObjs[i].vNode
     simp only [edgeO, List.length_append, List.length_map]
     omega
 · simp
end Go.Proofs.YtdnembnlomnceaaGreat
namespace Go.Proofs.YtdnembnlomnceaaGreat
open Go.RowKit
set_option maxRecDepth 100000 in
set_option maxHeartbeats 2000000 in
theorem thingIds_any {w : World} {base : Nat} {v : Value} {ps : List ThD} (hrow : w.ownsRow base 58 1 v ps.length (ps.map fun t => .pointer (some ⟨t.blk, 0, none⟩))) (hbox : ∀ t ∈ ps, w.cell? ⟨t.blk, 0, none⟩ = some (.int .i64 t.id)) (hl : ps.length ≤ 1099511627) :
 Calls Tryz.prog 32 #[v] w fun e w' => (∃ v', e = .returned v' ∧ w'.ownsRow w.heap.size 2 1 v' ps.length (ps.map fun t => .int .i64 t.id)) ∧ Below w.heap.size w w' := by
 obtain ⟨iI, hiI, heI⟩ := Option.map_eq_some_iff.1 infoI64
 simp only [Prod.mk.injEq] at heI
 have hI : Hid _ := hiI
 have hE : Hid _ := heI
 clear hiI heI
 obtain ⟨av, cv, rfl⟩ := own_forms hrow
 have hrow' : Hid (w.ownsRow base 58 1 (.slice av ps.length cv) ps.length (ps.map fun t => .pointer (some ⟨t.blk, 0, none⟩))) := hrow
 have hbox' : Hid (∀ t ∈ ps, w.cell? ⟨t.blk, 0, none⟩ = some (.int .i64 t.id)) := hbox
 clear hrow hbox
 go_enter Tryz.func32, Tryz.ntmps32
 go_wp2_with fail
 go_loopw [3, 8] (fun v i wr => ∃ (j : Nat), j ≤ ps.length ∧ i = .int .i64 j ∧ Hid (wr.ownsRow w.heap.size 2 1 v j ((ps.take j).map fun t => .int .i64 t.id)) ∧ Hid (∃ a cap, v = .slice a j cap) ∧ Below w.heap.size w wr) (fun _ i _ => ps.length - (intOf i).toNat)
 case atStart => exact ⟨0, by omega, rfl, World.ownsRow_nil _ _ _ _, ⟨_, _, rfl⟩, Below.refl _ _⟩
 case round =>
  obtain ⟨j, hj, rfl, hown, hform, hb⟩ := hrel
  obtain ⟨a3, cap3, rfl⟩ := hform.out
  clear hform
  have hz := hb.size
  by_cases hlt : j < ps.length
  · obtain ⟨g, rfl, z0⟩ := row_get hrow'.out hlt (x := .pointer (some ⟨ps[j].blk, 0, none⟩)) (by simp [hlt])
    have z0 := cell_on hb z0
    have z1 := cell_on hb (hbox'.out ps[j] (List.getElem_mem hlt))
    have hstep : Hid ((ps.take (j + 1)).map (fun t => Value.int .i64 t.id) = (ps.take j).map (fun t => Value.int .i64 t.id) ++ [.int .i64 ps[j].id]) := by show _ = _; rw [List.take_succ_eq_append_getElem hlt, List.map_append]; rfl
    generalize hQ : ps[j] = Q at z0 z1 hstep
    obtain ⟨L, hL⟩ : ∃ L, ((ps.take j).map fun t => Value.int .i64 t.id) = L := ⟨_, rfl⟩
    have hownL : Hid (wr.ownsRow w.heap.size 2 1 (.slice a3 j cap3) j L) := by rw [← hL]; exact hown
    have hL' : Hid _ := hL
    clear hQ hL
    go_wp2_with (at_builtin; refine wpList_append_own _ rfl _ _ 29 rfl (w.heap.size) 2 iI (.int .i64 0) 1 8 Tryz.underlying29 hI.out hE.out.1 hE.out.2.2 hE.out.2.1 rfl (by decide) _ (j) (L) rfl (hownL.out.alloc _) ⟨wr.heap.size, 0, none⟩ 1 1 [.int .i64 Q.id] rfl rfl (by intro q u hq; match q, hq with | 0, hq => simp at hq; subst hq; simp [Addr.add]) (by simp [Value.oneCell']) (by unfold maxLen; omega) (by omega) (by simp; omega) ?_)
    intro v' w1 hown' hgrow _
    have hb3 : Below w.heap.size w w1 := (hb.alloc hz _).grown hgrow (by simp; omega) (own_block hownL.out)
    obtain ⟨av', capv', rfl⟩ := own_forms hown'
    have hown1 : Hid _ := hown'
    clear hown' hgrow
    go_wp2_with fail
    go_roundw
    case rel => exact ⟨j + 1, by omega, by go_num, by rw [hstep.out, hL'.out]; exact hown1.out, ⟨_, _, rfl⟩, hb3⟩
    case measure => simp [intOf]; omega
  obtain rfl : j = ps.length := by omega
  have hown2 : Hid (wr.ownsRow w.heap.size 2 1 (.slice a3 ps.length cap3) ps.length (ps.map fun t => .int .i64 t.id)) := by have q := hown.out; rw [List.take_length] at q; exact q
  clear hown
  go_wp2_with fail
  go_ret
  exact ⟨⟨_, rfl, hown2.out⟩, hb⟩
set_option maxRecDepth 100000 in
set_option maxHeartbeats 4000000 in
theorem l5Edges_any {w : World} {lo : Nat} {cs : List Value} {h : HeapD} {id : Int} (hh : HeapAt w lo cs h) (hs : h.small) :
 Calls Tryz.prog 57 #[.agg cs.toArray, .int .i64 id] w fun e w' => (∃ v, e = .returned v ∧ w'.ownsRow w.heap.size 2 1 v (edgesS h id).length ((edgesS h id).map fun n => .int .i64 n)) ∧ Below w.heap.size w w' := by
 have hh' : Hid (HeapAt w lo cs h) := hh
 obtain ⟨k2, k3, k4, rfl, s2, s3, s4, rNext, rDoc, _⟩ := hh
 obtain ⟨a4, cap4, rfl⟩ := s4.form
 obtain ⟨a2, cap2, rfl, hm2, hx2⟩ := s2
 obtain ⟨a3, cap3, rfl, hm3, hx3⟩ := s3
 have hx2' : Hid _ := hx2
 have hx3' : Hid _ := hx3
 have hs' : Hid h.small := hs
 clear hx2 hx3 s4 rNext rDoc hm2 hm3 hs
 obtain ⟨iI, hiI, heI⟩ := Option.map_eq_some_iff.1 infoI64
 simp only [Prod.mk.injEq] at heI
 have hI : Hid _ := hiI
 have hE : Hid _ := heI
 clear hiI heI
 have hb2 : Below w.heap.size w ((w.alloc (.cells (List.toArray (cHp h a2 cap2 a3 cap3 a4 cap4)) 28)).alloc (.cells #[] 2)) := ((Below.refl _ _).alloc (Nat.le_refl _) _).alloc (by simp) _
 have bH0 : Hid (Box ((w.alloc (.cells (List.toArray (cHp h a2 cap2 a3 cap3 a4 cap4)) 28)).alloc (.cells #[] 2)) w.heap.size (cHp h a2 cap2 a3 cap3 a4 cap4) 28) := (Box.new w (cHp h a2 cap2 a3 cap3 a4 cap4) 28).alloc _
 have hr0 : Hid (((w.alloc (.cells (List.toArray (cHp h a2 cap2 a3 cap3 a4 cap4)) 28)).alloc (.cells #[] 2)).ownsRow (w.heap.size + 1) 2 1 (.slice (some ⟨w.heap.size + 1, 0, none⟩) 0 0) 0 []) := by
  have q := row_start (w := (w.alloc (.cells (List.toArray (cHp h a2 cap2 a3 cap3 a4 cap4)) 28))) (B := w.heap.size + 1) (by simp)
  simpa only [World.size_alloc, Hid] using q
 have hz2 : ((w.alloc (.cells (List.toArray (cHp h a2 cap2 a3 cap3 a4 cap4)) 28)).alloc (.cells #[] 2)).heap.size = w.heap.size + 2 := by simp
 go_enter Tryz.func57, Tryz.ntmps57
 go_wp2_with fail
 refine (l2Node_any (HeapAt_stays _ _ _ lo _ _ (.of_below hb2) hh'.out)).mono ?_
 rintro e w1 ⟨rfl, hb1⟩
 have hB1 : Below w.heap.size w w1 := hb2.trans (hb1.mono hb2.size)
 have hz1 : w.heap.size + 2 ≤ w1.heap.size := by have := hb1.size; omega
 have bH1 : Hid (Box w1 w.heap.size (cHp h a2 cap2 a3 cap3 a4 cap4) 28) := bH0.out.below hb1 (by omega)
 have hr1 : Hid (w1.ownsRow (w.heap.size + 1) 2 1 (.slice (some ⟨w.heap.size + 1, 0, none⟩) 0 0) 0 []) := own_below hr0.out hb1
 have c2 := bH1.out.cell 2 rfl
 have c3 := bH1.out.cell 3 rfl
 clear hb1 hb2 bH0 hr0 hz2
 rcases idxN_is h id with ⟨hidx, hat⟩ | ⟨i', hi1, hidx, hid1, hat⟩
 rotate_left
 · have HE : Hid (edgesS h id = edgeN h.vNodes[i']) := by show _ = _; unfold edgesS; rw [hat]
   obtain ⟨b, off, rfl, hlo, hbw, hc⟩ := hx2'.out (by omega)
   obtain ⟨cs, hcl, lie, hr⟩ := hc i' hi1
   have lie1 := Lie.keep (lo := lo) (lo' := lo) lie (.of_below hB1) hlo hbw
   have hkl : Hid (h.vNodes[i'].vKids.length ≤ 1048576) := by obtain ⟨_, hk, _⟩ := hs'.out.1.2 i' hi1; exact hk
   generalize hQ : h.vNodes[i'] = Q at hr HE hkl
   obtain ⟨g3, g5, rfl, v3, v5, _⟩ := hr
   have v3' : Hid (SeqAt 1 IntAt w lo g3 Q.vKids) := v3
   obtain ⟨p3, d3, rfl⟩ := v3.form
   obtain ⟨p5, d5, rfl⟩ := v5.form
   have z0 := lie_at lie1 0 rfl
   have z1 := lie_at lie1 1 rfl
   have z2 := lie_at lie1 2 rfl
   have z3 := lie_at lie1 3 rfl
   have z4 := lie_at lie1 4 rfl
   have z5 := lie_at lie1 5 rfl
   simp only [Nat.add_zero] at z0
   have hin : (0 : Int) ≤ (i' : Int) := by omega
   have hin2 : (i' : Int) < (h.vNodes.length : Int) := by omega
   have bN : Hid (Box (w1.alloc (.cells (List.toArray [.int .i64 Q.vId, .string Q.vTag, .int .i64 Q.vParent, .slice p3 Q.vKids.length d3, .int .i64 Q.vWrapper, .slice p5 Q.vListeners.length d5]) 73)) w1.heap.size [.int .i64 Q.vId, .string Q.vTag, .int .i64 Q.vParent, .slice p3 Q.vKids.length d3, .int .i64 Q.vWrapper, .slice p5 Q.vListeners.length d5] 73) := Box.new w1 _ _
   have hbn : Below w1.heap.size w1 (w1.alloc (.cells (List.toArray [.int .i64 Q.vId, .string Q.vTag, .int .i64 Q.vParent, .slice p3 Q.vKids.length d3, .int .i64 Q.vWrapper, .slice p5 Q.vListeners.length d5]) 73)) := (Below.refl _ _).alloc (Nat.le_refl _) _
   have hr2 : Hid ((w1.alloc (.cells (List.toArray [.int .i64 Q.vId, .string Q.vTag, .int .i64 Q.vParent, .slice p3 Q.vKids.length d3, .int .i64 Q.vWrapper, .slice p5 Q.vListeners.length d5]) 73)).ownsRow (w.heap.size + 1) 2 1 (.slice (some ⟨w.heap.size + 1, 0, none⟩) 0 0) 0 []) := hr1.out.alloc _
   have hB2 : Below w.heap.size w (w1.alloc (.cells (List.toArray [.int .i64 Q.vId, .string Q.vTag, .int .i64 Q.vParent, .slice p3 Q.vKids.length d3, .int .i64 Q.vWrapper, .slice p5 Q.vListeners.length d5]) 73)) := hB1.alloc (by omega) _
   have n2 := bN.out.cell 2 rfl
   clear lie lie1 hcl hc hQ v3 v5 hat hid1 hr1
   rw [hidx]
   clear hidx
   by_cases hp : Q.vParent = 0
   · have hp' : (Q.vParent != 0) = false := by simpa using hp
     have HP : Hid (nzI Q.vParent = []) := by show _ = _; simp [nzI, hp]
     clear hp
     have bq : Hid (Box (w1.alloc (.cells (List.toArray [.int .i64 Q.vId, .string Q.vTag, .int .i64 Q.vParent, .slice p3 Q.vKids.length d3, .int .i64 Q.vWrapper, .slice p5 Q.vListeners.length d5]) 73)) w1.heap.size [.int .i64 Q.vId, .string Q.vTag, .int .i64 Q.vParent, .slice p3 Q.vKids.length d3, .int .i64 Q.vWrapper, .slice p5 Q.vListeners.length d5] 73) := bN.out
     have hq : Hid ((w1.alloc (.cells (List.toArray [.int .i64 Q.vId, .string Q.vTag, .int .i64 Q.vParent, .slice p3 Q.vKids.length d3, .int .i64 Q.vWrapper, .slice p5 Q.vListeners.length d5]) 73)).ownsRow (w.heap.size + 1) 2 1 (.slice (some ⟨w.heap.size + 1, 0, none⟩) 0 0) 0 []) := hr2.out
     have hBq : Below w.heap.size w (w1.alloc (.cells (List.toArray [.int .i64 Q.vId, .string Q.vTag, .int .i64 Q.vParent, .slice p3 Q.vKids.length d3, .int .i64 Q.vWrapper, .slice p5 Q.vListeners.length d5]) 73)) := hB2
     have hzq : (w1.alloc (.cells (List.toArray [.int .i64 Q.vId, .string Q.vTag, .int .i64 Q.vParent, .slice p3 Q.vKids.length d3, .int .i64 Q.vWrapper, .slice p5 Q.vListeners.length d5]) 73)).heap.size = w1.heap.size + 1 := by simp
     have k3 := bq.out.cell 3 rfl
     have hkq : Hid (SeqAt 1 IntAt (w1.alloc (.cells (List.toArray [.int .i64 Q.vId, .string Q.vTag, .int .i64 Q.vParent, .slice p3 Q.vKids.length d3, .int .i64 Q.vWrapper, .slice p5 Q.vListeners.length d5]) 73)) lo (.slice p3 Q.vKids.length d3) Q.vKids) := SeqAt.keep intAt_stays v3'.out (.of_below hBq)
     have hkl' : Q.vKids.length ≤ 1048576 := hkl.out
     go_wp2_with (at_builtin; refine wpList_append_ints rfl _ _ 29 rfl (w.heap.size + 1) lo 2 iI Tryz.underlying29 hI.out hE.out.1 hE.out.2.2 hE.out.2.1 (.slice (some ⟨w.heap.size + 1, 0, none⟩) 0 0) (0) (([] : List Value)) rfl (by simp) hq.out _ Q.vKids rfl hkq.out (by omega) (by omega) ?_)
     intro v5 w5 hown5 hgrow5 hnn5
     obtain ⟨g5, cap5, rfl⟩ := nonnil_row hown5 hnn5
     have hB5 : Below w.heap.size w w5 := hBq.grown hgrow5 hBq.size (fun k e => by have := own_block hq.out k e; omega)
     have bN5 : Hid (Box w5 w1.heap.size [.int .i64 Q.vId, .string Q.vTag, .int .i64 Q.vParent, .slice p3 Q.vKids.length d3, .int .i64 Q.vWrapper, .slice p5 Q.vListeners.length d5] 73) := (hgrow5.block _ bq.out.lt (fun e => row_ne_box hq.out bq.out (by decide) e.symm rfl)).trans bq.out
     have hq5 : Hid (w5.ownsRow (w.heap.size + 1) 2 1 (.slice (some ⟨g5, 0, none⟩) (Q.vKids.length) cap5) (Q.vKids.length) (Q.vKids.map fun n => Value.int .i64 n)) := hown5
     have n4 := bN5.out.cell 4 rfl
     have hz5 : w.heap.size + 1 ≤ w5.heap.size := by have := bN5.out.lt; omega
     clear hown5 hgrow5 hnn5 k3 hq bq
     obtain ⟨L5, hL5⟩ : ∃ L5, (Q.vKids.map fun n => Value.int .i64 n) = L5 := ⟨_, rfl⟩
     rw [hL5] at hq5
     have hL5' : Hid _ := hL5
     clear hL5
     by_cases hw : Q.vWrapper = 0
     · have hw' : (Q.vWrapper != 0) = false := by simpa using hw
       have HW : Hid (nzI Q.vWrapper = []) := by show _ = _; simp [nzI, hw]
       clear hw
       go_wp2_with fail
       go_ret
       refine ⟨⟨_, rfl, ?_⟩, hB5⟩
       rw [HE.out, edgeN, HW.out, HP.out]
       have e1 : (([] : List Int) ++ Q.vKids ++ []).length = Q.vKids.length := by simp <;> omega
       have e2 : ((([] : List Int) ++ Q.vKids ++ []).map fun n => Value.int .i64 n) = L5 := by rw [← hL5'.out]; simp
       rw [e1, e2]; exact World.ownsRow.mono hq5.out (show w.heap.size ≤ w.heap.size + 1 by omega)
     · have hw' : (Q.vWrapper != 0) = true := by simpa using hw
       have HW : Hid (nzI Q.vWrapper = [Q.vWrapper]) := by show _ = _; simp [nzI, hw]
       clear hw
       go_wp2_with (at_builtin; refine wpList_append_own _ rfl _ _ 29 rfl (w.heap.size + 1) 2 iI (.int .i64 0) 1 8 Tryz.underlying29 hI.out hE.out.1 hE.out.2.2 hE.out.2.1 rfl (by decide) _ (Q.vKids.length) (L5) rfl (hq5.out.alloc _) ⟨w5.heap.size, 0, none⟩ 1 1 [.int .i64 Q.vWrapper] rfl rfl (by intro q u hq; match q, hq with | 0, hq => simp at hq; subst hq; simp [Addr.add]) (by simp [Value.oneCell']) (by unfold maxLen; omega) (by omega) (by simp; omega) ?_)
       intro v6 w6 hown6 hgrow6 _
       obtain ⟨a6, cap6, rfl⟩ := own_forms hown6
       have hB6 : Below w.heap.size w w6 := (hB5.alloc hB5.size _).grown hgrow6 (by have := hB5.size; simp; omega) (fun k e => by have := own_block hq5.out k e; omega)
       have hq6 : Hid (w6.ownsRow w.heap.size 2 1 (.slice a6 (Q.vKids.length + 1) cap6) (Q.vKids.length + 1) (L5 ++ [.int .i64 Q.vWrapper])) := World.ownsRow.mono hown6 (show w.heap.size ≤ w.heap.size + 1 by omega)
       clear hown6 hgrow6
       go_wp2_with fail
       go_ret
       refine ⟨⟨_, rfl, ?_⟩, hB6⟩
       rw [HE.out, edgeN, HW.out, HP.out]
       have e1 : (([] : List Int) ++ Q.vKids ++ [Q.vWrapper]).length = Q.vKids.length + 1 := by simp <;> omega
       have e2 : ((([] : List Int) ++ Q.vKids ++ [Q.vWrapper]).map fun n => Value.int .i64 n) = L5 ++ [.int .i64 Q.vWrapper] := by rw [← hL5'.out]; simp
       rw [e1, e2]; exact hq6.out
   · have hp' : (Q.vParent != 0) = true := by simpa using hp
     have HP : Hid (nzI Q.vParent = [Q.vParent]) := by show _ = _; simp [nzI, hp]
     clear hp
     go_wp2_with (at_builtin; refine wpList_append_own _ rfl _ _ 29 rfl (w.heap.size + 1) 2 iI (.int .i64 0) 1 8 Tryz.underlying29 hI.out hE.out.1 hE.out.2.2 hE.out.2.1 rfl (by decide) _ (0) (([] : List Value)) rfl (hr2.out.alloc _) ⟨w1.heap.size + 1, 0, none⟩ 1 1 [.int .i64 Q.vParent] rfl rfl (by intro q u hq; match q, hq with | 0, hq => simp at hq; subst hq; simp [Addr.add]) (by simp [Value.oneCell']) (by unfold maxLen; omega) (by omega) (by simp; omega) ?_)
     intro v4 w4 hown4 hgrow4 hnil4
     have hnn4 : v4 ≠ .slice none 0 0 := fun q => hnil4 q
     obtain ⟨g4, cap4', rfl⟩ := nonnil_row hown4 hnn4
     have bq : Hid (Box w4 w1.heap.size [.int .i64 Q.vId, .string Q.vTag, .int .i64 Q.vParent, .slice p3 Q.vKids.length d3, .int .i64 Q.vWrapper, .slice p5 Q.vListeners.length d5] 73) := (hgrow4.block _ (by simp; omega) (fun e => row_ne_box hr2.out bN.out (by decide) e.symm rfl)).trans (bN.out.alloc _)
     have hq : Hid (w4.ownsRow (w.heap.size + 1) 2 1 (.slice (some ⟨g4, 0, none⟩) (0 + 1) cap4') (0 + 1) [.int .i64 Q.vParent]) := by show World.ownsRow _ _ _ _ _ _ _; simpa using hown4
     have hBq : Below w.heap.size w w4 := (hB2.alloc hB2.size _).grown hgrow4 (by have := hB2.size; simp; omega) (fun k e => by have := own_block hr2.out k e; omega)
     have hzq : w1.heap.size + 1 ≤ w4.heap.size := by have := bq.out.lt; omega
     clear hown4 hgrow4 hnil4 hnn4
     simp only [Nat.zero_add] at hq ⊢
     have k3 := bq.out.cell 3 rfl
     have hkq : Hid (SeqAt 1 IntAt w4 lo (.slice p3 Q.vKids.length d3) Q.vKids) := SeqAt.keep intAt_stays v3'.out (.of_below hBq)
     have hkl' : Q.vKids.length ≤ 1048576 := hkl.out
     go_wp2_with (at_builtin; refine wpList_append_ints rfl _ _ 29 rfl (w.heap.size + 1) lo 2 iI Tryz.underlying29 hI.out hE.out.1 hE.out.2.2 hE.out.2.1 (.slice (some ⟨g4, 0, none⟩) 1 cap4') (1) ([.int .i64 Q.vParent]) rfl (by simp) hq.out _ Q.vKids rfl hkq.out (by omega) (by omega) ?_)
     intro v5 w5 hown5 hgrow5 hnn5
     obtain ⟨g5, cap5, rfl⟩ := nonnil_row hown5 hnn5
     have hB5 : Below w.heap.size w w5 := hBq.grown hgrow5 hBq.size (fun k e => by have := own_block hq.out k e; omega)
     have bN5 : Hid (Box w5 w1.heap.size [.int .i64 Q.vId, .string Q.vTag, .int .i64 Q.vParent, .slice p3 Q.vKids.length d3, .int .i64 Q.vWrapper, .slice p5 Q.vListeners.length d5] 73) := (hgrow5.block _ bq.out.lt (fun e => row_ne_box hq.out bq.out (by decide) e.symm rfl)).trans bq.out
     have hq5 : Hid (w5.ownsRow (w.heap.size + 1) 2 1 (.slice (some ⟨g5, 0, none⟩) (1 + Q.vKids.length) cap5) (1 + Q.vKids.length) (Value.int .i64 Q.vParent :: Q.vKids.map fun n => Value.int .i64 n)) := hown5
     have n4 := bN5.out.cell 4 rfl
     have hz5 : w.heap.size + 1 ≤ w5.heap.size := by have := bN5.out.lt; omega
     clear hown5 hgrow5 hnn5 k3 hq bq
     obtain ⟨L5, hL5⟩ : ∃ L5, (Value.int .i64 Q.vParent :: Q.vKids.map fun n => Value.int .i64 n) = L5 := ⟨_, rfl⟩
     rw [hL5] at hq5
     have hL5' : Hid _ := hL5
     clear hL5
     by_cases hw : Q.vWrapper = 0
     · have hw' : (Q.vWrapper != 0) = false := by simpa using hw
       have HW : Hid (nzI Q.vWrapper = []) := by show _ = _; simp [nzI, hw]
       clear hw
       go_wp2_with fail
       go_ret
       refine ⟨⟨_, rfl, ?_⟩, hB5⟩
       rw [HE.out, edgeN, HW.out, HP.out]
       have e1 : ([Q.vParent] ++ Q.vKids ++ []).length = 1 + Q.vKids.length := by simp <;> omega
       have e2 : (([Q.vParent] ++ Q.vKids ++ []).map fun n => Value.int .i64 n) = L5 := by rw [← hL5'.out]; simp
       rw [e1, e2]; exact World.ownsRow.mono hq5.out (show w.heap.size ≤ w.heap.size + 1 by omega)
     · have hw' : (Q.vWrapper != 0) = true := by simpa using hw
       have HW : Hid (nzI Q.vWrapper = [Q.vWrapper]) := by show _ = _; simp [nzI, hw]
       clear hw
       go_wp2_with (at_builtin; refine wpList_append_own _ rfl _ _ 29 rfl (w.heap.size + 1) 2 iI (.int .i64 0) 1 8 Tryz.underlying29 hI.out hE.out.1 hE.out.2.2 hE.out.2.1 rfl (by decide) _ (1 + Q.vKids.length) (L5) rfl (hq5.out.alloc _) ⟨w5.heap.size, 0, none⟩ 1 1 [.int .i64 Q.vWrapper] rfl rfl (by intro q u hq; match q, hq with | 0, hq => simp at hq; subst hq; simp [Addr.add]) (by simp [Value.oneCell']) (by unfold maxLen; omega) (by omega) (by simp; omega) ?_)
       intro v6 w6 hown6 hgrow6 _
       obtain ⟨a6, cap6, rfl⟩ := own_forms hown6
       have hB6 : Below w.heap.size w w6 := (hB5.alloc hB5.size _).grown hgrow6 (by have := hB5.size; simp; omega) (fun k e => by have := own_block hq5.out k e; omega)
       have hq6 : Hid (w6.ownsRow w.heap.size 2 1 (.slice a6 (1 + Q.vKids.length + 1) cap6) (1 + Q.vKids.length + 1) (L5 ++ [.int .i64 Q.vWrapper])) := World.ownsRow.mono hown6 (show w.heap.size ≤ w.heap.size + 1 by omega)
       clear hown6 hgrow6
       go_wp2_with fail
       go_ret
       refine ⟨⟨_, rfl, ?_⟩, hB6⟩
       rw [HE.out, edgeN, HW.out, HP.out]
       have e1 : ([Q.vParent] ++ Q.vKids ++ [Q.vWrapper]).length = 1 + Q.vKids.length + 1 := by simp <;> omega
       have e2 : (([Q.vParent] ++ Q.vKids ++ [Q.vWrapper]).map fun n => Value.int .i64 n) = L5 ++ [.int .i64 Q.vWrapper] := by rw [← hL5'.out]; simp
       rw [e1, e2]; exact hq6.out
 clear c2
 have hidx' : decide ((0 : Int) ≤ idxN h id) = false := by rw [hidx]; rfl
 have hatN : Hid (nodeAt h id = none) := hat
 have hB1' : Hid (Below w.heap.size w w1) := hB1
 clear hat
 rw [hidx]
 clear hidx hidx'
 have c0 := bH1.out.cell 0 rfl
 have c1 := bH1.out.cell 1 rfl
 have c2 := bH1.out.cell 2 rfl
 have c4 := bH1.out.cell 4 rfl
 go_wp2_with fail
 refine (l2Obj_any (HeapAt_stays _ _ _ lo _ _ (.of_below hB1) hh'.out)).mono ?_
 rintro e w2 ⟨rfl, hb3⟩
 have hB2 : Below w.heap.size w w2 := hB1.trans (hb3.mono hB1.size)
 have hz2 : w.heap.size + 2 ≤ w2.heap.size := by have := hb3.size; omega
 have bH2 : Hid (Box w2 w.heap.size (cHp h a2 cap2 a3 cap3 a4 cap4) 28) := bH1.out.below hb3 (by omega)
 have hr2 : Hid (w2.ownsRow (w.heap.size + 1) 2 1 (.slice (some ⟨w.heap.size + 1, 0, none⟩) 0 0) 0 []) := own_below hr1.out hb3
 clear c0 c1 c2 c3 c4 bH1 hr1 hb3 hx2'
 have c3 := bH2.out.cell 3 rfl
 rcases idxO_is h id with ⟨hidx, hat⟩ | ⟨i', hi1, hidx, hid1, hat⟩
 · have HE : Hid (edgesS h id = []) := by show _ = _; unfold edgesS; rw [hatN.out, hat]
   rw [hidx]
   clear hidx hat
   go_wp2_with fail
   go_ret
   exact ⟨⟨_, rfl, by rw [HE.out]; exact World.ownsRow.mono hr2.out (by omega)⟩, hB2⟩
 have HE : Hid (edgesS h id = edgeO h.vObjs[i']) := by show _ = _; unfold edgesS; rw [hatN.out, hat]
 obtain ⟨b, off, rfl, hlo, hbw, hc⟩ := hx3'.out (by omega)
 obtain ⟨cs, hcl, lie, hr⟩ := hc i' hi1
 have hkl : Hid (h.vObjs[i'].vFields.length ≤ 1048576) := by obtain ⟨hf, _⟩ := hs'.out.2.1.2 i' hi1; exact hf.1
 generalize hQ : h.vObjs[i'] = Q at hr HE hkl
 obtain ⟨g2, rfl, v2, _⟩ := hr
 obtain ⟨p2, d2, rfl, hm2, hx2⟩ := v2
 have hx2' : Hid _ := hx2
 have lieW : Hid (∀ wr, Below w.heap.size w wr → wr.cell? ⟨b, off + i' * 3 + 1, none⟩ = some (.int .i64 Q.vNode) ∧ wr.cell? ⟨b, off + i' * 3 + 2, none⟩ = some (.slice p2 Q.vFields.length d2)) := fun wr hb => by
  have lie1 := Lie.keep (lo := lo) (lo' := lo) lie (.of_below hb) hlo hbw
  exact ⟨lie_at lie1 1 rfl, lie_at lie1 2 rfl⟩
 have hin : (0 : Int) ≤ (i' : Int) := by omega
 have hin2 : (i' : Int) < (h.vObjs.length : Int) := by omega
 clear lie hcl hc hQ hat hid1 hx2 hm2
 rw [hidx]
 clear hidx
 obtain ⟨z1, z2⟩ := lieW.out w2 hB2
 by_cases hp : Q.vNode = 0
 · have hp' : (Q.vNode != 0) = false := by simpa using hp
   have HP : Hid (nzI Q.vNode = []) := by show _ = _; simp [nzI, hp]
   have hp0 : Q.vNode = 0 := hp
   clear hp
   go_wp2_with fail
   go_loopw [5, 8] (fun v i wr => ∃ (j : Nat), j ≤ Q.vFields.length ∧ i = .int .i64 j ∧ Hid (wr.ownsRow (w.heap.size + 1) 2 1 v j ((([] : List Int) ++ (Q.vFields.take j).map FieldD.vObj).map fun n => .int .i64 n)) ∧ Hid (∃ g cap, v = .slice (some ⟨g, 0, none⟩) j cap) ∧ Hid (Box wr w.heap.size (cHp h a2 cap2 (some ⟨b, off, none⟩) cap3 a4 cap4) 28) ∧ Below w.heap.size w wr) (fun _ i _ => Q.vFields.length - (intOf i).toNat)
   case atStart => exact ⟨0, by omega, rfl, by show World.ownsRow _ _ _ _ _ _ _; simpa using hr2.out, ⟨_, _, rfl⟩, bH2, hB2⟩
   case round =>
    try clear z1 z2
    clear c3 bH2
    obtain ⟨j, hj, rfl, hown, hform, bHr, hbr⟩ := hrel
    obtain ⟨gv, capv, rfl⟩ := hform.out
    clear hform
    obtain ⟨z1, z2⟩ := lieW.out wr hbr
    have c3 := bHr.out.cell 3 rfl
    have hzr : w.heap.size + 1 ≤ wr.heap.size := bHr.out.lt
    have hkl' : Q.vFields.length ≤ 1048576 := hkl.out
    by_cases hlt : j < Q.vFields.length
    · obtain ⟨bf, offf, rfl, hlof, hbwf, hcf⟩ := hx2'.out (by omega)
      obtain ⟨csf, hclf, lief, hrf⟩ := hcf j hlt
      have lief1 := Lie.keep (lo := lo) (lo' := lo) lief (.of_below hbr) hlof hbwf
      have hstep : Hid ((Q.vFields.take (j + 1)).map FieldD.vObj = (Q.vFields.take j).map FieldD.vObj ++ [Q.vFields[j].vObj]) := by show _ = _; rw [List.take_succ_eq_append_getElem hlt, List.map_append]; rfl
      generalize hF : Q.vFields[j] = Fd at hrf hstep
      obtain ⟨rfl, _⟩ := hrf
      have y1 := lie_at lief1 1 rfl
      obtain ⟨L, hL⟩ : ∃ L, ((([] : List Int) ++ (Q.vFields.take j).map FieldD.vObj).map fun n => Value.int .i64 n) = L := ⟨_, rfl⟩
      have hownL : Hid (wr.ownsRow (w.heap.size + 1) 2 1 (.slice (some ⟨gv, 0, none⟩) j capv) j L) := by rw [← hL]; exact hown
      have hL' : Hid _ := hL
      have hlt' : (j : Int) < (Q.vFields.length : Int) := by omega
      clear hF hL lief lief1 hclf hcf
      go_wp2_with (at_builtin; refine wpList_append_own _ rfl _ _ 29 rfl (w.heap.size + 1) 2 iI (.int .i64 0) 1 8 Tryz.underlying29 hI.out hE.out.1 hE.out.2.2 hE.out.2.1 rfl (by decide) _ (j) (L) rfl (hownL.out.alloc _) ⟨wr.heap.size, 0, none⟩ 1 1 [.int .i64 Fd.vObj] rfl rfl (by intro q u hq; match q, hq with | 0, hq => simp at hq; subst hq; simp [Addr.add]) (by simp [Value.oneCell']) (by unfold maxLen; omega) (by omega) (by simp; omega) ?_)
      intro v' w1' hown' hgrow hnl
      have hnn : v' ≠ .slice none 0 0 := fun q => by first | exact hnl q | (have := (hnl.1 q).2; omega)
      obtain ⟨g', cap', rfl⟩ := nonnil_row hown' hnn
      have hb3 : Below w.heap.size w w1' := (hbr.alloc hbr.size _).grown hgrow (by have := hbr.size; simp; omega) (fun k e => by have := own_block hownL.out k e; omega)
      have hb4 : Below (w.heap.size + 1) wr w1' := ((Below.refl _ _).alloc (by omega) _).grown hgrow (by simp; omega) (own_block hownL.out)
      have bH5 : Hid (Box w1' w.heap.size (cHp h a2 cap2 (some ⟨b, off, none⟩) cap3 a4 cap4) 28) := bHr.out.below hb4 (by omega)
      have hown1 : Hid (w1'.ownsRow (w.heap.size + 1) 2 1 (.slice (some ⟨g', 0, none⟩) (j + 1) cap') (j + 1) (L ++ [.int .i64 Fd.vObj])) := hown'
      clear hown' hgrow hnn hnl
      go_wp2_with fail
      go_roundw
      case rel =>
       refine ⟨j + 1, by omega, by go_num, ?_, ?_, bH5, hb3⟩
       · show World.ownsRow _ _ _ _ _ _ _
         rw [hstep.out, ← List.append_assoc, List.map_append, hL'.out]
         exact hown1.out
       · exact ⟨_, _, by first | rfl | simp only [Nat.add_assoc]⟩
      case measure => simp [intOf]; omega
    obtain rfl : j = Q.vFields.length := by omega
    go_wp2_with fail
    go_ret
    refine ⟨⟨_, rfl, ?_⟩, hbr⟩
    have q := hown.out
    rw [List.take_length] at q
    rw [HE.out, edgeO, HP.out]
    have e1 : (([] : List Int) ++ Q.vFields.map FieldD.vObj).length = Q.vFields.length := by simp <;> omega
    rw [e1]; exact World.ownsRow.mono q (show w.heap.size ≤ w.heap.size + 1 by omega)
 · have hp' : (Q.vNode != 0) = true := by simpa using hp
   have HP : Hid (nzI Q.vNode = [Q.vNode]) := by show _ = _; simp [nzI, hp]
   clear hp
   go_wp2_with (at_builtin; refine wpList_append_own _ rfl _ _ 29 rfl (w.heap.size + 1) 2 iI (.int .i64 0) 1 8 Tryz.underlying29 hI.out hE.out.1 hE.out.2.2 hE.out.2.1 rfl (by decide) _ (0) (([] : List Value)) rfl (hr2.out.alloc _) ⟨w2.heap.size, 0, none⟩ 1 1 [.int .i64 Q.vNode] rfl rfl (by intro q u hq; match q, hq with | 0, hq => simp at hq; subst hq; simp [Addr.add]) (by simp [Value.oneCell']) (by unfold maxLen; omega) (by omega) (by simp; omega) ?_)
   intro v4 w4 hown4 hgrow4 hnil4
   have hnn4 : v4 ≠ .slice none 0 0 := fun q => hnil4 q
   obtain ⟨g4, cap4', rfl⟩ := nonnil_row hown4 hnn4
   have hq : Hid (w4.ownsRow (w.heap.size + 1) 2 1 (.slice (some ⟨g4, 0, none⟩) (0 + 1) cap4') (0 + 1) [.int .i64 Q.vNode]) := by show World.ownsRow _ _ _ _ _ _ _; simpa using hown4
   have hBq : Below w.heap.size w w4 := (hB2.alloc hB2.size _).grown hgrow4 (by have := hB2.size; simp; omega) (fun k e => by have := own_block hr2.out k e; omega)
   have hbq2 : Below (w.heap.size + 1) w2 w4 := ((Below.refl _ _).alloc (by omega) _).grown hgrow4 (by simp; omega) (own_block hr2.out)
   have bH4 : Hid (Box w4 w.heap.size (cHp h a2 cap2 (some ⟨b, off, none⟩) cap3 a4 cap4) 28) := bH2.out.below hbq2 (by omega)
   clear hown4 hgrow4 hnil4 hnn4 z1 z2 c3 bH2
   have bH2 : Hid (Box w4 w.heap.size (cHp h a2 cap2 (some ⟨b, off, none⟩) cap3 a4 cap4) 28) := bH4.out
   clear bH4
   simp only [Nat.zero_add] at hq ⊢
   have c3 := bH2.out.cell 3 rfl
   go_wp2_with fail
   go_loopw [5, 8] (fun v i wr => ∃ (j : Nat), j ≤ Q.vFields.length ∧ i = .int .i64 j ∧ Hid (wr.ownsRow (w.heap.size + 1) 2 1 v (1 + j) (([Q.vNode] ++ (Q.vFields.take j).map FieldD.vObj).map fun n => .int .i64 n)) ∧ Hid (∃ g cap, v = .slice (some ⟨g, 0, none⟩) (1 + j) cap) ∧ Hid (Box wr w.heap.size (cHp h a2 cap2 (some ⟨b, off, none⟩) cap3 a4 cap4) 28) ∧ Below w.heap.size w wr) (fun _ i _ => Q.vFields.length - (intOf i).toNat)
   case atStart => exact ⟨0, by omega, rfl, by show World.ownsRow _ _ _ _ _ _ _; simpa using hq.out, ⟨_, _, rfl⟩, bH2, hBq⟩
   case round =>
    try clear z1 z2
    clear c3 bH2
    obtain ⟨j, hj, rfl, hown, hform, bHr, hbr⟩ := hrel
    obtain ⟨gv, capv, rfl⟩ := hform.out
    clear hform
    obtain ⟨z1, z2⟩ := lieW.out wr hbr
    have c3 := bHr.out.cell 3 rfl
    have hzr : w.heap.size + 1 ≤ wr.heap.size := bHr.out.lt
    have hkl' : Q.vFields.length ≤ 1048576 := hkl.out
    by_cases hlt : j < Q.vFields.length
    · obtain ⟨bf, offf, rfl, hlof, hbwf, hcf⟩ := hx2'.out (by omega)
      obtain ⟨csf, hclf, lief, hrf⟩ := hcf j hlt
      have lief1 := Lie.keep (lo := lo) (lo' := lo) lief (.of_below hbr) hlof hbwf
      have hstep : Hid ((Q.vFields.take (j + 1)).map FieldD.vObj = (Q.vFields.take j).map FieldD.vObj ++ [Q.vFields[j].vObj]) := by show _ = _; rw [List.take_succ_eq_append_getElem hlt, List.map_append]; rfl
      generalize hF : Q.vFields[j] = Fd at hrf hstep
      obtain ⟨rfl, _⟩ := hrf
      have y1 := lie_at lief1 1 rfl
      obtain ⟨L, hL⟩ : ∃ L, (([Q.vNode] ++ (Q.vFields.take j).map FieldD.vObj).map fun n => Value.int .i64 n) = L := ⟨_, rfl⟩
      have hownL : Hid (wr.ownsRow (w.heap.size + 1) 2 1 (.slice (some ⟨gv, 0, none⟩) (1 + j) capv) (1 + j) L) := by rw [← hL]; exact hown
      have hL' : Hid _ := hL
      have hlt' : (j : Int) < (Q.vFields.length : Int) := by omega
      clear hF hL lief lief1 hclf hcf
      go_wp2_with (at_builtin; refine wpList_append_own _ rfl _ _ 29 rfl (w.heap.size + 1) 2 iI (.int .i64 0) 1 8 Tryz.underlying29 hI.out hE.out.1 hE.out.2.2 hE.out.2.1 rfl (by decide) _ ((1 + j)) (L) rfl (hownL.out.alloc _) ⟨wr.heap.size, 0, none⟩ 1 1 [.int .i64 Fd.vObj] rfl rfl (by intro q u hq; match q, hq with | 0, hq => simp at hq; subst hq; simp [Addr.add]) (by simp [Value.oneCell']) (by unfold maxLen; omega) (by omega) (by simp; omega) ?_)
      intro v' w1' hown' hgrow hnl
      have hnn : v' ≠ .slice none 0 0 := fun q => by first | exact hnl q | (have := (hnl.1 q).2; omega)
      obtain ⟨g', cap', rfl⟩ := nonnil_row hown' hnn
      have hb3 : Below w.heap.size w w1' := (hbr.alloc hbr.size _).grown hgrow (by have := hbr.size; simp; omega) (fun k e => by have := own_block hownL.out k e; omega)
      have hb4 : Below (w.heap.size + 1) wr w1' := ((Below.refl _ _).alloc (by omega) _).grown hgrow (by simp; omega) (own_block hownL.out)
      have bH5 : Hid (Box w1' w.heap.size (cHp h a2 cap2 (some ⟨b, off, none⟩) cap3 a4 cap4) 28) := bHr.out.below hb4 (by omega)
      have hown1 : Hid (w1'.ownsRow (w.heap.size + 1) 2 1 (.slice (some ⟨g', 0, none⟩) ((1 + j) + 1) cap') ((1 + j) + 1) (L ++ [.int .i64 Fd.vObj])) := hown'
      clear hown' hgrow hnn hnl
      go_wp2_with fail
      go_roundw
      case rel =>
       refine ⟨j + 1, by omega, by go_num, ?_, ?_, bH5, hb3⟩
       · show World.ownsRow _ _ _ _ _ _ _
         rw [hstep.out, ← List.append_assoc, List.map_append, hL'.out]
         exact hown1.out
       · exact ⟨_, _, by first | rfl | simp only [Nat.add_assoc]⟩
      case measure => simp [intOf]; omega
    obtain rfl : j = Q.vFields.length := by omega
    go_wp2_with fail
    go_ret
    refine ⟨⟨_, rfl, ?_⟩, hbr⟩
    have q := hown.out
    rw [List.take_length] at q
    rw [HE.out, edgeO, HP.out]
    have e1 : ([Q.vNode] ++ Q.vFields.map FieldD.vObj).length = (1 + Q.vFields.length) := by simp <;> omega
    rw [e1]; exact World.ownsRow.mono q (show w.heap.size ≤ w.heap.size + 1 by omega)
end Go.Proofs.YtdnembnlomnceaaGreat
namespace Go.Proofs.YtdnembnlomnceaaGreat
open Go.RowKit
set_option maxHeartbeats 1600000 in
theorem implEdgesOf_any {w : World} {lo : Nat} {cs : List Value} {h : HeapD} {b : Int} (hh : HeapAt w lo cs h) (hs : h.small) :
 Calls Tryz.prog 11 #[.agg cs.toArray, .int .i64 b] w fun e w' => (∃ v fs, e = .returned v ∧ SeqOwn 1 IntOwn w' v (edgesD h b) fs ∧ ∀ b ∈ fs, w.heap.size ≤ b) ∧ Below w.heap.size w w' := by
 have hh' : Hid (HeapAt w lo cs h) := hh
 have hs' : Hid h.small := hs
 obtain ⟨k2, k3, k4, rfl, s2, s3, s4, _⟩ := hh
 obtain ⟨a2, cap2, rfl⟩ := s2.form
 obtain ⟨a3, cap3, rfl⟩ := s3.form
 obtain ⟨a4, cap4, rfl⟩ := s4.form
 clear s2 s3 s4 hs
 have hb1 : Below w.heap.size w (w.alloc (.cells (List.toArray (cHp h a2 cap2 a3 cap3 a4 cap4)) 28)) := (Below.refl _ _).alloc (Nat.le_refl _) _
 have bH0 : Hid (Box (w.alloc (.cells (List.toArray (cHp h a2 cap2 a3 cap3 a4 cap4)) 28)) w.heap.size (cHp h a2 cap2 a3 cap3 a4 cap4) 28) := Box.new w (cHp h a2 cap2 a3 cap3 a4 cap4) 28
 have hI : Hid (∀ x ∈ edgesS h b, InI x) := edges_in hh'.out
 have hEl : Hid _ := edges_len hs'.out b
 go_enter Tryz.func11, Tryz.ntmps11
 go_wp2_with fail
 refine (rightGraph_any hh'.out hb1 hs'.out).mono ?_
 rintro e w1 ⟨hres, hb2⟩
 have hB2 : Below w.heap.size w w1 := hb1.trans (hb2.mono hb1.size)
 have hz1 : w.heap.size + 1 ≤ w1.heap.size := by have := hb2.size; simpa using this
 rcases hres with ⟨hp, rfl⟩ | ⟨hp, o, Ts, bm, g, cap, rfl, hg⟩
 · have HF : Hid (edgesD h b = []) := by show _ = _; simp [edgesD, hp]
   clear hp
   go_wp2_with fail
   go_ret
   exact ⟨⟨_, [], rfl, by rw [HF.out]; exact seqOwn_none _, by simp⟩, hB2.alloc hB2.size _⟩
 obtain ⟨ho0, ⟨hids, hpl⟩, hap, hG, hM, hrow, hbm⟩ := hg
 have HF : Hid (edgesD h b = edgesS h b) := by show _ = _; simp [edgesD, hp]
 have hp' : Hid (specB h = true) := hp
 have hT : Hid (∀ k, (getI ThD.id Ts k).isSome = isT h k) := things_there hids
 have hb3 : Below w1.heap.size w1 (w1.alloc (.cells #[.slice (some ⟨g, 0, none⟩) (idsD h).length cap, .map (some bm), .pointer (some ⟨o.blk, 0, none⟩)] 60)) := (Below.refl _ _).alloc (Nat.le_refl _) _
 have hB3 : Below w.heap.size w (w1.alloc (.cells #[.slice (some ⟨g, 0, none⟩) (idsD h).length cap, .map (some bm), .pointer (some ⟨o.blk, 0, none⟩)] 60)) := hB2.alloc hB2.size _
 have bG := Box.new w1 (Array.toList #[.slice (some ⟨g, 0, none⟩) (idsD h).length cap, .map (some bm), .pointer (some ⟨o.blk, 0, none⟩)]) 60
 have c1 : (w1.alloc (.cells #[.slice (some ⟨g, 0, none⟩) (idsD h).length cap, .map (some bm), .pointer (some ⟨o.blk, 0, none⟩)] 60)).cell? ⟨w1.heap.size, 1, none⟩ = some (.map (some bm)) := bG.cell 1 rfl
 have hG' : Hid _ := hG.below hb3
 have hap' : Hid (Apart (o :: Ts)) := hap
 clear bG hp hap hpl hrow ho0 hids
 rcases run_lookP (hM.keep (hb3.block bm hM.lt)) Tryz.underlying57 zeroPtr b with ⟨hq, hlook⟩ | ⟨t, hq, hlook⟩
 · have HF2 : Hid (edgesD h b = []) := by
    show _ = _
    have q := (hT.out b).symm
    rw [hq] at q
    simp only [isT, Option.isSome_none, Bool.or_eq_false_iff] at q
    have q1 : nodeAt h b = none := by simpa using q.1
    have q2 : objAt h b = none := by simpa using q.2
    rw [HF.out, edgesS, q1, q2]
   clear hq hM hG
   go_wp2_with fail
   go_ret
   exact ⟨⟨_, [], rfl, by rw [HF2.out]; exact seqOwn_none _, by simp⟩, hB3⟩
 obtain ⟨htm, htid⟩ := get_mem Ts t hq
 have hb0 : b ≠ 0 := fun q => by
  have q1 := hT.out b
  rw [hq, q, isT_zero (spec_impl h ▸ hp'.out)] at q1
  cases q1
 have hE : Hid (holdsC (accG h) t.id = edgesS h b) := by show _ = _; rw [htid]; exact holds_edges (spec_impl h ▸ hp'.out) hb0
 obtain ⟨S, hS⟩ := hG'.out
 obtain ⟨hp1, hp2, _⟩ := hS.1 t (List.mem_cons_of_mem _ htm)
 have c2 := hp1.cell 2 rfl
 obtain ⟨aS, capS, hform⟩ := own_forms hp2
 have hks : ∀ k ∈ holdsC (accG h) t.id, (getI ThD.id Ts k).isSome = true := fun k hk => (hT.out k).trans (holdsC_there hp'.out hk)
 obtain ⟨m1, m2⟩ := things_map hks
 have hrow2 : Hid ((w1.alloc (.cells #[.slice (some ⟨g, 0, none⟩) (idsD h).length cap, .map (some bm), .pointer (some ⟨o.blk, 0, none⟩)] 60)).ownsRow (w.alloc (.cells (List.toArray (cHp h a2 cap2 a3 cap3 a4 cap4)) 28)).heap.size 58 1 (S t.id) ((holdsC (accG h) t.id).map (thOf Ts)).length (((holdsC (accG h) t.id).map (thOf Ts)).map fun t => .pointer (some ⟨t.blk, 0, none⟩))) := by rw [← m1, List.length_map]; exact hp2
 have hbox : Hid (∀ u ∈ (holdsC (accG h) t.id).map (thOf Ts), (w1.alloc (.cells #[.slice (some ⟨g, 0, none⟩) (idsD h).length cap, .map (some bm), .pointer (some ⟨o.blk, 0, none⟩)] 60)).cell? ⟨u.blk, 0, none⟩ = some (.int .i64 u.id)) := fun u hu => by
  obtain ⟨k, hk, rfl⟩ := List.mem_map.1 hu
  exact (hS.1 _ (List.mem_cons_of_mem _ (thOf_is (hks k hk)).1)).1.cell 0 rfl
 have hm2 : Hid (((holdsC (accG h) t.id).map (thOf Ts)).map (fun t => Value.int .i64 t.id) = (edgesS h b).map fun n => Value.int .i64 n) := by show _ = _; rw [m2, hE.out]
 have hlen : Hid (((holdsC (accG h) t.id).map (thOf Ts)).length = (edgesS h b).length) := by show _ = _; rw [List.length_map, hE.out]
 rw [hform] at c2
 have hform' : Hid (S t.id = .slice aS (holdsC (accG h) t.id).length capS) := hform
 clear hq hM hG hp1 hp2 hform hks m1 m2 htm htid hS hb0
 go_wp2_with fail
 rw [← hform'.out]
 refine (thingIds_any hrow2.out hbox.out (by rw [hlen.out, ← HF.out]; have := hEl.out; omega)).mono ?_
 rintro e w3 ⟨⟨v, rfl, hown⟩, hb4⟩
 have hB4 : Below w.heap.size w w3 := hB3.trans (hb4.mono hB3.size)
 rw [hm2.out, hlen.out] at hown
 obtain ⟨fs, ho, hl⟩ := seqOwn_of_row hown hI.out
 have hs3 := hB3.size
 have ho' : Hid (SeqOwn 1 IntOwn w3 v (edgesD h b) fs) := by rw [HF.out]; exact ho
 have hl' : Hid (∀ b ∈ fs, w.heap.size ≤ b) := fun b q => by have := hl b q; omega
 obtain ⟨av, capv, rfl⟩ := own_forms hown
 clear hown ho hl
 go_wp2_with fail
 go_ret
 exact ⟨⟨_, fs, rfl, ho'.out, hl'.out⟩, hB4⟩
end Go.Proofs.YtdnembnlomnceaaGreat
