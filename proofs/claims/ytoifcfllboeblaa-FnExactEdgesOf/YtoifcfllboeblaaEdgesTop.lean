/- EdgesOf, of the specification and of the program: walked. -/
import Derived.Test.YtoifcfllboeblaaEdges
import Derived.Test.YtoifcfllboeblaaOwnRows
namespace Go.Proofs.Ytoifcfllboeblaa
open Go.RowKit
theorem pair_inj {α : Type} {f : α → Int} {xs : List α} (h : (xs.map f).Nodup) : ∀ i j, (hi : i < xs.length) → (hj : j < xs.length) → f xs[i] = f xs[j] → i = j := by
  intro i j hi hj e
  exact nodup_inj h i j (by simpa using hi) (by simpa using hj) (by simpa using e)
theorem nodes_inj {h : HeapD} (e : idxB h = true) : ∀ i j, (hi : i < h.vNodes.length) → (hj : j < h.vNodes.length) → h.vNodes[i].vId = h.vNodes[j].vId → i = j := pair_inj ((rs_pair _ _ (idx_rs e).1).imp (fun q => by omega))
theorem objs_inj {h : HeapD} (e : idxB h = true) : ∀ i j, (hi : i < h.vObjs.length) → (hj : j < h.vObjs.length) → h.vObjs[i].vId = h.vObjs[j].vId → i = j := pair_inj ((rs_pair _ _ (idx_rs e).2.1).imp (fun q => by omega))
theorem holds_edges {h : HeapD} (e : implB h = true) {id : Int} (h0 : id ≠ 0) : holdsC (accG h) id = edgesS h id := by
  have hi := impl_idx e
  unfold accG
  rw [holdsC_append, holdsC_append, holdsC_other _ (fun q => h0 q.symm), List.append_nil]
  have e1 : holdsC (accN h.vNodes) id = (nodeAt h id).elim [] edgeN := holdsC_flat NodeD.vId edgeN id h.vNodes (nodes_inj hi)
  have e2 : holdsC (accO h.vObjs) id = (objAt h id).elim [] edgeO := holdsC_flat ObjD.vId edgeO id h.vObjs (objs_inj hi)
  rw [e1, e2]
  unfold edgesS
  cases hn : nodeAt h id with
  | none => cases ho : objAt h id with
    | none => rfl
    | some y => rfl
  | some x =>
    cases ho : objAt h id with
    | none => simp
    | some y =>
      obtain ⟨_, q2, q3⟩ := ids_pos hi ho
      have := (idx_rs hi).2.2 y q3
      rw [q2, hn] at this
      cases this
theorem linkA_there {h : HeapD} {p : Int} {ks : List Int} : ∀ a ∈ linkA h p ks, isT h a.2 = true := fun a ha => by
  unfold linkA at ha
  obtain ⟨k, hk, rfl⟩ := List.mem_map.1 ha
  exact (List.mem_filter.1 hk).2
theorem accG_there {h : HeapD} (e : specB h = true) : ∀ a ∈ accG h, isT h a.2 = true := fun a ha => by
  unfold accG accN accO at ha
  rw [List.mem_append, List.mem_append, List.mem_flatMap, List.mem_flatMap] at ha
  rcases ha with (⟨x, hx, ha⟩ | ⟨x, hx, ha⟩) | ha
  · rw [← linkA_node e hx, List.mem_append, List.mem_append] at ha
    rcases ha with (ha | ha) | ha <;> exact linkA_there a ha
  · rw [← linkA_obj e hx, List.mem_append] at ha
    rcases ha with ha | ha <;> exact linkA_there a ha
  · rw [← linkA_root e, List.mem_append] at ha
    rcases ha with ha | ha <;> exact linkA_there a ha
theorem holdsC_there {h : HeapD} (e : specB h = true) {id k : Int} (hk : k ∈ holdsC (accG h) id) : isT h k = true := by
  unfold holdsC at hk
  obtain ⟨a, ha, rfl⟩ := List.mem_map.1 hk
  exact accG_there e a (List.mem_filter.1 ha).1
def thOf (Ts : List ThD) (k : Int) : ThD := (getI ThD.id Ts k).getD ⟨0, 0, 0⟩
theorem thOf_is {Ts : List ThD} {k : Int} (h : (getI ThD.id Ts k).isSome = true) : thOf Ts k ∈ Ts ∧ (thOf Ts k).id = k ∧ ptrOf Ts k = .pointer (some ⟨(thOf Ts k).blk, 0, none⟩) := by
  obtain ⟨t, ht⟩ := Option.isSome_iff_exists.1 h
  obtain ⟨h1, h2⟩ := get_mem Ts t ht
  simp only [thOf, ptrOf, ht, Option.getD_some]
  exact ⟨h1, h2, trivial⟩
theorem things_map {Ts : List ThD} {ks : List Int} (h : ∀ k ∈ ks, (getI ThD.id Ts k).isSome = true) : ks.map (ptrOf Ts) = (ks.map (thOf Ts)).map (fun t => Value.pointer (some ⟨t.blk, 0, none⟩)) ∧ (ks.map (thOf Ts)).map (fun t => Value.int .i64 t.id) = ks.map fun n => Value.int .i64 n := by
  constructor
  · rw [List.map_map]
    exact List.map_congr_left fun k hk => (thOf_is (h k hk)).2.2
  · rw [List.map_map]
    exact List.map_congr_left fun k hk => by show Value.int .i64 (thOf Ts k).id = _; rw [(thOf_is (h k hk)).2.1]
theorem seq_in {w : World} {lo : Nat} {k : Value} {xs : List Int} (h : SeqAt 1 IntAt w lo k xs) : ∀ x ∈ xs, InI x := fun x hx => by
  obtain ⟨i, hi, rfl⟩ := List.getElem_of_mem hx
  obtain ⟨a, cap, _, _, hc⟩ := h
  obtain ⟨b, off, _, _, _, hcc⟩ := hc (by omega)
  obtain ⟨cs, _, _, r⟩ := hcc i hi
  exact r.2
theorem seq_recs {α : Type} {c : Nat} {R : World → Nat → List Value → α → Prop} {w : World} {lo : Nat} {k : Value} {xs : List α} (h : SeqAt c R w lo k xs) {x : α} (hx : x ∈ xs) : ∃ cs, R w lo cs x := by
  obtain ⟨i, hi, rfl⟩ := List.getElem_of_mem hx
  obtain ⟨a, cap, _, _, hc⟩ := h
  obtain ⟨b, off, _, _, _, hcc⟩ := hc (by omega)
  obtain ⟨cs, _, _, r⟩ := hcc i hi
  exact ⟨cs, r⟩
theorem flds_in {w : World} {lo : Nat} {k : Value} {xs : List FieldD} (h : SeqAt 2 FieldAt w lo k xs) : ∀ x ∈ xs.map FieldD.vObj, InI x := fun x hx => by
  obtain ⟨y, hy, rfl⟩ := List.mem_map.1 hx
  obtain ⟨cs, r⟩ := seq_recs h hy
  exact r.2.2.1
theorem nzI_in {n : Int} (h : InI n) : ∀ x ∈ nzI n, InI x := fun x hx => by
  unfold nzI at hx
  split at hx
  · cases hx
  · simp at hx; subst hx; exact h
theorem edges_in {w : World} {lo : Nat} {cs : List Value} {h : HeapD} {id : Int} (hh : HeapAt w lo cs h) : ∀ x ∈ edgesS h id, InI x := by
  obtain ⟨k2, k3, k4, _, s2, s3, s4, _⟩ := hh
  intro x hx
  unfold edgesS at hx
  cases hn : nodeAt h id with
  | some y =>
    rw [hn] at hx
    obtain ⟨cy, g3, g5, _, v3, _, _, _, rP, rW, _⟩ := seq_recs s2 (get_mem _ _ hn).1
    simp only [edgeN, List.mem_append] at hx
    rcases hx with (hx | hx) | hx
    · exact nzI_in rP x hx
    · exact seq_in v3 x hx
    · exact nzI_in rW x hx
  | none =>
    rw [hn] at hx
    cases ho : objAt h id with
    | none => rw [ho] at hx; cases hx
    | some y =>
      rw [ho] at hx
      obtain ⟨cy, g2, _, v2, _, rN, _⟩ := seq_recs s3 (get_mem _ _ ho).1
      simp only [edgeO, List.mem_append] at hx
      rcases hx with hx | hx
      · exact nzI_in rN x hx
      · exact flds_in v2 x hx
theorem edges_len {h : HeapD} (hs : h.small) (id : Int) : (edgesD h id).length ≤ 1048578 := by
  unfold edgesD
  split
  · unfold edgesS
    cases hn : nodeAt h id with
    | some y =>
      obtain ⟨i, hi, rfl⟩ := List.getElem_of_mem (get_mem _ _ hn).1
      obtain ⟨_, hk, _⟩ := hs.1.2 i hi
      have hk' : h.vNodes[i].vKids.length ≤ 1048576 := hk
      have n1 := nzI_len h.vNodes[i].vParent
      have n2 := nzI_len h.vNodes[i].vWrapper
      simp only [edgeN, List.length_append]
      omega
    | none =>
      cases ho : objAt h id with
      | none => simp
      | some y =>
        obtain ⟨i, hi, rfl⟩ := List.getElem_of_mem (get_mem _ _ ho).1
        obtain ⟨hf, _⟩ := hs.2.1.2 i hi
        have hf' := hf.1
        have n1 := nzI_len h.vObjs[i].vNode
        simp only [edgeO, List.length_append, List.length_map]
        omega
  · simp
set_option maxHeartbeats 1600000 in
theorem specEdgesOf_any {w : World} {lo : Nat} {cs : List Value} {h : HeapD} {b : Int} (hh : HeapAt w lo cs h) (hs : h.small) :
    Calls Try.prog 5 #[.agg cs.toArray, .int .i64 b] w fun e w' => (∃ v fs, e = .returned v ∧ SeqOwn 1 IntOwn w' v (edgesD h b) fs ∧ ∀ b ∈ fs, w.heap.size ≤ b) ∧ Below w.heap.size w w' := by
  have hh' : Hid (HeapAt w lo cs h) := hh
  have hs' : Hid h.small := hs
  obtain ⟨k2, k3, k4, rfl, s2, s3, s4, _⟩ := hh
  obtain ⟨a2, cap2, rfl⟩ := s2.form
  obtain ⟨a3, cap3, rfl⟩ := s3.form
  obtain ⟨a4, cap4, rfl⟩ := s4.form
  clear s2 s3 s4 hs
  have hb1 : Below w.heap.size w (w.alloc (.cells (List.toArray [.int .i64 h.vNext, .int .i64 h.vDoc, .slice a2 h.vNodes.length cap2, .slice a3 h.vObjs.length cap3, .slice a4 h.vGlobals.length cap4]) 34)) := (Below.refl _ _).alloc (Nat.le_refl _) _
  have bH0 : Hid (Box (w.alloc (.cells (List.toArray [.int .i64 h.vNext, .int .i64 h.vDoc, .slice a2 h.vNodes.length cap2, .slice a3 h.vObjs.length cap3, .slice a4 h.vGlobals.length cap4]) 34)) w.heap.size [.int .i64 h.vNext, .int .i64 h.vDoc, .slice a2 h.vNodes.length cap2, .slice a3 h.vObjs.length cap3, .slice a4 h.vGlobals.length cap4] 34) := Box.new w [.int .i64 h.vNext, .int .i64 h.vDoc, .slice a2 h.vNodes.length cap2, .slice a3 h.vObjs.length cap3, .slice a4 h.vGlobals.length cap4] 34
  have hI : Hid (∀ x ∈ edgesS h b, InI x) := edges_in hh'.out
  go_enter Try.func5, Try.ntmps5
  go_wp2_with fail
  refine (specHeapOk_any (HeapAt_stays _ _ _ lo _ _ (.of_below hb1) hh'.out)).mono ?_
  rintro e w1 ⟨rfl, hb2⟩
  have hB2 : Below w.heap.size w w1 := hb1.trans (hb2.mono hb1.size)
  have bH2 := bH0.out.below hb2 bH0.out.lt
  have c0 := bH2.cell 0 rfl
  have c1 := bH2.cell 1 rfl
  have c2 := bH2.cell 2 rfl
  have c3 := bH2.cell 3 rfl
  have c4 := bH2.cell 4 rfl
  clear bH2
  cases hp : specB h
  · have HF : Hid (edgesD h b = []) := by show _ = _; simp [edgesD, hp]
    clear hp
    go_wp2_with fail
    go_ret
    exact ⟨⟨_, _, rfl, by rw [HF.out]; exact seqOwn_empty _ _, fun b q => by simp at q; have := hB2.size; omega⟩, hB2.alloc hB2.size _⟩
  have HF : Hid (edgesD h b = edgesS h b) := by show _ = _; simp [edgesD, hp]
  clear hp
  go_wp2_with fail
  refine (l5Edges_any (HeapAt_stays _ _ _ lo _ _ (.of_below hB2) hh'.out) hs'.out).mono ?_
  rintro e w3 ⟨⟨v, rfl, hown⟩, hb4⟩
  have hB4 : Below w.heap.size w w3 := hB2.trans (hb4.mono hB2.size)
  obtain ⟨fs, ho, hl⟩ := seqOwn_of_row hown hI.out
  have hs3 := hB2.size
  have ho' : Hid (SeqOwn 1 IntOwn w3 v (edgesD h b) fs) := by rw [HF.out]; exact ho
  have hl' : Hid (∀ b ∈ fs, w.heap.size ≤ b) := fun b q => by have := hl b q; omega
  obtain ⟨av, capv, rfl⟩ := own_forms hown
  clear hown ho hl
  go_wp2_with fail
  go_ret
  exact ⟨⟨_, fs, rfl, ho'.out, hl'.out⟩, hB4⟩
set_option maxHeartbeats 1600000 in
theorem implEdgesOf_any {w : World} {lo : Nat} {cs : List Value} {h : HeapD} {b : Int} (hh : HeapAt w lo cs h) (hs : h.small) :
    Calls Try.prog 7 #[.agg cs.toArray, .int .i64 b] w fun e w' => (∃ v fs, e = .returned v ∧ SeqOwn 1 IntOwn w' v (edgesD h b) fs ∧ ∀ b ∈ fs, w.heap.size ≤ b) ∧ Below w.heap.size w w' := by
  have hh' : Hid (HeapAt w lo cs h) := hh
  have hs' : Hid h.small := hs
  obtain ⟨k2, k3, k4, rfl, s2, s3, s4, _⟩ := hh
  obtain ⟨a2, cap2, rfl⟩ := s2.form
  obtain ⟨a3, cap3, rfl⟩ := s3.form
  obtain ⟨a4, cap4, rfl⟩ := s4.form
  clear s2 s3 s4 hs
  have hb1 : Below w.heap.size w (w.alloc (.cells (List.toArray [.int .i64 h.vNext, .int .i64 h.vDoc, .slice a2 h.vNodes.length cap2, .slice a3 h.vObjs.length cap3, .slice a4 h.vGlobals.length cap4]) 34)) := (Below.refl _ _).alloc (Nat.le_refl _) _
  have bH0 : Hid (Box (w.alloc (.cells (List.toArray [.int .i64 h.vNext, .int .i64 h.vDoc, .slice a2 h.vNodes.length cap2, .slice a3 h.vObjs.length cap3, .slice a4 h.vGlobals.length cap4]) 34)) w.heap.size [.int .i64 h.vNext, .int .i64 h.vDoc, .slice a2 h.vNodes.length cap2, .slice a3 h.vObjs.length cap3, .slice a4 h.vGlobals.length cap4] 34) := Box.new w [.int .i64 h.vNext, .int .i64 h.vDoc, .slice a2 h.vNodes.length cap2, .slice a3 h.vObjs.length cap3, .slice a4 h.vGlobals.length cap4] 34
  have hI : Hid (∀ x ∈ edgesS h b, InI x) := edges_in hh'.out
  have hEl : Hid _ := edges_len hs'.out b
  go_enter Try.func7, Try.ntmps7
  go_wp2_with fail
  refine (rightGraph_any hh'.out hb1 hs'.out).mono ?_
  rintro e w1 ⟨hres, hb2⟩
  have hB2 : Below w.heap.size w w1 := hb1.trans (hb2.mono hb1.size)
  have hz1 : w.heap.size + 1 ≤ w1.heap.size := by have := hb2.size; simpa using this
  rcases hres with ⟨hp, rfl⟩ | ⟨hp, o, Ts, bm, g, cap, rfl, hg⟩
  · have HF : Hid (edgesD h b = []) := by show _ = _; simp [edgesD, hp]
    clear hp
    go_wp2_with fail
    go_ret
    exact ⟨⟨_, [], rfl, by rw [HF.out]; exact seqOwn_none _, by simp⟩, hB2.alloc hB2.size _⟩
  obtain ⟨ho0, ⟨hids, hpl⟩, hap, hG, hM, hrow, hbm⟩ := hg
  have HF : Hid (edgesD h b = edgesS h b) := by show _ = _; simp [edgesD, hp]
  have hp' : Hid (specB h = true) := hp
  have hT : Hid (∀ k, (getI ThD.id Ts k).isSome = isT h k) := things_there hids
  have hb3 : Below w1.heap.size w1 (w1.alloc (.cells #[.slice (some ⟨g, 0, none⟩) (idsD h).length cap, .map (some bm), .pointer (some ⟨o.blk, 0, none⟩)] 52)) := (Below.refl _ _).alloc (Nat.le_refl _) _
  have hB3 : Below w.heap.size w (w1.alloc (.cells #[.slice (some ⟨g, 0, none⟩) (idsD h).length cap, .map (some bm), .pointer (some ⟨o.blk, 0, none⟩)] 52)) := hB2.alloc hB2.size _
  have bG := Box.new w1 (Array.toList #[.slice (some ⟨g, 0, none⟩) (idsD h).length cap, .map (some bm), .pointer (some ⟨o.blk, 0, none⟩)]) 52
  have c1 : (w1.alloc (.cells #[.slice (some ⟨g, 0, none⟩) (idsD h).length cap, .map (some bm), .pointer (some ⟨o.blk, 0, none⟩)] 52)).cell? ⟨w1.heap.size, 1, none⟩ = some (.map (some bm)) := bG.cell 1 rfl
  have hG' : Hid _ := hG.below hb3
  have hap' : Hid (Apart (o :: Ts)) := hap
  clear bG hp hap hpl hrow ho0 hids
  rcases run_lookP (hM.keep (hb3.block bm hM.lt)) Try.underlying49 zeroPtr b with ⟨hq, hlook⟩ | ⟨t, hq, hlook⟩
  · have HF2 : Hid (edgesD h b = []) := by
      show _ = _
      have q := (hT.out b).symm
      rw [hq] at q
      simp only [isT, Option.isSome_none, Bool.or_eq_false_iff] at q
      have q1 : nodeAt h b = none := by simpa using q.1
      have q2 : objAt h b = none := by simpa using q.2
      rw [HF.out, edgesS, q1, q2]
    clear hq hM hG
    go_wp2_with fail
    go_ret
    exact ⟨⟨_, [], rfl, by rw [HF2.out]; exact seqOwn_none _, by simp⟩, hB3⟩
  obtain ⟨htm, htid⟩ := get_mem Ts t hq
  have hb0 : b ≠ 0 := fun q => by
    have q1 := hT.out b
    rw [hq, q, isT_zero (spec_impl h ▸ hp'.out)] at q1
    cases q1
  have hE : Hid (holdsC (accG h) t.id = edgesS h b) := by show _ = _; rw [htid]; exact holds_edges (spec_impl h ▸ hp'.out) hb0
  obtain ⟨S, hS⟩ := hG'.out
  obtain ⟨hp1, hp2, _⟩ := hS.1 t (List.mem_cons_of_mem _ htm)
  have c2 := hp1.cell 2 rfl
  obtain ⟨aS, capS, hform⟩ := own_forms hp2
  have hks : ∀ k ∈ holdsC (accG h) t.id, (getI ThD.id Ts k).isSome = true := fun k hk => (hT.out k).trans (holdsC_there hp'.out hk)
  obtain ⟨m1, m2⟩ := things_map hks
  have hrow2 : Hid ((w1.alloc (.cells #[.slice (some ⟨g, 0, none⟩) (idsD h).length cap, .map (some bm), .pointer (some ⟨o.blk, 0, none⟩)] 52)).ownsRow (w.alloc (.cells (List.toArray [.int .i64 h.vNext, .int .i64 h.vDoc, .slice a2 h.vNodes.length cap2, .slice a3 h.vObjs.length cap3, .slice a4 h.vGlobals.length cap4]) 34)).heap.size 50 1 (S t.id) ((holdsC (accG h) t.id).map (thOf Ts)).length (((holdsC (accG h) t.id).map (thOf Ts)).map fun t => .pointer (some ⟨t.blk, 0, none⟩))) := by rw [← m1, List.length_map]; exact hp2
  have hbox : Hid (∀ u ∈ (holdsC (accG h) t.id).map (thOf Ts), (w1.alloc (.cells #[.slice (some ⟨g, 0, none⟩) (idsD h).length cap, .map (some bm), .pointer (some ⟨o.blk, 0, none⟩)] 52)).cell? ⟨u.blk, 0, none⟩ = some (.int .i64 u.id)) := fun u hu => by
    obtain ⟨k, hk, rfl⟩ := List.mem_map.1 hu
    exact (hS.1 _ (List.mem_cons_of_mem _ (thOf_is (hks k hk)).1)).1.cell 0 rfl
  have hm2 : Hid (((holdsC (accG h) t.id).map (thOf Ts)).map (fun t => Value.int .i64 t.id) = (edgesS h b).map fun n => Value.int .i64 n) := by show _ = _; rw [m2, hE.out]
  have hlen : Hid (((holdsC (accG h) t.id).map (thOf Ts)).length = (edgesS h b).length) := by show _ = _; rw [List.length_map, hE.out]
  rw [hform] at c2
  have hform' : Hid (S t.id = .slice aS (holdsC (accG h) t.id).length capS) := hform
  clear hq hM hG hp1 hp2 hform hks m1 m2 htm htid hS hb0
  go_wp2_with fail
  rw [← hform'.out]
  refine (thingIds_any hrow2.out hbox.out (by rw [hlen.out, ← HF.out]; have := hEl.out; omega)).mono ?_
  rintro e w3 ⟨⟨v, rfl, hown⟩, hb4⟩
  have hB4 : Below w.heap.size w w3 := hB3.trans (hb4.mono hB3.size)
  rw [hm2.out, hlen.out] at hown
  obtain ⟨fs, ho, hl⟩ := seqOwn_of_row hown hI.out
  have hs3 := hB3.size
  have ho' : Hid (SeqOwn 1 IntOwn w3 v (edgesD h b) fs) := by rw [HF.out]; exact ho
  have hl' : Hid (∀ b ∈ fs, w.heap.size ≤ b) := fun b q => by have := hl b q; omega
  obtain ⟨av, capv, rfl⟩ := own_forms hown
  clear hown ho hl
  go_wp2_with fail
  go_ret
  exact ⟨⟨_, fs, rfl, ho'.out, hl'.out⟩, hB4⟩
end Go.Proofs.Ytoifcfllboeblaa
