/- The program's things of a heap, not linked yet: the walk. -/
import Derived.Test.YtdnembnlomnceaaGreatAbb
import Derived.Test.YtdnembnlomnceaaGreatThingsNew
namespace Go.Proofs.YtdnembnlomnceaaGreat
open Go.RowKit Go.Sort
theorem row_get {w : World} {base e n : Nat} {a : Option Addr} {cap : Nat} {xs : List Value} (h : w.ownsRow base e 1 (.slice a n cap) n xs) {j : Nat} (hj : j < n) {x : Value} (hx : xs[j]? = some x) : ∃ g, a = some ⟨g, 0, none⟩ ∧ w.cell? ⟨g, j, none⟩ = some x := by
 rcases h.2 with ⟨e1, e2⟩ | ⟨g, c, cur, e1, _, hh, _, _, h3, h4⟩
 · omega
 · injection e1 with e1 _ _
   refine ⟨g, e1, ?_⟩
   rw [blk_cell hh]
   have : (cur.toList.take (n * 1))[j]? = some x := by rw [h4]; exact hx
   rw [List.getElem?_take_of_lt (by omega)] at this
   simpa using this
set_option maxRecDepth 100000 in
set_option maxHeartbeats 4000000 in
theorem unlinked_any {w0 w : World} {lo : Nat} {cs : List Value} {h : HeapD} (hh : HeapAt w0 lo cs h) (h00 : Below w0.heap.size w0 w) (hne : 0 < h.vNodes.length) (hl1 : h.vNodes.length ≤ 16) (hl2 : h.vObjs.length ≤ 16)
 (hids : ∀ a b, (ha : a < (idsD h).length) → (hb : b < (idsD h).length) → (idsD h)[a] = (idsD h)[b] → a = b) (hpos : ∀ x ∈ idsD h, x ≠ 0) :
 Calls Tryz.prog 58 #[.agg cs.toArray] w fun e w' => ∃ (o : ThD) (Ts : List ThD) (bm g cap : Nat), e = .returned (.agg #[.slice (some ⟨g, 0, none⟩) (idsD h).length cap, .map (some bm), .pointer (some ⟨o.blk, 0, none⟩)]) ∧ o.id = 0 ∧ o.pl = 0 ∧ ThSt (idsD h) w.heap.size w' o (idsD h).length Ts bm (.slice (some ⟨g, 0, none⟩) (idsD h).length cap) ∧ w.heap.size ≤ bm ∧ Below w.heap.size w w' := by
 obtain ⟨k2, k3, k4, rfl, s2, s3, s4, rNext, rDoc, _⟩ := hh
 obtain ⟨a4, cap4, rfl⟩ := s4.form
 obtain ⟨a2, cap2, rfl, hm2, hx2⟩ := s2
 obtain ⟨a3, cap3, rfl, hm3, hx3⟩ := s3
 have hx2' : Hid _ := hx2
 have hx3' : Hid _ := hx3
 have hids' : Hid _ := hids
 have hpos' : Hid _ := hpos
 have hlen' : Hid ((idsD h).length = h.vNodes.length + h.vObjs.length) := by show _ = _; rw [idsD_len]; simp [idsU]
 clear hx2 hx3 s4 rNext rDoc hm2 hm3 hids hpos
 obtain ⟨iI, hiI, heI⟩ := Option.map_eq_some_iff.1 infoI64
 simp only [Prod.mk.injEq] at heI
 have hI : Hid _ := hiI
 have hE : Hid _ := heI
 clear hiI heI
 obtain ⟨iP, hiP, heP⟩ := Option.map_eq_some_iff.1 infoPtr
 simp only [Prod.mk.injEq] at heP
 have hIP : Hid _ := hiP
 have hEP : Hid _ := heP
 clear hiP heP
 have hb2 : Below w.heap.size w ((w.alloc (.cells (List.toArray (cHp h a2 cap2 a3 cap3 a4 cap4)) 28)).alloc (.cells (List.toArray [.slice none 0 0, .map none, .pointer none]) 60)) := ((Below.refl _ _).alloc (Nat.le_refl _) _).alloc (by simp) _
 have bH0 : Hid (Box ((w.alloc (.cells (List.toArray (cHp h a2 cap2 a3 cap3 a4 cap4)) 28)).alloc (.cells (List.toArray [.slice none 0 0, .map none, .pointer none]) 60)) w.heap.size (cHp h a2 cap2 a3 cap3 a4 cap4) 28) := (Box.new w (cHp h a2 cap2 a3 cap3 a4 cap4) 28).alloc _
 have bR0 : Hid (Box ((w.alloc (.cells (List.toArray (cHp h a2 cap2 a3 cap3 a4 cap4)) 28)).alloc (.cells (List.toArray [.slice none 0 0, .map none, .pointer none]) 60)) (w.heap.size + 1) [.slice none 0 0, .map none, .pointer none] 60) := by have q := Box.new (w.alloc (.cells (List.toArray (cHp h a2 cap2 a3 cap3 a4 cap4)) 28)) [.slice none 0 0, .map none, .pointer none] 60; simpa only [World.size_alloc, Hid] using q
 have hz2 : ((w.alloc (.cells (List.toArray (cHp h a2 cap2 a3 cap3 a4 cap4)) 28)).alloc (.cells (List.toArray [.slice none 0 0, .map none, .pointer none]) 60)).heap.size = w.heap.size + 2 := by simp
 go_enter Tryz.func58, Tryz.ntmps58
 go_wp2_with fail
 obtain ⟨W0, hW0⟩ : ∃ W0, ((w.alloc (.cells (List.toArray (cHp h a2 cap2 a3 cap3 a4 cap4)) 28)).alloc (.cells (List.toArray [.slice none 0 0, .map none, .pointer none]) 60)) = W0 := ⟨_, rfl⟩
 rw [hW0] at hb2 bH0 bR0 hz2 ⊢
 clear hW0
 go_loopw [3, 15] (fun v i wr => ∃ (j : Nat), j ≤ h.vNodes.length ∧ i = .int .i64 j ∧ Hid (wr.ownsRow (w.heap.size + 2) 2 1 v j (((h.vNodes.take j).map NodeD.vId).map fun n => Value.int .i64 n)) ∧ Hid (∃ a cap, v = .slice a j cap) ∧ Below (w.heap.size + 2) W0 wr) (fun _ i _ => h.vNodes.length - (intOf i).toNat)
 case atStart => exact ⟨0, by omega, rfl, World.ownsRow_nil _ _ _ _, ⟨_, _, rfl⟩, Below.refl _ _⟩
 case round =>
  obtain ⟨j, hj, rfl, hown, hform, hb⟩ := hrel
  obtain ⟨av, capv, rfl⟩ := hform.out
  clear hform
  have hz : w.heap.size + 2 ≤ wr.heap.size := by have := hb.size; omega
  have hbw : Below w.heap.size w wr := hb2.trans (hb.mono (by omega))
  by_cases hlt : j < h.vNodes.length
  · obtain ⟨b, off, rfl, hlo, hbw2, hc⟩ := hx2'.out (by omega)
    obtain ⟨cs, hcl, lie, hr⟩ := hc j hlt
    have lie1 := Lie.keep (lo := lo) (lo' := lo) lie (.of_below (h00.trans (hbw.mono h00.size))) hlo hbw2
    have hstep : Hid ((h.vNodes.take (j + 1)).map NodeD.vId = (h.vNodes.take j).map NodeD.vId ++ [h.vNodes[j].vId]) := by show _ = _; rw [List.take_succ_eq_append_getElem hlt, List.map_append]; rfl
    generalize hQ : h.vNodes[j] = Q at hr hstep
    obtain ⟨g3, g5, rfl, v3, v5, _⟩ := hr
    obtain ⟨p3, d3, rfl⟩ := v3.form
    obtain ⟨p5, d5, rfl⟩ := v5.form
    have z0 := lie_at lie1 0 rfl
    have z1 := lie_at lie1 1 rfl
    have z2 := lie_at lie1 2 rfl
    have z3 := lie_at lie1 3 rfl
    have z4 := lie_at lie1 4 rfl
    have z5 := lie_at lie1 5 rfl
    simp only [Nat.add_zero] at z0
    have n0 := (Box.new wr (cNd Q p3 d3 p5 d5) 73).cell 0 rfl
    clear lie lie1 hcl hc hQ v3 v5
    obtain ⟨L, hL⟩ : ∃ L, (((h.vNodes.take j).map NodeD.vId).map fun n => Value.int .i64 n) = L := ⟨_, rfl⟩
    have hownL : Hid (wr.ownsRow (w.heap.size + 2) 2 1 (.slice av j capv) j L) := by rw [← hL]; exact hown
    have hL' : Hid _ := hL
    clear hL
    go_wp2_with (at_builtin; refine wpList_append_own _ rfl _ _ 29 rfl (w.heap.size + 2) 2 iI (.int .i64 0) 1 8 Tryz.underlying29 hI.out hE.out.1 hE.out.2.2 hE.out.2.1 rfl (by decide) _ j (L) rfl ((hownL.out.alloc _).alloc _) ⟨wr.heap.size + 1, 0, none⟩ 1 1 [.int .i64 Q.vId] rfl rfl (by intro q u hq; match q, hq with | 0, hq => simp at hq; subst hq; simp [Addr.add]) (by simp [Value.oneCell']) (by unfold maxLen; omega) (by omega) (by simp; omega) ?_)
    intro v' w1 hown' hgrow _
    have hb3 : Below (w.heap.size + 2) W0 w1 := ((hb.alloc hz _).alloc (by simp; omega) _).grown hgrow (by simp; omega) (own_block hown.out)
    obtain ⟨av', capv', rfl⟩ := own_forms hown'
    have hown1 : Hid _ := hown'
    clear hown' hgrow
    go_wp2_with fail
    go_roundw
    case rel => exact ⟨j + 1, by omega, by go_num, by rw [hstep.out, List.map_append, hL'.out]; exact hown1.out, ⟨_, _, rfl⟩, hb3⟩
    case measure => simp [intOf]; omega
  obtain rfl : j = h.vNodes.length := by omega
  have bH := bH0.out.below hb (by omega)
  have t3 := bH.cell 3 rfl
  have hown2 : Hid (wr.ownsRow (w.heap.size + 2) 2 1 (.slice av h.vNodes.length capv) (h.vNodes.length + 0) ((h.vNodes.map NodeD.vId ++ (h.vObjs.take 0).map ObjD.vId).map fun n => Value.int .i64 n)) := by show World.ownsRow _ _ _ _ _ _ _; have q := hown.out; rw [List.take_length] at q; simpa using q
  clear bH hown hx2'
  go_wp2_with fail
  go_loopw [3, 28] (fun v i wr => ∃ (j : Nat), j ≤ h.vObjs.length ∧ i = .int .i64 j ∧ Hid (wr.ownsRow (w.heap.size + 2) 2 1 v (h.vNodes.length + j) ((h.vNodes.map NodeD.vId ++ (h.vObjs.take j).map ObjD.vId).map fun n => Value.int .i64 n)) ∧ Hid (∃ a cap, v = .slice a (h.vNodes.length + j) cap) ∧ Below (w.heap.size + 2) W0 wr) (fun _ i _ => h.vObjs.length - (intOf i).toNat)
  case atStart => exact ⟨0, by omega, rfl, hown2, ⟨_, _, rfl⟩, hb⟩
  case round =>
   clear hown2 hb hbw hz
   obtain ⟨j, hj, rfl, hown, hform, hb⟩ := hrel
   obtain ⟨av, capv, rfl⟩ := hform.out
   clear hform
   have hz : w.heap.size + 2 ≤ wr.heap.size := by have := hb.size; omega
   have hbw : Below w.heap.size w wr := hb2.trans (hb.mono (by omega))
   by_cases hlt : j < h.vObjs.length
   · obtain ⟨b, off, rfl, hlo, hbw2, hc⟩ := hx3'.out (by omega)
     obtain ⟨cs, hcl, lie, hr⟩ := hc j hlt
     have lie1 := Lie.keep (lo := lo) (lo' := lo) lie (.of_below (h00.trans (hbw.mono h00.size))) hlo hbw2
     have hstep : Hid ((h.vObjs.take (j + 1)).map ObjD.vId = (h.vObjs.take j).map ObjD.vId ++ [h.vObjs[j].vId]) := by show _ = _; rw [List.take_succ_eq_append_getElem hlt, List.map_append]; rfl
     generalize hQ : h.vObjs[j] = Q at hr hstep
     obtain ⟨g2, rfl, v2, _⟩ := hr
     obtain ⟨p2, d2, rfl⟩ := v2.form
     have z0 := lie_at lie1 0 rfl
     have z1 := lie_at lie1 1 rfl
     have z2 := lie_at lie1 2 rfl
     simp only [Nat.add_zero] at z0
     have n0 := (Box.new wr (cOb Q p2 d2) 75).cell 0 rfl
     clear lie lie1 hcl hc hQ v2
     obtain ⟨L, hL⟩ : ∃ L, ((h.vNodes.map NodeD.vId ++ (h.vObjs.take j).map ObjD.vId).map fun n => Value.int .i64 n) = L := ⟨_, rfl⟩
     have hownL : Hid (wr.ownsRow (w.heap.size + 2) 2 1 (.slice av (h.vNodes.length + j) capv) (h.vNodes.length + j) L) := by rw [← hL]; exact hown
     have hL' : Hid _ := hL
     clear hL
     go_wp2_with (at_builtin; refine wpList_append_own _ rfl _ _ 29 rfl (w.heap.size + 2) 2 iI (.int .i64 0) 1 8 Tryz.underlying29 hI.out hE.out.1 hE.out.2.2 hE.out.2.1 rfl (by decide) _ (h.vNodes.length + j) (L) rfl ((hownL.out.alloc _).alloc _) ⟨wr.heap.size + 1, 0, none⟩ 1 1 [.int .i64 Q.vId] rfl rfl (by intro q u hq; match q, hq with | 0, hq => simp at hq; subst hq; simp [Addr.add]) (by simp [Value.oneCell']) (by unfold maxLen; omega) (by omega) (by simp; omega) ?_)
     intro v' w1 hown' hgrow _
     have hb3 : Below (w.heap.size + 2) W0 w1 := ((hb.alloc hz _).alloc (by simp; omega) _).grown hgrow (by simp; omega) (own_block hown.out)
     obtain ⟨av', capv', rfl⟩ := own_forms hown'
     have hown1 : Hid _ := hown'
     clear hown' hgrow
     go_wp2_with fail
     go_roundw
     case rel => exact ⟨j + 1, by omega, by go_num, by rw [hstep.out, ← List.append_assoc, List.map_append, hL'.out]; exact hown1.out, ⟨_, _, rfl⟩, hb3⟩
     case measure => simp [intOf]; omega
   obtain rfl : j = h.vObjs.length := by omega
   have hrow : wr.ownsRow (w.heap.size + 2) 2 1 (.slice av (h.vNodes.length + h.vObjs.length) capv) (h.vNodes.length + h.vObjs.length) ((idsU h).map fun n => Value.int .i64 n) := by have q := hown.out; rw [List.take_length] at q; exact q
   have hUl : (idsU h).length = h.vNodes.length + h.vObjs.length := by simp [idsU]
   clear hown hx3'
   rcases hrow.2 with ⟨_, e0⟩ | ⟨gi, capi, cur, ev, hgi, hcur, hn1, hn2, hn3, hn4⟩
   · omega
   injection ev with ev1 _ ev3
   subst ev1 ev3
   rw [← hUl] at hn1 hn4
   have hsort := AnyG.slices_Sort_int sortLaid gi 0 capv (idsU h) wr (holds_of_blockI hcur (by simpa using hn4)) (Array.getElem?_eq_some_iff.1 hcur).1 (by omega)
   change Calls Tryz.prog 48 _ _ _ at hsort
   rw [hUl] at hsort
   have hsort' : Hid (Calls Tryz.prog 48 #[.slice (some ⟨gi, 0, none⟩) (h.vNodes.length + h.vObjs.length) capv] wr fun e w' => e = .returned (.tuple #[]) ∧ ∃ n os, w' = grow (putRow (Value.int .i64) (Sort.ahead wr n) gi 0 (idsD h).toArray) os) := hsort
   have hsr : Hid (∀ nn os, (grow (putRow (Value.int .i64) (Sort.ahead wr nn) gi 0 (idsD h).toArray) os).ownsRow (w.heap.size + 2) 2 1 (.slice (some ⟨gi, 0, none⟩) (h.vNodes.length + h.vObjs.length) capv) (h.vNodes.length + h.vObjs.length) ((idsD h).map (Value.int .i64))) := fun nn os => by
    have q := ownsRow_sortedI (n := nn) (os := os) (ss := idsU h) (ts := idsD h) (idsD_len h) hgi hcur hn1 hn2 (by simpa using hn3)
    rw [hUl] at q; exact q
   have hsg : Hid (∀ nn os, wr.grownBy (grow (putRow (Value.int .i64) (Sort.ahead wr nn) gi 0 (idsD h).toArray) os) (some gi)) := fun nn os => grownBy_sortedI _
   clear hcur hn1 hn2 hn3 hn4 hsort hrow
   go_wp2_with fail
   refine hsort'.out.mono ?_
   rintro e w3 ⟨rfl, nn, os, hw3⟩
   have hr3 : Hid (w3.ownsRow (w.heap.size + 2) 2 1 (.slice (some ⟨gi, 0, none⟩) (h.vNodes.length + h.vObjs.length) capv) (h.vNodes.length + h.vObjs.length) ((idsD h).map (Value.int .i64))) := by rw [hw3]; exact hsr.out nn os
   have hg3 : wr.grownBy w3 (some gi) := by rw [hw3]; exact hsg.out nn os
   have hb4 : Below (w.heap.size + 2) W0 w3 := hb.grown hg3 hz (fun k e => by cases e; exact hgi)
   have hz4 : w.heap.size + 2 ≤ w3.heap.size := by have := hb4.size; omega
   have hbw4 : Below w.heap.size w w3 := hb2.trans (hb4.mono (by omega))
   have bR4 : Hid (Box w3 (w.heap.size + 1) [.slice none 0 0, .map none, .pointer none] 60) := bR0.out.below hb4 (by omega)
   clear hw3 hsr hsg hsort' hg3 hb hbw hz
   have hmk : ∀ t u, Sem.run Tryz.prog (Instr.makeMap t none) u = .ok (.map (some u.heap.size)) (u.alloc (.map #[] 0)) := by intro t u; simp [Instr.makeMap]
   go_wp2_with fail
   have hw5 : (((w3.alloc (.map #[] 0)).alloc (.cells (List.toArray [.int .i64 0, .int .i64 0, .slice none 0 0, .int .i64 0]) 65)).alloc (.cells (List.toArray [.slice none 0 0, .map (some w3.heap.size), .pointer (some ⟨w3.heap.size + 1, 0, none⟩)]) 60)).heap.size = w3.heap.size + 3 := by simp
   have mB : Hid ((((w3.alloc (.map #[] 0)).alloc (.cells (List.toArray [.int .i64 0, .int .i64 0, .slice none 0 0, .int .i64 0]) 65)).alloc (.cells (List.toArray [.slice none 0 0, .map (some w3.heap.size), .pointer (some ⟨w3.heap.size + 1, 0, none⟩)]) 60)).heap[w3.heap.size]? = some (.map #[] 0)) := by
    show _ = _
    rw [Below.heap_alloc _ _ _ (by simp; omega), Below.heap_alloc _ _ _ (by simp)]
    exact (MapKept.heap_alloc w3 (.map #[] 0)).1
   have oB : Hid (Box (((w3.alloc (.map #[] 0)).alloc (.cells (List.toArray [.int .i64 0, .int .i64 0, .slice none 0 0, .int .i64 0]) 65)).alloc (.cells (List.toArray [.slice none 0 0, .map (some w3.heap.size), .pointer (some ⟨w3.heap.size + 1, 0, none⟩)]) 60)) (w3.heap.size + 1) [.int .i64 0, .int .i64 0, .slice none 0 0, .int .i64 0] 65) := by
    have q := (Box.new (w3.alloc (.map #[] 0)) [.int .i64 0, .int .i64 0, .slice none 0 0, .int .i64 0] 65).alloc (.cells (List.toArray [.slice none 0 0, .map (some w3.heap.size), .pointer (some ⟨w3.heap.size + 1, 0, none⟩)]) 60)
    simpa only [World.size_alloc, Hid] using q
   have gB : Hid (Box (((w3.alloc (.map #[] 0)).alloc (.cells (List.toArray [.int .i64 0, .int .i64 0, .slice none 0 0, .int .i64 0]) 65)).alloc (.cells (List.toArray [.slice none 0 0, .map (some w3.heap.size), .pointer (some ⟨w3.heap.size + 1, 0, none⟩)]) 60)) (w3.heap.size + 1 + 1) [.slice none 0 0, .map (some w3.heap.size), .pointer (some ⟨w3.heap.size + 1, 0, none⟩)] 60) := by
    have q := Box.new ((w3.alloc (.map #[] 0)).alloc (.cells (List.toArray [.int .i64 0, .int .i64 0, .slice none 0 0, .int .i64 0]) 65)) [.slice none 0 0, .map (some w3.heap.size), .pointer (some ⟨w3.heap.size + 1, 0, none⟩)] 60
    simpa only [World.size_alloc, Hid] using q
   have rB : Hid (Box (((w3.alloc (.map #[] 0)).alloc (.cells (List.toArray [.int .i64 0, .int .i64 0, .slice none 0 0, .int .i64 0]) 65)).alloc (.cells (List.toArray [.slice none 0 0, .map (some w3.heap.size), .pointer (some ⟨w3.heap.size + 1, 0, none⟩)]) 60)) (w.heap.size + 1) [.slice none 0 0, .map none, .pointer none] 60) := ((bR4.out.alloc _).alloc _).alloc _
   have iR : Hid ((((w3.alloc (.map #[] 0)).alloc (.cells (List.toArray [.int .i64 0, .int .i64 0, .slice none 0 0, .int .i64 0]) 65)).alloc (.cells (List.toArray [.slice none 0 0, .map (some w3.heap.size), .pointer (some ⟨w3.heap.size + 1, 0, none⟩)]) 60)).ownsRow (w.heap.size + 2) 2 1 (.slice (some ⟨gi, 0, none⟩) (h.vNodes.length + h.vObjs.length) capv) (h.vNodes.length + h.vObjs.length) ((idsD h).map (Value.int .i64))) := ((hr3.out.alloc _).alloc _).alloc _
   have hb5 : Hid (Below w.heap.size w (((w3.alloc (.map #[] 0)).alloc (.cells (List.toArray [.int .i64 0, .int .i64 0, .slice none 0 0, .int .i64 0]) 65)).alloc (.cells (List.toArray [.slice none 0 0, .map (some w3.heap.size), .pointer (some ⟨w3.heap.size + 1, 0, none⟩)]) 60))) := ((hbw4.alloc (by omega) _).alloc (by simp; omega) _).alloc (by simp; omega) _
   obtain ⟨W5, hW5⟩ : ∃ W5, (((w3.alloc (.map #[] 0)).alloc (.cells (List.toArray [.int .i64 0, .int .i64 0, .slice none 0 0, .int .i64 0]) 65)).alloc (.cells (List.toArray [.slice none 0 0, .map (some w3.heap.size), .pointer (some ⟨w3.heap.size + 1, 0, none⟩)]) 60)) = W5 := ⟨_, rfl⟩
   rw [hW5] at mB oB gB rB iR hb5 hw5 ⊢
   clear hW5 hr3 bR4 hbw4 hb4 hmk
   have st0 : Hid (ThSt (idsD h) w.heap.size W5 ⟨0, 0, w3.heap.size + 1⟩ 0 [] w3.heap.size (.slice none 0 0)) := by
    refine ⟨⟨rfl, fun i hi => absurd hi (by simp)⟩, ⟨fun a ha b hb _ => ?_, fun a ha b hb _ => ?_⟩, fun u hu => ?_, fun u hu => ?_, World.ownsRow_nil _ _ _ _, #[], 0, mB.out, trivial⟩
    · simp at ha hb; rw [ha, hb]
    · simp at ha hb; rw [ha, hb]
    · simp at hu; subst hu; dsimp only; omega
    · simp at hu; subst hu; exact oB.out
   go_loopw [46] (fun i wr => ∃ (j : Nat) (Ts : List ThD) (v : Value), j ≤ h.vNodes.length + h.vObjs.length ∧ i = .int .i64 j ∧ Hid (ThSt (idsD h) w.heap.size wr ⟨0, 0, w3.heap.size + 1⟩ j Ts w3.heap.size v) ∧ Hid (Box wr (w3.heap.size + 1 + 1) [v, .map (some w3.heap.size), .pointer (some ⟨w3.heap.size + 1, 0, none⟩)] 60) ∧ Hid (∃ a cap, v = .slice a j cap) ∧ Hid (wr.ownsRow (w.heap.size + 2) 2 1 (.slice (some ⟨gi, 0, none⟩) (h.vNodes.length + h.vObjs.length) capv) (h.vNodes.length + h.vObjs.length) ((idsD h).map (Value.int .i64))) ∧ Hid (Box wr (w.heap.size + 1) [.slice none 0 0, .map none, .pointer none] 60) ∧ Hid (Below w.heap.size w wr)) (fun i _ => h.vNodes.length + h.vObjs.length - (intOf i).toNat)
   case atStart => exact ⟨0, [], _, by omega, rfl, st0, gB, ⟨_, _, rfl⟩, iR, rB, hb5⟩
   case round =>
    clear mB oB gB rB iR hb5 st0 hw5
    obtain ⟨j, Ts, v, hj, rfl, hst, bGr, hform, hrow, bRr, hbw⟩ := hrel
    obtain ⟨av, capv2, rfl⟩ := hform.out
    clear hform
    have hzr : w3.heap.size + 1 + 1 < wr.heap.size := bGr.out.lt
    by_cases hlt : j < h.vNodes.length + h.vObjs.length
    · have hltD : j < (idsD h).length := by have := hlen'.out; omega
      obtain ⟨g', eg, z0⟩ := row_get hrow.out hlt (x := .int .i64 (idsD h)[j]) (by simp [hltD])
      injection eg with eg
      injection eg with eg _ _
      subst eg
      have hrv : wr.ownsRow w.heap.size 58 1 (.slice av j capv2) j (Ts.map fun t => .pointer (some ⟨t.blk, 0, none⟩)) := hst.out.2.2.2.2.1
      obtain ⟨es, clock, hes, hpe⟩ := hst.out.2.2.2.2.2
      have hTl : Ts.length = j := by have := congrArg List.length hst.out.1.1; simp at this; omega
      have hnone : getI ThD.id Ts (idsD h)[j] = none := getI_none fun i hi he => by
       have hi2 : i < j := by omega
       have e1 : (Ts.map ThD.id)[i]? = ((idsD h).take j)[i]? := by rw [hst.out.1.1]
       rw [List.getElem?_map, List.getElem?_eq_getElem hi, List.getElem?_take_of_lt hi2, List.getElem?_eq_getElem (by omega)] at e1
       simp only [Option.map_some, Option.some.injEq] at e1
       have := hids'.out i j (by omega) hltD (e1.symm.trans he)
       omega
      have hsn : Hid (∀ (g capg : Nat) (w1 : World), _ → _ → _ → _ → _) := fun g capg w1 q1 q2 q3 q4 => hst.out.snoc (g := g) (cap := capg) (w1 := w1) (bg := w3.heap.size + 1 + 1) (gs := [.slice av j capv2, .map (some w3.heap.size), .pointer (some ⟨w3.heap.size + 1, 0, none⟩)]) (es := es) (clock := clock) hltD hids'.out hpos'.out rfl (by have := hbw.out.size; omega) q1 q2 q3 q4 hpe
      generalize hX : (idsD h)[j] = X at z0 hnone hsn
      have bGa := (bGr.out.alloc (.cells #[.int .i64 X, .int .i64 (j : Int), .slice none 0 0, .int .i64 0] 65))
      have bGb := bGa.alloc (.cells #[.pointer (some ⟨wr.heap.size, 0, none⟩)] 58)
      have ca0 := bGa.cell 0 rfl
      have hrvb : Hid (((wr.alloc (.cells #[.int .i64 X, .int .i64 (j : Int), .slice none 0 0, .int .i64 0] 65)).alloc (.cells #[.pointer (some ⟨wr.heap.size, 0, none⟩)] 58)).ownsRow w.heap.size 58 1 (.slice av j capv2) j (Ts.map fun t => .pointer (some ⟨t.blk, 0, none⟩))) := (hrv.alloc _).alloc _
      obtain ⟨L, hL⟩ : ∃ L, (Ts.map fun t => Value.pointer (some ⟨t.blk, 0, none⟩)) = L := ⟨_, rfl⟩
      rw [hL] at hrvb hsn
      have bGb' : Hid _ := bGb
      have hes' : Hid (wr.heap[w3.heap.size]? = some (.map es clock)) := hes
      have hpe' : Hid (PEnts es.toList Ts) := hpe
      have hnone' : Hid (getI ThD.id Ts X = none) := hnone
      have hws := hbw.out.size
      clear hX bGb bGa hrv hes hpe hnone hL hTl
      go_wp2_with (at_builtin; refine wpList_append_lies _ rfl _ _ 52 rfl w.heap.size 58 iP (.pointer none) 1 8 Tryz.underlying52 hIP.out hEP.out.1 hEP.out.2.2 hEP.out.2.1 rfl (by decide) _ j L rfl hrvb.out ⟨wr.heap.size + 1, 0, none⟩ 1 1 [.pointer (some ⟨wr.heap.size, 0, none⟩)] rfl rfl (by intro q u hq; match q, hq with | 0, hq => simp at hq; subst hq; simp [Addr.add]) (by simp [Value.oneCell']) (by decide) (by unfold maxLen; omega) (by omega) (by simp; omega) (wr.heap.size + 2) (by simp) ?_)
      intro g capg w1 hown1 hgrow1 hat1 hlt1
      have bG1 : Box w1 (w3.heap.size + 1 + 1) [.slice av j capv2, .map (some w3.heap.size), .pointer (some ⟨w3.heap.size + 1, 0, none⟩)] 60 := Box.kept bGb'.out (KeepT.grown hrvb.out (by decide) hgrow1)
      have c0 := bG1.cell 0 rfl
      have f0 := bG1.unfrozen 0
      have bG2 : Box (w1.setCell ⟨w3.heap.size + 1 + 1, 0, none⟩ (.slice (some ⟨g, 0, none⟩) (j + 1) capg)) (w3.heap.size + 1 + 1) [.slice (some ⟨g, 0, none⟩) (j + 1) capg, .map (some w3.heap.size), .pointer (some ⟨w3.heap.size + 1, 0, none⟩)] 60 := bG1.set (i := 0) _
      have c1 := bG2.cell 1 rfl
      have he1 : w1.heap[w3.heap.size]? = some (.map es clock) := by
       refine (hgrow1.block _ (by simp; omega) (fun q => ?_)).trans (((Below.heap_alloc _ _ _ (by simp; omega)).trans (Below.heap_alloc _ _ _ (by omega))).trans hes'.out)
       obtain ⟨cur, hq⟩ := row_blk hrvb.out q.symm
       rw [Below.heap_alloc _ _ _ (by simp; omega), Below.heap_alloc _ _ _ (by omega), hes'.out] at hq
       cases hq
      have he : (w1.setCell ⟨w3.heap.size + 1 + 1, 0, none⟩ (.slice (some ⟨g, 0, none⟩) (j + 1) capg)).heap[w3.heap.size]? = some (.map es clock) := (set_other (by omega) _).trans he1
      have hrun := run_putP he hpe'.out Tryz.underlying57 X (.pointer (some ⟨wr.heap.size, 0, none⟩)) hnone'.out
      have hst2 : Hid (ThSt (idsD h) w.heap.size (putEnt (w1.setCell ⟨w3.heap.size + 1 + 1, 0, none⟩ (.slice (some ⟨g, 0, none⟩) (j + 1) capg)) w3.heap.size es clock X (.pointer (some ⟨wr.heap.size, 0, none⟩))) ⟨0, 0, w3.heap.size + 1⟩ (j + 1) (Ts ++ [⟨X, (j : Int), wr.heap.size⟩]) w3.heap.size (.slice (some ⟨g, 0, none⟩) (j + 1) capg)) := hsn.out g capg w1 hgrow1 hown1 bG1 he
      have bG3 : Hid (Box (putEnt (w1.setCell ⟨w3.heap.size + 1 + 1, 0, none⟩ (.slice (some ⟨g, 0, none⟩) (j + 1) capg)) w3.heap.size es clock X (.pointer (some ⟨wr.heap.size, 0, none⟩))) (w3.heap.size + 1 + 1) [.slice (some ⟨g, 0, none⟩) (j + 1) capg, .map (some w3.heap.size), .pointer (some ⟨w3.heap.size + 1, 0, none⟩)] 60) := bG2.kept (KeepT.put he)
      have hrow2 : Hid (World.ownsRow (putEnt (w1.setCell ⟨w3.heap.size + 1 + 1, 0, none⟩ (.slice (some ⟨g, 0, none⟩) (j + 1) capg)) w3.heap.size es clock X (.pointer (some ⟨wr.heap.size, 0, none⟩))) (w.heap.size + 2) 2 1 (.slice (some ⟨gi, 0, none⟩) (h.vNodes.length + h.vObjs.length) capv) (h.vNodes.length + h.vObjs.length) ((idsD h).map (Value.int .i64))) := row_kept ((hrow.out.alloc _).alloc _) (((KeepT.grown hrvb.out (by decide) hgrow1).trans (KeepT.set bG1 (by decide) _)).trans (KeepT.put he))
      have bR2 : Hid (Box (putEnt (w1.setCell ⟨w3.heap.size + 1 + 1, 0, none⟩ (.slice (some ⟨g, 0, none⟩) (j + 1) capg)) w3.heap.size es clock X (.pointer (some ⟨wr.heap.size, 0, none⟩))) (w.heap.size + 1) [.slice none 0 0, .map none, .pointer none] 60) := ((((bRr.out.alloc _).alloc _).kept (KeepT.grown hrvb.out (by decide) hgrow1)).other (by omega) _).kept (KeepT.put he)
      have hbw2 : Hid (Below w.heap.size w (putEnt (w1.setCell ⟨w3.heap.size + 1 + 1, 0, none⟩ (.slice (some ⟨g, 0, none⟩) (j + 1) capg)) w3.heap.size es clock X (.pointer (some ⟨wr.heap.size, 0, none⟩)))) := putEnt_below ((((hbw.out.alloc hws _).alloc (by simp; omega) _).grown hgrow1 (by simp; omega) (own_block hrvb.out)).setCell (p := ⟨w3.heap.size + 1 + 1, 0, none⟩) (by show w.heap.size ≤ w3.heap.size + 1 + 1; omega) _) (by omega)
      clear hown1 hgrow1 hat1 bG1 bG2 he he1 hsn
      go_wp2_with fail
      go_roundw
      case rel => exact ⟨j + 1, _, _, by omega, by go_num, hst2, bG3, ⟨_, _, rfl⟩, hrow2, bR2, hbw2⟩
      case measure => simp [intOf]; omega
    obtain rfl : j = h.vNodes.length + h.vObjs.length := by omega
    obtain ⟨g, capg, ev, _, _⟩ := World.ownsRow.form hst.out.2.2.2.2.1 (by omega)
    injection ev with ev1 _ ev3
    subst ev1 ev3
    have q0 := bGr.out.cell 0 rfl
    have q1 := bGr.out.cell 1 rfl
    have q2 := bGr.out.cell 2 rfl
    have r0 := bRr.out.cell 0 rfl
    have r1 := bRr.out.cell 1 rfl
    have r2 := bRr.out.cell 2 rfl
    have rf := bRr.out.unfrozen
    go_wp2_with fail
    have b1 := bRr.out.set (i := 0) (.slice (some ⟨g, 0, none⟩) (h.vNodes.length + h.vObjs.length) capv2)
    have b2 := b1.set (i := 1) (.map (some w3.heap.size))
    have b3 := b2.set (i := 2) (.pointer (some ⟨w3.heap.size + 1, 0, none⟩))
    have e0 := b3.cell 0 rfl
    have e1 := b3.cell 1 rfl
    have e2 := b3.cell 2 rfl
    refine bodyPost_ret (v := .agg #[.slice (some ⟨g, 0, none⟩) (h.vNodes.length + h.vObjs.length) capv2, .map (some w3.heap.size), .pointer (some ⟨w3.heap.size + 1, 0, none⟩)]) (by simp [results, Tryz.results58, go_sem, e0, e1, e2]) rfl ?_
    have hl := hlen'.out
    rw [hl]
    refine ⟨⟨0, 0, w3.heap.size + 1⟩, Ts, w3.heap.size, g, capv2, rfl, rfl, rfl, hst.out.keep ?_ ?_ ?_, by omega, ?_⟩
    · exact ((KeepT.set bRr.out (by decide) _).trans (KeepT.set b1 (by decide) _)).trans (KeepT.set b2 (by decide) _)
    · exact ((KeepT.set bRr.out (by decide) _).trans (KeepT.set b1 (by decide) _)).trans (KeepT.set b2 (by decide) _)
    · exact ((set_other (by omega) _).trans (set_other (by omega) _)).trans (set_other (by omega) _)
    · exact ((hbw.out.setCell (p := ⟨w.heap.size + 1, 0, none⟩) (by simp) _).setCell (p := ⟨w.heap.size + 1, 1, none⟩) (by simp) _).setCell (p := ⟨w.heap.size + 1, 2, none⟩) (by simp) _
end Go.Proofs.YtdnembnlomnceaaGreat
