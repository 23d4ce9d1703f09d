/- The program's graph of a right heap, walked. -/
import Derived.Test.YtdnembnlomnceaaGreatAbb
import Derived.Test.YtdnembnlomnceaaGreatUnlinked
import Derived.Test.YtdnembnlomnceaaGreatGraphIds
import Derived.Test.YtdnembnlomnceaaGreatImplRight
import Derived.Deep.Onto
namespace Go.Proofs.YtdnembnlomnceaaGreat
open Go.RowKit
/-- the graph of a right heap lies in memory -/
def GraphAt (h : HeapD) (base : Nat) (w : World) (o : ThD) (Ts : List ThD) (bm g cap : Nat) : Prop :=
 o.id = 0 ∧ (Ts.map ThD.id = idsD h ∧ ∀ i, (hi : i < Ts.length) → Ts[i].pl = (i : Int)) ∧ Apart (o :: Ts) ∧ GSt (fun b => b < base ∨ b = bm ∨ b = g) base w o Ts (accG h) ∧ PMap w bm Ts ∧ w.ownsRow base 58 1 (.slice (some ⟨g, 0, none⟩) (idsD h).length cap) (idsD h).length (Ts.map fun t => .pointer (some ⟨t.blk, 0, none⟩)) ∧ base ≤ bm
theorem GSt.base {K : Nat → Prop} {base base' : Nat} {w : World} {o : ThD} {Ts : List ThD} {acc : List (Int × Int)} (h : GSt K base w o Ts acc) (hb : base' ≤ base) : GSt K base' w o Ts acc := by
 obtain ⟨S, h⟩ := h
 exact ⟨S, fun t ht => ⟨(h.1 t ht).1, (h.1 t ht).2.1.mono hb, (h.1 t ht).2.2⟩, h.2⟩
def KK (base bm g bg : Nat) (b : Nat) : Prop := b < base ∨ b = bm ∨ b = g ∨ b = bg
theorem rowK_of {K : Nat → Prop} {w0 w : World} {lo : Nat} {k : Value} {ks : List Int} (hk : SeqAt 1 IntAt w0 lo k ks) (hl : ks.length ≤ 1048576) (hw : ∀ b, b < w0.heap.size → w.heap[b]? = w0.heap[b]?) (hK : ∀ b, b < w0.heap.size → K b) : RowK K w k ks := by
 obtain ⟨a, cap, rfl, hm, hx⟩ := hk
 refine ⟨a, cap, rfl, hl, fun h0 => ?_⟩
 obtain ⟨b, off, rfl, h1, h2, hc⟩ := hx h0
 refine ⟨b, off, rfl, hK b h2, fun j hj => ?_⟩
 obtain ⟨cs, hcl, lie, hr⟩ := hc j hj
 obtain ⟨rfl, _⟩ := hr
 have z := lie 0 (by simp)
 rw [World.cell?_of_block (w := w0) (hw b h2)]
 simpa using z
set_option maxRecDepth 100000 in
set_option maxHeartbeats 4000000 in
theorem rightGraph_any {w0 w : World} {lo : Nat} {cs : List Value} {h : HeapD} (hh : HeapAt w0 lo cs h) (h00 : Below w0.heap.size w0 w) (hs : h.small) :
 Calls Tryz.prog 31 #[.agg cs.toArray] w fun e w' => ((specB h = false ∧ e = .returned (.tuple #[.agg #[.slice none 0 0, .map none, .pointer none], .bool false])) ∨ (specB h = true ∧ ∃ (o : ThD) (Ts : List ThD) (bm g cap : Nat), e = .returned (.tuple #[.agg #[.slice (some ⟨g, 0, none⟩) (idsD h).length cap, .map (some bm), .pointer (some ⟨o.blk, 0, none⟩)], .bool true]) ∧ GraphAt h w.heap.size w' o Ts bm g cap)) ∧ Below w.heap.size w w' := by
 have hh' : Hid (HeapAt w0 lo cs h) := hh
 have hs' : Hid h.small := hs
 obtain ⟨k2, k3, k4, rfl, s2, s3, s4, rNext, rDoc, _⟩ := hh
 have s4' : Hid (SeqAt 2 FieldAt w0 lo k4 h.vGlobals) := s4
 obtain ⟨a4, cap4, rfl⟩ := s4.form
 obtain ⟨a2, cap2, rfl, hm2, hx2⟩ := s2
 obtain ⟨a3, cap3, rfl, hm3, hx3⟩ := s3
 have hx2' : Hid _ := hx2
 have hx3' : Hid _ := hx3
 clear hx2 hx3 s4 rNext rDoc hm2 hm3 hs
 have hb2 : Below w.heap.size w ((w.alloc (.cells (List.toArray (cHp h a2 cap2 a3 cap3 a4 cap4)) 28)).alloc (.cells (List.toArray [.slice none 0 0, .map none, .pointer none]) 60)) := ((Below.refl _ _).alloc (Nat.le_refl _) _).alloc (by simp) _
 have bH0 : Hid (Box ((w.alloc (.cells (List.toArray (cHp h a2 cap2 a3 cap3 a4 cap4)) 28)).alloc (.cells (List.toArray [.slice none 0 0, .map none, .pointer none]) 60)) w.heap.size (cHp h a2 cap2 a3 cap3 a4 cap4) 28) := (Box.new w (cHp h a2 cap2 a3 cap3 a4 cap4) 28).alloc _
 have bR0 : Hid (Box ((w.alloc (.cells (List.toArray (cHp h a2 cap2 a3 cap3 a4 cap4)) 28)).alloc (.cells (List.toArray [.slice none 0 0, .map none, .pointer none]) 60)) (w.heap.size + 1) [.slice none 0 0, .map none, .pointer none] 60) := by have q := Box.new (w.alloc (.cells (List.toArray (cHp h a2 cap2 a3 cap3 a4 cap4)) 28)) [.slice none 0 0, .map none, .pointer none] 60; simpa only [World.size_alloc, Hid] using q
 have hz2 : ((w.alloc (.cells (List.toArray (cHp h a2 cap2 a3 cap3 a4 cap4)) 28)).alloc (.cells (List.toArray [.slice none 0 0, .map none, .pointer none]) 60)).heap.size = w.heap.size + 2 := by simp
 go_enter Tryz.func31, Tryz.ntmps31
 go_wp2_with fail
 refine (implHeapOk_any (HeapAt_stays _ _ _ lo _ _ (.of_below (h00.trans (hb2.mono h00.size))) hh'.out)).mono ?_
 rintro e w1 ⟨rfl, hb1⟩
 have hB1 : Below w.heap.size w w1 := hb2.trans (hb1.mono hb2.size)
 have hz1 : w.heap.size + 2 ≤ w1.heap.size := by have := hb1.size; omega
 have bH1 : Hid (Box w1 w.heap.size (cHp h a2 cap2 a3 cap3 a4 cap4) 28) := bH0.out.below hb1 (by omega)
 have bR1 : Hid (Box w1 (w.heap.size + 1) [.slice none 0 0, .map none, .pointer none] 60) := bR0.out.below hb1 (by omega)
 obtain ⟨hc0, hc1, hc2, hc3, hc4⟩ := fv5 bH1.out
 have r0 := bR1.out.cell 0 rfl
 have r1 := bR1.out.cell 1 rfl
 have r2 := bR1.out.cell 2 rfl
 have rf := bR1.out.unfrozen
 clear hb1 hb2 bH0 bR0 hz2
 cases hi : implB h
 · have HF : Hid (specB h = false) := by show _ = _; rw [spec_impl]; exact hi
   clear hi
   go_wp2_with fail
   have b3 := ((bR1.out.set (i := 0) (.slice none 0 0)).set (i := 1) (.map none)).set (i := 2) (.pointer none)
   have e0 := b3.cell 0 rfl
   have e1 := b3.cell 1 rfl
   have e2 := b3.cell 2 rfl
   refine bodyPost_ret (v := .tuple #[.agg #[.slice none 0 0, .map none, .pointer none], .bool false]) (by simp [results, Tryz.results31, go_sem, e0, e1, e2]) rfl ?_
   exact ⟨Or.inl ⟨HF.out, rfl⟩, ((hB1.setCell (p := ⟨w.heap.size + 1, 0, none⟩) (by simp) _).setCell (p := ⟨w.heap.size + 1, 1, none⟩) (by simp) _).setCell (p := ⟨w.heap.size + 1, 2, none⟩) (by simp) _⟩
 have HS : Hid (specB h = true) := by show _ = _; rw [spec_impl]; exact hi
 have hi' : Hid (implB h = true) := hi
 have hN : Hid (h.vNodes.length ≤ 16) := (spec_parts HS.out).1
 have hO : Hid (h.vObjs.length ≤ 16) := objs_most HS.out
 clear hi
 go_wp2_with fail
 refine (unlinked_any hh'.out (h00.trans (hB1.mono h00.size)) (nodes_pos HS.out) hN.out hO.out (nodup_inj (idsD_nodup (impl_idx hi'.out))) (ids_ne_zero hi'.out)).mono ?_
 rintro e w2 ⟨o, Ts, bm, g, cap, rfl, ho0, ho1, hst, hbm, hb3⟩
 have hB2 : Below w.heap.size w w2 := hB1.trans (hb3.mono hB1.size)
 have hz3 : w1.heap.size ≤ w2.heap.size := hb3.size
 have hst' : Hid (ThSt (idsD h) w1.heap.size w2 o (idsD h).length Ts bm (.slice (some ⟨g, 0, none⟩) (idsD h).length cap)) := hst
 obtain ⟨⟨hids, hpl⟩, hap, hblk, hnew, hrow, hmap⟩ := hst
 have hids' : Hid (Ts.map ThD.id = idsD h) := by show _ = _; rw [hids, List.take_length]
 have hap' : Hid (Apart (o :: Ts)) := hap
 have hT : Hid (∀ k, (getI ThD.id Ts k).isSome = isT h k) := things_there hids'.out
 have ho0' : Hid (o.id = 0) := ho0
 have hgl : Hid (g < w2.heap.size ∧ w1.heap.size ≤ g) := by
  rcases hrow.2 with ⟨q, _⟩ | ⟨g', c', cur, q, q1, q2, _⟩
  · cases q
  · cases q; exact ⟨(Array.getElem?_eq_some_iff.1 q2).1, q1⟩
 have hml : Hid (bm < w2.heap.size) := hmap.lt
 obtain ⟨W3, hW3⟩ : ∃ W3, (w2.alloc (.cells (List.toArray [.slice (some ⟨g, 0, none⟩) (idsD h).length cap, .map (some bm), .pointer (some ⟨o.blk, 0, none⟩)]) 60)) = W3 := ⟨_, rfl⟩
 have hb4 : Below w2.heap.size w2 W3 := by rw [← hW3]; exact (Below.refl _ _).alloc (Nat.le_refl _) _
 have bG3 : Hid (Box W3 w2.heap.size [.slice (some ⟨g, 0, none⟩) (idsD h).length cap, .map (some bm), .pointer (some ⟨o.blk, 0, none⟩)] 60) := by rw [← hW3]; exact Box.new w2 _ _
 have hz4 : W3.heap.size = w2.heap.size + 1 := by rw [← hW3]; simp
 have hG3 : Hid (GSt (KK w1.heap.size bm g w2.heap.size) w1.heap.size W3 o Ts []) := by
  refine ThNew.gst (fun u hu => (hnew u hu).below hb4 (hnew u hu).lt) (fun u hu q => ?_) (fun b q => ?_)
  · have l1 := hblk u hu
    have l2 := (hnew u hu).lt
    rcases q with q | q | q | q
    · omega
    · obtain ⟨es, c, q1, _⟩ := hmap
      rw [← q, show w2.heap[u.blk]? = _ from hnew u hu] at q1
      cases q1
    · exact row_ne_box hrow (hnew u hu) (by decide) rfl q.symm
    · omega
  · have := hgl.out.1
    have := hml.out
    rcases q with q | q | q | q <;> omega
 have hM3 : Hid (PMap W3 bm Ts) := hmap.keep (hb4.block bm hmap.lt)
 have hB3 : Below w.heap.size w W3 := hB2.trans (hb4.mono hB2.size)
 have bH3 : Hid (Box W3 w.heap.size (cHp h a2 cap2 a3 cap3 a4 cap4) 28) := (bH1.out.below hb3 (by omega)).below hb4 (by omega)
 have bR3 : Hid (Box W3 (w.heap.size + 1) [.slice none 0 0, .map none, .pointer none] 60) := (bR1.out.below hb3 (by omega)).below hb4 (by omega)
 clear hids hpl hap hblk hnew hrow hmap ho0 ho1 hc0 hc1 hc2 hc3 hc4 r0 r1 r2 rf bH1 bR1
 have d2 := bH3.out.cell 2 rfl
 go_wp2_with fail
 have kbg : KK w1.heap.size bm g w2.heap.size w2.heap.size := Or.inr (Or.inr (Or.inr rfl))
 have kbm : KK w1.heap.size bm g w2.heap.size bm := Or.inr (Or.inl rfl)
 have klo : ∀ b, b < w1.heap.size → KK w1.heap.size bm g w2.heap.size b := fun b q => Or.inl q
 have hsz0 : w0.heap.size ≤ w.heap.size := h00.size
 have hold3 : ∀ b, b < w0.heap.size → W3.heap[b]? = w0.heap[b]? := fun b q => (h00.trans (hB3.mono h00.size)).block b q
 have kbg' : Hid (KK w1.heap.size bm g w2.heap.size w2.heap.size) := kbg
 have kbm' : Hid (KK w1.heap.size bm g w2.heap.size bm) := kbm
 have klo' : Hid (∀ b, b < w1.heap.size → KK w1.heap.size bm g w2.heap.size b) := klo
 have hold' : Hid (∀ b, b < w0.heap.size → W3.heap[b]? = w0.heap[b]?) := hold3
 have hsO : Hid (∀ x ∈ h.vNodes, x.vKids.length ≤ 1048576) := fun x hx => by
  obtain ⟨i, hi, rfl⟩ := List.getElem_of_mem hx
  obtain ⟨_, hk, _⟩ := hs'.out.1.2 i hi
  exact hk
 have hsF : Hid (∀ x ∈ h.vObjs, x.vFields.length ≤ 1048576) := fun x hx => by
  obtain ⟨i, hi, rfl⟩ := List.getElem_of_mem hx
  obtain ⟨hf, _⟩ := hs'.out.2.1.2 i hi
  exact hf.1
 clear kbg kbm klo hold3 d2
 go_loopw [20] (fun i wr => ∃ (j : Nat), j ≤ h.vNodes.length ∧ i = .int .i64 j ∧ Hid (GSt (KK w1.heap.size bm g w2.heap.size) w1.heap.size wr o Ts (accN (h.vNodes.take j))) ∧ Hid (KeepK (KK w1.heap.size bm g w2.heap.size) W3 wr)) (fun i _ => h.vNodes.length - (intOf i).toNat)
 case atStart => exact ⟨0, by omega, rfl, by simpa [accN] using hG3, KeepK.refl _ _⟩
 case round =>
  obtain ⟨j, hj, rfl, hGr, hKr⟩ := hrel
  have hszr : w2.heap.size + 1 ≤ wr.heap.size := by have := hKr.out.2.2.2.1; omega
  have hGs : Hid (∀ b, KK w1.heap.size bm g w2.heap.size b → b < wr.heap.size) := by obtain ⟨S, q⟩ := hGr.out; exact q.2.2
  have bG : Hid (Box wr w2.heap.size [.slice (some ⟨g, 0, none⟩) (idsD h).length cap, .map (some bm), .pointer (some ⟨o.blk, 0, none⟩)] 60) := (hKr.out.2.2.2.2 _ kbg'.out).trans bG3.out
  have hMr : Hid (PMap wr bm Ts) := hM3.out.keep (hKr.out.2.2.2.2 bm kbm'.out)
  have hold : Hid (∀ b, b < w0.heap.size → wr.heap[b]? = w0.heap[b]?) := fun b q => (hKr.out.2.2.2.2 b (klo'.out b (by omega))).trans (hold'.out b q)
  have hac : Hid ((accN (h.vNodes.take j)).length ≤ 33554432) := accN_len hs'.out hN.out j
  by_cases hlt : j < h.vNodes.length
  · obtain ⟨b, off, rfl, hlo, hbw2, hc⟩ := hx2'.out (by omega)
    obtain ⟨cs, hcl, lie, hr⟩ := hc j hlt
    have lie1 : Lie wr b (off + j * 6) cs := fun m hm => by rw [World.cell?_of_block (w := w0) (w' := wr) (hold.out b hbw2)]; exact lie m hm
    have hmem : Hid (h.vNodes[j] ∈ h.vNodes) := List.getElem_mem hlt
    have hstep : Hid _ := accN_step (xs := h.vNodes) hlt
    have hnode : Hid _ := linkA_node HS.out hmem.out
    have hkl : Hid _ := hsO.out _ hmem.out
    have hTk : Hid (isT h h.vNodes[j].vId = true) := mem_idsU.1 (List.mem_append_left _ (List.mem_map_of_mem hmem.out))
    generalize hQ : h.vNodes[j] = Q at hr hstep hmem hnode hkl hTk
    obtain ⟨p, hp⟩ := Option.isSome_iff_exists.1 ((hT.out Q.vId).trans hTk.out)
    obtain ⟨hpm, hpid⟩ := get_mem Ts p hp
    have hpm' : Hid (p ∈ o :: Ts) := List.mem_cons_of_mem _ hpm
    have hpid' : Hid (p.id = Q.vId) := hpid
    obtain ⟨g3, g5, rfl, v3, v5, _⟩ := hr
    have v3' : Hid (SeqAt 1 IntAt w0 lo g3 Q.vKids) := v3
    obtain ⟨p3, d3, rfl⟩ := v3.form
    obtain ⟨p5, d5, rfl⟩ := v5.form
    have z0 := lie_at lie1 0 rfl
    have z1 := lie_at lie1 1 rfl
    have z2 := lie_at lie1 2 rfl
    have z3 := lie_at lie1 3 rfl
    have z4 := lie_at lie1 4 rfl
    have z5 := lie_at lie1 5 rfl
    simp only [Nat.add_zero] at z0
    have hbn : Below wr.heap.size wr (wr.alloc (.cells (List.toArray (cNd Q p3 d3 p5 d5)) 73)) := (Below.refl _ _).alloc (Nat.le_refl _) _
    have hzn : (wr.alloc (.cells (List.toArray (cNd Q p3 d3 p5 d5)) 73)).heap.size = wr.heap.size + 1 := by simp
    have hG1 : Hid (GSt (fun b => KK w1.heap.size bm g w2.heap.size b ∨ b = wr.heap.size) w1.heap.size (wr.alloc (.cells (List.toArray (cNd Q p3 d3 p5 d5)) 73)) o Ts (accN (h.vNodes.take j))) := hGr.out.more hbn (fun b q => by rcases q with q | q; exact Or.inl q; exact Or.inr (by omega)) (fun b q => by rcases q with q | q; have := hGs.out b q; omega; omega)
    have hM1 : Hid (PMap (wr.alloc (.cells (List.toArray (cNd Q p3 d3 p5 d5)) 73)) bm Ts) := hMr.out.keep (hbn.block bm hMr.out.lt)
    have bN1 : Hid (Box (wr.alloc (.cells (List.toArray (cNd Q p3 d3 p5 d5)) 73)) wr.heap.size (cNd Q p3 d3 p5 d5) 73) := Box.new wr _ _
    have bG1 : Hid (Box (wr.alloc (.cells (List.toArray (cNd Q p3 d3 p5 d5)) 73)) w2.heap.size [.slice (some ⟨g, 0, none⟩) (idsD h).length cap, .map (some bm), .pointer (some ⟨o.blk, 0, none⟩)] 60) := bG.out.alloc _
    have hold1 : Hid (∀ b, b < w0.heap.size → (wr.alloc (.cells (List.toArray (cNd Q p3 d3 p5 d5)) 73)).heap[b]? = w0.heap[b]?) := fun b q => (hbn.block b (by omega)).trans (hold.out b q)
    have hk1 : Hid (KeepK (KK w1.heap.size bm g w2.heap.size) W3 (wr.alloc (.cells (List.toArray (cNd Q p3 d3 p5 d5)) 73))) := hKr.out.trans (KeepK.of_below hbn hGs.out)
    have hlook := run_lookP1 hM1.out Tryz.underlying57 hp
    have n0 := bN1.out.cell 0 rfl
    have n2 := bN1.out.cell 2 rfl
    have c0 := bG1.out.cell 0 rfl
    have c1 := bG1.out.cell 1 rfl
    have c2 := bG1.out.cell 2 rfl
    clear lie lie1 hcl hc hQ v3 v5 hp hpm hpid hbn
    go_wp2_with fail
    refine (link_one (B := wr.heap.size + 1) hzn (h := h) (tv := .slice (some ⟨g, 0, none⟩) (idsD h).length cap) (po := .pointer (some ⟨o.blk, 0, none⟩)) hap'.out hT.out hG1.out hM1.out (Or.inl kbm'.out) hpm'.out (by have := hac.out; omega) (by omega)).mono ?_
    rintro e w4 ⟨rfl, hL4, hK4⟩
    have hM4 : Hid (PMap w4 bm Ts) := hM1.out.keep (hK4.2.2.2.2 bm (Or.inl kbm'.out))
    have bN4 : Hid (Box w4 wr.heap.size (cNd Q p3 d3 p5 d5) 73) := (hK4.2.2.2.2 _ (Or.inr rfl)).trans bN1.out
    have bG4 : Hid (Box w4 w2.heap.size [.slice (some ⟨g, 0, none⟩) (idsD h).length cap, .map (some bm), .pointer (some ⟨o.blk, 0, none⟩)] 60) := (hK4.2.2.2.2 _ (Or.inl kbg'.out)).trans bG1.out
    have hold4 : Hid (∀ b, b < w0.heap.size → w4.heap[b]? = w0.heap[b]?) := fun b q => (hK4.2.2.2.2 b (Or.inl (klo'.out b (by omega)))).trans (hold1.out b q)
    have hk4 : Hid (KeepK (KK w1.heap.size bm g w2.heap.size) W3 w4) := hk1.out.trans (hK4.mono (fun b q => Or.inl q))
    have hz4' : wr.heap.size + 1 ≤ w4.heap.size := by have := hK4.2.2.2.1; omega
    have hL4' : Hid (GSt (fun b => KK w1.heap.size bm g w2.heap.size b ∨ b = wr.heap.size) w1.heap.size w4 o Ts (accN (h.vNodes.take j) ++ linkA h p.id [Q.vParent])) := hL4
    have hl4 : Hid ((accN (h.vNodes.take j) ++ linkA h p.id [Q.vParent]).length ≤ 33554434) := by show _ ≤ _; have := hac.out; have := linkA_len h p.id [Q.vParent]; simp at this ⊢; omega
    clear n0 n2 c0 c1 c2 hL4 hK4 hG1 hM1 bN1 bG1 hold1 hk1 hlook
    have n3 := bN4.out.cell 3 rfl
    have c0 := bG4.out.cell 0 rfl
    have c1 := bG4.out.cell 1 rfl
    have c2 := bG4.out.cell 2 rfl
    go_wp2_with fail
    refine (link_any (h := h) (tv := .slice (some ⟨g, 0, none⟩) (idsD h).length cap) (po := .pointer (some ⟨o.blk, 0, none⟩)) hap'.out hT.out hL4'.out hM4.out (Or.inl kbm'.out) hpm'.out (rowK_of v3'.out hkl.out hold4.out (fun b q => Or.inl (klo'.out b (by omega)))) (by have := hl4.out; have := hkl.out; omega) (by omega)).mono ?_
    rintro e w5 ⟨rfl, hL5, hK5⟩
    have hM5 : Hid (PMap w5 bm Ts) := hM4.out.keep (hK5.2.2.2.2 bm (Or.inl kbm'.out))
    have bN5 : Hid (Box w5 wr.heap.size (cNd Q p3 d3 p5 d5) 73) := (hK5.2.2.2.2 _ (Or.inr rfl)).trans bN4.out
    have bG5 : Hid (Box w5 w2.heap.size [.slice (some ⟨g, 0, none⟩) (idsD h).length cap, .map (some bm), .pointer (some ⟨o.blk, 0, none⟩)] 60) := (hK5.2.2.2.2 _ (Or.inl kbg'.out)).trans bG4.out
    have hk5 : Hid (KeepK (KK w1.heap.size bm g w2.heap.size) W3 w5) := hk4.out.trans (hK5.mono (fun b q => Or.inl q))
    have hz5' : wr.heap.size + 1 ≤ w5.heap.size := by have := hK5.2.2.2.1; omega
    have hL5' : Hid (GSt (fun b => KK w1.heap.size bm g w2.heap.size b ∨ b = wr.heap.size) w1.heap.size w5 o Ts (accN (h.vNodes.take j) ++ linkA h p.id [Q.vParent] ++ linkA h p.id Q.vKids)) := hL5
    have hl5 : Hid ((accN (h.vNodes.take j) ++ linkA h p.id [Q.vParent] ++ linkA h p.id Q.vKids).length ≤ 34603010) := by show _ ≤ _; have := hl4.out; have := linkA_len h p.id Q.vKids; have := hkl.out; rw [List.length_append]; omega
    clear n3 c0 c1 c2 hL5 hK5 hL4' hM4 bN4 bG4 hold4 hk4
    have n4 := bN5.out.cell 4 rfl
    have c0 := bG5.out.cell 0 rfl
    have c1 := bG5.out.cell 1 rfl
    have c2 := bG5.out.cell 2 rfl
    go_wp2_with fail
    refine (link_one (B := w5.heap.size) rfl (h := h) (tv := .slice (some ⟨g, 0, none⟩) (idsD h).length cap) (po := .pointer (some ⟨o.blk, 0, none⟩)) hap'.out hT.out hL5'.out hM5.out (Or.inl kbm'.out) hpm'.out (by have := hl5.out; omega) (by omega)).mono ?_
    rintro e w6 ⟨rfl, hL6, hK6⟩
    have hL6' : Hid (GSt (KK w1.heap.size bm g w2.heap.size) w1.heap.size w6 o Ts (accN (h.vNodes.take (j + 1)))) := by
     have e1 : accN (h.vNodes.take (j + 1)) = accN (h.vNodes.take j) ++ linkA h p.id [Q.vParent] ++ linkA h p.id Q.vKids ++ linkA h p.id [Q.vWrapper] := by
      rw [hstep.out, ← hnode.out, hpid'.out]; simp only [List.append_assoc]
     rw [e1]
     exact GSt.less hL6 (fun b q => Or.inl q)
    have hk6 : Hid (KeepK (KK w1.heap.size bm g w2.heap.size) W3 w6) := hk5.out.trans (hK6.mono (fun b q => Or.inl q))
    clear n4 c0 c1 c2 hL6 hK6 hL5' hM5 bN5 bG5 hk5
    have hn16 : h.vNodes.length ≤ 16 := hN.out
    go_wp2_with fail
    go_roundw
    case rel => exact ⟨j + 1, by omega, by go_num, hL6', hk6⟩
    case measure => simp [intOf]; omega
  obtain rfl : j = h.vNodes.length := by omega
  have hG2 : Hid (GSt (KK w1.heap.size bm g w2.heap.size) w1.heap.size wr o Ts (accN h.vNodes ++ accO (h.vObjs.take 0))) := by show GSt _ _ _ _ _ _; have q := hGr.out; rw [List.take_length] at q; simpa [accO] using q
  have hk2 : Hid (KeepK (KK w1.heap.size bm g w2.heap.size) W3 wr) := hKr.out
  have bHr : Box wr w.heap.size (cHp h a2 cap2 a3 cap3 a4 cap4) 28 := (hKr.out.2.2.2.2 _ (klo'.out _ (by omega))).trans bH3.out
  have d3 := bHr.cell 3 rfl
  clear hGr hKr hGs bG hMr hold hac bHr hx2' hszr hG3
  have haN : Hid ((accN h.vNodes).length ≤ 33554432) := by have q := accN_len hs'.out hN.out h.vNodes.length; rw [List.take_length] at q; exact q
  go_wp2_with fail
  go_loopw [50] (fun i wr => ∃ (j : Nat), j ≤ h.vObjs.length ∧ i = .int .i64 j ∧ Hid (GSt (KK w1.heap.size bm g w2.heap.size) w1.heap.size wr o Ts (accN h.vNodes ++ accO (h.vObjs.take j))) ∧ Hid (KeepK (KK w1.heap.size bm g w2.heap.size) W3 wr)) (fun i _ => h.vObjs.length - (intOf i).toNat)
  case atStart => exact ⟨0, by omega, rfl, hG2, hk2⟩
  case round =>
   clear hG2 hk2
   obtain ⟨j, hj, rfl, hGr, hKr⟩ := hrel
   have hszr : w2.heap.size + 1 ≤ wr.heap.size := by have := hKr.out.2.2.2.1; omega
   have hGs : Hid (∀ b, KK w1.heap.size bm g w2.heap.size b → b < wr.heap.size) := by obtain ⟨S, q⟩ := hGr.out; exact q.2.2
   have bG : Hid (Box wr w2.heap.size [.slice (some ⟨g, 0, none⟩) (idsD h).length cap, .map (some bm), .pointer (some ⟨o.blk, 0, none⟩)] 60) := (hKr.out.2.2.2.2 _ kbg'.out).trans bG3.out
   have hMr : Hid (PMap wr bm Ts) := hM3.out.keep (hKr.out.2.2.2.2 bm kbm'.out)
   have hold : Hid (∀ b, b < w0.heap.size → wr.heap[b]? = w0.heap[b]?) := fun b q => (hKr.out.2.2.2.2 b (klo'.out b (by omega))).trans (hold'.out b q)
   have hac : Hid ((accN h.vNodes ++ accO (h.vObjs.take j)).length ≤ 67108864) := by show _ ≤ _; have := accO_len hs'.out hO.out j; have := haN.out; rw [List.length_append]; omega
   by_cases hlt : j < h.vObjs.length
   · obtain ⟨b, off, rfl, hlo, hbw2, hc⟩ := hx3'.out (by omega)
     obtain ⟨cs, hcl, lie, hr⟩ := hc j hlt
     have lie1 : Lie wr b (off + j * 3) cs := fun m hm => by rw [World.cell?_of_block (w := w0) (w' := wr) (hold.out b hbw2)]; exact lie m hm
     have hmem : Hid (h.vObjs[j] ∈ h.vObjs) := List.getElem_mem hlt
     have hstep : Hid _ := accO_step (xs := h.vObjs) hlt
     have hnode : Hid _ := linkA_obj HS.out hmem.out
     have hkl : Hid _ := hsF.out _ hmem.out
     have hTk : Hid (isT h h.vObjs[j].vId = true) := mem_idsU.1 (List.mem_append_right _ (List.mem_map_of_mem hmem.out))
     generalize hQ : h.vObjs[j] = Q at hr hstep hmem hnode hkl hTk
     obtain ⟨p, hp⟩ := Option.isSome_iff_exists.1 ((hT.out Q.vId).trans hTk.out)
     obtain ⟨hpm, hpid⟩ := get_mem Ts p hp
     have hpm' : Hid (p ∈ o :: Ts) := List.mem_cons_of_mem _ hpm
     have hpid' : Hid (p.id = Q.vId) := hpid
     obtain ⟨g2, rfl, v2, _⟩ := hr
     have v2' : Hid (SeqAt 2 FieldAt w0 lo g2 Q.vFields) := v2
     obtain ⟨p2, d2, rfl⟩ := v2.form
     have z0 := lie_at lie1 0 rfl
     have z1 := lie_at lie1 1 rfl
     have z2 := lie_at lie1 2 rfl
     simp only [Nat.add_zero] at z0
     have hbn : Below wr.heap.size wr (wr.alloc (.cells (List.toArray (cOb Q p2 d2)) 75)) := (Below.refl _ _).alloc (Nat.le_refl _) _
     have hzn : (wr.alloc (.cells (List.toArray (cOb Q p2 d2)) 75)).heap.size = wr.heap.size + 1 := by simp
     have hG1 : Hid (GSt (fun b => KK w1.heap.size bm g w2.heap.size b ∨ b = wr.heap.size) w1.heap.size (wr.alloc (.cells (List.toArray (cOb Q p2 d2)) 75)) o Ts (accN h.vNodes ++ accO (h.vObjs.take j))) := hGr.out.more hbn (fun b q => by rcases q with q | q; exact Or.inl q; exact Or.inr (by omega)) (fun b q => by rcases q with q | q; have := hGs.out b q; omega; omega)
     have hM1 : Hid (PMap (wr.alloc (.cells (List.toArray (cOb Q p2 d2)) 75)) bm Ts) := hMr.out.keep (hbn.block bm hMr.out.lt)
     have bN1 : Hid (Box (wr.alloc (.cells (List.toArray (cOb Q p2 d2)) 75)) wr.heap.size (cOb Q p2 d2) 75) := Box.new wr _ _
     have bG1 : Hid (Box (wr.alloc (.cells (List.toArray (cOb Q p2 d2)) 75)) w2.heap.size [.slice (some ⟨g, 0, none⟩) (idsD h).length cap, .map (some bm), .pointer (some ⟨o.blk, 0, none⟩)] 60) := bG.out.alloc _
     have hold1 : Hid (∀ b, b < w0.heap.size → (wr.alloc (.cells (List.toArray (cOb Q p2 d2)) 75)).heap[b]? = w0.heap[b]?) := fun b q => (hbn.block b (by omega)).trans (hold.out b q)
     have hk1 : Hid (KeepK (KK w1.heap.size bm g w2.heap.size) W3 (wr.alloc (.cells (List.toArray (cOb Q p2 d2)) 75))) := hKr.out.trans (KeepK.of_below hbn hGs.out)
     have hlook := run_lookP1 hM1.out Tryz.underlying57 hp
     have n0 := bN1.out.cell 0 rfl
     have n1 := bN1.out.cell 1 rfl
     have c0 := bG1.out.cell 0 rfl
     have c1 := bG1.out.cell 1 rfl
     have c2 := bG1.out.cell 2 rfl
     clear lie lie1 hcl hc hQ v2 hp hpm hpid hbn
     go_wp2_with fail
     refine (link_one (B := wr.heap.size + 1) hzn (h := h) (tv := .slice (some ⟨g, 0, none⟩) (idsD h).length cap) (po := .pointer (some ⟨o.blk, 0, none⟩)) hap'.out hT.out hG1.out hM1.out (Or.inl kbm'.out) hpm'.out (by have := hac.out; omega) (by omega)).mono ?_
     rintro e w4 ⟨rfl, hL4, hK4⟩
     have hM4 : Hid (PMap w4 bm Ts) := hM1.out.keep (hK4.2.2.2.2 bm (Or.inl kbm'.out))
     have bN4 : Hid (Box w4 wr.heap.size (cOb Q p2 d2) 75) := (hK4.2.2.2.2 _ (Or.inr rfl)).trans bN1.out
     have bG4 : Hid (Box w4 w2.heap.size [.slice (some ⟨g, 0, none⟩) (idsD h).length cap, .map (some bm), .pointer (some ⟨o.blk, 0, none⟩)] 60) := (hK4.2.2.2.2 _ (Or.inl kbg'.out)).trans bG1.out
     have hold4 : Hid (∀ b, b < w0.heap.size → w4.heap[b]? = w0.heap[b]?) := fun b q => (hK4.2.2.2.2 b (Or.inl (klo'.out b (by omega)))).trans (hold1.out b q)
     have hk4 : Hid (KeepK (KK w1.heap.size bm g w2.heap.size) W3 w4) := hk1.out.trans (hK4.mono (fun b q => Or.inl q))
     have hz4' : wr.heap.size + 1 ≤ w4.heap.size := by have := hK4.2.2.2.1; omega
     have hL4' : Hid (GSt (fun b => KK w1.heap.size bm g w2.heap.size b ∨ b = wr.heap.size) w1.heap.size w4 o Ts (accN h.vNodes ++ accO (h.vObjs.take j) ++ linkA h p.id [Q.vNode])) := hL4
     have hl4 : Hid ((accN h.vNodes ++ accO (h.vObjs.take j) ++ linkA h p.id [Q.vNode]).length ≤ 67108866) := by show _ ≤ _; have := hac.out; have := linkA_len h p.id [Q.vNode]; rw [List.length_append]; simp at this; omega
     clear n0 n1 c0 c1 c2 hL4 hK4 hG1 hM1 bN1 bG1 hold1 hk1 hlook
     have n2 := bN4.out.cell 2 rfl
     have c0 := bG4.out.cell 0 rfl
     have c1 := bG4.out.cell 1 rfl
     have c2 := bG4.out.cell 2 rfl
     go_wp2_with fail
     refine (linkFields_any (h := h) (tv := .slice (some ⟨g, 0, none⟩) (idsD h).length cap) (po := .pointer (some ⟨o.blk, 0, none⟩)) hap'.out hT.out hL4'.out hM4.out (Or.inl kbm'.out) hpm'.out v2'.out hold4.out (fun b q => Or.inl (klo'.out b (by omega))) hkl.out (by have := hl4.out; have := hkl.out; omega) (by omega) ⟨_, _, _, rfl⟩ ⟨_, rfl⟩).mono ?_
     rintro e w6 ⟨rfl, hL6, hK6⟩
     have hL6' : Hid (GSt (KK w1.heap.size bm g w2.heap.size) w1.heap.size w6 o Ts (accN h.vNodes ++ accO (h.vObjs.take (j + 1)))) := by
      have e1 : accN h.vNodes ++ accO (h.vObjs.take (j + 1)) = accN h.vNodes ++ accO (h.vObjs.take j) ++ linkA h p.id [Q.vNode] ++ linkA h p.id (Q.vFields.map FieldD.vObj) := by
       rw [hstep.out, ← hnode.out, hpid'.out]; simp only [List.append_assoc]
      rw [e1]
      exact GSt.less hL6 (fun b q => Or.inl q)
     have hk6 : Hid (KeepK (KK w1.heap.size bm g w2.heap.size) W3 w6) := hk4.out.trans (hK6.mono (fun b q => Or.inl q))
     clear n2 c0 c1 c2 hL6 hK6 hL4' hM4 bN4 bG4 hk4 hold4
     have hn16 : h.vObjs.length ≤ 16 := hO.out
     go_wp2_with fail
     go_roundw
     case rel => exact ⟨j + 1, by omega, by go_num, hL6', hk6⟩
     case measure => simp [intOf]; omega
   obtain rfl : j = h.vObjs.length := by omega
   have hG2 : Hid (GSt (KK w1.heap.size bm g w2.heap.size) w1.heap.size wr o Ts (accN h.vNodes ++ accO h.vObjs)) := by have q := hGr.out; rw [List.take_length] at q; exact q
   have hl2 : Hid ((accN h.vNodes ++ accO h.vObjs).length ≤ 67108864) := by have q := hac.out; rw [List.take_length] at q; exact q
   have bHr : Hid (Box wr w.heap.size (cHp h a2 cap2 a3 cap3 a4 cap4) 28) := (hKr.out.2.2.2.2 _ (klo'.out _ (by omega))).trans bH3.out
   have hgL : Hid (h.vGlobals.length ≤ 1048576) := hs'.out.2.2.1.1
   clear hGr hac hx3'
   have x1 := bHr.out.cell 1 rfl
   have c0 := bG.out.cell 0 rfl
   have c1 := bG.out.cell 1 rfl
   have c2 := bG.out.cell 2 rfl
   have hom : Hid (o ∈ o :: Ts) := List.mem_cons_self
   go_wp2_with fail
   refine (link_one (B := wr.heap.size) rfl (h := h) (tv := .slice (some ⟨g, 0, none⟩) (idsD h).length cap) (po := .pointer (some ⟨o.blk, 0, none⟩)) hap'.out hT.out hG2.out hMr.out kbm'.out hom.out (by have := hl2.out; omega) (by omega)).mono ?_
   rintro e w4 ⟨rfl, hL4, hK4⟩
   have hM4 : Hid (PMap w4 bm Ts) := hMr.out.keep (hK4.2.2.2.2 bm kbm'.out)
   have bG4 : Hid (Box w4 w2.heap.size [.slice (some ⟨g, 0, none⟩) (idsD h).length cap, .map (some bm), .pointer (some ⟨o.blk, 0, none⟩)] 60) := (hK4.2.2.2.2 _ kbg'.out).trans bG.out
   have bH4 : Hid (Box w4 w.heap.size (cHp h a2 cap2 a3 cap3 a4 cap4) 28) := (hK4.2.2.2.2 _ (klo'.out _ (by omega))).trans bHr.out
   have hold4 : Hid (∀ b, b < w0.heap.size → w4.heap[b]? = w0.heap[b]?) := fun b q => (hK4.2.2.2.2 b (klo'.out b (by omega))).trans (hold.out b q)
   have hk4 : Hid (KeepK (KK w1.heap.size bm g w2.heap.size) W3 w4) := hKr.out.trans hK4
   have hz4' : w2.heap.size + 1 ≤ w4.heap.size := by have := hK4.2.2.2.1; omega
   have hL4' : Hid (GSt (KK w1.heap.size bm g w2.heap.size) w1.heap.size w4 o Ts (accN h.vNodes ++ accO h.vObjs ++ linkA h o.id [h.vDoc])) := hL4
   have hl4 : Hid ((accN h.vNodes ++ accO h.vObjs ++ linkA h o.id [h.vDoc]).length ≤ 67108866) := by show _ ≤ _; have := hl2.out; have := linkA_len h o.id [h.vDoc]; rw [List.length_append]; simp at this; omega
   clear x1 c0 c1 c2 hL4 hK4 hKr hGs bG hMr hold hG2 hl2 bHr
   have x4 := bH4.out.cell 4 rfl
   have c0 := bG4.out.cell 0 rfl
   have c1 := bG4.out.cell 1 rfl
   have c2 := bG4.out.cell 2 rfl
   go_wp2_with fail
   refine (linkFields_any (h := h) (tv := .slice (some ⟨g, 0, none⟩) (idsD h).length cap) (po := .pointer (some ⟨o.blk, 0, none⟩)) hap'.out hT.out hL4'.out hM4.out kbm'.out hom.out s4'.out hold4.out (fun b q => klo'.out b (by omega)) hgL.out (by have := hl4.out; have := hgL.out; omega) (by omega) ⟨_, _, _, rfl⟩ ⟨_, rfl⟩).mono ?_
   rintro e w5 ⟨rfl, hL5, hK5⟩
   have hM5 : Hid (PMap w5 bm Ts) := hM4.out.keep (hK5.2.2.2.2 bm kbm'.out)
   have bG5 : Hid (Box w5 w2.heap.size [.slice (some ⟨g, 0, none⟩) (idsD h).length cap, .map (some bm), .pointer (some ⟨o.blk, 0, none⟩)] 60) := (hK5.2.2.2.2 _ kbg'.out).trans bG4.out
   have hk5 : Hid (KeepK (KK w1.heap.size bm g w2.heap.size) W3 w5) := hk4.out.trans hK5
   have bR5 : Hid (Box w5 (w.heap.size + 1) [.slice none 0 0, .map none, .pointer none] 60) := (hk5.out.2.2.2.2 _ (klo'.out _ (by omega))).trans bR3.out
   have hL5' : Hid (GSt (KK w1.heap.size bm g w2.heap.size) w1.heap.size w5 o Ts (accG h)) := by
    have e1 : accG h = accN h.vNodes ++ accO h.vObjs ++ linkA h o.id [h.vDoc] ++ linkA h o.id (h.vGlobals.map FieldD.vObj) := by
     unfold accG
     rw [← linkA_root HS.out, ho0'.out]; simp only [List.append_assoc]
    rw [e1]; exact hL5
   have hz5' : w2.heap.size + 1 ≤ w5.heap.size := by have := hK5.2.2.2.1; omega
   clear x4 c0 c1 c2 hL5 hK5 hL4' hM4 bG4 hk4 bH4 hold4
   have c0 := bG5.out.cell 0 rfl
   have c1 := bG5.out.cell 1 rfl
   have c2 := bG5.out.cell 2 rfl
   have r0 := bR5.out.cell 0 rfl
   have r1 := bR5.out.cell 1 rfl
   have r2 := bR5.out.cell 2 rfl
   have rf := bR5.out.unfrozen
   go_wp2_with fail
   have b1 := bR5.out.set (i := 0) (.slice (some ⟨g, 0, none⟩) (idsD h).length cap)
   have b2 := b1.set (i := 1) (.map (some bm))
   have b3 := b2.set (i := 2) (.pointer (some ⟨o.blk, 0, none⟩))
   have e0 := b3.cell 0 rfl
   have e1 := b3.cell 1 rfl
   have e2 := b3.cell 2 rfl
   refine bodyPost_ret (v := .tuple #[.agg #[.slice (some ⟨g, 0, none⟩) (idsD h).length cap, .map (some bm), .pointer (some ⟨o.blk, 0, none⟩)], .bool true]) (by simp [results, Tryz.results31, go_sem, e0, e1, e2]) rfl ?_
   have hbm' : w1.heap.size ≤ bm := hbm
   have hfin : ∀ x, x ≠ w.heap.size + 1 → (((w5.setCell ⟨w.heap.size + 1, 0, none⟩ (.slice (some ⟨g, 0, none⟩) (idsD h).length cap)).setCell ⟨w.heap.size + 1, 1, none⟩ (.map (some bm))).setCell ⟨w.heap.size + 1, 2, none⟩ (.pointer (some ⟨o.blk, 0, none⟩))).heap[x]? = w5.heap[x]? := fun x hx => by rw [set_other hx, set_other hx, set_other hx]
   have hBw5 : Below w.heap.size w w5 := hB3.trans (KeepK.below hk5.out (fun b q => klo'.out b (by omega)))
   refine ⟨Or.inr ⟨HS.out, o, Ts, bm, g, cap, rfl, ho0'.out, ⟨hids'.out, hst'.out.1.2⟩, hap'.out, ?_, ?_, ?_, by omega⟩, ((hBw5.setCell (p := ⟨w.heap.size + 1, 0, none⟩) (by simp) _).setCell (p := ⟨w.heap.size + 1, 1, none⟩) (by simp) _).setCell (p := ⟨w.heap.size + 1, 2, none⟩) (by simp) _⟩
   · have q1 := GSt.keep hL5'.out (w' := ((w5.setCell ⟨w.heap.size + 1, 0, none⟩ (.slice (some ⟨g, 0, none⟩) (idsD h).length cap)).setCell ⟨w.heap.size + 1, 1, none⟩ (.map (some bm))).setCell ⟨w.heap.size + 1, 2, none⟩ (.pointer (some ⟨o.blk, 0, none⟩))) (by simp) (fun b _ hK => hfin b (fun q => hK (klo'.out b (by omega))))
     have q2 := GSt.less q1 (K' := fun b => b < w.heap.size ∨ b = bm ∨ b = g) (fun b q => by rcases q with q | q | q; exact klo'.out b (by omega); exact q ▸ kbm'.out; exact Or.inr (Or.inr (Or.inl q)))
     exact GSt.base q2 (by omega)
   · exact PMap.keep hM5.out (hfin bm (by omega))
   · have hrow := hst'.out.2.2.2.2.1
     refine World.ownsRow.mono (row_keep hrow (fun x hx => ?_)) (show w.heap.size ≤ w1.heap.size by omega)
     simp only [Value.ownBlock, Option.some.injEq] at hx
     subst hx
     have := hgl.out.2
     rw [hfin _ (by omega), hk5.out.2.2.2.2 _ (Or.inr (Or.inr (Or.inl rfl)))]
     exact hb4.block _ hgl.out.1
end Go.Proofs.YtdnembnlomnceaaGreat
