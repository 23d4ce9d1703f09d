/- The specification's roots, and what is below some: walked. -/
import Derived.Test.YtdnembnlomnceaaGreatAbb
import Derived.Test.YtdnembnlomnceaaGreatBelowWalks
import Derived.Test.YtdnembnlomnceaaGreatEdgesTop
namespace Go.Proofs.YtdnembnlomnceaaGreat
open Go.RowKit
theorem row_seq {w : World} {base n : Nat} {v : Value} {xs : List Int} (h : w.ownsRow base 2 1 v n (xs.map fun n => .int .i64 n)) (hI : ∀ x ∈ xs, InI x) : SeqAt 1 IntAt w 0 v xs := by
 have hn : n = xs.length := by have := h.1; simp at this; omega
 subst hn
 rcases h.2 with ⟨rfl, e⟩ | ⟨g, cap, cur, rfl, hg, hh, h1, h2, h3, h4⟩
 · exact ⟨none, 0, by rw [e], ⟨by omega, by omega⟩, fun q => by omega⟩
 · refine ⟨_, _, rfl, ⟨Nat.le_trans h1 h2, h1⟩, fun _ => ⟨g, 0, rfl, Nat.zero_le _, (Array.getElem?_eq_some_iff.1 hh).1, fun i hi => ⟨[.int .i64 xs[i]], rfl, fun m hm => ?_, rfl, hI _ (List.getElem_mem hi)⟩⟩⟩
   obtain rfl : m = 0 := by simpa using hm
   have e : (cur.toList.take (xs.length * 1))[i]? = some (.int .i64 xs[i]) := by rw [h4]; simp [hi]
   rw [List.getElem?_take_of_lt (by omega)] at e
   rw [blk_cell hh]
   simpa using e
def belD (h : HeapD) (fs : List Int) : List Int := bel (edgesS h) (room (idsD h).length 1048578 [] fs) [] fs
theorem belD_def (h : HeapD) (fs : List Int) : belD h fs = bel (edgesS h) (room (idsD h).length 1048578 [] fs) [] fs := by unfold belD; exact Eq.refl _
theorem fuel_ok (h : HeapD) (fs : List Int) (hN : (idsD h).length ≤ 32) (hl : fs.length ≤ 2097152) : ∃ F, belD h fs = bel (edgesS h) F [] fs ∧ room (idsD h).length 1048578 [] fs ≤ F ∧ F ≤ 36700226 := by
 refine ⟨room (idsD h).length 1048578 [] fs, belD_def h fs, Nat.le_refl _, ?_⟩
 unfold room
 simp only [List.length_nil, Nat.sub_zero, Nat.reduceAdd]
 omega
theorem edges_there {h : HeapD} (e : specB h = true) {x : Int} (hx : x ∈ idsD h) : ∀ y ∈ edgesS h x, y ∈ idsD h := fun y hy => by
 rw [← holds_edges (spec_impl h ▸ e) (ids_ne_zero (spec_impl h ▸ e) x hx)] at hy
 exact mem_idsD.2 (mem_idsU.2 (holdsC_there e hy))
theorem edges_most {h : HeapD} (e : specB h = true) (hs : h.small) (x : Int) : (edgesS h x).length ≤ 1048578 := by
 have := edges_len hs x
 unfold edgesD at this
 rwa [if_pos e] at this
theorem idsD_in {w : World} {lo : Nat} {cs : List Value} {h : HeapD} (hh : HeapAt w lo cs h) : ∀ x ∈ idsD h, InI x := by
 obtain ⟨k2, k3, k4, _, s2, s3, _⟩ := hh
 intro x hx
 have hx := mem_idsD.1 hx
 unfold idsU at hx
 rcases List.mem_append.1 hx with q | q
 · obtain ⟨y, hy, rfl⟩ := List.mem_map.1 q
   obtain ⟨cy, g3, g5, _, _, _, rI, _⟩ := seq_recs s2 hy
   exact rI
 · obtain ⟨y, hy, rfl⟩ := List.mem_map.1 q
   obtain ⟨cy, g2, _, _, rI, _⟩ := seq_recs s3 hy
   exact rI
theorem idsD_most {h : HeapD} (e : specB h = true) : (idsD h).length ≤ 32 := by
 rw [idsD_len]
 have h1 := (spec_parts e).1
 have h2 := objs_most e
 simp only [idsU, List.length_append, List.length_map]
 omega
/-- what it is: all that is reached, rising -/
theorem belD_is {h : HeapD} (e : specB h = true) (hs : h.small) {fs : List Int} (hf : ∀ x ∈ fs, x ∈ idsD h) : Rises (belD h fs) ∧ ∀ k, k ∈ belD h fs ↔ From (edgesS h) fs k :=
 by rw [belD_def]; exact bel_is (fun _ hx => edges_there e hx) (fun x _ => edges_most e hs x) _ _ _ (Nat.le_refl _) (BelInv.start hf)
set_option maxRecDepth 100000 in
set_option maxHeartbeats 4000000 in
theorem l5Below_any {w : World} {lo : Nat} {cs : List Value} {h : HeapD} {k : Value} {fs : List Int} (hh : HeapAt w lo cs h) (hs : h.small) (hp : specB h = true) (hk : SeqAt 1 IntAt w lo k fs) (hfs : ∀ x ∈ fs, x ∈ idsD h) (hl : fs.length ≤ 2097152) :
 Calls Tryz.prog 30 #[.agg cs.toArray, k] w fun e w' => (∃ v, e = .returned v ∧ w'.ownsRow w.heap.size 2 1 v (belD h fs).length ((belD h fs).map fun n => .int .i64 n)) ∧ Below w.heap.size w w' := by
 have hh' : Hid (HeapAt w lo cs h) := hh
 have hs' : Hid h.small := hs
 have hp' : Hid (specB h = true) := hp
 have hk' : Hid (SeqAt 1 IntAt w lo k fs) := hk
 have hin : Hid (∀ x ∈ idsD h, InI x) := idsD_in hh
 have hN : Hid ((idsD h).length ≤ 32) := idsD_most hp
 have hi0 : Hid (BelInv (edgesS h) (idsD h) fs [] fs) := BelInv.start hfs
 obtain ⟨k2, k3, k4, rfl, s2, s3, s4, _⟩ := hh
 obtain ⟨a2, cap2, rfl⟩ := s2.form
 obtain ⟨a3, cap3, rfl⟩ := s3.form
 obtain ⟨a4, cap4, rfl⟩ := s4.form
 obtain ⟨ak, ck, rfl⟩ := hk.form
 clear s2 s3 s4 hk hs hp hfs
 obtain ⟨iI, hiI, heI⟩ := Option.map_eq_some_iff.1 infoI64
 simp only [Prod.mk.injEq] at heI
 have hI : Hid _ := hiI
 have hE : Hid _ := heI
 clear hiI heI
 have hbA : Below w.heap.size w (((w.alloc (.cells (List.toArray (cHp h a2 cap2 a3 cap3 a4 cap4)) 28)).alloc (.cells #[] 2)).alloc (.cells #[] 2)) := (((Below.refl _ _).alloc (Nat.le_refl _) _).alloc (by simp) _).alloc (by simp; omega) _
 have bHA : Hid (Box (((w.alloc (.cells (List.toArray (cHp h a2 cap2 a3 cap3 a4 cap4)) 28)).alloc (.cells #[] 2)).alloc (.cells #[] 2)) w.heap.size (cHp h a2 cap2 a3 cap3 a4 cap4) 28) := ((Box.new w (cHp h a2 cap2 a3 cap3 a4 cap4) 28).alloc _).alloc _
 have hoA : Hid ((((w.alloc (.cells (List.toArray (cHp h a2 cap2 a3 cap3 a4 cap4)) 28)).alloc (.cells #[] 2)).alloc (.cells #[] 2)).ownsRow (w.heap.size + 1) 2 1 (.slice (some ⟨w.heap.size + 1, 0, none⟩) 0 0) 0 []) := by
  have q := (row_start (w := (w.alloc (.cells (List.toArray (cHp h a2 cap2 a3 cap3 a4 cap4)) 28))) (B := w.heap.size + 1) (by simp)).alloc (.cells #[] 2)
  simpa only [World.size_alloc, Hid] using q
 have hwA : Hid ((((w.alloc (.cells (List.toArray (cHp h a2 cap2 a3 cap3 a4 cap4)) 28)).alloc (.cells #[] 2)).alloc (.cells #[] 2)).ownsRow (w.heap.size + 2) 2 1 (.slice (some ⟨w.heap.size + 1 + 1, 0, none⟩) 0 0) 0 []) := by
  have q := row_start (w := (w.alloc (.cells (List.toArray (cHp h a2 cap2 a3 cap3 a4 cap4)) 28)).alloc (.cells #[] 2)) (B := w.heap.size + 2) (by simp)
  simpa only [World.size_alloc, Hid] using q
 have hkA : Hid (SeqAt 1 IntAt (((w.alloc (.cells (List.toArray (cHp h a2 cap2 a3 cap3 a4 cap4)) 28)).alloc (.cells #[] 2)).alloc (.cells #[] 2)) lo (.slice ak fs.length ck) fs) := SeqAt.keep intAt_stays hk'.out (.of_below hbA)
 have hzA : (((w.alloc (.cells (List.toArray (cHp h a2 cap2 a3 cap3 a4 cap4)) 28)).alloc (.cells #[] 2)).alloc (.cells #[] 2)).heap.size = w.heap.size + 3 := by simp
 go_enter Tryz.func30, Tryz.ntmps30
 go_wp2_with (at_builtin; refine wpList_append_ints rfl _ _ 29 rfl (w.heap.size + 2) lo 2 iI Tryz.underlying29 hI.out hE.out.1 hE.out.2.2 hE.out.2.1 (.slice (some ⟨w.heap.size + 1 + 1, 0, none⟩) 0 0) (0) ([]) rfl (by simp) hwA.out _ (fs) rfl hkA.out (by omega) (by first | omega | (simp; omega) | simp) ?_)
 intro vB wB hownB hgrowB hnnB
 obtain ⟨gB, capB, rfl⟩ := nonnil_row hownB hnnB
 have hbB : Below (w.heap.size + 2) (((w.alloc (.cells (List.toArray (cHp h a2 cap2 a3 cap3 a4 cap4)) 28)).alloc (.cells #[] 2)).alloc (.cells #[] 2)) wB := (Below.refl _ _).grown hgrowB (by omega) (own_block hwA.out)
 have hBw : Below w.heap.size w wB := hbA.trans (hbB.mono (by omega))
 have bHB : Hid (Box wB w.heap.size (cHp h a2 cap2 a3 cap3 a4 cap4) 28) := bHA.out.below hbB (by omega)
 have hoB : Hid (wB.ownsRow (w.heap.size + 1) 2 1 (.slice (some ⟨w.heap.size + 1, 0, none⟩) 0 0) 0 []) := row_keep hoA.out (fun g q => by simp only [Value.ownBlock, Option.some.injEq] at q; subst q; exact hbB.block _ (by omega))
 have hwB : Hid (wB.ownsRow (w.heap.size + 1) 2 1 (.slice (some ⟨gB, 0, none⟩) fs.length capB) fs.length (fs.map fun n => .int .i64 n)) := by
  have q := World.ownsRow.mono hownB (show w.heap.size + 1 ≤ w.heap.size + 2 by omega)
  show World.ownsRow _ _ _ _ _ _ _
  simpa using q
 clear hownB hgrowB hnnB bHA hoA hwA hkA hzA
 go_wp2_with fail
 go_loopw [5, 6] (fun vo vw wr => ∃ (out work : List Int) (n : Nat), Hid (BelInv (edgesS h) (idsD h) fs out work) ∧ Hid (belD h fs = bel (edgesS h) n out work ∧ room (idsD h).length 1048578 out work ≤ n ∧ n ≤ 36700226) ∧ Hid (∃ g cap, vo = .slice (some ⟨g, 0, none⟩) out.length cap) ∧ Hid (∃ g cap, vw = .slice (some ⟨g, 0, none⟩) work.length cap) ∧ Hid (wr.ownsRow (w.heap.size + 1) 2 1 vo out.length (out.map fun n => .int .i64 n)) ∧ Hid (wr.ownsRow (w.heap.size + 1) 2 1 vw work.length (work.map fun n => .int .i64 n)) ∧ Hid (Box wr w.heap.size (cHp h a2 cap2 a3 cap3 a4 cap4) 28) ∧ Below w.heap.size w wr) (fun vo vw _ => ((idsD h).length - lenOf vo) * 1048579 + lenOf vw)
 case atStart =>
  obtain ⟨F, hF1, hF2, hF3⟩ := fuel_ok h fs hN.out hl
  exact ⟨[], fs, F, hi0, ⟨hF1, hF2, hF3⟩, ⟨_, _, rfl⟩, ⟨_, _, rfl⟩, hoB, hwB, bHB, hBw⟩
 case round =>
  clear hi0 hoB hwB bHB hBw hbA hbB
  obtain ⟨out, work, n, hinv, hfuel, hfo, hfw, hro, hrw, bHr, hbr⟩ := hrel
  obtain ⟨go, capo, rfl⟩ := hfo.out
  obtain ⟨gw, capw, rfl⟩ := hfw.out
  clear hfo hfw
  have hzr : w.heap.size + 1 ≤ wr.heap.size := bHr.out.lt
  have hgo : go < wr.heap.size := row_lt' hro.out rfl
  have hroom : Hid (room (idsD h).length 1048578 out work ≤ 36700226) := Nat.le_trans hfuel.out.2.1 hfuel.out.2.2
  have hwl : work.length ≤ 36700226 := by have q := hroom.out; unfold room at q; omega
  have hIw : Hid (∀ x ∈ work, InI x) := fun x hx => hin.out x (hinv.out.2.2.1 x hx).1
  have hIo : Hid (∀ x ∈ out, InI x) := fun x hx => hin.out x (hinv.out.2.1 x hx).1
  have hol : out.length ≤ 32 := by
   have q := nodup_len out (idsD h) (lt_nodup hinv.out.1) (fun x hx => (hinv.out.2.1 x hx).1)
   have := hN.out
   omega
  cases work with
  | nil =>
   have HB : Hid (belD h fs = out) := by show _ = _; rw [hfuel.out.1, bel_end]
   go_wp2_with fail
   go_ret
   exact ⟨⟨_, rfl, by rw [HB.out]; exact World.ownsRow.mono hro.out (by omega)⟩, hbr⟩
  | cons k0 rest =>
   have hk0 : Hid (k0 ∈ idsD h) := (hinv.out.2.2.1 k0 List.mem_cons_self).1
   obtain ⟨g', eg, z0⟩ := row_get hrw.out (j := 0) (by simp) (x := .int .i64 k0) rfl
   injection eg with eg
   injection eg with eg _ _
   subst eg
   have hsq : SeqAt 1 IntAt wr 0 (.slice (some ⟨gw, 0, none⟩) (k0 :: rest).length capw) (k0 :: rest) := row_seq hrw.out hIw.out
   have hpt : Hid (SeqAt 1 IntAt wr 0 (sliced (some ⟨gw, 0, none⟩) 1 (k0 :: rest).length capw 1) rest) := by
    have q := hsq.part 1 (k0 :: rest).length (by simp) (Nat.le_refl _)
    rw [List.take_length] at q
    exact q
   have hsl : ∀ W : World, Sem.run Tryz.prog (Instr.sliceAt 29 (.slice (some ⟨gw, 0, none⟩) (k0 :: rest).length capw) (some (.int .i64 1)) none none) W = .ok (sliced (some ⟨gw, 0, none⟩) 1 (k0 :: rest).length capw 1) W := run_rest (j := 1) (by simp)
   obtain ⟨A2, C2, hV2⟩ : ∃ A2 C2, sliced (some ⟨gw, 0, none⟩) 1 (k0 :: rest).length capw 1 = .slice A2 rest.length C2 := ⟨_, _, rfl⟩
   rw [hV2] at hsl hpt
   have hlr : (k0 :: rest).length = rest.length + 1 := rfl
   have hrl : rest.length ≤ 36700226 := by simp at hwl; omega
   rw [hlr] at hsl hrw
   have hst : Hid ((wr.alloc (.cells #[] 2)).ownsRow wr.heap.size 2 1 (.slice (some ⟨wr.heap.size, 0, none⟩) 0 0) 0 []) := row_start (Nat.le_refl _)
   have hbq : Below wr.heap.size wr (wr.alloc (.cells #[] 2)) := (Below.refl _ _).alloc (Nat.le_refl _) _
   have hptq : Hid (SeqAt 1 IntAt (wr.alloc (.cells #[] 2)) 0 (.slice A2 rest.length C2) rest) := SeqAt.keep intAt_stays hpt.out (.of_below hbq)
   clear hsq hpt hV2 hwl
   go_wp2_with (at_builtin; refine wpList_append_ints rfl _ _ 29 rfl (wr.heap.size) 0 2 iI Tryz.underlying29 hI.out hE.out.1 hE.out.2.2 hE.out.2.1 (.slice (some ⟨wr.heap.size, 0, none⟩) 0 0) (0) ([]) rfl (by simp) hst.out _ (rest) rfl hptq.out (by omega) (by first | omega | (simp; omega) | simp) ?_)
   intro v1 w1 hown1 hgrow1 hnn1
   obtain ⟨g1, cap1, rfl⟩ := nonnil_row hown1 hnn1
   have hb1 : Below wr.heap.size wr w1 := hbq.grown hgrow1 (by simp) (own_block hst.out)
   have hr1 : Hid (w1.ownsRow wr.heap.size 2 1 (.slice (some ⟨g1, 0, none⟩) rest.length cap1) rest.length (rest.map fun n => .int .i64 n)) := by show World.ownsRow _ _ _ _ _ _ _; simpa using hown1
   have hro1 : Hid (w1.ownsRow (w.heap.size + 1) 2 1 (.slice (some ⟨go, 0, none⟩) out.length capo) out.length (out.map fun n => .int .i64 n)) := own_below hro.out hb1
   have bH1 : Hid (Box w1 w.heap.size (cHp h a2 cap2 a3 cap3 a4 cap4) 28) := bHr.out.below hb1 (by omega)
   have hbr1 : Below w.heap.size w w1 := hbr.trans (hb1.mono hbr.size)
   have hsq1 : Hid (SeqAt 1 IntAt w1 0 (.slice (some ⟨go, 0, none⟩) out.length capo) out) := row_seq hro1.out hIo.out
   have hz1 := hb1.size
   clear hown1 hgrow1 hnn1 hst hptq hsl z0 hro hrw
   go_wp2_with fail
   refine (l2Has_any hsq1.out).mono ?_
   rintro e w1' ⟨rfl, hw1⟩
   rw [hw1]
   clear hw1 w1'
   cases hhas : hasB out k0
   rotate_left
   · have hinv2 : Hid (BelInv (edgesS h) (idsD h) fs out rest) := hinv.out.skip hhas
     have hfuel2 : Hid (belD h fs = bel (edgesS h) (n - 1) out rest ∧ room (idsD h).length 1048578 out rest ≤ n - 1 ∧ n - 1 ≤ 36700226) := by
      obtain ⟨f1, f2, f3⟩ := hfuel.out
      have hr := room_skip (N := (idsD h).length) (M := 1048578) (out := out) (work := rest) (k := k0)
      refine ⟨?_, by omega, by omega⟩
      rw [f1, show n = (n - 1) + 1 by omega, bel_skip hhas]; rfl
     clear hhas
     go_wp2_with fail
     go_roundw
     case rel => exact ⟨out, rest, n - 1, hinv2, hfuel2, ⟨_, _, rfl⟩, ⟨_, _, rfl⟩, hro1, World.ownsRow.mono hr1.out (by omega), bH1, hbr1⟩
     case measure => simp [lenOf]
   have hhas' : Hid (hasB out k0 = false) := hhas
   have hless : Hid (out.length < (idsD h).length) := hinv.out.less hhas
   have hinv2 : Hid (BelInv (edgesS h) (idsD h) fs (insR out k0) (rest ++ edgesS h k0)) := hinv.out.put (fun _ hx => edges_there hp'.out hx) hhas
   have hem : Hid ((edgesS h k0).length ≤ 1048578) := edges_most hp'.out hs'.out k0
   have hfuel2 : Hid (belD h fs = bel (edgesS h) (n - 1) (insR out k0) (rest ++ edgesS h k0) ∧ room (idsD h).length 1048578 (insR out k0) (rest ++ edgesS h k0) ≤ n - 1 ∧ n - 1 ≤ 36700226) := by
    obtain ⟨f1, f2, f3⟩ := hfuel.out
    have hr := room_put (N := (idsD h).length) (M := 1048578) (work := rest) (es := edgesS h k0) (k := k0) hless.out hem.out
    refine ⟨?_, by omega, by omega⟩
    rw [f1, show n = (n - 1) + 1 by omega, bel_put hhas]; rfl
   clear hhas hinv hfuel
   go_wp2_with fail
   refine (l5Put_any hsq1.out (by omega) hhas'.out).mono ?_
   rintro e w2 ⟨⟨g2, cap2', rfl, hown2⟩, hb2⟩
   have hr2 : Hid (w2.ownsRow w1.heap.size 2 1 (.slice (some ⟨g2, 0, none⟩) (out.length + 1) cap2') (out.length + 1) ((insR out k0).map fun n => .int .i64 n)) := hown2
   have hr1b : Hid (w2.ownsRow wr.heap.size 2 1 (.slice (some ⟨g1, 0, none⟩) rest.length cap1) rest.length (rest.map fun n => .int .i64 n)) := own_below hr1.out hb2
   have hbr2 : Below w.heap.size w w2 := hbr1.trans (hb2.mono hbr1.size)
   have bH2 : Hid (Box w2 w.heap.size (cHp h a2 cap2 a3 cap3 a4 cap4) 28) := bH1.out.below hb2 (by omega)
   have hz2 := hb2.size
   have hg1 : g1 < w1.heap.size := row_lt' hr1.out rfl
   obtain ⟨d0, d1, d2, d3, d4⟩ := fv5 bH2.out
   clear hown2 hb2 bH1 hsq1 hro1
   go_wp2_with fail
   refine (l5Edges_any (id := k0) (HeapAt_stays _ _ _ lo _ _ (.of_below hbr2) hh'.out) hs'.out).mono ?_
   rintro e w3 ⟨⟨v3, rfl, hown3⟩, hb3⟩
   have hIe : Hid (∀ x ∈ edgesS h k0, InI x) := edges_in hh'.out
   have hsq3 : Hid (SeqAt 1 IntAt w3 0 v3 (edgesS h k0)) := row_seq hown3 hIe.out
   obtain ⟨a3', c3', rfl⟩ := own_forms hown3
   have hr3 : Hid (w3.ownsRow wr.heap.size 2 1 (.slice (some ⟨g1, 0, none⟩) rest.length cap1) rest.length (rest.map fun n => .int .i64 n)) := own_below hr1b.out hb3
   have hr2b : Hid (w3.ownsRow w1.heap.size 2 1 (.slice (some ⟨g2, 0, none⟩) (out.length + 1) cap2') (out.length + 1) ((insR out k0).map fun n => .int .i64 n)) := own_below hr2.out hb3
   have hbr3 : Below w.heap.size w w3 := hbr2.trans (hb3.mono hbr2.size)
   have bH3 : Hid (Box w3 w.heap.size (cHp h a2 cap2 a3 cap3 a4 cap4) 28) := bH2.out.below hb3 (by omega)
   have hz3 := hb3.size
   have hg2 : w1.heap.size ≤ g2 := own_block hr2.out g2 rfl
   have hg2l : g2 < w3.heap.size := row_lt' hr2b.out rfl
   have hel : (edgesS h k0).length ≤ 1048578 := hem.out
   obtain ⟨ES, hES⟩ : ∃ ES, edgesS h k0 = ES := ⟨_, rfl⟩
   rw [hES] at hsq3 hel hinv2 hfuel2
   rw [hES]
   clear hown3 hb3 bH2 hr1b hr2 d0 d1 d2 d3 d4 hES hem hIe hr1
   go_wp2_with (at_builtin; refine wpList_append_ints rfl _ _ 29 rfl (wr.heap.size) 0 2 iI Tryz.underlying29 hI.out hE.out.1 hE.out.2.2 hE.out.2.1 (.slice (some ⟨g1, 0, none⟩) rest.length cap1) (rest.length) (rest.map fun n => .int .i64 n) rfl (by simp) hr3.out _ (ES) rfl hsq3.out (by omega) (by first | omega | (simp; omega) | simp) ?_)
   intro v4 w4 hown4 hgrow4 hnn4
   obtain ⟨g4, cap4', rfl⟩ := nonnil_row hown4 hnn4
   have hb4 : Below w.heap.size w w4 := hbr3.grown hgrow4 hbr3.size (fun k e => by have := own_block hr3.out k e; omega)
   have bH4 : Hid (Box w4 w.heap.size (cHp h a2 cap2 a3 cap3 a4 cap4) 28) := (hgrow4.block _ bH3.out.lt (fun q => by have := own_block hr3.out _ q.symm; omega)).trans bH3.out
   have hr4 : Hid (w4.ownsRow (w.heap.size + 1) 2 1 (.slice (some ⟨g2, 0, none⟩) (insR out k0).length cap2') (insR out k0).length ((insR out k0).map fun n => .int .i64 n)) := by
    rw [insR_len]
    refine World.ownsRow.mono (row_keep hr2b.out (fun g q => ?_)) (show w.heap.size + 1 ≤ w1.heap.size by omega)
    simp only [Value.ownBlock, Option.some.injEq] at q
    subst q
    exact hgrow4.block _ hg2l (fun q => by simp only [Value.ownBlock, Option.some.injEq] at q; omega)
   have hw4 : Hid (w4.ownsRow (w.heap.size + 1) 2 1 (.slice (some ⟨g4, 0, none⟩) (rest ++ ES).length cap4') (rest ++ ES).length ((rest ++ ES).map fun n => .int .i64 n)) := by
    rw [List.length_append, List.map_append]
    exact World.ownsRow.mono hown4 (show w.heap.size + 1 ≤ wr.heap.size by omega)
   clear hown4 hgrow4 hnn4
   have hless' := hless.out
   go_wp2_with fail
   go_roundw
   case rel => exact ⟨insR out k0, rest ++ ES, n - 1, hinv2, hfuel2, ⟨_, _, by rw [insR_len]⟩, ⟨_, _, by rw [List.length_append]⟩, by rw [insR_len] at hr4 ⊢; exact hr4, by rw [List.length_append] at hw4 ⊢; exact hw4, bH4, hb4⟩
   case measure =>
    simp only [lenOf, List.length_cons]
    have e : (idsD h).length - out.length = ((idsD h).length - (out.length + 1)) + 1 := by omega
    rw [e, Nat.add_mul, Nat.one_mul]
    omega
end Go.Proofs.YtdnembnlomnceaaGreat
