/- The specification's roots, and what is below some: walked. -/
import Derived.Test.YtdnembnlomnceaaAbb
import Derived.Test.YtdnembnlomnceaaBelowWalks
import Derived.Test.YtdnembnlomnceaaEdges
namespace Go.Proofs.Ytdnembnlomnceaa
open Go.RowKit
theorem row_seq {w : World} {base n : Nat} {v : Value} {xs : List Int} (h : w.ownsRow base 2 1 v n (xs.map fun n => .int .i64 n)) (hI : ∀ x ∈ xs, InI x) : SeqAt 1 IntAt w 0 v xs := by
 have hn : n = xs.length := by have := h.1; simp at this; omega
 subst hn
 rcases h.2 with ⟨rfl, e⟩ | ⟨g, cap, cur, rfl, hg, hh, h1, h2, h3, h4⟩
 · exact ⟨none, 0, by rw [e], ⟨by omega, by omega⟩, fun q => by omega⟩
 · refine ⟨_, _, rfl, ⟨Nat.le_trans h1 h2, h1⟩, fun _ => ⟨g, 0, rfl, Nat.zero_le _, (Array.getElem?_eq_some_iff.1 hh).1, fun i hi => ⟨[.int .i64 xs[i]], rfl, fun m hm => ?_, rfl, hI _ (List.getElem_mem hi)⟩⟩⟩
   obtain rfl : m = 0 := by simpa using hm
   have e : (cur.toList.take (xs.length * 1))[i]? = some (.int .i64 xs[i]) := by rw [h4]; simp [hi]
   rw [List.getElem?_take_of_lt (by omega)] at e
   rw [blk_cell hh]
   simpa using e
def belD (h : HeapD) (fs : List Int) : List Int := bel (edgesS h) (room (idsD h).length 1048578 [] fs) [] fs
theorem belD_def (h : HeapD) (fs : List Int) : belD h fs = bel (edgesS h) (room (idsD h).length 1048578 [] fs) [] fs := by unfold belD; exact Eq.refl _
theorem edges_there {h : HeapD} (e : specB h = true) {x : Int} (hx : x ∈ idsD h) : ∀ y ∈ edgesS h x, y ∈ idsD h := fun y hy => by
 rw [← holds_edges (spec_impl h ▸ e) (ids_ne_zero (spec_impl h ▸ e) x hx)] at hy
 exact mem_idsD.2 (mem_idsU.2 (holdsC_there e hy))
theorem edges_most {h : HeapD} (e : specB h = true) (hs : h.small) (x : Int) : (edgesS h x).length ≤ 1048578 := by
 have := edges_len hs x
 unfold edgesD at this
 rwa [if_pos e] at this
theorem idsD_in {w : World} {lo : Nat} {cs : List Value} {h : HeapD} (hh : HeapAt w lo cs h) : ∀ x ∈ idsD h, InI x := by
 obtain ⟨k2, k3, k4, _, s2, s3, _⟩ := hh
 intro x hx
 have hx := mem_idsD.1 hx
 unfold idsU at hx
 rcases List.mem_append.1 hx with q | q
 · obtain ⟨y, hy, rfl⟩ := List.mem_map.1 q
   obtain ⟨cy, g3, g5, _, _, _, rI, _⟩ := seq_recs s2 hy
   exact rI
 · obtain ⟨y, hy, rfl⟩ := List.mem_map.1 q
   obtain ⟨cy, g2, _, _, rI, _⟩ := seq_recs s3 hy
   exact rI
theorem roots_there {h : HeapD} (e : specB h = true) : ∀ x ∈ rootsD h, x ∈ idsD h := fun x hx => by
 have h1 : (0, x) ∈ accG h := by
  unfold accG
  exact List.mem_append_right _ (List.mem_map_of_mem hx)
 exact mem_idsD.2 (mem_idsU.2 (accG_there e _ h1))
theorem idsD_most {h : HeapD} (e : specB h = true) : (idsD h).length ≤ 32 := by
 rw [idsD_len]
 have h1 := (spec_parts e).1
 have h2 := objs_most e
 simp only [idsU, List.length_append, List.length_map]
 omega
/-- what it is: all that is reached, rising -/
theorem belD_is {h : HeapD} (e : specB h = true) (hs : h.small) {fs : List Int} (hf : ∀ x ∈ fs, x ∈ idsD h) : Rises (belD h fs) ∧ ∀ k, k ∈ belD h fs ↔ From (edgesS h) fs k :=
 by rw [belD_def]; exact bel_is (fun _ hx => edges_there e hx) (fun x _ => edges_most e hs x) _ _ _ (Nat.le_refl _) (BelInv.start hf)
set_option maxRecDepth 100000 in
set_option maxHeartbeats 2000000 in
theorem l5Roots_any {w : World} {lo : Nat} {cs : List Value} {h : HeapD} (hh : HeapAt w lo cs h) (hs : h.small) :
 Calls Try.prog 57 #[.agg cs.toArray] w fun e w' => (∃ g cap, e = .returned (.slice (some ⟨g, 0, none⟩) (rootsD h).length cap) ∧ w'.ownsRow w.heap.size 2 1 (.slice (some ⟨g, 0, none⟩) (rootsD h).length cap) (rootsD h).length ((rootsD h).map fun n => .int .i64 n)) ∧ Below w.heap.size w w' := by
 obtain ⟨k2, k3, k4, rfl, s2, s3, s4, rNext, rDoc, _⟩ := hh
 obtain ⟨a2, cap2, rfl⟩ := s2.form
 obtain ⟨a3, cap3, rfl⟩ := s3.form
 obtain ⟨a4, cap4, rfl, hm4, hx4⟩ := s4
 have hx4' : Hid _ := hx4
 have hgl : h.vGlobals.length ≤ 1048576 := hs.2.2.1.1
 clear hx4 s2 s3 rNext rDoc hm4 hs
 obtain ⟨iI, hiI, heI⟩ := Option.map_eq_some_iff.1 infoI64
 simp only [Prod.mk.injEq] at heI
 have hI : Hid _ := hiI
 have hE : Hid _ := heI
 clear hiI heI
 have hb2 : Below w.heap.size w ((w.alloc (.cells (List.toArray (cHp h a2 cap2 a3 cap3 a4 cap4)) 28)).alloc (.cells #[.int .i64 h.vDoc] 2)) := ((Below.refl _ _).alloc (Nat.le_refl _) _).alloc (by simp) _
 have bH0 : Hid (Box ((w.alloc (.cells (List.toArray (cHp h a2 cap2 a3 cap3 a4 cap4)) 28)).alloc (.cells #[.int .i64 h.vDoc] 2)) w.heap.size (cHp h a2 cap2 a3 cap3 a4 cap4) 28) := (Box.new w (cHp h a2 cap2 a3 cap3 a4 cap4) 28).alloc _
 have hr0 : Hid (((w.alloc (.cells (List.toArray (cHp h a2 cap2 a3 cap3 a4 cap4)) 28)).alloc (.cells #[.int .i64 h.vDoc] 2)).ownsRow (w.heap.size + 1) 2 1 (.slice (some ⟨w.heap.size + 1, 0, none⟩) 1 1) 1 [.int .i64 h.vDoc]) :=
  ⟨rfl, Or.inr ⟨_, _, #[.int .i64 h.vDoc], rfl, Nat.le_refl _, by have q := (MapKept.heap_alloc (w.alloc (.cells (List.toArray (cHp h a2 cap2 a3 cap3 a4 cap4)) 28)) (.cells #[.int .i64 h.vDoc] 2)).1; simpa using q, Nat.le_refl _, by unfold maxLen; omega, rfl, rfl⟩⟩
 go_enter Try.func57, Try.ntmps57
 go_wp2_with fail
 go_loopw [3, 4] (fun v i wr => ∃ (j : Nat), j ≤ h.vGlobals.length ∧ i = .int .i64 j ∧ Hid (wr.ownsRow (w.heap.size + 1) 2 1 v (1 + j) ((h.vDoc :: (h.vGlobals.take j).map FieldD.vObj).map fun n => .int .i64 n)) ∧ Hid (∃ g cap, v = .slice (some ⟨g, 0, none⟩) (1 + j) cap) ∧ Hid (Box wr w.heap.size (cHp h a2 cap2 a3 cap3 a4 cap4) 28) ∧ Below w.heap.size w wr) (fun _ i _ => h.vGlobals.length - (intOf i).toNat)
 case atStart => exact ⟨0, by omega, rfl, by show World.ownsRow _ _ _ _ _ _ _; simpa using hr0.out, ⟨_, _, rfl⟩, bH0, hb2⟩
 case round =>
  clear hr0 bH0 hb2
  obtain ⟨j, hj, rfl, hown, hform, bHr, hbr⟩ := hrel
  obtain ⟨gv, capv, rfl⟩ := hform.out
  clear hform
  have hzr : w.heap.size + 1 ≤ wr.heap.size := bHr.out.lt
  have c4 := bHr.out.cell 4 rfl
  by_cases hlt : j < h.vGlobals.length
  · obtain ⟨bf, offf, rfl, hlof, hbwf, hcf⟩ := hx4'.out (by omega)
    obtain ⟨csf, hclf, lief, hrf⟩ := hcf j hlt
    have lief1 := Lie.keep (lo := lo) (lo' := lo) lief (.of_below hbr) hlof hbwf
    have hstep : Hid ((h.vGlobals.take (j + 1)).map FieldD.vObj = (h.vGlobals.take j).map FieldD.vObj ++ [h.vGlobals[j].vObj]) := by show _ = _; rw [List.take_succ_eq_append_getElem hlt, List.map_append]; rfl
    generalize hF : h.vGlobals[j] = Fd at hrf hstep
    obtain ⟨rfl, _⟩ := hrf
    have y1 := lie_at lief1 1 rfl
    obtain ⟨L, hL⟩ : ∃ L, ((h.vDoc :: (h.vGlobals.take j).map FieldD.vObj).map fun n => Value.int .i64 n) = L := ⟨_, rfl⟩
    have hownL : Hid (wr.ownsRow (w.heap.size + 1) 2 1 (.slice (some ⟨gv, 0, none⟩) (1 + j) capv) (1 + j) L) := by rw [← hL]; exact hown
    have hL' : Hid _ := hL
    have hlt' : (j : Int) < (h.vGlobals.length : Int) := by omega
    clear hF hL lief lief1 hclf hcf
    go_wp2_with (at_builtin; refine wpList_append_own _ rfl _ _ 40 rfl (w.heap.size + 1) 2 iI (.int .i64 0) 1 8 Try.underlying40 hI.out hE.out.1 hE.out.2.2 hE.out.2.1 rfl (by decide) _ (1 + j) (L) rfl (hownL.out.alloc _) ⟨wr.heap.size, 0, none⟩ 1 1 [.int .i64 Fd.vObj] rfl rfl (by intro q u hq; match q, hq with | 0, hq => simp at hq; subst hq; simp [Addr.add]) (by simp [Value.oneCell']) (by unfold maxLen; omega) (by omega) (by simp; omega) ?_)
    intro v' w1' hown' hgrow hnl
    have hnn : v' ≠ .slice none 0 0 := fun q => by first | exact hnl q | (have := (hnl.1 q).2; omega)
    obtain ⟨g', cap', rfl⟩ := nonnil_row hown' hnn
    have hb3 : Below w.heap.size w w1' := (hbr.alloc hbr.size _).grown hgrow (by have := hbr.size; simp; omega) (fun k e => by have := own_block hownL.out k e; omega)
    have hb4 : Below (w.heap.size + 1) wr w1' := ((Below.refl _ _).alloc (by omega) _).grown hgrow (by simp; omega) (own_block hownL.out)
    have bH5 : Hid _ := bHr.out.below hb4 (by omega)
    have hown1 : Hid (w1'.ownsRow (w.heap.size + 1) 2 1 (.slice (some ⟨g', 0, none⟩) (1 + j + 1) cap') (1 + j + 1) (L ++ [.int .i64 Fd.vObj])) := hown'
    clear hown' hgrow hnn hnl
    go_wp2_with fail
    go_roundw
    case rel =>
     refine ⟨j + 1, by omega, by go_num, ?_, ?_, bH5.out, hb3⟩
     · show World.ownsRow _ _ _ _ _ _ _
       rw [hstep.out, ← List.cons_append, List.map_append, hL'.out]
       exact hown1.out
     · exact ⟨_, _, by first | rfl | simp only [Nat.add_assoc]⟩
    case measure => simp [intOf]; omega
  obtain rfl : j = h.vGlobals.length := by omega
  go_wp2_with fail
  go_ret
  have q := hown.out
  rw [List.take_length] at q
  have e1 : (rootsD h).length = 1 + h.vGlobals.length := by simp [rootsD]; omega
  rw [e1]
  exact ⟨⟨gv, capv, rfl, World.ownsRow.mono q (by omega)⟩, hbr⟩
end Go.Proofs.Ytdnembnlomnceaa
