/- CountsOf, of the program: walked. -/
import Derived.Test.YtdnembnlomnceaaAbb
import Derived.Test.YtdnembnlomnceaaCountWalks
import Derived.Deep.AppendLies
import Derived.Deep.RegionHeld3
namespace Go.Proofs.Ytdnembnlomnceaa
open Go.RowKit
theorem infoCount : ((Try.prog.info? 54).map fun i => (i.zero, i.bytes, i.size)) = some (some (.agg #[.int .i64 0, .int .i64 0]), 16, 2) := by kernel_rfl
set_option maxRecDepth 100000 in
set_option maxHeartbeats 3200000 in
theorem implCountsOf_any {w : World} {lo : Nat} {cs : List Value} {h : HeapD} (hh : HeapAt w lo cs h) (hs : h.small) :
 Calls Try.prog 29 #[.agg cs.toArray] w fun e w' => (∃ v fs, e = .returned v ∧ SeqOwn 2 CountOwn w' v (countsD h) fs ∧ ∀ b ∈ fs, w.heap.size ≤ b) ∧ Below w.heap.size w w' := by
 obtain ⟨iC, hiC, heC⟩ := Option.map_eq_some_iff.1 infoCount
 simp only [Prod.mk.injEq] at heC
 have hC : Hid _ := hiC
 have hEC : Hid _ := heC
 clear hiC heC
 have hh' : Hid (HeapAt w lo cs h) := hh
 have hs' : Hid h.small := hs
 obtain ⟨k2, k3, k4, rfl, s2, s3, s4, _⟩ := hh
 obtain ⟨a2, cap2, rfl⟩ := s2.form
 obtain ⟨a3, cap3, rfl⟩ := s3.form
 obtain ⟨a4, cap4, rfl⟩ := s4.form
 clear s2 s3 s4 hs
 have hb1 : Below w.heap.size w (w.alloc (.cells (List.toArray (cHp h a2 cap2 a3 cap3 a4 cap4)) 28)) := (Below.refl _ _).alloc (Nat.le_refl _) _
 have bH0 : Hid (Box (w.alloc (.cells (List.toArray (cHp h a2 cap2 a3 cap3 a4 cap4)) 28)) w.heap.size (cHp h a2 cap2 a3 cap3 a4 cap4) 28) := Box.new w (cHp h a2 cap2 a3 cap3 a4 cap4) 28
 go_enter Try.func29, Try.ntmps29
 go_wp2_with fail
 refine (rightGraph_any hh'.out hb1 hs'.out).mono ?_
 rintro e w1 ⟨hres, hb2⟩
 have hB2 : Below w.heap.size w w1 := hb1.trans (hb2.mono hb1.size)
 rcases hres with ⟨hp, rfl⟩ | ⟨hp, o, Ts, bm, g, cap, rfl, hg⟩
 · have HF : Hid (countsD h = []) := by show _ = _; simp [countsD, hp]
   clear hp
   go_wp2_with fail
   go_ret
   exact ⟨⟨_, [], rfl, by rw [HF.out]; exact countsOwn_none _, by simp⟩, hB2.alloc hB2.size _⟩
 obtain ⟨ho0, ⟨hids, hpl⟩, hap, hG, hM, hrow, hbm⟩ := hg
 have HF : Hid (countsD h = countD h) := by show _ = _; simp [countsD, hp]
 have hI : Hid (∀ x ∈ countD h, InI x.vId ∧ InI x.vN) := countD_in hh'.out hp hs'.out
 have hids' : Hid (Ts.map ThD.id = idsD h) := hids
 have hTl : Hid (Ts.length = (idsD h).length) := by show _ = _; rw [← hids, List.length_map]
 have hN : (idsD h).length ≤ 32 := idsD_most hp
 have hb3 : Below w1.heap.size w1 (w1.alloc (.cells #[.slice (some ⟨g, 0, none⟩) (idsD h).length cap, .map (some bm), .pointer (some ⟨o.blk, 0, none⟩)] 95)) := (Below.refl _ _).alloc (Nat.le_refl _) _
 have hB3 : Below w.heap.size w (w1.alloc (.cells #[.slice (some ⟨g, 0, none⟩) (idsD h).length cap, .map (some bm), .pointer (some ⟨o.blk, 0, none⟩)] 95)) := hB2.alloc hB2.size _
 have bG := Box.new w1 (Array.toList #[.slice (some ⟨g, 0, none⟩) (idsD h).length cap, .map (some bm), .pointer (some ⟨o.blk, 0, none⟩)]) 95
 have c0 : (w1.alloc (.cells #[.slice (some ⟨g, 0, none⟩) (idsD h).length cap, .map (some bm), .pointer (some ⟨o.blk, 0, none⟩)] 95)).cell? ⟨w1.heap.size, 0, none⟩ = some (.slice (some ⟨g, 0, none⟩) (idsD h).length cap) := bG.cell 0 rfl
 have hbox : Hid (∀ u ∈ Ts, (w1.alloc (.cells #[.slice (some ⟨g, 0, none⟩) (idsD h).length cap, .map (some bm), .pointer (some ⟨o.blk, 0, none⟩)] 95)).cell? ⟨u.blk, 0, none⟩ = some (.int .i64 u.id) ∧ (w1.alloc (.cells #[.slice (some ⟨g, 0, none⟩) (idsD h).length cap, .map (some bm), .pointer (some ⟨o.blk, 0, none⟩)] 95)).cell? ⟨u.blk, 3, none⟩ = some (.int .i64 (heldC (accG h) u.id))) := fun u hu => by
  obtain ⟨S2, hS2⟩ := hG.below hb3
  have q := (hS2.1 u (List.mem_cons_of_mem _ hu)).1
  exact ⟨q.cell 0 rfl, q.cell 3 rfl⟩
 have hrow' : Hid ((w1.alloc (.cells #[.slice (some ⟨g, 0, none⟩) (idsD h).length cap, .map (some bm), .pointer (some ⟨o.blk, 0, none⟩)] 95)).ownsRow (w.alloc (.cells (List.toArray (cHp h a2 cap2 a3 cap3 a4 cap4)) 28)).heap.size 93 1 (.slice (some ⟨g, 0, none⟩) (idsD h).length cap) (idsD h).length (Ts.map fun t => .pointer (some ⟨t.blk, 0, none⟩))) := hrow.alloc _
 clear bG hp hap hpl hrow ho0 hids hG hM hbm hb3 bH0
 go_wp2_with fail
 go_loopw [5, 18] (fun v i wr => ∃ (j : Nat), j ≤ (idsD h).length ∧ i = .int .i64 j ∧ Hid (wr.ownsRow (w1.alloc (.cells #[.slice (some ⟨g, 0, none⟩) (idsD h).length cap, .map (some bm), .pointer (some ⟨o.blk, 0, none⟩)] 95)).heap.size 54 2 v j (cellsC ((countD h).take j))) ∧ Hid (∃ a cap, v = .slice a j cap) ∧ Below (w1.alloc (.cells #[.slice (some ⟨g, 0, none⟩) (idsD h).length cap, .map (some bm), .pointer (some ⟨o.blk, 0, none⟩)] 95)).heap.size (w1.alloc (.cells #[.slice (some ⟨g, 0, none⟩) (idsD h).length cap, .map (some bm), .pointer (some ⟨o.blk, 0, none⟩)] 95)) wr) (fun _ i _ => (idsD h).length - (intOf i).toNat)
 case atStart => exact ⟨0, by omega, rfl, World.ownsRow_nil _ _ _ _, ⟨_, _, rfl⟩, Below.refl _ _⟩
 case round =>
  obtain ⟨j, hj, rfl, hown, hform, hb⟩ := hrel
  obtain ⟨a5, cap5, rfl⟩ := hform.out
  clear hform
  have hz := hb.size
  by_cases hlt : j < (idsD h).length
  · have hjT : j < Ts.length := by have := hTl.out; omega
    obtain ⟨g', eg, z0⟩ := row_get hrow'.out hlt (x := .pointer (some ⟨Ts[j].blk, 0, none⟩)) (by simp [hjT])
    injection eg with eg
    injection eg with eg _ _
    subst eg
    have z0 := cell_on hb z0
    have z1 := cell_on hb (hbox.out Ts[j] (List.getElem_mem hjT)).1
    have z2 := cell_on hb (hbox.out Ts[j] (List.getElem_mem hjT)).2
    have hidj : Ts[j].id = (idsD h)[j] := by
     have q : (Ts.map ThD.id)[j]'(by simpa using hjT) = (idsD h)[j] := by simp only [hids'.out]
     rw [← q, List.getElem_map]
    have hstep : Hid (cellsC ((countD h).take (j + 1)) = cellsC ((countD h).take j) ++ [.int .i64 Ts[j].id, .int .i64 (heldC (accG h) Ts[j].id)]) := by show _ = _; rw [countD_step hlt, cellsC_snoc, hidj]
    have hQb : Ts[j].blk < (w1.alloc (.cells #[.slice (some ⟨g, 0, none⟩) (idsD h).length cap, .map (some bm), .pointer (some ⟨o.blk, 0, none⟩)] 95)).heap.size := World.block_lt_of_cell? _ _ (hbox.out Ts[j] (List.getElem_mem hjT)).1
    generalize hQ : Ts[j] = Q at z0 z1 z2 hstep hQb
    generalize hH : heldC (accG h) Q.id = H at z2 hstep
    obtain ⟨L, hL⟩ : ∃ L, cellsC ((countD h).take j) = L := ⟨_, rfl⟩
    have hownL : Hid (wr.ownsRow (w1.alloc (.cells #[.slice (some ⟨g, 0, none⟩) (idsD h).length cap, .map (some bm), .pointer (some ⟨o.blk, 0, none⟩)] 95)).heap.size 54 2 (.slice a5 j cap5) j L) := by rw [← hL]; exact hown
    have hL' : Hid _ := hL
    clear hQ hL hH hidj
    have hzz : w1.heap.size + 1 ≤ wr.heap.size := by simpa using hz
    have hQb' : Q.blk < w1.heap.size + 1 := by simpa using hQb
    have hne : some Q.blk ≠ (Value.slice a5 j cap5).ownBlock := fun e => by have := own_block hownL.out _ e.symm; omega
    go_wp2_with fail
    go_region_held3 (fun w' => w'.cell? ⟨Q.blk, 0, none⟩ = some (.int .i64 Q.id) ∧ w'.cell? ⟨Q.blk, 3, none⟩ = some (.int .i64 H))
     (go_keep)
     ((refine step_append_lies _ (by rfl) _ _ _ (by rfl) ((w1.alloc (.cells #[.slice (some ⟨g, 0, none⟩) (idsD h).length cap, .map (some bm), .pointer (some ⟨o.blk, 0, none⟩)] 95)).heap.size) 54 iC (.agg #[.int .i64 0, .int .i64 0]) 2 16 Try.underlying51 hC.out hEC.out.1 hEC.out.2.2 hEC.out.2.1 rfl (by omega) _ (j) (L) (by rfl) (by first | exact (hownL.out.alloc _).drew | exact hownL.out.drew.alloc _ | exact (hownL.out.drew.alloc _).drew) ⟨wr.heap.size, 0, none⟩ 1 1 [.int .i64 Q.id, .int .i64 H] (by rfl) (by rfl) (World.news_of_block (cs := List.toArray [.int .i64 Q.id, .int .i64 H]) (t := 54) (fr := (0, 0)) (by first | exact heap_alloc_new _ _ | simpa using heap_alloc_new _ _)) (by simp [Value.oneCell']) (by omega) (by unfold maxLen; omega) (by omega) (by simp; omega) (wr.heap.size + 1) (by simp) ?_; intro g5 cap5' w5 hown5 hgrow5 hat5 hlt5; have q1 := (hgrow5.cell_far ⟨Q.blk, 0, none⟩ (by simp; omega) (by exact hne)).trans (show _ = some (Value.int .i64 Q.id) from by first | assumption | exact cell_on (((Below.refl _ _).alloc (Nat.le_refl _) _).drew) z1); have q2 := (hgrow5.cell_far ⟨Q.blk, 3, none⟩ (by simp; omega) (by exact hne)).trans (show _ = some (Value.int .i64 H) from by first | assumption | exact cell_on (((Below.refl _ _).alloc (Nat.le_refl _) _).drew) z2)))
    have hb4 : Below (w1.alloc (.cells #[.slice (some ⟨g, 0, none⟩) (idsD h).length cap, .map (some bm), .pointer (some ⟨o.blk, 0, none⟩)] 95)).heap.size (w1.alloc (.cells #[.slice (some ⟨g, 0, none⟩) (idsD h).length cap, .map (some bm), .pointer (some ⟨o.blk, 0, none⟩)] 95)) w5 := ((hb.alloc hz _).drew).grown hgrow5 (by simp at hz ⊢; omega) (own_block hownL.out)
    have hown1 : Hid (w5.ownsRow (w1.alloc (.cells #[.slice (some ⟨g, 0, none⟩) (idsD h).length cap, .map (some bm), .pointer (some ⟨o.blk, 0, none⟩)] 95)).heap.size 54 2 (.slice (some ⟨g5, 0, none⟩) (j + 1) cap5') (j + 1) (L ++ [.int .i64 Q.id, .int .i64 H])) := hown5
    clear hown5 hgrow5 hat5 hlt5
    go_wp2_with fail
    go_roundw
    case rel => exact ⟨j + 1, by omega, by go_num, by rw [hstep.out, hL'.out]; exact hown1.out, ⟨_, _, rfl⟩, hb4⟩
    case measure => simp [intOf]; omega
  obtain rfl : j = (idsD h).length := by omega
  have hown2 : Hid (wr.ownsRow (w1.alloc (.cells #[.slice (some ⟨g, 0, none⟩) (idsD h).length cap, .map (some bm), .pointer (some ⟨o.blk, 0, none⟩)] 95)).heap.size 54 2 (.slice a5 (idsD h).length cap5) (countD h).length (cellsC (countD h))) := by
   have q := hown.out
   have e : (countD h).length = (idsD h).length := by simp [countD]
   rw [show (countD h).take (idsD h).length = countD h by rw [← e, List.take_length]] at q
   rw [e]
   exact q
  obtain ⟨fs, ho, hl⟩ := seqOwn_of_counts hown2.out hI.out
  have ho' : Hid (SeqOwn 2 CountOwn wr (.slice a5 (idsD h).length cap5) (countsD h) fs) := by rw [HF.out]; exact ho
  have hl' : Hid (∀ b ∈ fs, w.heap.size ≤ b) := fun b q => by have := hl b q; have := hB3.size; omega
  clear hown ho hl
  go_wp2_with fail
  go_ret
  exact ⟨⟨_, fs, rfl, ho'.out, hl'.out⟩, hB3.trans (hb.mono hB3.size)⟩
end Go.Proofs.Ytdnembnlomnceaa
