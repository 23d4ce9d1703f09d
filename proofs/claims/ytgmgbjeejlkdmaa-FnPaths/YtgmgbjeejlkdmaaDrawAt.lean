/- What DrawAt tells: some tree, some path. -/
import Derived.Test.YtgmgbjeejlkdmaaTreeDraw
import Derived.Test.YtgmgbjeejlkdmaaDrawPaths
import Derived.Test.YtgmgbjeejlkdmaaDrawPath
import Derived.Test.YtgmgbjeejlkdmaaTakeLit
import Derived.Deep.RegionHeld3
import Derived.Deep.DeepCutAuto
import Derived.ProofKit
namespace Go.Proofs.Ytgmgbjeejlkdmaa
open Go.RowKit Go.Deep
set_option maxRecDepth 100000 in
set_option maxHeartbeats 4000000 in
theorem drawAt_any {w : World} {a : Option Addr} {n cap : Nat} (h : CodeAt w a n) :
    Calls Try.prog 9 #[.slice a n cap] w fun e w' => (∃ (t k v : Value) (x : TD) (p : List Int), e = .returned (.tuple #[.agg #[t, k], v]) ∧ TreeAt w' 0 4 t k x ∧ SeqAt 1 IntAt w' 0 v p ∧ p.length ≤ 5) ∧ Below w.heap.size w w' := by
  have h' : Hid (CodeAt w a n) := h
  clear h
  go_enter Try.func9, Try.ntmps9
  go_wp2_with fail
  have hbR : Hid (Below w.heap.size w (w.alloc (.cells #[.string ⟨#[]⟩, .slice none 0 0] 26))) := (Below.refl _ _).alloc (Nat.le_refl _) _
  have bR : Hid (Box (w.alloc (.cells #[.string ⟨#[]⟩, .slice none 0 0] 26)) w.heap.size resT 26) := Box.new w _ _
  refine (open_any (CodeAt.below h'.out hbR.out)).mono ?_
  rintro e w1 ⟨g, rfl, hg, hr1, hb1⟩
  have hr1' : Hid (RdAt w1 g a n cap) := hr1
  have hg' : w.heap.size + 1 ≤ g := by simpa using hg
  have hB1 : Hid (Below w.heap.size w w1) := hbR.out.trans (hb1.mono hbR.out.size)
  have bR1 : Hid (Box w1 w.heap.size resT 26) := bR.out.below hb1 bR.out.lt
  have hlt1 := hr1.lt
  clear hr1 hb1 hg
  go_wp2_with fail
  refine (drT_all 4 (by omega) (by omega) w1 g a n cap 1 hr1'.out (by omega)).mono ?_
  rintro e w2 ⟨cs, x, fs, rfl, hok, hnd, hlo, hr2, hg2⟩
  have hlo' : Hid (∀ b ∈ fs, w1.heap.size + 1 ≤ b) := hlo
  have hB2 : Hid (Below w.heap.size w w2) := below_grown hB1.out (by omega) hg2
  have bR2 : Hid (Box w2 w.heap.size resT 26) := box_other bR1.out (by omega) hg2
  have hr2' : Hid (RdAt w2 g a n cap) := hr2
  obtain ⟨t0, k0, e, q⟩ := TreeOwn_at (lo := w1.heap.size + 1) 4 _ _ _ _ hok hlo
  obtain ⟨⟨s, rfl⟩, y1, y2, rfl⟩ := q.form
  subst e
  have ht2 : Hid (TreeAt w2 (w1.heap.size + 1) 4 _ _ x) := q
  have hz2 := hg2.size
  clear hok hnd hlo hr2 hg2 q
  have hbT : Hid (Below w2.heap.size w2 (w2.alloc (.cells #[.string s, .slice y1 (kidsOf x).length y2] 26))) := (Below.refl _ _).alloc (Nat.le_refl _) _
  have bTa : Hid (Box (w2.alloc (.cells #[.string s, .slice y1 (kidsOf x).length y2] 26)) w2.heap.size [.string s, .slice y1 (kidsOf x).length y2] 26) := Box.new w2 _ _
  have bRa : Hid (Box (w2.alloc (.cells #[.string s, .slice y1 (kidsOf x).length y2] 26)) w.heap.size resT 26) := bR2.out.alloc _
  have hta : Hid (TreeAt (w2.alloc (.cells #[.string s, .slice y1 (kidsOf x).length y2] 26)) (w1.heap.size + 1) 4 (.string s) (.slice y1 (kidsOf x).length y2) x) := ht2.out.below hbT.out
  have hBa : Hid (Below w.heap.size w (w2.alloc (.cells #[.string s, .slice y1 (kidsOf x).length y2] 26))) := hB2.out.trans (hbT.out.mono hB2.out.size)
  have hrd0 : Hid (RdAt (w2.alloc (.cells #[.string s, .slice y1 (kidsOf x).length y2] 26)) g a n cap) := hr2'.out.below hbT.out
  clear hbT ht2 hr2' bR2 hB2 bR1 hB1 hr1' hbR bR h' hlo'
  go_upto_region 3 with fail
  generalize (w2.alloc (.cells #[.string s, .slice y1 (kidsOf x).length y2] 26)) = wa at bTa bRa hta hBa hrd0 ⊢
  have hlo1 : g < w1.heap.size + 1 := by omega
  have hRlo : w.heap.size < w1.heap.size + 1 := by omega
  generalize w1.heap.size + 1 = lo1 at hta hlo1 hRlo
  generalize w2.heap.size = gt at bTa hz2 ⊢
  have hga : g < wa.heap.size := hrd0.out.lt
  have hgt : g < gt := by omega
  have hRa : w.heap.size < wa.heap.size := bRa.out.lt
  have hrd : Hid (RdAt wa.drew g a n cap) := hrd0.out.below (Below.drew (Below.refl _ _))
  refine wp_region_held_drew (S := fun w' => w'.cell? ⟨gt, 0, none⟩ = some (.string s) ∧ w'.cell? ⟨gt, 1, none⟩ = some (.slice y1 (kidsOf x).length y2)) (by kernel_rfl) ⟨bTa.out.cell 0 rfl, bTa.out.cell 1 rfl⟩ (fun hHeld => ?_)
  refine take_lit (i := 0) (d := 10) (v := ?_) rfl rfl (by kernel_rfl) (by kernel_rfl) (by kernel_rfl) (fun _ _ _ h => h) (Or.inl ⟨by rfl, ?_⟩) (by assumption) ?_
  rotate_left
  · (intro w hSw; (try dsimp only at hSw); first | (go_simp; done) | (go_simp; with_reducible rfl))
  simp only [List.set_cons_zero, List.set_cons_succ]
  refine take_lit (i := 1) (d := 11) (v := ?_) rfl rfl (by kernel_rfl) (by kernel_rfl) (by kernel_rfl) (fun _ _ _ h => h) (Or.inl ⟨by rfl, ?_⟩) (by assumption) ?_
  rotate_left
  · (intro w hSw; (try dsimp only at hSw); first | (go_simp; done) | (go_simp; with_reducible rfl))
  simp only [List.set_cons_zero, List.set_cons_succ]
  refine take_lit (i := 2) (d := 12) (v := ?_) rfl rfl (by kernel_rfl) (by kernel_rfl) (by kernel_rfl) (fun _ _ _ h => h) (Or.inl ⟨by rfl, ?_⟩) (by assumption) ?_
  rotate_left
  · (intro w hSw; (try dsimp only at hSw); first | (go_simp; done) | (go_simp; with_reducible rfl))
  simp only [List.set_cons_zero, List.set_cons_succ]
  refine wpAnyH_ready (rs := [3]) (by kernel_rfl) (by simp) ?_
  refine AllReadyH.cons rfl (fun K hK => ?_) AllReadyH.nil
  go_simp
  refine (path_any (by exact hrd.out) (by exact hta.out.below (Below.drew (Below.refl _ _)))).mono ?_
  rintro e w4 ⟨⟨v4, p, rfl, hp0, hpl0⟩, hr4, hg4⟩
  obtain ⟨ap, cpp, rfl⟩ := hp0.form
  have hg4' : Hid (World.grownBy wa w4 (some g)) := ⟨hg4.os, hg4.tape, hg4.output, hg4.size, hg4.block⟩
  have hpl : Hid (p.length ≤ 5) := hpl0
  have hp4 : Hid (SeqAt 1 IntAt w4 wa.heap.size (.slice ap p.length cpp) p) := hp0
  have bR4 : Hid (Box w4 (w.heap.size) resT 26) := box_other bRa.out (by omega) hg4'.out
  have bT4 : Hid (Box w4 gt [.string s, .slice y1 (kidsOf x).length y2] 26) := box_other bTa.out (by omega) hg4'.out
  have hB4 : Hid (Below w.heap.size w w4) := below_grown hBa.out (by omega) hg4'.out
  have ht4 : Hid (TreeAt w4 lo1 4 (.string s) (.slice y1 (kidsOf x).length y2) x) := TreeAt.keep hg4'.out.size (Nat.le_refl _) (fun b q1 q2 => hg4'.out.block b q2 (fun e => by injection e with e; omega)) 4 _ _ _ hta.out
  clear hp0 hpl0 hr4 hg4
  refine hK.out _ _ ⟨bT4.out.cell 0 rfl, bT4.out.cell 1 rfl⟩ (fun hHeld => ?_)
  clear hK K
  refine wpAnyH_ready (rs := [4]) (by kernel_rfl) (by simp) ?_
  refine AllReadyH.cons rfl (fun K hK => ?_) AllReadyH.nil
  have r0 := bR4.out.cell 0 rfl
  have r1 := bR4.out.cell 1 rfl
  have fR := bR4.out.unfrozen
  have bR5 : Hid (Box (putCells w4 (w.heap.size) 0 [.string s, .slice y1 (kidsOf x).length y2]) (w.heap.size) [.string s, .slice y1 (kidsOf x).length y2] 26) := (bR4.out.set (i := 0) _).set (i := 1) _
  have bT5 : Hid (Box (putCells w4 (w.heap.size) 0 [.string s, .slice y1 (kidsOf x).length y2]) gt [.string s, .slice y1 (kidsOf x).length y2] 26) := (putCells_other _ _ _ _ _ (by omega)).trans bT4.out
  go_simp
  refine hK.out _ _ ⟨bT5.out.cell 0 rfl, bT5.out.cell 1 rfl⟩ (fun hHeld => ?_)
  clear hK K
  refine take_lit (i := 5) (d := 3) (v := ?_) rfl rfl (by kernel_rfl) (by kernel_rfl) (by kernel_rfl) (fun _ _ _ h => h) (Or.inl ⟨by rfl, ?_⟩) (by assumption) ?_
  rotate_left
  · (intro w hSw; (try dsimp only at hSw); first | (go_simp; done) | (go_simp; with_reducible rfl))
  simp only [List.set_cons_zero, List.set_cons_succ]
  refine wpAnyH_done (by kernel_rfl) ?_ _
  go_wp2_with fail
  have s0 := bR5.out.cell 0 rfl
  have s1 := bR5.out.cell 1 rfl
  have htF : TreeAt (putCells w4 (w.heap.size) 0 [.string s, .slice y1 (kidsOf x).length y2]) 0 4 (.string s) (.slice y1 (kidsOf x).length y2) x := TreeAt.keep (by rw [putCells_size]; exact Nat.le_refl _) (Nat.zero_le _) (fun b q1 q2 => putCells_other [.string s, .slice y1 (kidsOf x).length y2] w4 (w.heap.size) 0 b (by omega)) 4 _ _ _ ht4.out
  have hpF : SeqAt 1 IntAt (putCells w4 (w.heap.size) 0 [.string s, .slice y1 (kidsOf x).length y2]) 0 (.slice ap p.length cpp) p := SeqAt.keep intAt_stays hp4.out ⟨by rw [putCells_size]; exact Nat.le_refl _, Nat.zero_le _, fun b q1 q2 => putCells_other [.string s, .slice y1 (kidsOf x).length y2] w4 (w.heap.size) 0 b (by omega)⟩
  exact bodyPost_ret (v := .tuple #[.agg (List.toArray [.string s, .slice y1 (kidsOf x).length y2]), .slice ap p.length cpp]) (by simp only [putCells] at s0 s1; simp [results, Try.results9, go_sem, s0, s1]) rfl ⟨⟨_, _, _, x, p, rfl, htF, hpF, hpl.out⟩, putCells_below [.string s, .slice y1 (kidsOf x).length y2] _ _ _ (w.heap.size) 0 (Nat.le_refl _) hB4.out⟩
end Go.Proofs.Ytgmgbjeejlkdmaa
