/- What DrawPathsOf tells: some tree that lies in memory. -/
import Derived.Test.YtgmgbjeejlkdmaaTreeDraw
namespace Go.Proofs.Ytgmgbjeejlkdmaa
open Go.RowKit Go.Deep
set_option maxHeartbeats 1000000 in
theorem drawPathsOf_any {w : World} {a : Option Addr} {n cap : Nat} (h : CodeAt w a n) :
    Calls Try.prog 7 #[.slice a n cap] w fun e w' => (∃ (t k : Value) (x : TD), e = .returned (.agg #[t, k]) ∧ TreeAt w' (w.heap.size + 1) 4 t k x) ∧ Below w.heap.size w w' := by
  have h' : Hid (CodeAt w a n) := h
  clear h
  go_enter Try.func7, Try.ntmps7
  go_wp2_with fail
  have hbR : Hid (Below w.heap.size w (w.alloc (.cells #[.string ⟨#[]⟩, .slice none 0 0] 26))) := (Below.refl _ _).alloc (Nat.le_refl _) _
  have bR : Hid (Box (w.alloc (.cells #[.string ⟨#[]⟩, .slice none 0 0] 26)) w.heap.size resT 26) := Box.new w _ _
  refine (open_any (CodeAt.below h'.out hbR.out)).mono ?_
  rintro e w1 ⟨g, rfl, hg, hr1, hb1⟩
  have hr1' : Hid (RdAt w1 g a n cap) := hr1
  have hg' : w.heap.size + 1 ≤ g := by simpa using hg
  have hB1 : Hid (Below w.heap.size w w1) := hbR.out.trans (hb1.mono hbR.out.size)
  have bR1 : Hid (Box w1 w.heap.size resT 26) := bR.out.below hb1 bR.out.lt
  have hlt1 := hr1.lt
  clear hr1 hb1 hg
  go_wp2_with fail
  refine (drT_all 4 (by omega) (by omega) w1 g a n cap 1 hr1'.out (by omega)).mono ?_
  rintro e w2 ⟨cs, x, fs, rfl, hok, hnd, hlo, hr2, hg2⟩
  have hok' : Hid (TreeOwn 4 w2 cs x fs) := hok
  have hlo' : Hid (∀ b ∈ fs, w1.heap.size + 1 ≤ b) := hlo
  have hB2 : Hid (Below w.heap.size w w2) := below_grown hB1.out (by omega) hg2
  have bR2 : Hid (Box w2 w.heap.size resT 26) := box_other bR1.out (by omega) hg2
  obtain ⟨s, k, e, _, _, s3⟩ := hok
  obtain ⟨y1, y2, y3⟩ := s3.form
  subst y3 e
  clear hr2 hg2 hnd hlo s3
  have r0 := bR2.out.cell 0 rfl
  have r1 := bR2.out.cell 1 rfl
  have fR := bR2.out.unfrozen
  go_wp2_with fail
  refine bodyPost_ret (v := .agg #[.string s, .slice y1 (kidsOf x).length y2]) (by simp [results, Try.results7, go_sem, r0, r1]) rfl ⟨⟨_, _, x, rfl, ?_⟩, ?_⟩
  · obtain ⟨t, k, e, q⟩ := TreeOwn_at (lo := w.heap.size + 1) 4 _ _ _ _ (TreeOwn_stays 4 w2 (putCells w2 w.heap.size 0 [.string s, .slice y1 (kidsOf x).length y2]) _ _ _ (fun b hb => putCells_other _ _ _ _ _ (by have := hlo'.out b hb; omega)) hok'.out) (fun b hb => by have := hlo'.out b hb; omega)
    injection e with e1 e2; injection e2 with e2 _; subst e1 e2; exact q
  · exact putCells_below [.string s, .slice y1 (kidsOf x).length y2] _ _ _ w.heap.size 0 (Nat.le_refl _) hB2.out
end Go.Proofs.Ytgmgbjeejlkdmaa
