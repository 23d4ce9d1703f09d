/- DrawReached: a heap. -/
import Derived.Test.YtdnembnlomnceaaAbb
import Derived.Test.YtdnembnlomnceaaDrawHs
namespace Go.Proofs.Ytdnembnlomnceaa
open Go.RowKit Go.Deep
set_option maxRecDepth 100000 in
set_option maxHeartbeats 8000000 in
theorem drawReached_any {w : World} {a : Option Addr} {n cap : Nat} (h : CodeAt w a n) :
 Calls Try.prog 22 #[.slice a n cap] w fun e w' => (∃ (y : HeapD) (cs : List Value), e = .returned (.agg cs.toArray) ∧ HSz y ∧ FW y ∧ ∃ fs, HeapP w' cs y fs ∧ ∀ b ∈ fs, w.heap.size ≤ b) ∧ Below w.heap.size w w' := by
 have h' : Hid (CodeAt w a n) := h
 clear h
 have bR0 : Hid (Box (w.alloc (.cells cZp.toArray 28)) w.heap.size cZp 28) := Box.new w _ _
 have hb0 : Hid (Below w.heap.size w (w.alloc (.cells cZp.toArray 28))) := (Below.refl _ _).alloc (Nat.le_refl _) _
 go_enter Try.func22, Try.ntmps22
 go_upto_region 1 with fail
 generalize (w.alloc (.cells cZp.toArray 28)) = w0 at bR0 hb0 ⊢
 go_wp2_with fail
 refine (open_any (h'.out.below hb0.out)).mono ?_
 rintro e w1 ⟨g, rfl, hg1, hr1, hbw1⟩
 have hr1h : Hid (RdAt w1 g a n cap) := hr1
 have hB1 : Hid (Below w.heap.size w w1) := hb0.out.trans (hbw1.mono hb0.out.size)
 have bR1 : Hid (Box w1 w.heap.size cZp 28) := bR0.out.below hbw1 bR0.out.lt
 have hgR : Hid (w.heap.size < w1.heap.size ∧ w.heap.size < g) := by
  have q1 := bR0.out.lt
  have q2 := hbw1.size
  exact ⟨by omega, by omega⟩
 clear hr1 hbw1 hg1 bR0 hb0 h'
 go_wp2_with fail
 refine (heap_any hr1h.out 26 (by omega) (by omega)).mono ?_
 rintro e w2 ⟨⟨y, cs, fs, rfl, hsz, hF, hp, hn⟩, hr2, hg2⟩
 obtain ⟨aN5, kN5, aO5, kO5, aG5, kG5, rfl⟩ := hp.form
 have hszh : Hid (HSz y) := hsz
 have hFh : Hid (FW y) := hF
 have hph : Hid (HeapP w2 (cHp y aN5 kN5 aO5 kO5 aG5 kG5) y fs) := hp
 have hnh : Hid (∀ b ∈ fs, w1.heap.size ≤ b) := hn
 have bR2 : Hid (Box w2 w.heap.size cZp 28) := box_other bR1.out (by have := hgR.out.2; omega) hg2
 have hB2 : Hid (Below w.heap.size w w2) := below_grown hB1.out (by have := hgR.out.2; omega) hg2
 clear hsz hF hp hn hr2 hg2 hr1h hB1 bR1
 obtain ⟨z0, z1, z2, z3, z4⟩ := fv5 bR2.out
 have uz := bR2.out.unfrozen
 go_wp2_with fail
 have bF : Box (putCells w2 w.heap.size 0 (cHp y aN5 kN5 aO5 kO5 aG5 kG5)) w.heap.size (cHp y aN5 kN5 aO5 kO5 aG5 kG5) 28 := Box.puts5 bR2.out
 obtain ⟨g0, g1, g2, g3, g4⟩ := fv5 bF
 have hpf : HeapP (putCells w2 w.heap.size 0 (cHp y aN5 kN5 aO5 kO5 aG5 kG5)) (cHp y aN5 kN5 aO5 kO5 aG5 kG5) y fs := hph.out.stays (fun b hb => putCells_other _ _ _ _ _ (by have h1 := hnh.out b hb; have h2 := hgR.out.1; omega))
 have hbf : Below w.heap.size w (putCells w2 w.heap.size 0 (cHp y aN5 kN5 aO5 kO5 aG5 kG5)) := putCells_below _ _ _ _ _ _ (Nat.le_refl _) hB2.out
 exact bodyPost_ret (v := .agg (List.toArray (cHp y aN5 kN5 aO5 kO5 aG5 kG5))) (by simp only [putCells] at g0 g1 g2 g3 g4; simp [results, Try.results22, go_sem, g0, g1, g2, g3, g4]) rfl ⟨⟨y, _, rfl, hszh.out, hFh.out, fs, hpf, fun b hb => by have h1 := hnh.out b hb; have h2 := hgR.out.1; omega⟩, hbf⟩
end Go.Proofs.Ytdnembnlomnceaa
