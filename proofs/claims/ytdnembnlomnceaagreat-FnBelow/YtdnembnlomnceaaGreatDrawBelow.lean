/- DrawBelow: a heap and a few numbers. -/
import Derived.Test.YtdnembnlomnceaaGreatAbb
import Derived.Test.YtdnembnlomnceaaGreatTakeMore
import Derived.Test.YtdnembnlomnceaaGreatSuspects
import Derived.Test.YtdnembnlomnceaaGreatDrawHs
namespace Go.Proofs.YtdnembnlomnceaaGreat
open Go.RowKit Go.Deep
set_option maxRecDepth 100000 in
set_option maxHeartbeats 8000000 in
theorem drawBelow_any {w : World} {a : Option Addr} {n cap : Nat} (h : CodeAt w a n) :
 Calls Tryz.prog 6 #[.slice a n cap] w fun e w' => (∃ (y : HeapD) (cs : List Value) (v : Value) (ks : List Int) (fs fr : List Nat), e = .returned (.tuple #[.agg cs.toArray, v]) ∧ HSz y ∧ HeapP w' cs y fs ∧ (∀ b ∈ fs, w.heap.size ≤ b) ∧ SeqOwn 1 IntOwn w' v ks fr ∧ (∀ b ∈ fr, w.heap.size ≤ b) ∧ ks.length ≤ 4) ∧ Below w.heap.size w w' := by
 have h' : Hid (CodeAt w a n) := h
 clear h
 have bR0 : Hid (Box (w.alloc (.cells cZp.toArray 28)) w.heap.size cZp 28) := Box.new w _ _
 have hb0 : Hid (Below w.heap.size w (w.alloc (.cells cZp.toArray 28))) := (Below.refl _ _).alloc (Nat.le_refl _) _
 go_enter Tryz.func6, Tryz.ntmps6
 go_upto_region 1 with fail
 generalize (w.alloc (.cells cZp.toArray 28)) = w0 at bR0 hb0 ⊢
 go_wp2_with fail
 refine (open_any (h'.out.below hb0.out)).mono ?_
 rintro e w1 ⟨g, rfl, hg1, hr1, hbw1⟩
 have hr1h : Hid (RdAt w1 g a n cap) := hr1
 have hB1 : Hid (Below w.heap.size w w1) := hb0.out.trans (hbw1.mono hb0.out.size)
 have bR1 : Hid (Box w1 w.heap.size cZp 28) := bR0.out.below hbw1 bR0.out.lt
 have hgR : Hid (w.heap.size ≤ w.heap.size ∧ w.heap.size ≤ g ∧ w.heap.size ≠ g ∧ g < w1.heap.size) := by
  have q1 := bR0.out.lt
  have q2 := hr1.lt
  exact ⟨Nat.le_refl _, by omega, by omega, q2⟩
 clear hr1 hbw1 hg1 bR0 hb0 h'
 go_wp2_with fail
 refine (heap_any hr1h.out 26 (by omega) (by omega)).mono ?_
 rintro e w2 ⟨⟨y, cs, fs, rfl, hsz, _, hp, hn⟩, hr2, hg2⟩
 obtain ⟨aN5, kN5, aO5, kO5, aG5, kG5, rfl⟩ := hp.form
 have hD1 : Hid (DH w g a n cap w.heap.size w2.heap.size y (cHp y aN5 kN5 aO5 kO5 aG5 kG5) (w2.alloc (.cells (cHp y aN5 kN5 aO5 kO5 aG5 kG5).toArray 28))) := DH.first hB1.out hgR.out bR1.out hp hn hr2 hg2
 have hSz : Hid (HSz y) := hsz
 clear hp hn hr2 hg2 hsz hr1h hB1 bR1 hgR
 go_upto_region 3 with fail
 obtain ⟨E, hE⟩ : ∃ E, w2.heap.size = E := ⟨_, rfl⟩
 rw [hE] at hD1 ⊢
 clear hE
 obtain ⟨R, hR⟩ : ∃ R, w.heap.size = R := ⟨_, rfl⟩
 have hRh : Hid (w.heap.size = R) := hR
 have hD2 : Hid (DH w g a n cap R E y (cHp y aN5 kN5 aO5 kO5 aG5 kG5) (w2.alloc (.cells (cHp y aN5 kN5 aO5 kO5 aG5 kG5).toArray 28))) := by rw [← hR]; exact hD1
 clear hD1
 rw [hR]
 clear hR
 generalize (w2.alloc (.cells (cHp y aN5 kN5 aO5 kO5 aG5 kG5).toArray 28)) = w3 at hD2 ⊢
 have hD7 : Hid (DH w g a n cap R E y (cHp y aN5 kN5 aO5 kO5 aG5 kG5) w3.drew) := hD2.out.below (Below.drew (Below.refl _ _))
 clear hD2
 refine wp_region_held_drew (S := fun w' => w'.cell? ⟨E, 0, none⟩ = some (.int .i64 y.vNext) ∧ w'.cell? ⟨E, 1, none⟩ = some (.int .i64 y.vDoc) ∧ w'.cell? ⟨E, 2, none⟩ = some (.slice aN5 y.vNodes.length kN5) ∧ w'.cell? ⟨E, 3, none⟩ = some (.slice aO5 y.vObjs.length kO5) ∧ w'.cell? ⟨E, 4, none⟩ = some (.slice aG5 y.vGlobals.length kG5)) (by kernel_rfl) (fv5 hD7.out.bE) (fun hHeld => ?_)
 refine tk 0 ?_
 refine tk 1 ?_
 refine tk 2 ?_
 refine rd1 3 (fun K hK => ?_)
 go_simp
 obtain ⟨fs, hp, hn⟩ := hD7.out.hp
 refine (suspects_any (by exact hD7.out.hR) hp (fun z => (hn _ z).2.2.2 rfl) hSz.out).mono ?_
 rintro e u ⟨⟨v8, ks, fr, rfl, ho8, hl8, hk8⟩, hru, hgu⟩
 have hD8 : Hid (DH w g a n cap R E y (cHp y aN5 kN5 aO5 kO5 aG5 kG5) u) := hD7.out.grow hru hgu
 have ho : Hid (SeqOwn 1 IntOwn u v8 ks fr) := ho8
 have hl : Hid (∀ b ∈ fr, w.heap.size ≤ b ∧ b ≠ R) := fun b hb => by have h1 := hl8 b hb; have h2 := hD7.out.bR.lt; have h3 := hD7.out.lo.1; exact ⟨by omega, by omega⟩
 have hk : Hid (ks.length ≤ 4) := hk8
 clear ho8 hl8 hk8 hru hgu hp hn
 refine hK.out _ _ (fv5 hD8.out.bE) (fun hHeld => ?_)
 clear hK K
 refine rd1 4 (fun K hK => ?_)
 have z0_ := hD8.out.bR.cell 0 rfl
 have z1_ := hD8.out.bR.cell 1 rfl
 have z2_ := hD8.out.bR.cell 2 rfl
 have z3_ := hD8.out.bR.cell 3 rfl
 have z4_ := hD8.out.bR.cell 4 rfl
 have uz_ := hD8.out.bR.unfrozen
 go_simp
 have bE9 : Hid (Box (putCells u R 0 (cHp y aN5 kN5 aO5 kO5 aG5 kG5)) E (cHp y aN5 kN5 aO5 kO5 aG5 kG5) 28) := (putCells_other _ _ _ _ _ (fun e => hD8.out.ne.1 e.symm)).trans hD8.out.bE
 refine hK.out _ _ ⟨(bE9.out.cell 0 rfl), bE9.out.cell 1 rfl, bE9.out.cell 2 rfl, bE9.out.cell 3 rfl, bE9.out.cell 4 rfl⟩ (fun hHeld => ?_)
 clear hK K
 refine tk 5 ?_
 refine wpAnyH_done (by kernel_rfl) ?_ _
 clear hHeld bE9 z0_ z1_ z2_ z3_ z4_ uz_
 obtain ⟨⟨fs, hgv, hgn⟩, hgb⟩ := hD8.out.give
 have hog : SeqOwn 1 IntOwn (putCells u R 0 (cHp y aN5 kN5 aO5 kO5 aG5 kG5)) v8 ks fr := ho.out.stays intOwn_stays (fun b hb => putCells_other _ _ _ _ _ (hl.out b hb).2)
 have hF : Box (putCells u R 0 (cHp y aN5 kN5 aO5 kO5 aG5 kG5)) R (cHp y aN5 kN5 aO5 kO5 aG5 kG5) 28 := Box.puts5 hD8.out.bR
 obtain ⟨g0, g1, g2, g3, g4⟩ := fv5 hF
 simp only [putCells] at g0 g1 g2 g3 g4
 go_wp2_with fail
 exact bodyPost_ret (v := .tuple #[.agg (List.toArray (cHp y aN5 kN5 aO5 kO5 aG5 kG5)), v8]) (by simp [results, Tryz.results6, go_sem, g0, g1, g2, g3, g4]) rfl ⟨⟨y, _, v8, ks, fs, fr, rfl, hSz.out, hgv, hgn, hog, fun b hb => (hl.out b hb).1, hk.out⟩, hgb⟩
end Go.Proofs.YtdnembnlomnceaaGreat
