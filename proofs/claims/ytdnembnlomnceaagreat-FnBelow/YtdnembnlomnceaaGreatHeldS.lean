/- What a name holds: the specification and the program, walked. -/
import Derived.Test.YtdnembnlomnceaaGreatAbb
import Derived.Test.YtdnembnlomnceaaGreatTakeMore
import Derived.Test.YtdnembnlomnceaaGreatUpPlain
import Derived.Test.YtdnembnlomnceaaGreatHeapSmall
namespace Go.Proofs.YtdnembnlomnceaaGreat
open Go.RowKit
set_option maxHeartbeats 400000 in
theorem l2Field_any {w : World} {lo : Nat} {k : Value} {xs : List FieldD} {n : ByteArray} (hk : SeqAt 2 FieldAt w lo k xs) :
 Calls Tryz.prog 121 #[k, .string n] w fun e w' => e = .returned (.int .i64 (fieldR xs n)) ∧ w' = w := by
 obtain ⟨a, cap, rfl, hm, hx⟩ := hk
 unfold maxLen at hm
 have hx' : Hid _ := hx
 clear hx
 go_enter Tryz.func121, Tryz.ntmps121
 go_wp2_with fail
 go_loop [5] (fun i => ∃ (j : Nat), j ≤ xs.length ∧ i = .int .i64 j ∧ Hid (heldAt xs n = heldAt (xs.drop j) n)) (fun i => xs.length - (intOf i).toNat)
 case atStart => exact ⟨0, by omega, rfl, rfl⟩
 case round =>
  obtain ⟨j, hj, rfl, hrem⟩ := hrel
  by_cases hlt : j < xs.length
  · obtain ⟨b, off, rfl, hlo, hbw, hc⟩ := hx'.out (by omega)
    obtain ⟨cs, hcl, lie, hr⟩ := hc j hlt
    have Hh : Hid _ := heldAt_hit (n := n) hlt
    have Hm : Hid _ := heldAt_miss (n := n) hlt
    generalize xs[j] = Q at hr Hh Hm
    obtain ⟨rfl, _⟩ := hr
    have z0 := lie_at lie 0 rfl
    have z1 := lie_at lie 1 rfl
    simp only [Nat.add_zero] at z0
    clear lie hcl hx' hc
    cases hq : (Q.vName.toList == n.toList)
    · have H2 : Hid _ := Hm.out hq
      go_wp2_with fail
      go_round
      case rel => exact ⟨j + 1, by omega, by go_num, by show _ = _; rw [hrem.out, H2.out]⟩
      case measure => simp [intOf]; omega
    · have H2 : Hid (fieldR xs n = Q.vObj) := by show _ = _; unfold fieldR; rw [hrem.out, Hh.out hq]; rfl
      go_wp2_with fail
      go_ret
      exact ⟨by rw [H2.out]; rfl, rfl⟩
  · have H2 : Hid (fieldR xs n = 0) := by show _ = _; unfold fieldR; rw [hrem.out, heldAt_end hlt]; rfl
    go_wp2_with fail
    go_ret
    exact ⟨by rw [H2.out]; rfl, rfl⟩
set_option maxRecDepth 100000 in
set_option maxHeartbeats 1600000 in
theorem l2Wrapped_any {w : World} {lo : Nat} {cs : List Value} {h : HeapD} {n : ByteArray} (hh : HeapAt w lo cs h) :
 Calls Tryz.prog 133 #[.agg cs.toArray, .string n] w fun e w' => e = .returned (.int .i64 (wrappedR h n)) ∧ Below w.heap.size w w' := by
 have hh' : Hid (HeapAt w lo cs h) := hh
 obtain ⟨k2, k3, k4, rfl, s2, s3, s4, _⟩ := hh
 have s3' : Hid (SeqAt 3 ObjAt w lo k3 h.vObjs) := s3
 have s4' : Hid (SeqAt 2 FieldAt w lo k4 h.vGlobals) := s4
 obtain ⟨a2, cap2, rfl⟩ := s2.form
 obtain ⟨a3, cap3, rfl⟩ := s3.form
 obtain ⟨a4, cap4, rfl⟩ := s4.form
 clear s2 s3 s4
 have hb0 : Below w.heap.size w (w.alloc (.cells (List.toArray (cHp h a2 cap2 a3 cap3 a4 cap4)) 28)) := (Below.refl _ _).alloc (Nat.le_refl _) _
 have bH : Hid (Box (w.alloc (.cells (List.toArray (cHp h a2 cap2 a3 cap3 a4 cap4)) 28)) w.heap.size (cHp h a2 cap2 a3 cap3 a4 cap4) 28) := Box.new w _ _
 obtain ⟨c0, c1, c2, c3, c4⟩ := fv5 bH.out
 go_enter Tryz.func133, Tryz.ntmps133
 go_wp2_with fail
 refine wp_region_held_drew (S := fun w' => w'.cell? ⟨w.heap.size, 0, none⟩ = some (.int .i64 h.vNext) ∧ w'.cell? ⟨w.heap.size, 1, none⟩ = some (.int .i64 h.vDoc) ∧ w'.cell? ⟨w.heap.size, 2, none⟩ = some (.slice a2 h.vNodes.length cap2) ∧ w'.cell? ⟨w.heap.size, 3, none⟩ = some (.slice a3 h.vObjs.length cap3) ∧ w'.cell? ⟨w.heap.size, 4, none⟩ = some (.slice a4 h.vGlobals.length cap4)) (by kernel_rfl) (by refine ⟨?_, ?_, ?_, ?_, ?_⟩ <;> assumption) (fun hHeld => ?_)
 refine tk 0 ?_
 refine tk 1 ?_
 refine tk 2 ?_
 refine tk 3 ?_
 refine rd1 4 (fun K hK => ?_)
 go_simp
 refine (l2Field_any (by exact s4'.out.below FieldAt_stays (Below.drew hb0))).mono ?_
 rintro e wq ⟨rfl, rfl⟩
 refine hK.out _ _ (by assumption) (fun hHeld => ?_)
 clear hK K
 refine rd1 5 (fun K hK => ?_)
 go_simp
 refine (l2Obj_any (by exact HeapAt_stays _ _ _ lo _ _ (.of_below (Below.drew hb0)) hh'.out)).mono ?_
 rintro e w2 ⟨rfl, hb1⟩
 refine hK.out _ _ ⟨cell_on hb1 hHeld.1, cell_on hb1 hHeld.2.1, cell_on hb1 hHeld.2.2.1, cell_on hb1 hHeld.2.2.2.1, cell_on hb1 hHeld.2.2.2.2⟩ (fun hHeld => ?_)
 clear hK K
 refine tk 6 ?_
 refine wpAnyH_done (by kernel_rfl) ?_ _
 have hbw2 : Below w.heap.size w w2 := hb0.drew.trans (hb1.mono (by simp [World.drew]))
 have bH2 : Box w2 w.heap.size (cHp h a2 cap2 a3 cap3 a4 cap4) 28 := Box.below (w := (w.alloc (.cells (List.toArray (cHp h a2 cap2 a3 cap3 a4 cap4)) 28)).drew) bH.out hb1 (by simp [World.drew])
 clear c0 c1 c2 c3 c4
 have c2 := bH2.cell 2 rfl
 have c3 := bH2.cell 3 rfl
 clear bH2
 rcases idxO_is h (fieldR h.vGlobals n) with ⟨hix, hat⟩ | ⟨i', hi', hix, hid, hat⟩
 · rw [hix]
   have HF : Hid (wrappedR h n = 0) := by show _ = _; unfold wrappedR; rw [hat]
   clear hix hat
   go_wp2_with fail
   go_ret
   exact ⟨by rw [HF.out]; rfl, hbw2⟩
 rw [hix]
 obtain ⟨ax, capx, hax, hmx, hxx⟩ := s3'.out
 injection hax with e1 e2 e3
 subst e1 e3
 obtain ⟨b, off, rfl, hlo, hbw0, hc⟩ := hxx (by omega)
 obtain ⟨csn, hcln, lien, hrn⟩ := hc i' hi'
 have lien1 := Lie.keep (lo := lo) (lo' := lo) lien (.of_below hbw2) hlo hbw0
 generalize h.vObjs[i'] = PO at *
 have hin : (0 : Int) ≤ (i' : Int) := by omega
 have hin2 : (i' : Int) < (h.vObjs.length : Int) := by omega
 unfold maxLen at hmx
 have HF : Hid (wrappedR h n = PO.vNode) := by show _ = _; unfold wrappedR; rw [hat]
 obtain ⟨g2, rfl, _⟩ := hrn
 have y1 := lie_at lien1 1 rfl
 clear lien lien1 hcln hc hix hat hid hxx
 go_wp2_with fail
 go_ret
 exact ⟨by rw [HF.out]; rfl, hbw2⟩
end Go.Proofs.YtdnembnlomnceaaGreat
