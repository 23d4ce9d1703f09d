/- Reached, of the specification and of the program: walked. -/
import Derived.Test.YtdnembnlomnceaaAbb
import Derived.Test.YtdnembnlomnceaaReachedPlain
import Derived.Test.YtdnembnlomnceaaHeapSpec
import Derived.Test.YtdnembnlomnceaaOwnRows
namespace Go.Proofs.Ytdnembnlomnceaa
open Go.RowKit
set_option maxRecDepth 100000 in
set_option maxHeartbeats 3200000 in
theorem implReached_any {w : World} {lo : Nat} {cs : List Value} {h : HeapD} (hh : HeapAt w lo cs h) (hs : h.small) :
 Calls Try.prog 23 #[.agg cs.toArray] w fun e w' => (∃ v fs, e = .returned v ∧ SeqOwn 1 IntOwn w' v (reachedD h) fs ∧ ∀ b ∈ fs, w.heap.size ≤ b) ∧ Below w.heap.size w w' := by
 have hh' : Hid (HeapAt w lo cs h) := hh
 have hs' : Hid h.small := hs
 obtain ⟨k2, k3, k4, rfl, s2, s3, s4, _⟩ := hh
 obtain ⟨a2, cap2, rfl⟩ := s2.form
 obtain ⟨a3, cap3, rfl⟩ := s3.form
 obtain ⟨a4, cap4, rfl⟩ := s4.form
 clear s2 s3 s4 hs
 have hb1 : Below w.heap.size w (w.alloc (.cells (List.toArray (cHp h a2 cap2 a3 cap3 a4 cap4)) 28)) := (Below.refl _ _).alloc (Nat.le_refl _) _
 have bH0 : Hid (Box (w.alloc (.cells (List.toArray (cHp h a2 cap2 a3 cap3 a4 cap4)) 28)) w.heap.size (cHp h a2 cap2 a3 cap3 a4 cap4) 28) := Box.new w (cHp h a2 cap2 a3 cap3 a4 cap4) 28
 go_enter Try.func23, Try.ntmps23
 go_wp2_with fail
 refine (rightGraph_any hh'.out hb1 hs'.out).mono ?_
 rintro e w1 ⟨hres, hb2⟩
 have hB2 : Below w.heap.size w w1 := hb1.trans (hb2.mono hb1.size)
 rcases hres with ⟨hp, rfl⟩ | ⟨hp, o, Ts, bm, g, cap, rfl, hg⟩
 · have HF : Hid (reachedD h = []) := by show _ = _; simp [reachedD, hp]
   clear hp
   go_wp2_with fail
   go_ret
   exact ⟨⟨_, [], rfl, by rw [HF.out]; exact seqOwn_none _, by simp⟩, hB2.alloc hB2.size _⟩
 obtain ⟨ho0, ⟨hids, hpl⟩, hap, hG, hM, hrow, hbm⟩ := hg
 have HF : Hid (reachedD h = belD h (rootsD h)) := by show _ = _; simp [reachedD, hp]
 have hp' : Hid (specB h = true) := hp
 have hids' : Hid (Ts.map ThD.id = idsD h) := hids
 have hT : Hid (∀ k, (getI ThD.id Ts k).isSome = isT h k) := things_there hids
 have hrt : Hid (∀ x ∈ rootsD h, x ∈ idsD h) := roots_there hp
 have hI : Hid (∀ x ∈ belD h (rootsD h), InI x) := fun x hx => (reached_in hh'.out hp hs'.out hrt.out x hx).1
 have hb3 : Below w1.heap.size w1 (w1.alloc (.cells #[.slice (some ⟨g, 0, none⟩) (idsD h).length cap, .map (some bm), .pointer (some ⟨o.blk, 0, none⟩)] 95)) := (Below.refl _ _).alloc (Nat.le_refl _) _
 have hB3 : Below w.heap.size w (w1.alloc (.cells #[.slice (some ⟨g, 0, none⟩) (idsD h).length cap, .map (some bm), .pointer (some ⟨o.blk, 0, none⟩)] 95)) := hB2.alloc hB2.size _
 have bG := Box.new w1 (Array.toList #[.slice (some ⟨g, 0, none⟩) (idsD h).length cap, .map (some bm), .pointer (some ⟨o.blk, 0, none⟩)]) 95
 have c2 : (w1.alloc (.cells #[.slice (some ⟨g, 0, none⟩) (idsD h).length cap, .map (some bm), .pointer (some ⟨o.blk, 0, none⟩)] 95)).cell? ⟨w1.heap.size, 2, none⟩ = some (.pointer (some ⟨o.blk, 0, none⟩)) := bG.cell 2 rfl
 have hap' : Hid (Apart (o :: Ts)) := hap
 have hG0 := hG.below hb3
 have hGw : Hid (GSt (fun b => b < (w.alloc (.cells (List.toArray (cHp h a2 cap2 a3 cap3 a4 cap4)) 28)).heap.size ∨ b = bm ∨ b = g) (w.alloc (.cells (List.toArray (cHp h a2 cap2 a3 cap3 a4 cap4)) 28)).heap.size (w1.alloc (.cells #[.slice (some ⟨g, 0, none⟩) (idsD h).length cap, .map (some bm), .pointer (some ⟨o.blk, 0, none⟩)] 95)) o Ts (accG h)) := hG0
 obtain ⟨S, hS⟩ := hG0
 obtain ⟨hp1, hp2, _⟩ := hS.1 o List.mem_cons_self
 have d2 := hp1.cell 2 rfl
 obtain ⟨aS, capS, hform⟩ := own_forms hp2
 have hE0 : holdsC (accG h) o.id = rootsD h := by rw [ho0]; exact holds_roots (spec_impl h ▸ hp)
 rw [hE0] at hform hp2
 have hks : ∀ k ∈ rootsD h, (getI ThD.id Ts k).isSome = true := fun k hk => (hT.out k).trans (mem_idsU.1 (mem_idsD.1 (hrt.out k hk)))
 obtain ⟨m1, m2⟩ := things_map hks
 have hrow2 : Hid ((w1.alloc (.cells #[.slice (some ⟨g, 0, none⟩) (idsD h).length cap, .map (some bm), .pointer (some ⟨o.blk, 0, none⟩)] 95)).ownsRow (w.alloc (.cells (List.toArray (cHp h a2 cap2 a3 cap3 a4 cap4)) 28)).heap.size 93 1 (S o.id) ((rootsD h).map (thOf Ts)).length (((rootsD h).map (thOf Ts)).map fun t => .pointer (some ⟨t.blk, 0, none⟩))) := by rw [← m1, List.length_map]; exact hp2
 have hpsT : Hid (∀ u ∈ (rootsD h).map (thOf Ts), u ∈ Ts) := fun u hu => by
  obtain ⟨k, hk, rfl⟩ := List.mem_map.1 hu
  exact (thOf_is (hks k hk)).1
 have hpid : Hid (((rootsD h).map (thOf Ts)).map ThD.id = rootsD h) := by
  show _ = _
  rw [List.map_map]
  have : (rootsD h).map (ThD.id ∘ thOf Ts) = (rootsD h).map (fun k => k) := List.map_congr_left fun k hk => (thOf_is (hks k hk)).2.1
  rw [this, List.map_id']
 have hpl2 : Hid (((rootsD h).map (thOf Ts)).length ≤ 1099511627) := by show _ ≤ _; have : h.vGlobals.length ≤ 1048576 := hs'.out.2.2.1.1; simp only [rootsD, List.length_map, List.length_cons]; omega
 have hin : Hid (∀ t ∈ Ts, ∀ k ∈ holdsC (accG h) t.id, (getI ThD.id Ts k).isSome = true) := fun t _ k hk => (hT.out k).trans (holdsC_there hp'.out hk)
 have hTl : Hid (Ts.length ≤ 1048576) := by show _ ≤ _; have q := congrArg List.length hids'.out; rw [List.length_map] at q; have := idsD_most hp'.out; omega
 have hform' : Hid (S o.id = .slice aS (rootsD h).length capS) := hform
 rw [hform] at d2
 clear bG hp hap hpl hrow ho0 hids hp1 hp2 hform hks m1 m2 hS hE0 hG hM
 go_wp2_with fail
 rw [← hform'.out]
 refine (heldFrom_any hap'.out hGw.out hin.out hTl.out (accG_len hp'.out hs'.out) hrow2.out hpsT.out hpl2.out).mono ?_
 rintro e w2 ⟨⟨v2, all, rfl, hown2, hsub2, hnd2, hfrom2⟩, hb4⟩
 have hB4 : Below w.heap.size w w2 := hB3.trans (hb4.mono hB3.size)
 rw [hpid.out] at hfrom2
 have heq : Hid (sortI (all.map ThD.id) = belD h (rootsD h)) := held_below hp'.out hs'.out hrt.out hnd2 hfrom2
 have hall : Hid (all.length ≤ 1048576) := by
  show _ ≤ _
  have q := sortI_len (all.map ThD.id)
  rw [heq.out, List.length_map] at q
  have := belD_len hp'.out hs'.out hrt.out
  omega
 have hbox : Hid (∀ u ∈ all, w2.cell? ⟨u.blk, 0, none⟩ = some (.int .i64 u.id)) := fun u hu => by
  obtain ⟨S2, hS2⟩ := hGw.out.below hb4
  exact (hS2.1 u (List.mem_cons_of_mem _ (hsub2 u hu))).1.cell 0 rfl
 have hown2' : Hid (w2.ownsRow (w1.alloc (.cells #[.slice (some ⟨g, 0, none⟩) (idsD h).length cap, .map (some bm), .pointer (some ⟨o.blk, 0, none⟩)] 95)).heap.size 93 1 v2 all.length (all.map fun t => .pointer (some ⟨t.blk, 0, none⟩))) := hown2
 obtain ⟨av2, cv2, rfl⟩ := own_forms hown2
 clear hown2 hsub2 hnd2 hfrom2 hb4
 go_wp2_with fail
 refine (risingIds_any hown2'.out hbox.out (by have := hall.out; omega)).mono ?_
 rintro e w3 ⟨⟨v, rfl, hown⟩, hb5⟩
 have hB5 : Below w.heap.size w w3 := hB4.trans (hb5.mono hB4.size)
 rw [heq.out] at hown
 obtain ⟨fs, ho, hl⟩ := seqOwn_of_row hown hI.out
 have hs3 := hB4.size
 have ho' : Hid (SeqOwn 1 IntOwn w3 v (reachedD h) fs) := by rw [HF.out]; exact ho
 have hl' : Hid (∀ b ∈ fs, w.heap.size ≤ b) := fun b q => by have := hl b q; omega
 obtain ⟨av, capv, rfl⟩ := own_forms hown
 clear hown ho hl
 go_wp2_with fail
 go_ret
 exact ⟨⟨_, fs, rfl, ho'.out, hl'.out⟩, hB5⟩
end Go.Proofs.Ytdnembnlomnceaa
