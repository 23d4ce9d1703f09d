/- l2Up of the specification, walked. -/
import Derived.Test.YtdnembnlomnceaaGreatTakeMore
import Derived.Test.YtdnembnlomnceaaGreatHeapSmall
namespace Go.Proofs.YtdnembnlomnceaaGreat
open Go.RowKit
theorem own_below {w w' : World} {base e size n : Nat} {v : Value} {xs : List Value} (h : w.ownsRow base e size v n xs) (hb : Below w.heap.size w w') : w'.ownsRow base e size v n xs := by
 refine ⟨h.1, ?_⟩
 rcases h.2 with h2 | ⟨g, cap, cur, hv, hg, hh, r⟩
 · exact Or.inl h2
 · have hlt : g < w.heap.size := by
    rcases Nat.lt_or_ge g w.heap.size with h | h
    · exact h
    · rw [Array.getElem?_eq_none h] at hh; cases hh
   exact Or.inr ⟨g, cap, cur, hv, hg, (hb.block g hlt).trans hh, r⟩
theorem own_block {w : World} {base e size n : Nat} {v : Value} {xs : List Value} (h : w.ownsRow base e size v n xs) : ∀ k, v.ownBlock = some k → base ≤ k := by
 intro k hk
 rcases h.2 with ⟨rfl, _⟩ | ⟨g, cap, cur, rfl, hg, _⟩
 · cases hk
 · simp [Value.ownBlock] at hk; omega
theorem own_forms {w : World} {base e size n : Nat} {v : Value} {xs : List Value} (h : w.ownsRow base e size v n xs) : ∃ a cap, v = .slice a n cap := by
 rcases h.2 with ⟨rfl, rfl⟩ | ⟨g, cap, cur, rfl, _⟩
 · exact ⟨_, _, rfl⟩
 · exact ⟨_, _, rfl⟩
theorem infoI64 : ((Tryz.prog.info? 2).map fun i => (i.zero, i.bytes, i.size)) = some (some (.int .i64 0), 8, 1) := by kernel_rfl
def lenOf : Value → Nat
 | .slice _ n _ => n
 | _ => 0
set_option maxHeartbeats 2000000 in
theorem l2Up_any {w : World} {lo : Nat} {cs : List Value} {h : HeapD} {id : Int} (hh : HeapAt w lo cs h) (hN : h.vNodes.length ≤ 16) (hP : ParsThere h) (hid : id ≠ 0 → (nodeAt h id).isSome = true) :
 Calls Tryz.prog 54 #[.agg cs.toArray, .int .i64 id] w fun e w' => (∃ v, e = .returned (.tuple #[v, .bool (upF h h.vNodes.length id)])) ∧ Below w.heap.size w w' := by
 have hh' : Hid (HeapAt w lo cs h) := hh
 obtain ⟨k2, k3, k4, rfl, s2, s3, s4, rNext, rDoc, _⟩ := hh
 obtain ⟨a2, cap2, rfl, hm2, hx2⟩ := s2
 unfold maxLen at hm2
 have hx2' : Hid _ := hx2
 have hP' : Hid (ParsThere h) := hP
 have hid' : Hid _ := hid
 clear hx2 s3 s4 rNext rDoc hP hid
 obtain ⟨iI, hiI, heI⟩ := Option.map_eq_some_iff.1 infoI64
 simp only [Prod.mk.injEq] at heI
 have hI : Hid _ := hiI
 have hE : Hid _ := heI
 clear hiI heI
 have hb0 : Below w.heap.size w (w.alloc (.cells (List.toArray [.int .i64 h.vNext, .int .i64 h.vDoc, .slice a2 h.vNodes.length cap2, k3, k4]) 28)) := (Below.refl _ _).alloc (Nat.le_refl _) _
 go_enter Tryz.func54, Tryz.ntmps54
 go_wp2_with fail
 go_loopw [1, 6] (fun z v wr => ∃ (m : Nat) (i : Int) (xs : List Value), m ≤ h.vNodes.length ∧ z = .int .i64 i ∧ Hid (wr.ownsRow (w.heap.size + 1) 2 1 v m xs) ∧ Below (w.heap.size + 1) (w.alloc (.cells (List.toArray [.int .i64 h.vNext, .int .i64 h.vDoc, .slice a2 h.vNodes.length cap2, k3, k4]) 28)) wr ∧ Hid (upF h h.vNodes.length id = upF h (h.vNodes.length - m) i) ∧ Hid (i ≠ 0 → (nodeAt h i).isSome = true) ∧ Hid (∃ a cap, v = .slice a m cap)) (fun _ v _ => h.vNodes.length - lenOf v)
 case atStart => exact ⟨0, id, [], by omega, rfl, ⟨rfl, Or.inr ⟨_, _, #[], rfl, by omega, by have := (MapKept.heap_alloc (w.alloc (.cells (List.toArray [.int .i64 h.vNext, .int .i64 h.vDoc, .slice a2 h.vNodes.length cap2, k3, k4]) 28)) (.cells #[] 2)).1; simpa using this, Nat.le_refl _, Nat.zero_le _, rfl, rfl⟩⟩, (Below.refl _ _).alloc (by simp) _, rfl, hid', ⟨_, _, rfl⟩⟩
 case round =>
  obtain ⟨m, i, xs, hm, rfl, hown, hb, hrem, hi0, hform⟩ := hrel
  have hbw : Below w.heap.size w wr := hb0.trans (hb.mono (by omega))
  have bH := (Box.new w [.int .i64 h.vNext, .int .i64 h.vDoc, .slice a2 h.vNodes.length cap2, k3, k4] 28).below hb (by omega)
  obtain ⟨t0, t1, t2, t3, t4⟩ := fv5 bH
  have hz : w.heap.size + 1 ≤ wr.heap.size := bH.lt
  clear bH
  obtain ⟨av, capv, rfl⟩ := hform.out
  clear hform
  by_cases hi : i = 0
  · have hi' : (i != 0) = false := by simpa using hi
    have HF : Hid (upF h h.vNodes.length id = true) := by show _ = _; rw [hrem.out, hi]; exact upF_zero _ _
    clear hi
    go_wp2_with fail
    go_ret2
    exact ⟨⟨.slice av m capv, by rw [HF.out]; rfl⟩, hbw⟩
  have hi' : (i != 0) = true := by simpa using hi
  by_cases hf : m = h.vNodes.length
  · have hf' : ((m : Int) == (h.vNodes.length : Int)) = true := by simp; omega
    have HF : Hid (upF h h.vNodes.length id = false) := by show _ = _; rw [hrem.out, hf, Nat.sub_self]; exact upF_full _ hi
    clear hi hf
    go_wp2_with fail
    go_ret2
    exact ⟨⟨.slice none 0 0, by rw [HF.out]; rfl⟩, hbw⟩
  have hf' : ((m : Int) == (h.vNodes.length : Int)) = false := by simp; omega
  have hsome := hi0.out hi
  rcases idxN_is h i with ⟨hidx, hat⟩ | ⟨i', hi1, hidx, _, hat⟩
  · rw [hat] at hsome; cases hsome
  have HS : Hid (upF h (h.vNodes.length - m) i = upF h (h.vNodes.length - (m + 1)) h.vNodes[i'].vParent) := by
   show _ = _
   rw [show h.vNodes.length - m = (h.vNodes.length - (m + 1)) + 1 by omega]
   exact upF_step h hi hat
  have hnext : Hid (h.vNodes[i'].vParent ≠ 0 → (nodeAt h h.vNodes[i'].vParent).isSome = true) := hP'.out i' hi1
  have hmlt : m < h.vNodes.length := by omega
  clear hsome hat hi hf
  go_wp2_with (at_builtin; refine wpList_append_own _ rfl _ _ 29 rfl (w.heap.size + 1) 2 iI (.int .i64 0) 1 8 Tryz.underlying29 hI.out hE.out.1 hE.out.2.2 hE.out.2.1 rfl (by decide) _ m xs rfl (hown.out.alloc _) ⟨wr.heap.size, 0, none⟩ 1 1 [.int .i64 i] rfl rfl ?c1 ?c2 ?c3 ?c4 ?c5 ?_)
  case c1 =>
   intro j u hj
   match j, hj with
   | 0, hj => simp at hj; subst hj; simp [Addr.add]
  case c2 => intro u hu; simp at hu; subst hu; rfl
  case c3 => unfold maxLen; omega
  case c4 => omega
  case c5 => simp; omega
  intro v' w1 hown' hgrow _
  have hb2 : Below (w.heap.size + 1) (w.alloc (.cells (List.toArray [.int .i64 h.vNext, .int .i64 h.vDoc, .slice a2 h.vNodes.length cap2, k3, k4]) 28)) w1 := (hb.alloc hz _).grown hgrow (by simp; omega) (own_block hown.out)
  obtain ⟨av', capv', rfl⟩ := own_forms hown'
  have hown1 : Hid _ := hown'
  clear hown' hgrow t0 t1 t2 t3 t4
  have hbw2 : Below w.heap.size w w1 := hb0.trans (hb2.mono (by omega))
  have bH := (Box.new w [.int .i64 h.vNext, .int .i64 h.vDoc, .slice a2 h.vNodes.length cap2, k3, k4] 28).below hb2 (by omega)
  obtain ⟨bn, offn, rfl, hlon, hbwn, hcn⟩ := hx2'.out (by omega)
  obtain ⟨csn, hcln, lien, hrn⟩ := hcn i' hi1
  have lien1 := Lie.keep (lo := lo) (lo' := lo) lien (.of_below hbw2) hlon hbwn
  obtain ⟨t0, t1, t2, t3, t4⟩ := fv5 bH
  have hz2 : w.heap.size + 1 ≤ w1.heap.size := bH.lt
  clear bH
  generalize hP0 : h.vNodes[i'] = PN at hrn HS hnext
  clear hP0
  obtain ⟨g3, g5, rfl, _⟩ := hrn
  have y2 := lie_at lien1 2 rfl
  have hin : (0 : Int) ≤ (i' : Int) := by omega
  have hin2 : (i' : Int) < (h.vNodes.length : Int) := by omega
  have hhd : Hid (HeapAt w1.drew lo _ h) := HeapAt_stays _ _ _ lo _ _ (.of_below hbw2.drew) hh'.out
  clear lien lien1 hcln hcn
  go_wp2_with fail
  refine wp_region_held_drew (S := fun w' => w'.cell? ⟨w.heap.size, 0, none⟩ = some (.int .i64 h.vNext) ∧ w'.cell? ⟨w.heap.size, 1, none⟩ = some (.int .i64 h.vDoc) ∧ w'.cell? ⟨w.heap.size, 2, none⟩ = some (.slice (some ⟨bn, offn, none⟩) h.vNodes.length cap2) ∧ w'.cell? ⟨w.heap.size, 3, none⟩ = some (k3) ∧ w'.cell? ⟨w.heap.size, 4, none⟩ = some (k4) ∧ w'.cell? ⟨bn, offn + i' * 6 + 2, none⟩ = some (.int .i64 PN.vParent)) (by kernel_rfl) (by refine ⟨?_, ?_, ?_, ?_, ?_, ?_⟩ <;> assumption) (fun hHeld => ?_)
  refine tk 0 ?_
  refine tk 1 ?_
  refine tk 2 ?_
  refine tk 3 ?_
  refine rd1 4 (fun K hK => ?_)
  go_simp
  refine (l2Node_any (by exact hhd.out)).mono ?_
  rintro e w2 ⟨rfl, hb1⟩
  have hb4 := hb1
  rw [hidx]
  dsimp only
  refine hK.out _ _ ⟨cell_on hb1 hHeld.1, cell_on hb1 hHeld.2.1, cell_on hb1 hHeld.2.2.1, cell_on hb1 hHeld.2.2.2.1, cell_on hb1 hHeld.2.2.2.2.1, cell_on hb1 hHeld.2.2.2.2.2⟩ (fun hHeld => ?_)
  clear hK K
  refine tk 5 ?_
  refine tk 6 ?_
  refine tk 7 ?_
  refine tk 8 ?_
  refine wpAnyH_done (by kernel_rfl) ?_ _
  have hb5 : Below (w.heap.size + 1) _ w2 := hb2.drew.trans (hb4.mono hz2)
  have hown2 : Hid (w2.ownsRow (w.heap.size + 1) 2 1 _ (m + 1) _) := own_below (w := w1.drew) hown1.out hb4
  go_wp2_with fail
  go_roundw
  case rel => exact ⟨m + 1, PN.vParent, _, by omega, rfl, hown2, hb5, by show _ = _; rw [hrem.out, HS.out], hnext, ⟨_, _, rfl⟩⟩
  case measure => simp [lenOf]; omega
end Go.Proofs.YtdnembnlomnceaaGreat
