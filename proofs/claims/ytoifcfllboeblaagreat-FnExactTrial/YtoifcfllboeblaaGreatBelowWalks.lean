/- The specification's lists that rise, walked. -/
import Derived.Test.YtoifcfllboeblaaGreatReachPlain
import Derived.Test.YtoifcfllboeblaaGreatAppendInts
namespace Go.Proofs.YtoifcfllboeblaaGreat
open Go.RowKit
theorem SeqAt.part {w : World} {lo : Nat} {a : Option Addr} {n cap : Nat} {xs : List Int} (h : SeqAt 1 IntAt w lo (.slice a n cap) xs) (l k : Nat) (hl : l ≤ k) (hk : k ≤ n) : SeqAt 1 IntAt w lo (sliced a l k cap 1) ((xs.take k).drop l) := by
  obtain ⟨a', cap', e, hm, hx⟩ := h
  injection e with e1 e2 e3
  subst e1 e2 e3
  have hlen : ((xs.take k).drop l).length = k - l := by simp; omega
  refine ⟨if cap = l then a else a.map (·.add (l * 1)), cap - l, by rw [hlen]; rfl, by rw [hlen]; omega, fun h0 => ?_⟩
  obtain ⟨b, off, rfl, h1, h2, hc⟩ := hx (by omega)
  rw [if_neg (by omega)]
  refine ⟨b, off + l, ?_, h1, h2, fun i hi => ?_⟩
  · simp only [Option.map_some, Nat.mul_one, Addr.add]
    split
    · rename_i e; subst e; simp
    · rfl
  · obtain ⟨cs, hcl, lie, r⟩ := hc (l + i) (by omega)
    refine ⟨cs, hcl, fun m hm => ?_, ?_⟩
    · have := lie m hm
      rw [show off + l + i * 1 + m = off + (l + i) * 1 + m by omega]
      exact this
    · rw [List.getElem_drop, List.getElem_take]; exact r
theorem run_cut {a : Option Addr} {n cap j : Nat} (h : j ≤ cap) : ∀ W : World, Sem.run Tryz.prog (Instr.sliceAt 28 (.slice a n cap) none (some (.int .i64 (j : Int))) none) W = .ok (sliced a 0 j cap 1) W := fun W => by
  simp [Instr.sliceAt, Instr.slice, run_underlying Tryz.underlying28, Instr.sliceBounds, run_sliceBound, sliced, Tryz.sizeOf2, Result.andThen, h]
theorem run_rest {a : Option Addr} {n cap j : Nat} (h : j ≤ n) : ∀ W : World, Sem.run Tryz.prog (Instr.sliceAt 28 (.slice a n cap) (some (.int .i64 (j : Int))) none none) W = .ok (sliced a j n cap 1) W := fun W => by
  simp [Instr.sliceAt, Instr.slice, run_underlying Tryz.underlying28, Instr.sliceBounds, run_sliceBound, sliced, Tryz.sizeOf2, Result.andThen, h]
set_option maxRecDepth 100000 in
set_option maxHeartbeats 2000000 in
theorem l5Put_any {w : World} {lo : Nat} {k : Value} {xs : List Int} {id : Int} (hk : SeqAt 1 IntAt w lo k xs) (hl : xs.length ≤ 1048576) (hn : hasB xs id = false) :
    Calls Tryz.prog 73 #[k, .int .i64 id] w fun e w' => (∃ g cap, e = .returned (.slice (some ⟨g, 0, none⟩) (xs.length + 1) cap) ∧ w'.ownsRow w.heap.size 2 1 (.slice (some ⟨g, 0, none⟩) (xs.length + 1) cap) (xs.length + 1) ((insR xs id).map fun n => .int .i64 n)) ∧ Below w.heap.size w w' := by
  obtain ⟨iI, hiI, heI⟩ := Option.map_eq_some_iff.1 infoI64
  simp only [Prod.mk.injEq] at heI
  have hI : Hid _ := hiI
  have hE : Hid _ := heI
  clear hiI heI
  have hk' : Hid (SeqAt 1 IntAt w lo k xs) := hk
  obtain ⟨a, cap, rfl, hm, hx⟩ := hk
  have hx' : Hid _ := hx
  have hn' : Hid (hasB xs id = false) := hn
  have hcap : xs.length ≤ cap := hm.2
  clear hx hm hn
  go_enter Tryz.func73, Tryz.ntmps73
  go_wp2_with fail
  refine (l2Has_any hk'.out).mono ?_
  rintro e w1 ⟨rfl, hw⟩
  rw [hw, hn'.out]
  clear hw w1
  go_wp2_with fail
  go_loop [5] (fun i => ∃ (j : Nat), j ≤ xs.length ∧ i = .int .i64 j ∧ Hid (∀ i, (hi : i < xs.length) → i < j → xs[i] < id)) (fun i => xs.length - (intOf i).toNat)
  case atStart => exact ⟨0, by omega, rfl, fun _ _ h => by omega⟩
  case round =>
    obtain ⟨j, hj, rfl, hlow⟩ := hrel
    have hcap' : (j : Int) ≤ (cap : Int) := by omega
    have hj0 : (0 : Int) ≤ (j : Int) := by omega
    have hjl : (j : Int) ≤ (xs.length : Int) := by omega
    by_cases hgo : ∃ hlt : j < xs.length, xs[j] < id
    · obtain ⟨hlt, hq⟩ := hgo
      obtain ⟨b, off, rfl, hlo, hbw, hc⟩ := hx'.out (by omega)
      obtain ⟨cs, hcl, lie, hr⟩ := hc j hlt
      have hlow2 : Hid (∀ i, (hi : i < xs.length) → i < j + 1 → xs[i] < id) := fun i hi hij => by
        rcases Nat.lt_or_ge i j with q | q
        · exact hlow.out i hi q
        · obtain rfl : i = j := by omega
          exact hq
      generalize xs[j] = X at hr hq
      obtain ⟨rfl, hI2⟩ := hr
      have z0 := lie 0 (by simp)
      simp only [List.getElem?_cons_zero, Nat.add_zero, Nat.mul_one] at z0
      have hlt' : (j : Int) < (xs.length : Int) := by omega
      clear lie hcl hx' hc
      go_wp2_with fail
      go_round
      case rel => exact ⟨j + 1, by omega, by go_num, hlow2⟩
      case measure => simp [intOf]; omega
    have hsplit : Hid (insR xs id = xs.take j ++ [id] ++ xs.drop j) := insR_split xs id j hj hlow.out (fun hlt q => hgo ⟨hlt, q⟩)
    have h1 : Hid (SeqAt 1 IntAt w lo (sliced a 0 j cap 1) (xs.take j)) := by have q := hk'.out.part 0 j (by omega) hj; rwa [List.drop_zero] at q
    have h2 : Hid (SeqAt 1 IntAt w lo (sliced a j xs.length cap 1) (xs.drop j)) := by have q := hk'.out.part j xs.length hj (Nat.le_refl _); rwa [List.take_length] at q
    have hlen : (xs.take j).length = j ∧ (xs.drop j).length = xs.length - j := by simp; omega
    obtain ⟨K1, hK1⟩ : ∃ K1, xs.take j = K1 := ⟨_, rfl⟩
    obtain ⟨K2, hK2⟩ : ∃ K2, xs.drop j = K2 := ⟨_, rfl⟩
    rw [hK1, hK2] at hsplit hlen
    rw [hK1] at h1
    rw [hK2] at h2
    have hl1 : K1.length = j := hlen.1
    have hl2 : K2.length = xs.length - j := hlen.2
    clear hK1 hK2 hlen
    have hst : Hid ((w.alloc (.cells #[] 2)).ownsRow w.heap.size 2 1 (.slice (some ⟨w.heap.size, 0, none⟩) 0 0) 0 []) := row_start (Nat.le_refl _)
    have hb0 : Below w.heap.size w (w.alloc (.cells #[] 2)) := (Below.refl _ _).alloc (Nat.le_refl _) _
    have hk1 : Hid (SeqAt 1 IntAt (w.alloc (.cells #[] 2)) lo (sliced a 0 j cap 1) K1) := SeqAt.keep intAt_stays h1.out (.of_below hb0)
    obtain ⟨A1, C1, hV1⟩ : ∃ A1 C1, sliced a 0 j cap 1 = .slice A1 j C1 := ⟨_, _, rfl⟩
    obtain ⟨A2, C2, hV2⟩ : ∃ A2 C2, sliced a j xs.length cap 1 = .slice A2 (xs.length - j) C2 := ⟨_, _, rfl⟩
    have hsl1 := run_cut (a := a) (n := xs.length) (cap := cap) (j := j) (by omega)
    have hsl2 := run_rest (a := a) (n := xs.length) (cap := cap) (j := j) (by omega)
    rw [hV1] at hsl1 hk1
    rw [hV2] at hsl2 h2
    clear hV1 hV2
    have hgd : Hid (∀ hlt : j < xs.length, ¬ xs[j] < id) := fun hlt q => hgo ⟨hlt, q⟩
    clear h1 hgo hlow
    by_cases hlt : j < xs.length
    · obtain ⟨b, off, rfl, hlo, hbw, hc⟩ := hx'.out (by omega)
      obtain ⟨cs, hcl, lie, hr⟩ := hc j hlt
      have hq : ¬ xs[j] < id := hgd.out hlt
      generalize xs[j] = X at hr hq
      obtain ⟨rfl, hI2⟩ := hr
      have z0 := lie 0 (by simp)
      simp only [List.getElem?_cons_zero, Nat.add_zero, Nat.mul_one] at z0
      have hlt' : (j : Int) < (xs.length : Int) := by omega
      have hq' : decide (X < id) = false := by simpa using hq
      clear lie hcl hx' hc hgd hq
      go_wp2_with (at_builtin; refine wpList_append_ints rfl _ _ 28 rfl (w.heap.size) lo 2 iI Tryz.underlying28 hI.out hE.out.1 hE.out.2.2 hE.out.2.1 (.slice (some ⟨w.heap.size, 0, none⟩) 0 0) (0) ([]) rfl (by simp) hst.out _ (K1) rfl (by exact hk1.out) (by omega) (by first | omega | (simp; omega) | simp) ?_)
      intro v1 w1 hown1 hgrow1 hnn1
      obtain ⟨g1, cap1, rfl⟩ := nonnil_row hown1 hnn1
      have hb1 : Below w.heap.size w w1 := hb0.grown hgrow1 hb0.size (own_block hst.out)
      obtain ⟨L1, hL1⟩ : ∃ L1, (K1.map fun n => Value.int .i64 n) = L1 := ⟨_, rfl⟩
      have hr1 : Hid (w1.ownsRow w.heap.size 2 1 (.slice (some ⟨g1, 0, none⟩) j cap1) j L1) := by rw [← hL1]; show World.ownsRow _ _ _ _ _ _ _; simpa using hown1
      have hL1' : Hid _ := hL1
      have hs1 := hb1.size
      clear hown1 hgrow1 hnn1 hL1
      go_wp2_with (at_builtin; refine wpList_append_own _ rfl _ _ 28 rfl (w.heap.size) 2 iI (.int .i64 0) 1 8 Tryz.underlying28 hI.out hE.out.1 hE.out.2.2 hE.out.2.1 rfl (by decide) _ (j) (L1) rfl (hr1.out.alloc _) ⟨w1.heap.size, 0, none⟩ 1 1 [.int .i64 id] rfl rfl (by intro q u hq; match q, hq with | 0, hq => simp at hq; subst hq; simp [Addr.add]) (by simp [Value.oneCell']) (by unfold maxLen; omega) (by omega) (by simp; omega) ?_)
      intro v2 w2 hown2 hgrow2 hnl2
      have hnn2 : v2 ≠ .slice none 0 0 := fun q => by first | exact hnl2 q | (have := (hnl2.1 q).2; omega)
      obtain ⟨g2, cap2, rfl⟩ := nonnil_row hown2 hnn2
      have hb2 : Below w.heap.size w w2 := (hb1.alloc hs1 _).grown hgrow2 (by simp; omega) (own_block hr1.out)
      obtain ⟨L2, hL2⟩ : ∃ L2, (L1 ++ [Value.int .i64 id]) = L2 := ⟨_, rfl⟩
      have hr2 : Hid (w2.ownsRow w.heap.size 2 1 (.slice (some ⟨g2, 0, none⟩) (j + 1) cap2) (j + 1) L2) := by rw [← hL2]; exact hown2
      have hL2' : Hid _ := hL2
      have hs2 := hb2.size
      have hk2 : Hid (SeqAt 1 IntAt w2 lo (.slice A2 (xs.length - j) C2) K2) := SeqAt.keep intAt_stays h2.out (.of_below hb2)
      clear hown2 hgrow2 hnn2 hL2 hnl2
      go_wp2_with (at_builtin; refine wpList_append_ints rfl _ _ 28 rfl (w.heap.size) lo 2 iI Tryz.underlying28 hI.out hE.out.1 hE.out.2.2 hE.out.2.1 (.slice (some ⟨g2, 0, none⟩) (j + 1) cap2) (j + 1) (L2) rfl (by simp) hr2.out _ (K2) rfl (by exact hk2.out) (by omega) (by first | omega | (simp; omega) | simp) ?_)
      intro v3 w3 hown3 hgrow3 hnn3
      obtain ⟨g3, cap3, rfl⟩ := nonnil_row hown3 hnn3
      have hb3 : Below w.heap.size w w3 := hb2.grown hgrow3 hs2 (own_block hr2.out)
      have hr3 : Hid (w3.ownsRow w.heap.size 2 1 (.slice (some ⟨g3, 0, none⟩) (j + 1 + (xs.length - j)) cap3) (j + 1 + (xs.length - j)) (L2 ++ K2.map fun n => .int .i64 n)) := hown3
      clear hown3 hgrow3 hnn3
      go_wp2_with fail
      go_ret
      have e1 : j + 1 + (xs.length - j) = xs.length + 1 := by omega
      have q := hr3.out
      rw [e1, ← hL2'.out, ← hL1'.out] at q
      refine ⟨⟨g3, cap3, by rw [e1]; rfl, ?_⟩, hb3⟩
      rw [hsplit.out]
      simpa using q
    · have hlt' : decide ((j : Int) < (xs.length : Int)) = false := by simp; omega
      clear hx' hgd
      go_wp2_with (at_builtin; refine wpList_append_ints rfl _ _ 28 rfl (w.heap.size) lo 2 iI Tryz.underlying28 hI.out hE.out.1 hE.out.2.2 hE.out.2.1 (.slice (some ⟨w.heap.size, 0, none⟩) 0 0) (0) ([]) rfl (by simp) hst.out _ (K1) rfl (by exact hk1.out) (by omega) (by first | omega | (simp; omega) | simp) ?_)
      intro v1 w1 hown1 hgrow1 hnn1
      obtain ⟨g1, cap1, rfl⟩ := nonnil_row hown1 hnn1
      have hb1 : Below w.heap.size w w1 := hb0.grown hgrow1 hb0.size (own_block hst.out)
      obtain ⟨L1, hL1⟩ : ∃ L1, (K1.map fun n => Value.int .i64 n) = L1 := ⟨_, rfl⟩
      have hr1 : Hid (w1.ownsRow w.heap.size 2 1 (.slice (some ⟨g1, 0, none⟩) j cap1) j L1) := by rw [← hL1]; show World.ownsRow _ _ _ _ _ _ _; simpa using hown1
      have hL1' : Hid _ := hL1
      have hs1 := hb1.size
      clear hown1 hgrow1 hnn1 hL1
      go_wp2_with (at_builtin; refine wpList_append_own _ rfl _ _ 28 rfl (w.heap.size) 2 iI (.int .i64 0) 1 8 Tryz.underlying28 hI.out hE.out.1 hE.out.2.2 hE.out.2.1 rfl (by decide) _ (j) (L1) rfl (hr1.out.alloc _) ⟨w1.heap.size, 0, none⟩ 1 1 [.int .i64 id] rfl rfl (by intro q u hq; match q, hq with | 0, hq => simp at hq; subst hq; simp [Addr.add]) (by simp [Value.oneCell']) (by unfold maxLen; omega) (by omega) (by simp; omega) ?_)
      intro v2 w2 hown2 hgrow2 hnl2
      have hnn2 : v2 ≠ .slice none 0 0 := fun q => by first | exact hnl2 q | (have := (hnl2.1 q).2; omega)
      obtain ⟨g2, cap2, rfl⟩ := nonnil_row hown2 hnn2
      have hb2 : Below w.heap.size w w2 := (hb1.alloc hs1 _).grown hgrow2 (by simp; omega) (own_block hr1.out)
      obtain ⟨L2, hL2⟩ : ∃ L2, (L1 ++ [Value.int .i64 id]) = L2 := ⟨_, rfl⟩
      have hr2 : Hid (w2.ownsRow w.heap.size 2 1 (.slice (some ⟨g2, 0, none⟩) (j + 1) cap2) (j + 1) L2) := by rw [← hL2]; exact hown2
      have hL2' : Hid _ := hL2
      have hs2 := hb2.size
      have hk2 : Hid (SeqAt 1 IntAt w2 lo (.slice A2 (xs.length - j) C2) K2) := SeqAt.keep intAt_stays h2.out (.of_below hb2)
      clear hown2 hgrow2 hnn2 hL2 hnl2
      go_wp2_with (at_builtin; refine wpList_append_ints rfl _ _ 28 rfl (w.heap.size) lo 2 iI Tryz.underlying28 hI.out hE.out.1 hE.out.2.2 hE.out.2.1 (.slice (some ⟨g2, 0, none⟩) (j + 1) cap2) (j + 1) (L2) rfl (by simp) hr2.out _ (K2) rfl (by exact hk2.out) (by omega) (by first | omega | (simp; omega) | simp) ?_)
      intro v3 w3 hown3 hgrow3 hnn3
      obtain ⟨g3, cap3, rfl⟩ := nonnil_row hown3 hnn3
      have hb3 : Below w.heap.size w w3 := hb2.grown hgrow3 hs2 (own_block hr2.out)
      have hr3 : Hid (w3.ownsRow w.heap.size 2 1 (.slice (some ⟨g3, 0, none⟩) (j + 1 + (xs.length - j)) cap3) (j + 1 + (xs.length - j)) (L2 ++ K2.map fun n => .int .i64 n)) := hown3
      clear hown3 hgrow3 hnn3
      go_wp2_with fail
      go_ret
      have e1 : j + 1 + (xs.length - j) = xs.length + 1 := by omega
      have q := hr3.out
      rw [e1, ← hL2'.out, ← hL1'.out] at q
      refine ⟨⟨g3, cap3, by rw [e1]; rfl, ?_⟩, hb3⟩
      rw [hsplit.out]
      simpa using q
end Go.Proofs.YtoifcfllboeblaaGreat
