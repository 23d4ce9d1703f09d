/- Edited of the specification: walked. -/
import Derived.Test.YtndffcogddefiaaEdPut
import Derived.Test.YtndffcogddefiaaCopySpec
namespace Go.Proofs.Ytndffcogddefiaa
open Go.RowKit Go.Deep
theorem putI_all : ∀ m, PutI m := by
  intro m
  induction m with
  | zero => exact putI_zero
  | succ m ih => exact putI_succ m ih
theorem TreeS.of2 {w : World} : ∀ (n : Nat) {lo : Nat} {t k : Value} {d : TD}, TreeAt w lo n t k d → TreeS w (fun b => lo ≤ b ∧ b < w.heap.size) n t k d := by
  intro n
  induction n with
  | zero => intro lo t k d h; exact h
  | succ n ih =>
    intro lo t k d h
    obtain ⟨h1, a, cap, hk, hm, hx⟩ := h
    refine ⟨h1, a, cap, hk, hm, fun h0 => ?_⟩
    obtain ⟨b, off, ha, q1, q2, hc⟩ := hx h0
    exact ⟨b, off, ha, ⟨q1, q2⟩, q2, fun i hi => by obtain ⟨t', k', c1, c2, r⟩ := hc i hi; exact ⟨t', k', c1, c2, ih r⟩⟩
def zeroT : TD := mkT ⟨#[]⟩ []
def resTd (o : Option TD) : TD := o.getD zeroT
theorem treeO_zero (w : World) : TreeO 1 w [.string ⟨#[]⟩, .slice none 0 0] zeroT [] := ⟨.slice none 0 0, [], rfl, ⟨none, 0, rfl, ⟨Nat.zero_le _, Nat.zero_le _⟩, Or.inl ⟨rfl, rfl⟩⟩, Nat.zero_le _, rfl⟩
/-- what Edited answers: a tree that owns its memory -/
def EdR (w w' : World) (o : Option TD) (e : Ending) : Prop := ∃ (cs : List Value) (fs : List Nat) (n : Nat), e = .returned (.tuple #[.agg cs.toArray, .bool o.isSome]) ∧ TreeO n w' cs (resTd o) fs ∧ fs.Nodup ∧ (∀ b ∈ fs, w.heap.size ≤ b) ∧ Below w.heap.size w w'
theorem EdR.no {w w' : World} {o : Option TD} (h : o = Option.none) (hb : Below w.heap.size w w') : EdR w w' o (.returned (.tuple #[.agg #[.string ⟨#[]⟩, .slice none 0 0], .bool false])) := by
  subst h
  exact ⟨[.string ⟨#[]⟩, .slice none 0 0], [], 1, rfl, treeO_zero _, List.nodup_nil, by simp, hb⟩
theorem edited_not {d : TD} {e : EditD} (h : treeB d = false ∨ formB e = false) : editedD d e = none := by
  unfold editedD
  rw [if_neg]
  rintro ⟨h1, h2⟩
  rcases h with h | h
  · rw [h] at h1; cases h1
  · rw [h] at h2; cases h2
theorem edited_put {d : TD} {e : EditD} (h1 : treeB d = true) (h2 : formB e = true) : editedD d e = match putD e.vKind e.vTag e.vTree e.vPath d with
  | some x => if treeB x = true then some x else none
  | none => none := by unfold editedD; rw [if_pos ⟨h1, h2⟩]; rfl
set_option maxRecDepth 100000 in
set_option maxHeartbeats 16000000 in
theorem specEdited_any {n m : Nat} {w : World} {t k : Value} {cs : List Value} {d : TD} {e : EditD} (ht0 : TreeAt w 0 n t k d) (he : EditAt m w 0 cs e) :
    Calls Try.prog 11 #[.agg #[t, k], .agg cs.toArray] w fun e1 w' => EdR w w' (editedD d e) e1 := by
  obtain ⟨rfl, _⟩ := ht0.tag
  obtain ⟨_, a0, c0, rfl⟩ := ht0.form
  obtain ⟨ap, cp, at1, ct, rfl, hp0, htg0, htt0⟩ := he.form
  have he' : Hid (∀ W, Below w.heap.size w W → EditAt m W 0 [.int .i64 e.vKind, .slice ap e.vPath.length cp, .string e.vTag, .string (strT e.vTree), .slice at1 (kidsOf e.vTree).length ct] e) := fun W hb => EditAt.stays _ _ _ _ _ _ (.of_below hb) he
  have ht : Hid (∀ W, Below w.heap.size w W → TreeAt W 0 n (.string (strT d)) (.slice a0 (kidsOf d).length c0) d) := fun W hb => ht0.below hb
  have htg : Hid (e.vTag.size ≤ maxLen) := htg0
  have hpw : Hid (∀ W, Below w.heap.size w W → SeqAt 1 IntAt W 0 (.slice ap e.vPath.length cp) e.vPath) := fun W hb => hp0.below intAt_stays hb
  have htw : Hid (∀ W, Below w.heap.size w W → TreeAt W 0 m (.string (strT e.vTree)) (.slice at1 (kidsOf e.vTree).length ct) e.vTree) := fun W hb => htt0.below hb
  obtain ⟨W, hW⟩ : ∃ W, (((w.alloc (.cells #[.string (strT d), .slice a0 (kidsOf d).length c0] 26)).alloc (.cells #[.int .i64 e.vKind, .slice ap e.vPath.length cp, .string e.vTag, .string (strT e.vTree), .slice at1 (kidsOf e.vTree).length ct] 29)).alloc (.cells #[.string ⟨#[]⟩, .slice none 0 0] 26)) = W := ⟨_, rfl⟩
  have bT0 : Hid (Box W w.heap.size [.string (strT d), .slice a0 (kidsOf d).length c0] 26) := by rw [← hW]; exact ((Box.new w _ _).alloc _).alloc _
  have bE0 : Hid (Box W (w.heap.size + 1) [.int .i64 e.vKind, .slice ap e.vPath.length cp, .string e.vTag, .string (strT e.vTree), .slice at1 (kidsOf e.vTree).length ct] 29) := by
    rw [← hW]
    have q := (Box.new (w.alloc (.cells #[.string (strT d), .slice a0 (kidsOf d).length c0] 26)) [.int .i64 e.vKind, .slice ap e.vPath.length cp, .string e.vTag, .string (strT e.vTree), .slice at1 (kidsOf e.vTree).length ct] 29).alloc (.cells #[.string ⟨#[]⟩, .slice none 0 0] 26)
    simpa [Hid] using q
  have bR0 : Hid (Box W (w.heap.size + 1 + 1) [.string ⟨#[]⟩, .slice none 0 0] 26) := by
    rw [← hW]
    have q := Box.new ((w.alloc (.cells #[.string (strT d), .slice a0 (kidsOf d).length c0] 26)).alloc (.cells #[.int .i64 e.vKind, .slice ap e.vPath.length cp, .string e.vTag, .string (strT e.vTree), .slice at1 (kidsOf e.vTree).length ct] 29)) [.string ⟨#[]⟩, .slice none 0 0] 26
    simpa [Hid] using q
  have hB0 : Hid (Below w.heap.size w W) := by rw [← hW]; exact (((Below.refl _ _).alloc (Nat.le_refl _) _).alloc (by simp) _).alloc (by simp; omega) _
  have hWh : Hid ((((w.alloc (.cells #[.string (strT d), .slice a0 (kidsOf d).length c0] 26)).alloc (.cells #[.int .i64 e.vKind, .slice ap e.vPath.length cp, .string e.vTag, .string (strT e.vTree), .slice at1 (kidsOf e.vTree).length ct] 29)).alloc (.cells #[.string ⟨#[]⟩, .slice none 0 0] 26)) = W) := hW
  clear hW ht0 he hp0 htg0 htt0
  go_enter Try.func11, Try.ntmps11
  go_upto_region 1 with fail
  rw [hWh.out]
  clear hWh
  have t0 := bT0.out.cell 0 rfl
  have t1 := bT0.out.cell 1 rfl
  go_wp2_with fail
  refine (specOk_any (ht.out W hB0.out)).mono ?_
  rintro e9 w1 ⟨rfl, hb1⟩
  have hB1 : Hid (Below w.heap.size w w1) := hB0.out.trans (hb1.mono hB0.out.size)
  have bT1 : Hid (Box w1 w.heap.size [.string (strT d), .slice a0 (kidsOf d).length c0] 26) := bT0.out.below hb1 bT0.out.lt
  have bE1 : Hid (Box w1 (w.heap.size + 1) [.int .i64 e.vKind, .slice ap e.vPath.length cp, .string e.vTag, .string (strT e.vTree), .slice at1 (kidsOf e.vTree).length ct] 29) := bE0.out.below hb1 bE0.out.lt
  have bR1 : Hid (Box w1 (w.heap.size + 1 + 1) [.string ⟨#[]⟩, .slice none 0 0] 26) := bR0.out.below hb1 bR0.out.lt
  clear hb1 bT0 bE0 bR0 hB0 t0 t1
  rcases (by cases treeB d <;> simp : treeB d = false ∨ treeB d = true) with hd | hd
  · rw [hd]
    have hno : Hid (editedD d e = none) := edited_not (Or.inl hd)
    clear hd
    have r0 := bR1.out.cell 0 rfl
    have r1 := bR1.out.cell 1 rfl
    have fR := bR1.out.unfrozen
    go_wp2_with fail
    have z1 := Box.set (i := 1) (Box.set (i := 0) bR1.out (.string ⟨#[]⟩)) (.slice none 0 0)
    have z10 := z1.cell 0 rfl
    have z11 := z1.cell 1 rfl
    exact bodyPost_ret (v := .tuple #[.agg #[.string ⟨#[]⟩, .slice none 0 0], .bool false]) (by simp [results, Try.results11, go_sem, z10, z11]) rfl (EdR.no hno.out (putCells_below [.string ⟨#[]⟩, .slice none 0 0] _ _ _ (w.heap.size + 1 + 1) 0 (by omega) hB1.out))
  rw [hd]
  have e0 := bE1.out.cell 0 rfl
  have e1 := bE1.out.cell 1 rfl
  have e2 := bE1.out.cell 2 rfl
  have e3 := bE1.out.cell 3 rfl
  have e4 := bE1.out.cell 4 rfl
  go_wp2_with fail
  refine (l10Form_any (he'.out w1 hB1.out)).mono ?_
  rintro e9 w2 ⟨rfl, hb2⟩
  have hB2 : Hid (Below w.heap.size w w2) := hB1.out.trans (hb2.mono hB1.out.size)
  have bT2 : Hid (Box w2 w.heap.size [.string (strT d), .slice a0 (kidsOf d).length c0] 26) := bT1.out.below hb2 bT1.out.lt
  have bE2 : Hid (Box w2 (w.heap.size + 1) [.int .i64 e.vKind, .slice ap e.vPath.length cp, .string e.vTag, .string (strT e.vTree), .slice at1 (kidsOf e.vTree).length ct] 29) := bE1.out.below hb2 bE1.out.lt
  have bR2 : Hid (Box w2 (w.heap.size + 1 + 1) [.string ⟨#[]⟩, .slice none 0 0] 26) := bR1.out.below hb2 bR1.out.lt
  clear hb2 bT1 bE1 bR1 hB1 e0 e1 e2 e3 e4
  rcases (by cases formB e <;> simp : formB e = false ∨ formB e = true) with hf | hf
  · rw [hf]
    have hno : Hid (editedD d e = none) := edited_not (Or.inr hf)
    clear hf hd
    have r0 := bR2.out.cell 0 rfl
    have r1 := bR2.out.cell 1 rfl
    have fR := bR2.out.unfrozen
    go_wp2_with fail
    have z1 := Box.set (i := 1) (Box.set (i := 0) bR2.out (.string ⟨#[]⟩)) (.slice none 0 0)
    have z10 := z1.cell 0 rfl
    have z11 := z1.cell 1 rfl
    exact bodyPost_ret (v := .tuple #[.agg #[.string ⟨#[]⟩, .slice none 0 0], .bool false]) (by simp [results, Try.results11, go_sem, z10, z11]) rfl (EdR.no hno.out (putCells_below [.string ⟨#[]⟩, .slice none 0 0] _ _ _ (w.heap.size + 1 + 1) 0 (by omega) hB2.out))
  rw [hf]
  have hR : Hid (RightT d) := treeB_right hd
  have hed : Hid (editedD d e = match putD e.vKind e.vTag e.vTree e.vPath d with
    | some x => if treeB x = true then some x else none
    | none => none) := edited_put hd hf
  have ht2 : Hid (TreeAt w2 0 n (.string (strT d)) (.slice a0 (kidsOf d).length c0) d) := ht.out w2 hB2.out
  have hp2 : Hid (SeqAt 1 IntAt w2 0 (.slice ap e.vPath.length cp) e.vPath) := hpw.out w2 hB2.out
  have htt2 : Hid (TreeAt w2 0 m (.string (strT e.vTree)) (.slice at1 (kidsOf e.vTree).length ct) e.vTree) := htw.out w2 hB2.out
  have hSall : Hid (∀ W', Below w2.heap.size w2 W' → W'.cell? ⟨w.heap.size, 0, none⟩ = some (.string (strT d)) ∧ W'.cell? ⟨w.heap.size, 1, none⟩ = some (.slice a0 (kidsOf d).length c0) ∧ W'.cell? ⟨(w.heap.size + 1), 0, none⟩ = some (.int .i64 e.vKind) ∧ W'.cell? ⟨(w.heap.size + 1), 1, none⟩ = some (.slice ap e.vPath.length cp) ∧ W'.cell? ⟨(w.heap.size + 1), 2, none⟩ = some (.string e.vTag) ∧ W'.cell? ⟨(w.heap.size + 1), 3, none⟩ = some (.string (strT e.vTree)) ∧ W'.cell? ⟨(w.heap.size + 1), 4, none⟩ = some (.slice at1 (kidsOf e.vTree).length ct)) := fun W' hb => by
    have bE9 := bE2.out.below hb bE2.out.lt
    have bT9 := bT2.out.below hb bT2.out.lt
    exact ⟨bT9.cell 0 rfl, bT9.cell 1 rfl, bE9.cell 0 rfl, bE9.cell 1 rfl, bE9.cell 2 rfl, bE9.cell 3 rfl, bE9.cell 4 rfl⟩
  clear hd hf he' ht hpw htw bT2 bE2
  go_upto_region 3 with fail
  refine wp_region_held_drew (S := fun w' => w'.cell? ⟨w.heap.size, 0, none⟩ = some (.string (strT d)) ∧ w'.cell? ⟨w.heap.size, 1, none⟩ = some (.slice a0 (kidsOf d).length c0) ∧ w'.cell? ⟨(w.heap.size + 1), 0, none⟩ = some (.int .i64 e.vKind) ∧ w'.cell? ⟨(w.heap.size + 1), 1, none⟩ = some (.slice ap e.vPath.length cp) ∧ w'.cell? ⟨(w.heap.size + 1), 2, none⟩ = some (.string e.vTag) ∧ w'.cell? ⟨(w.heap.size + 1), 3, none⟩ = some (.string (strT e.vTree)) ∧ w'.cell? ⟨(w.heap.size + 1), 4, none⟩ = some (.slice at1 (kidsOf e.vTree).length ct)) (by kernel_rfl) (hSall.out _ (Below.drew (Below.refl _ _))) (fun hHeld => ?_)
  refine tq (i := 0) (d := 18) ?_
  simp only [sz, ss]
  refine tq (i := 2) (d := 20) ?_
  simp only [sz, ss]
  refine wpAnyH_ready (rs := [1, 7]) (by kernel_rfl) (by simp) ?_
  refine (AllReadyH.cons rfl (fun K hK => ?_) (AllReadyH.cons rfl (fun K hK => ?_) AllReadyH.nil))
  · go_simp
    refine (cpS_all n w2.drew 0 _ _ d (TreeAt.below ht2.out (Below.drew (Below.refl w2.heap.size w2))) hR.out).mono ?_
    rintro e9 w3 ⟨⟨cs3, fs3, rfl, hto0, _, hlo0⟩, hb3⟩
    obtain ⟨k3, rfl, _, _⟩ := hto0.opened
    have hta3 := TreeL.at n _ _ _ (TreeO_at (lo := w2.drew.heap.size) n _ _ _ _ hto0 hlo0)
    obtain ⟨_, a3, c3, rfl⟩ := hta3.form
    have ht3 : Hid (TreeS w3 (· < w3.heap.size) n (.string (strT d)) (.slice a3 (kidsOf d).length c3) d) := TreeS.of n hta3
    have hB3 : Hid (Below w2.heap.size w2 w3) := (Below.drew (Below.refl w2.heap.size w2)).trans (hb3.mono (by simp))
    clear hto0 hlo0 hb3 hta3
    refine hK.out _ _ (hSall.out _ hB3.out) (fun hHeld => ?_)
    clear hK K
    refine wpAnyH_ready (rs := [3, 7]) (by kernel_rfl) (by simp) ?_
    refine (AllReadyH.cons rfl (fun K hK => ?_) (AllReadyH.cons rfl (fun K hK => ?_) AllReadyH.nil))
    · go_simp
      have htr3 : TreeS w3 (· < w3.heap.size) m (.string (strT e.vTree)) (.slice at1 (kidsOf e.vTree).length ct) e.vTree := TreeS.keep hB3.out.size (fun b q1 q2 => ⟨by have := hB3.out.size; (show b < w3.heap.size); omega, hB3.out.block b q2⟩) _ _ _ _ (TreeS.of m htt2.out)
      refine (putI_all _ w3 (· < w3.heap.size) n m _ _ _ _ _ d e.vTree e.vPath e.vKind e.vTag rfl (fun b q => by have q1 : b < w3.heap.size := q; simp; omega) (TreeS.keep (Below.refl w3.heap.size w3).size (fun b q1 q2 => ⟨q1, (Below.refl w3.heap.size w3).block b q2⟩) _ _ _ _ ht3.out) hR.out (SeqAt.below intAt_stays hp2.out (hB3.out.trans ((Below.refl w3.heap.size w3).mono hB3.out.size))) htg.out (TreeS.keep (Below.refl w3.heap.size w3).size (fun b q1 q2 => ⟨q1, (Below.refl w3.heap.size w3).block b q2⟩) _ _ _ _ htr3)).mono ?_
      clear htr3
      rintro e9 w8 ⟨s8, a8, l8, c8, b8, rfl, hres0, hb8⟩
      have hres8 : Hid ((b8 = true ∧ ∃ x n', putD e.vKind e.vTag e.vTree e.vPath d = some x ∧ TreeS w8 (NewS (· < w3.heap.size) w3 w8) n' (.string s8) (.slice a8 l8 c8) x) ∨ (b8 = false ∧ putD e.vKind e.vTag e.vTree e.vPath d = none)) := hres0
      have hB8 : Hid (Below w2.heap.size w2 w8) := hB3.out.trans (((Below.refl w3.heap.size w3).trans (hb8.mono (by simp))).mono hB3.out.size)
      clear hres0 hb8
      refine hK.out _ _ (hSall.out _ hB8.out) (fun hHeld => ?_)
      clear hK K
      refine tq (i := 4) (d := 17) ?_
      simp only [sz, ss]
      refine tq (i := 5) (d := 22) ?_
      simp only [sz, ss]
      refine tq (i := 6) (d := 23) ?_
      simp only [sz, ss]
      refine wpAnyH_ready (rs := [7]) (by kernel_rfl) (by simp) ?_
      refine AllReadyH.cons rfl (fun K hK => ?_) AllReadyH.nil
      go_simp
      refine hK.out _ _ (hSall.out _ (hB8.out.alloc hB8.out.size _)) (fun hHeld => ?_)
      clear hK K
      refine wpAnyH_ready (rs := [8]) (by kernel_rfl) (by simp) ?_
      refine AllReadyH.cons rfl (fun K hK => ?_) AllReadyH.nil
      have bK : Hid (Box (w8.alloc (.cells #[.string s8, .slice a8 l8 c8] 26)) w8.heap.size [.string s8, .slice a8 l8 c8] 26) := Box.new w8 _ _
      have hBz : Hid (Below w2.heap.size w2 (w8.alloc (.cells #[.string s8, .slice a8 l8 c8] 26))) := hB8.out.alloc hB8.out.size _
      have hTz : Hid (∀ (n' : Nat) (x : TD), TreeS w8 (NewS (· < w3.heap.size) w3 w8) n' (.string s8) (.slice a8 l8 c8) x → TreeAt (w8.alloc (.cells #[.string s8, .slice a8 l8 c8] 26)) 0 n' (.string s8) (.slice a8 l8 c8) x) := fun n' x h => h.at.below ((Below.refl _ _).alloc (Nat.le_refl _) _)
      go_simp
      refine hK.out _ _ (hSall.out _ hBz.out) (fun hHeld => ?_)
      clear hK K
      refine tq (i := 9) (d := 7) ?_
      simp only [sz, ss]
      refine wpAnyH_done (by kernel_rfl) ?_ _
      have k0 := bK.out.cell 0 rfl
      have k1 := bK.out.cell 1 rfl
      obtain ⟨wz, hwz⟩ : ∃ wz, (w8.alloc (.cells #[.string s8, .slice a8 l8 c8] 26)) = wz := ⟨_, rfl⟩
      have bRz : Hid (Box wz (w.heap.size + 1 + 1) [.string ⟨#[]⟩, .slice none 0 0] 26) := by rw [← hwz]; exact (bR2.out.below hBz.out bR2.out.lt)
      have hBz2 : Hid (Below w2.heap.size w2 wz) := by rw [← hwz]; exact hBz.out
      have hresz : Hid ((b8 = true ∧ ∃ x n', putD e.vKind e.vTag e.vTree e.vPath d = some x ∧ TreeAt wz 0 n' (.string s8) (.slice a8 l8 c8) x) ∨ (b8 = false ∧ putD e.vKind e.vTag e.vTree e.vPath d = none)) := by
        rw [← hwz]
        rcases hres8.out with ⟨q1, x, n', q2, q3⟩ | q
        · exact Or.inl ⟨q1, x, n', q2, hTz.out _ _ q3⟩
        · exact Or.inr q
      have bKz : Hid (Box wz (w8.heap.size) [.string s8, .slice a8 l8 c8] 26) := by rw [← hwz]; exact bK.out
      obtain ⟨gb, hgb⟩ : ∃ gb : Nat, (w8.heap.size) = gb := ⟨_, rfl⟩
      have bKg : Hid (Box wz gb [.string s8, .slice a8 l8 c8] 26) := by rw [← hgb]; exact bKz.out
      rw [hwz]
      have hgb' : Hid ((w8.heap.size) = gb) := hgb
      clear hgb hwz bK bKz hBz hTz hres8 hB8 k0 k1
      try rw [hgb'.out]
      clear hgb'
      rcases hresz.out with ⟨rfl, x8, n8, hp8, ht8⟩ | ⟨rfl, hp8⟩
      · have k0 := bKg.out.cell 0 rfl
        have k1 := bKg.out.cell 1 rfl
        have ht8' : Hid (TreeAt wz 0 n8 (.string s8) (.slice a8 l8 c8) x8) := ht8
        have hed8 : Hid (editedD d e = if treeB x8 = true then some x8 else none) := by show _ = _; rw [hed.out, hp8]
        clear ht8 hp8 hresz
        go_wp2_with fail
        refine (specOk_any ht8'.out).mono ?_
        rintro e9 wo ⟨rfl, hbo⟩
        have hBo : Hid (Below w2.heap.size w2 wo) := hBz2.out.trans (hbo.mono hBz2.out.size)
        have bRo : Hid (Box wo (w.heap.size + 1 + 1) [.string ⟨#[]⟩, .slice none 0 0] 26) := bRz.out.below hbo bRz.out.lt
        have bKo : Hid (Box wo gb [.string s8, .slice a8 l8 c8] 26) := bKg.out.below hbo bKg.out.lt
        have hto : Hid (TreeAt wo 0 n8 (.string s8) (.slice a8 l8 c8) x8) := ht8'.out.below hbo
        clear hbo ht8' bRz bKg k0 k1
        rcases (by cases treeB x8 <;> simp : treeB x8 = false ∨ treeB x8 = true) with hx | hx
        · rw [hx]
          have hno : Hid (editedD d e = none) := by show _ = _; rw [hed8.out, hx]; rfl
          clear hx
          have r0 := bRo.out.cell 0 rfl
          have r1 := bRo.out.cell 1 rfl
          have fR := bRo.out.unfrozen
          go_wp2_with fail
          have z1 := Box.set (i := 1) (Box.set (i := 0) bRo.out (.string ⟨#[]⟩)) (.slice none 0 0)
          have z10 := z1.cell 0 rfl
          have z11 := z1.cell 1 rfl
          exact bodyPost_ret (v := .tuple #[.agg #[.string ⟨#[]⟩, .slice none 0 0], .bool false]) (by simp [results, Try.results11, go_sem, z10, z11]) rfl (EdR.no hno.out (putCells_below [.string ⟨#[]⟩, .slice none 0 0] _ _ _ (w.heap.size + 1 + 1) 0 (by omega) (hB2.out.trans (hBo.out.mono hB2.out.size))))
        · rw [hx]
          have hso : Hid (editedD d e = some x8) := by show _ = _; rw [hed8.out, if_pos hx]
          have hRx : Hid (RightT x8) := treeB_right hx
          clear hx
          have k0 := bKo.out.cell 0 rfl
          have k1 := bKo.out.cell 1 rfl
          go_wp2_with fail
          refine (cpS_all n8 wo 0 _ _ x8 hto.out hRx.out).mono ?_
          rintro e9 wq ⟨⟨cs9, fs9, rfl, hto9, hnd9, hlo9⟩, hbq⟩
          obtain ⟨k9, rfl, _, _⟩ := hto9.opened
          obtain ⟨_, a9, c9, rfl⟩ := (TreeL.at n8 _ _ _ (TreeO_at (lo := 0) n8 _ _ _ _ hto9 (fun _ _ => Nat.zero_le _))).form
          have hto9' : Hid (TreeO n8 wq [.string (strT x8), .slice a9 (kidsOf x8).length c9] x8 fs9) := hto9
          have hnd9' : Hid fs9.Nodup := hnd9
          have hlo9' : Hid (∀ b ∈ fs9, wo.heap.size ≤ b) := hlo9
          have hBq : Hid (Below w2.heap.size w2 wq) := hBo.out.trans (hbq.mono hBo.out.size)
          have bRq : Hid (Box wq (w.heap.size + 1 + 1) [.string ⟨#[]⟩, .slice none 0 0] 26) := bRo.out.below hbq bRo.out.lt
          have hRo := bRo.out.lt
          clear hto9 hnd9 hlo9 hbq k0 k1
          have r0 := bRq.out.cell 0 rfl
          have r1 := bRq.out.cell 1 rfl
          have fR := bRq.out.unfrozen
          go_wp2_with fail
          have z1 := Box.set (i := 1) (Box.set (i := 0) bRq.out (.string (strT x8))) (.slice a9 (kidsOf x8).length c9)
          have z10 := z1.cell 0 rfl
          have z11 := z1.cell 1 rfl
          refine bodyPost_ret (v := .tuple #[.agg #[.string (strT x8), .slice a9 (kidsOf x8).length c9], .bool true]) (by simp [results, Try.results11, go_sem, z10, z11]) rfl ?_
          rw [hso.out]
          exact ⟨[.string (strT x8), .slice a9 (kidsOf x8).length c9], fs9, n8, rfl, TreeO_stays n8 _ _ _ _ _ (fun b q => putCells_other [.string (strT x8), .slice a9 (kidsOf x8).length c9] wq (w.heap.size + 1 + 1) 0 b (by have := hlo9'.out b q; omega)) hto9'.out, hnd9'.out, fun b q => by have := hlo9'.out b q; have := hBo.out.size; have := hB2.out.size; omega, putCells_below [.string (strT x8), .slice a9 (kidsOf x8).length c9] _ _ _ (w.heap.size + 1 + 1) 0 (by omega) (hB2.out.trans (hBq.out.mono hB2.out.size))⟩
      · have hno : Hid (editedD d e = none) := by show _ = _; rw [hed.out, hp8]
        clear hresz hp8
        have r0 := bRz.out.cell 0 rfl
        have r1 := bRz.out.cell 1 rfl
        have fR := bRz.out.unfrozen
        go_wp2_with fail
        have z1 := Box.set (i := 1) (Box.set (i := 0) bRz.out (.string ⟨#[]⟩)) (.slice none 0 0)
        have z10 := z1.cell 0 rfl
        have z11 := z1.cell 1 rfl
        exact bodyPost_ret (v := .tuple #[.agg #[.string ⟨#[]⟩, .slice none 0 0], .bool false]) (by simp [results, Try.results11, go_sem, z10, z11]) rfl (EdR.no hno.out (putCells_below [.string ⟨#[]⟩, .slice none 0 0] _ _ _ (w.heap.size + 1 + 1) 0 (by omega) (hB2.out.trans (hBz2.out.mono hB2.out.size))))
    · go_simp
      refine hK.out _ _ (hSall.out _ (hB3.out.alloc hB3.out.size _)) (fun hHeld => ?_)
      clear hK K
      refine wpAnyH_ready (rs := [3]) (by kernel_rfl) (by simp) ?_
      refine AllReadyH.cons rfl (fun K hK => ?_) AllReadyH.nil
      go_simp
      have htr3 : TreeS w3 (· < w3.heap.size) m (.string (strT e.vTree)) (.slice at1 (kidsOf e.vTree).length ct) e.vTree := TreeS.keep hB3.out.size (fun b q1 q2 => ⟨by have := hB3.out.size; (show b < w3.heap.size); omega, hB3.out.block b q2⟩) _ _ _ _ (TreeS.of m htt2.out)
      refine (putI_all _ (w3.alloc (.cells #[.string ⟨#[]⟩, .slice none 0 0] 26)) (· < w3.heap.size) n m _ _ _ _ _ d e.vTree e.vPath e.vKind e.vTag rfl (fun b q => by have q1 : b < w3.heap.size := q; simp; omega) (TreeS.keep ((Below.refl w3.heap.size w3).alloc (Nat.le_refl _) _).size (fun b q1 q2 => ⟨q1, ((Below.refl w3.heap.size w3).alloc (Nat.le_refl _) _).block b q2⟩) _ _ _ _ ht3.out) hR.out (SeqAt.below intAt_stays hp2.out (hB3.out.trans (((Below.refl w3.heap.size w3).alloc (Nat.le_refl _) _).mono hB3.out.size))) htg.out (TreeS.keep ((Below.refl w3.heap.size w3).alloc (Nat.le_refl _) _).size (fun b q1 q2 => ⟨q1, ((Below.refl w3.heap.size w3).alloc (Nat.le_refl _) _).block b q2⟩) _ _ _ _ htr3)).mono ?_
      clear htr3
      rintro e9 w8 ⟨s8, a8, l8, c8, b8, rfl, hres0, hb8⟩
      have hres8 : Hid ((b8 = true ∧ ∃ x n', putD e.vKind e.vTag e.vTree e.vPath d = some x ∧ TreeS w8 (NewS (· < w3.heap.size) (w3.alloc (.cells #[.string ⟨#[]⟩, .slice none 0 0] 26)) w8) n' (.string s8) (.slice a8 l8 c8) x) ∨ (b8 = false ∧ putD e.vKind e.vTag e.vTree e.vPath d = none)) := hres0
      have hB8 : Hid (Below w2.heap.size w2 w8) := hB3.out.trans ((((Below.refl w3.heap.size w3).alloc (Nat.le_refl _) _).trans (hb8.mono (by simp))).mono hB3.out.size)
      have bZ8 : Hid (Box w8 w3.heap.size [.string ⟨#[]⟩, .slice none 0 0] 26) := (Box.new w3 [.string ⟨#[]⟩, .slice none 0 0] 26).below hb8 (by simp)
      clear hres0 hb8
      refine hK.out _ _ (hSall.out _ hB8.out) (fun hHeld => ?_)
      clear hK K
      refine tq (i := 4) (d := 17) ?_
      simp only [sz, ss]
      refine tq (i := 5) (d := 22) ?_
      simp only [sz, ss]
      refine tq (i := 6) (d := 23) ?_
      simp only [sz, ss]
      refine wpAnyH_ready (rs := [8]) (by kernel_rfl) (by simp) ?_
      refine AllReadyH.cons rfl (fun K hK => ?_) AllReadyH.nil
      have z0 := bZ8.out.cell 0 rfl
      have z1 := bZ8.out.cell 1 rfl
      have fZ := bZ8.out.unfrozen
      have bK : Hid (Box ((w8.setCell ⟨w3.heap.size, 0, none⟩ (.string s8)).setCell ⟨w3.heap.size, 1, none⟩ (.slice a8 l8 c8)) w3.heap.size [.string s8, .slice a8 l8 c8] 26) := (bZ8.out.set (i := 0) _).set (i := 1) _
      have hBz : Hid (Below w2.heap.size w2 ((w8.setCell ⟨w3.heap.size, 0, none⟩ (.string s8)).setCell ⟨w3.heap.size, 1, none⟩ (.slice a8 l8 c8))) := (hB8.out.setCell (p := ⟨w3.heap.size, 0, none⟩) (by show _ ≤ w3.heap.size; have := hB3.out.size; omega) _).setCell (p := ⟨w3.heap.size, 1, none⟩) (by show _ ≤ w3.heap.size; have := hB3.out.size; omega) _
      have hTz : Hid (∀ (n' : Nat) (x : TD), TreeS w8 (NewS (· < w3.heap.size) (w3.alloc (.cells #[.string ⟨#[]⟩, .slice none 0 0] 26)) w8) n' (.string s8) (.slice a8 l8 c8) x → TreeAt ((w8.setCell ⟨w3.heap.size, 0, none⟩ (.string s8)).setCell ⟨w3.heap.size, 1, none⟩ (.slice a8 l8 c8)) 0 n' (.string s8) (.slice a8 l8 c8) x) := fun n' x h => (TreeS.keep (w := w8) (w' := ((w8.setCell ⟨w3.heap.size, 0, none⟩ (.string s8)).setCell ⟨w3.heap.size, 1, none⟩ (.slice a8 l8 c8))) (S' := fun _ => True) (by simp) (fun b hb _ => ⟨trivial, putCells_other [.string s8, .slice a8 l8 c8] w8 (w3.heap.size) 0 b (fun q => hb.elim (fun h => absurd (q ▸ (show b < w3.heap.size from h)) (Nat.lt_irrefl _)) (fun h => by have h9 := h.1; rw [World.size_alloc] at h9; omega))⟩) _ _ _ _ h).at
      go_simp
      refine hK.out _ _ (hSall.out _ hBz.out) (fun hHeld => ?_)
      clear hK K
      refine tq (i := 9) (d := 7) ?_
      simp only [sz, ss]
      refine wpAnyH_done (by kernel_rfl) ?_ _
      have k0 := bK.out.cell 0 rfl
      have k1 := bK.out.cell 1 rfl
      obtain ⟨wz, hwz⟩ : ∃ wz, ((w8.setCell ⟨w3.heap.size, 0, none⟩ (.string s8)).setCell ⟨w3.heap.size, 1, none⟩ (.slice a8 l8 c8)) = wz := ⟨_, rfl⟩
      have bRz : Hid (Box wz (w.heap.size + 1 + 1) [.string ⟨#[]⟩, .slice none 0 0] 26) := by rw [← hwz]; exact (bR2.out.below hBz.out bR2.out.lt)
      have hBz2 : Hid (Below w2.heap.size w2 wz) := by rw [← hwz]; exact hBz.out
      have hresz : Hid ((b8 = true ∧ ∃ x n', putD e.vKind e.vTag e.vTree e.vPath d = some x ∧ TreeAt wz 0 n' (.string s8) (.slice a8 l8 c8) x) ∨ (b8 = false ∧ putD e.vKind e.vTag e.vTree e.vPath d = none)) := by
        rw [← hwz]
        rcases hres8.out with ⟨q1, x, n', q2, q3⟩ | q
        · exact Or.inl ⟨q1, x, n', q2, hTz.out _ _ q3⟩
        · exact Or.inr q
      have bKz : Hid (Box wz (w3.heap.size) [.string s8, .slice a8 l8 c8] 26) := by rw [← hwz]; exact bK.out
      obtain ⟨gb, hgb⟩ : ∃ gb : Nat, (w3.heap.size) = gb := ⟨_, rfl⟩
      have bKg : Hid (Box wz gb [.string s8, .slice a8 l8 c8] 26) := by rw [← hgb]; exact bKz.out
      rw [hwz]
      have hgb' : Hid ((w3.heap.size) = gb) := hgb
      clear hgb hwz bK bKz hBz hTz hres8 hB8 k0 k1 bZ8 z0 z1 fZ
      try rw [hgb'.out]
      clear hgb'
      rcases hresz.out with ⟨rfl, x8, n8, hp8, ht8⟩ | ⟨rfl, hp8⟩
      · have k0 := bKg.out.cell 0 rfl
        have k1 := bKg.out.cell 1 rfl
        have ht8' : Hid (TreeAt wz 0 n8 (.string s8) (.slice a8 l8 c8) x8) := ht8
        have hed8 : Hid (editedD d e = if treeB x8 = true then some x8 else none) := by show _ = _; rw [hed.out, hp8]
        clear ht8 hp8 hresz
        go_wp2_with fail
        refine (specOk_any ht8'.out).mono ?_
        rintro e9 wo ⟨rfl, hbo⟩
        have hBo : Hid (Below w2.heap.size w2 wo) := hBz2.out.trans (hbo.mono hBz2.out.size)
        have bRo : Hid (Box wo (w.heap.size + 1 + 1) [.string ⟨#[]⟩, .slice none 0 0] 26) := bRz.out.below hbo bRz.out.lt
        have bKo : Hid (Box wo gb [.string s8, .slice a8 l8 c8] 26) := bKg.out.below hbo bKg.out.lt
        have hto : Hid (TreeAt wo 0 n8 (.string s8) (.slice a8 l8 c8) x8) := ht8'.out.below hbo
        clear hbo ht8' bRz bKg k0 k1
        rcases (by cases treeB x8 <;> simp : treeB x8 = false ∨ treeB x8 = true) with hx | hx
        · rw [hx]
          have hno : Hid (editedD d e = none) := by show _ = _; rw [hed8.out, hx]; rfl
          clear hx
          have r0 := bRo.out.cell 0 rfl
          have r1 := bRo.out.cell 1 rfl
          have fR := bRo.out.unfrozen
          go_wp2_with fail
          have z1 := Box.set (i := 1) (Box.set (i := 0) bRo.out (.string ⟨#[]⟩)) (.slice none 0 0)
          have z10 := z1.cell 0 rfl
          have z11 := z1.cell 1 rfl
          exact bodyPost_ret (v := .tuple #[.agg #[.string ⟨#[]⟩, .slice none 0 0], .bool false]) (by simp [results, Try.results11, go_sem, z10, z11]) rfl (EdR.no hno.out (putCells_below [.string ⟨#[]⟩, .slice none 0 0] _ _ _ (w.heap.size + 1 + 1) 0 (by omega) (hB2.out.trans (hBo.out.mono hB2.out.size))))
        · rw [hx]
          have hso : Hid (editedD d e = some x8) := by show _ = _; rw [hed8.out, if_pos hx]
          have hRx : Hid (RightT x8) := treeB_right hx
          clear hx
          have k0 := bKo.out.cell 0 rfl
          have k1 := bKo.out.cell 1 rfl
          go_wp2_with fail
          refine (cpS_all n8 wo 0 _ _ x8 hto.out hRx.out).mono ?_
          rintro e9 wq ⟨⟨cs9, fs9, rfl, hto9, hnd9, hlo9⟩, hbq⟩
          obtain ⟨k9, rfl, _, _⟩ := hto9.opened
          obtain ⟨_, a9, c9, rfl⟩ := (TreeL.at n8 _ _ _ (TreeO_at (lo := 0) n8 _ _ _ _ hto9 (fun _ _ => Nat.zero_le _))).form
          have hto9' : Hid (TreeO n8 wq [.string (strT x8), .slice a9 (kidsOf x8).length c9] x8 fs9) := hto9
          have hnd9' : Hid fs9.Nodup := hnd9
          have hlo9' : Hid (∀ b ∈ fs9, wo.heap.size ≤ b) := hlo9
          have hBq : Hid (Below w2.heap.size w2 wq) := hBo.out.trans (hbq.mono hBo.out.size)
          have bRq : Hid (Box wq (w.heap.size + 1 + 1) [.string ⟨#[]⟩, .slice none 0 0] 26) := bRo.out.below hbq bRo.out.lt
          have hRo := bRo.out.lt
          clear hto9 hnd9 hlo9 hbq k0 k1
          have r0 := bRq.out.cell 0 rfl
          have r1 := bRq.out.cell 1 rfl
          have fR := bRq.out.unfrozen
          go_wp2_with fail
          have z1 := Box.set (i := 1) (Box.set (i := 0) bRq.out (.string (strT x8))) (.slice a9 (kidsOf x8).length c9)
          have z10 := z1.cell 0 rfl
          have z11 := z1.cell 1 rfl
          refine bodyPost_ret (v := .tuple #[.agg #[.string (strT x8), .slice a9 (kidsOf x8).length c9], .bool true]) (by simp [results, Try.results11, go_sem, z10, z11]) rfl ?_
          rw [hso.out]
          exact ⟨[.string (strT x8), .slice a9 (kidsOf x8).length c9], fs9, n8, rfl, TreeO_stays n8 _ _ _ _ _ (fun b q => putCells_other [.string (strT x8), .slice a9 (kidsOf x8).length c9] wq (w.heap.size + 1 + 1) 0 b (by have := hlo9'.out b q; omega)) hto9'.out, hnd9'.out, fun b q => by have := hlo9'.out b q; have := hBo.out.size; have := hB2.out.size; omega, putCells_below [.string (strT x8), .slice a9 (kidsOf x8).length c9] _ _ _ (w.heap.size + 1 + 1) 0 (by omega) (hB2.out.trans (hBq.out.mono hB2.out.size))⟩
      · have hno : Hid (editedD d e = none) := by show _ = _; rw [hed.out, hp8]
        clear hresz hp8
        have r0 := bRz.out.cell 0 rfl
        have r1 := bRz.out.cell 1 rfl
        have fR := bRz.out.unfrozen
        go_wp2_with fail
        have z1 := Box.set (i := 1) (Box.set (i := 0) bRz.out (.string ⟨#[]⟩)) (.slice none 0 0)
        have z10 := z1.cell 0 rfl
        have z11 := z1.cell 1 rfl
        exact bodyPost_ret (v := .tuple #[.agg #[.string ⟨#[]⟩, .slice none 0 0], .bool false]) (by simp [results, Try.results11, go_sem, z10, z11]) rfl (EdR.no hno.out (putCells_below [.string ⟨#[]⟩, .slice none 0 0] _ _ _ (w.heap.size + 1 + 1) 0 (by omega) (hB2.out.trans (hBz2.out.mono hB2.out.size))))
  · go_simp
    refine hK.out _ _ (hSall.out _ ((Below.drew (Below.refl w2.heap.size w2)).alloc (Nat.le_refl _) _)) (fun hHeld => ?_)
    clear hK K
    refine wpAnyH_ready (rs := [1]) (by kernel_rfl) (by simp) ?_
    refine AllReadyH.cons rfl (fun K hK => ?_) AllReadyH.nil
    go_simp
    refine (cpS_all n (w2.drew.alloc (.cells #[.string ⟨#[]⟩, .slice none 0 0] 26)) 0 _ _ d (TreeAt.below ht2.out ((Below.drew (Below.refl w2.heap.size w2)).alloc (Nat.le_refl _) _)) hR.out).mono ?_
    rintro e9 w3 ⟨⟨cs3, fs3, rfl, hto0, _, hlo0⟩, hb3⟩
    obtain ⟨k3, rfl, _, _⟩ := hto0.opened
    have hta3 := TreeL.at n _ _ _ (TreeO_at (lo := (w2.drew.alloc (.cells #[.string ⟨#[]⟩, .slice none 0 0] 26)).heap.size) n _ _ _ _ hto0 hlo0)
    obtain ⟨_, a3, c3, rfl⟩ := hta3.form
    have ht3 : Hid (TreeS w3 (fun b => b < w3.heap.size ∧ b ≠ w2.heap.size) n (.string (strT d)) (.slice a3 (kidsOf d).length c3) d) := TreeS.keep (Nat.le_refl _) (fun b q1 q2 => ⟨⟨q2, by have q3 := q1.1; simp at q3; omega⟩, rfl⟩) _ _ _ _ (TreeS.of2 n hta3)
    have hB3 : Hid (Below w2.heap.size w2 w3) := ((Below.drew (Below.refl w2.heap.size w2)).alloc (Nat.le_refl _) _).trans (hb3.mono (by simp))
    have bZ3 : Hid (Box w3 w2.heap.size [.string ⟨#[]⟩, .slice none 0 0] 26) := (Box.new w2.drew [.string ⟨#[]⟩, .slice none 0 0] 26).below hb3 (by simp)
    clear hto0 hlo0 hb3 hta3
    refine hK.out _ _ (hSall.out _ hB3.out) (fun hHeld => ?_)
    clear hK K
    refine wpAnyH_ready (rs := [3]) (by kernel_rfl) (by simp) ?_
    refine AllReadyH.cons rfl (fun K hK => ?_) AllReadyH.nil
    go_simp
    have htr3 : TreeS w3 (fun b => b < w3.heap.size ∧ b ≠ w2.heap.size) m (.string (strT e.vTree)) (.slice at1 (kidsOf e.vTree).length ct) e.vTree := TreeS.keep hB3.out.size (fun b q1 q2 => ⟨⟨by have := hB3.out.size; omega, by omega⟩, hB3.out.block b q2⟩) _ _ _ _ (TreeS.of m htt2.out)
    refine (putI_all _ w3 (fun b => b < w3.heap.size ∧ b ≠ w2.heap.size) n m _ _ _ _ _ d e.vTree e.vPath e.vKind e.vTag rfl (fun b q => by have q1 := q.1; simp; omega) (TreeS.keep (Below.refl w3.heap.size w3).size (fun b q1 q2 => ⟨q1, (Below.refl w3.heap.size w3).block b q2⟩) _ _ _ _ ht3.out) hR.out (SeqAt.below intAt_stays hp2.out (hB3.out.trans ((Below.refl w3.heap.size w3).mono hB3.out.size))) htg.out (TreeS.keep (Below.refl w3.heap.size w3).size (fun b q1 q2 => ⟨q1, (Below.refl w3.heap.size w3).block b q2⟩) _ _ _ _ htr3)).mono ?_
    clear htr3
    rintro e9 w8 ⟨s8, a8, l8, c8, b8, rfl, hres0, hb8⟩
    have hres8 : Hid ((b8 = true ∧ ∃ x n', putD e.vKind e.vTag e.vTree e.vPath d = some x ∧ TreeS w8 (NewS (fun b => b < w3.heap.size ∧ b ≠ w2.heap.size) w3 w8) n' (.string s8) (.slice a8 l8 c8) x) ∨ (b8 = false ∧ putD e.vKind e.vTag e.vTree e.vPath d = none)) := hres0
    have hB8 : Hid (Below w2.heap.size w2 w8) := hB3.out.trans (((Below.refl w3.heap.size w3).trans (hb8.mono (by simp))).mono hB3.out.size)
    have bZ8 : Hid (Box w8 w2.heap.size [.string ⟨#[]⟩, .slice none 0 0] 26) := bZ3.out.below hb8 bZ3.out.lt
    clear hres0 hb8
    refine hK.out _ _ (hSall.out _ hB8.out) (fun hHeld => ?_)
    clear hK K
    refine tq (i := 4) (d := 17) ?_
    simp only [sz, ss]
    refine tq (i := 5) (d := 22) ?_
    simp only [sz, ss]
    refine tq (i := 6) (d := 23) ?_
    simp only [sz, ss]
    refine wpAnyH_ready (rs := [8]) (by kernel_rfl) (by simp) ?_
    refine AllReadyH.cons rfl (fun K hK => ?_) AllReadyH.nil
    have z0 := bZ8.out.cell 0 rfl
    have z1 := bZ8.out.cell 1 rfl
    have fZ := bZ8.out.unfrozen
    have bK : Hid (Box ((w8.setCell ⟨w2.heap.size, 0, none⟩ (.string s8)).setCell ⟨w2.heap.size, 1, none⟩ (.slice a8 l8 c8)) w2.heap.size [.string s8, .slice a8 l8 c8] 26) := (bZ8.out.set (i := 0) _).set (i := 1) _
    have hBz : Hid (Below w2.heap.size w2 ((w8.setCell ⟨w2.heap.size, 0, none⟩ (.string s8)).setCell ⟨w2.heap.size, 1, none⟩ (.slice a8 l8 c8))) := (hB8.out.setCell (p := ⟨w2.heap.size, 0, none⟩) (by show _ ≤ w2.heap.size; have := hB3.out.size; omega) _).setCell (p := ⟨w2.heap.size, 1, none⟩) (by show _ ≤ w2.heap.size; have := hB3.out.size; omega) _
    have hTz : Hid (∀ (n' : Nat) (x : TD), TreeS w8 (NewS (fun b => b < w3.heap.size ∧ b ≠ w2.heap.size) w3 w8) n' (.string s8) (.slice a8 l8 c8) x → TreeAt ((w8.setCell ⟨w2.heap.size, 0, none⟩ (.string s8)).setCell ⟨w2.heap.size, 1, none⟩ (.slice a8 l8 c8)) 0 n' (.string s8) (.slice a8 l8 c8) x) := fun n' x h => (TreeS.keep (w := w8) (w' := ((w8.setCell ⟨w2.heap.size, 0, none⟩ (.string s8)).setCell ⟨w2.heap.size, 1, none⟩ (.slice a8 l8 c8))) (S' := fun _ => True) (by simp) (fun b hb _ => ⟨trivial, putCells_other [.string s8, .slice a8 l8 c8] w8 (w2.heap.size) 0 b (fun q => hb.elim (fun h => h.2 q) (fun h => by have h9 := h.1; have := bZ3.out.lt; omega))⟩) _ _ _ _ h).at
    go_simp
    refine hK.out _ _ (hSall.out _ hBz.out) (fun hHeld => ?_)
    clear hK K
    refine tq (i := 9) (d := 7) ?_
    simp only [sz, ss]
    refine wpAnyH_done (by kernel_rfl) ?_ _
    have k0 := bK.out.cell 0 rfl
    have k1 := bK.out.cell 1 rfl
    obtain ⟨wz, hwz⟩ : ∃ wz, ((w8.setCell ⟨w2.heap.size, 0, none⟩ (.string s8)).setCell ⟨w2.heap.size, 1, none⟩ (.slice a8 l8 c8)) = wz := ⟨_, rfl⟩
    have bRz : Hid (Box wz (w.heap.size + 1 + 1) [.string ⟨#[]⟩, .slice none 0 0] 26) := by rw [← hwz]; exact (bR2.out.below hBz.out bR2.out.lt)
    have hBz2 : Hid (Below w2.heap.size w2 wz) := by rw [← hwz]; exact hBz.out
    have hresz : Hid ((b8 = true ∧ ∃ x n', putD e.vKind e.vTag e.vTree e.vPath d = some x ∧ TreeAt wz 0 n' (.string s8) (.slice a8 l8 c8) x) ∨ (b8 = false ∧ putD e.vKind e.vTag e.vTree e.vPath d = none)) := by
      rw [← hwz]
      rcases hres8.out with ⟨q1, x, n', q2, q3⟩ | q
      · exact Or.inl ⟨q1, x, n', q2, hTz.out _ _ q3⟩
      · exact Or.inr q
    have bKz : Hid (Box wz (w2.heap.size) [.string s8, .slice a8 l8 c8] 26) := by rw [← hwz]; exact bK.out
    obtain ⟨gb, hgb⟩ : ∃ gb : Nat, (w2.heap.size) = gb := ⟨_, rfl⟩
    have bKg : Hid (Box wz gb [.string s8, .slice a8 l8 c8] 26) := by rw [← hgb]; exact bKz.out
    rw [hwz]
    have hgb' : Hid ((w2.heap.size) = gb) := hgb
    clear hgb hwz bK bKz hBz hTz hres8 hB8 k0 k1 bZ8 z0 z1 fZ bZ3
    try rw [hgb'.out]
    clear hgb'
    rcases hresz.out with ⟨rfl, x8, n8, hp8, ht8⟩ | ⟨rfl, hp8⟩
    · have k0 := bKg.out.cell 0 rfl
      have k1 := bKg.out.cell 1 rfl
      have ht8' : Hid (TreeAt wz 0 n8 (.string s8) (.slice a8 l8 c8) x8) := ht8
      have hed8 : Hid (editedD d e = if treeB x8 = true then some x8 else none) := by show _ = _; rw [hed.out, hp8]
      clear ht8 hp8 hresz
      go_wp2_with fail
      refine (specOk_any ht8'.out).mono ?_
      rintro e9 wo ⟨rfl, hbo⟩
      have hBo : Hid (Below w2.heap.size w2 wo) := hBz2.out.trans (hbo.mono hBz2.out.size)
      have bRo : Hid (Box wo (w.heap.size + 1 + 1) [.string ⟨#[]⟩, .slice none 0 0] 26) := bRz.out.below hbo bRz.out.lt
      have bKo : Hid (Box wo gb [.string s8, .slice a8 l8 c8] 26) := bKg.out.below hbo bKg.out.lt
      have hto : Hid (TreeAt wo 0 n8 (.string s8) (.slice a8 l8 c8) x8) := ht8'.out.below hbo
      clear hbo ht8' bRz bKg k0 k1
      rcases (by cases treeB x8 <;> simp : treeB x8 = false ∨ treeB x8 = true) with hx | hx
      · rw [hx]
        have hno : Hid (editedD d e = none) := by show _ = _; rw [hed8.out, hx]; rfl
        clear hx
        have r0 := bRo.out.cell 0 rfl
        have r1 := bRo.out.cell 1 rfl
        have fR := bRo.out.unfrozen
        go_wp2_with fail
        have z1 := Box.set (i := 1) (Box.set (i := 0) bRo.out (.string ⟨#[]⟩)) (.slice none 0 0)
        have z10 := z1.cell 0 rfl
        have z11 := z1.cell 1 rfl
        exact bodyPost_ret (v := .tuple #[.agg #[.string ⟨#[]⟩, .slice none 0 0], .bool false]) (by simp [results, Try.results11, go_sem, z10, z11]) rfl (EdR.no hno.out (putCells_below [.string ⟨#[]⟩, .slice none 0 0] _ _ _ (w.heap.size + 1 + 1) 0 (by omega) (hB2.out.trans (hBo.out.mono hB2.out.size))))
      · rw [hx]
        have hso : Hid (editedD d e = some x8) := by show _ = _; rw [hed8.out, if_pos hx]
        have hRx : Hid (RightT x8) := treeB_right hx
        clear hx
        have k0 := bKo.out.cell 0 rfl
        have k1 := bKo.out.cell 1 rfl
        go_wp2_with fail
        refine (cpS_all n8 wo 0 _ _ x8 hto.out hRx.out).mono ?_
        rintro e9 wq ⟨⟨cs9, fs9, rfl, hto9, hnd9, hlo9⟩, hbq⟩
        obtain ⟨k9, rfl, _, _⟩ := hto9.opened
        obtain ⟨_, a9, c9, rfl⟩ := (TreeL.at n8 _ _ _ (TreeO_at (lo := 0) n8 _ _ _ _ hto9 (fun _ _ => Nat.zero_le _))).form
        have hto9' : Hid (TreeO n8 wq [.string (strT x8), .slice a9 (kidsOf x8).length c9] x8 fs9) := hto9
        have hnd9' : Hid fs9.Nodup := hnd9
        have hlo9' : Hid (∀ b ∈ fs9, wo.heap.size ≤ b) := hlo9
        have hBq : Hid (Below w2.heap.size w2 wq) := hBo.out.trans (hbq.mono hBo.out.size)
        have bRq : Hid (Box wq (w.heap.size + 1 + 1) [.string ⟨#[]⟩, .slice none 0 0] 26) := bRo.out.below hbq bRo.out.lt
        have hRo := bRo.out.lt
        clear hto9 hnd9 hlo9 hbq k0 k1
        have r0 := bRq.out.cell 0 rfl
        have r1 := bRq.out.cell 1 rfl
        have fR := bRq.out.unfrozen
        go_wp2_with fail
        have z1 := Box.set (i := 1) (Box.set (i := 0) bRq.out (.string (strT x8))) (.slice a9 (kidsOf x8).length c9)
        have z10 := z1.cell 0 rfl
        have z11 := z1.cell 1 rfl
        refine bodyPost_ret (v := .tuple #[.agg #[.string (strT x8), .slice a9 (kidsOf x8).length c9], .bool true]) (by simp [results, Try.results11, go_sem, z10, z11]) rfl ?_
        rw [hso.out]
        exact ⟨[.string (strT x8), .slice a9 (kidsOf x8).length c9], fs9, n8, rfl, TreeO_stays n8 _ _ _ _ _ (fun b q => putCells_other [.string (strT x8), .slice a9 (kidsOf x8).length c9] wq (w.heap.size + 1 + 1) 0 b (by have := hlo9'.out b q; omega)) hto9'.out, hnd9'.out, fun b q => by have := hlo9'.out b q; have := hBo.out.size; have := hB2.out.size; omega, putCells_below [.string (strT x8), .slice a9 (kidsOf x8).length c9] _ _ _ (w.heap.size + 1 + 1) 0 (by omega) (hB2.out.trans (hBq.out.mono hB2.out.size))⟩
    · have hno : Hid (editedD d e = none) := by show _ = _; rw [hed.out, hp8]
      clear hresz hp8
      have r0 := bRz.out.cell 0 rfl
      have r1 := bRz.out.cell 1 rfl
      have fR := bRz.out.unfrozen
      go_wp2_with fail
      have z1 := Box.set (i := 1) (Box.set (i := 0) bRz.out (.string ⟨#[]⟩)) (.slice none 0 0)
      have z10 := z1.cell 0 rfl
      have z11 := z1.cell 1 rfl
      exact bodyPost_ret (v := .tuple #[.agg #[.string ⟨#[]⟩, .slice none 0 0], .bool false]) (by simp [results, Try.results11, go_sem, z10, z11]) rfl (EdR.no hno.out (putCells_below [.string ⟨#[]⟩, .slice none 0 0] _ _ _ (w.heap.size + 1 + 1) 0 (by omega) (hB2.out.trans (hBz2.out.mono hB2.out.size))))
end Go.Proofs.Ytndffcogddefiaa
