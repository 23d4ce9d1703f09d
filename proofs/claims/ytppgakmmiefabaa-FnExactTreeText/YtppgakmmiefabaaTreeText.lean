/- For every tree the law FnExactTreeText returns true: TreeText of the program answers as that of the specification and leaves its argument as it was; no condition. -/
import Derived.Test.YtppgakmmiefabaaSzWalks
import Derived.Test.YtppgakmmiefabaaToWalks
import Derived.Test.YtppgakmmiefabaaEqWalks
import Derived.Test.YtppgakmmiefabaaTextWalks
import Derived.ProofKit
import Derived.OpenShut
import Derived.ShutString
import Derived.ChangeOld
import Derived.Below
namespace Go.Proofs.Ytppgakmmiefabaa.fnExactTreeText
open Go.ChangeShapes Go.WideShapes Go.ChangeAt Go.RowKit
theorem own : ownKnob Try.prog.godebug = none := by kernel_rfl
theorem laidOut : laidOutB Try.prog = true := by kernel_rfl
theorem two_cells {w w' : World} {g : Nat} {t k : Value} {T : TypeId} (h : w.heap[g]? = some (.cells #[t, k] T)) (hb : Below (g + 1) w w') : w'.cell? ⟨g, 0, none⟩ = some t ∧ w'.cell? ⟨g, 1, none⟩ = some k ∧ w'.heap[g]? = some (.cells #[t, k] T) := by
  have e : w'.heap[g]? = some (.cells #[t, k] T) := (hb.block g (by omega)).trans h
  exact ⟨by rw [blk_cell e]; rfl, by rw [blk_cell e]; rfl, e⟩
theorem undrew {wr w1 : World} (h : Below wr.drew.heap.size wr.drew w1) : Below wr.heap.size wr w1 := ⟨h.os, h.tape, h.output, h.size, h.block⟩
theorem keepC {w wr w1 : World} {b b2 o1 o2 o3 o4 : Nat} {v1 v2 v3 v4 : Value} (hb : Below w.heap.size w wr) (hb1 : Below wr.heap.size wr w1) (h : b < wr.heap.size) (h2 : b2 < wr.heap.size)
    (q1 : wr.cell? ⟨b, o1, none⟩ = some v1) (q2 : wr.cell? ⟨b, o2, none⟩ = some v2) (q3 : wr.cell? ⟨b2, o3, none⟩ = some v3) (q4 : wr.cell? ⟨b2, o4, none⟩ = some v4) :
    w1.cell? ⟨b, o1, none⟩ = some v1 ∧ w1.cell? ⟨b, o2, none⟩ = some v2 ∧ w1.cell? ⟨b2, o3, none⟩ = some v3 ∧ w1.cell? ⟨b2, o4, none⟩ = some v4 ∧ (Below w.heap.size w w1 ∧ b < w1.heap.size ∧ b2 < w1.heap.size) :=
  ⟨(hb1.cell (p := ⟨b, o1, none⟩) (by exact h)).trans q1, (hb1.cell (p := ⟨b, o2, none⟩) (by exact h)).trans q2, (hb1.cell (p := ⟨b2, o3, none⟩) (by exact h2)).trans q3, (hb1.cell (p := ⟨b2, o4, none⟩) (by exact h2)).trans q4,
    hb.trans (hb1.mono hb.size), by have := hb1.size; omega, by have := hb1.size; omega⟩
set_option maxHeartbeats 1000000 in
theorem walk {H : Type} {n : Nat} {w : World} {t k : Value} {d : DataW H} (ht : TreeAt w 0 n t k d) :
    Calls Try.prog 5 #[.agg #[t, k]] w fun e w' => e = .returned (.bool true) ∧ Below w.heap.size w w' := by
  obtain ⟨⟨s, rfl⟩, a, cap, rfl⟩ := ht.form
  have hb0 : Below w.heap.size w (w.alloc (.cells #[.string s, .slice a (kidsOf d).length cap] 24)) := (Below.refl _ _).alloc (Nat.le_refl _) _
  have g0 : Hid ((w.alloc (.cells #[.string s, .slice a (kidsOf d).length cap] 24)).heap[w.heap.size]? = some (.cells #[.string s, .slice a (kidsOf d).length cap] 24)) := (MapKept.heap_alloc w _).1
  have ht0 : Hid (TreeAt w 0 n _ _ d) := ht
  clear ht
  go_enter Try.func5, Try.ntmps5
  go_wp2_with fail
  refine ((szT_all n).1 _ 0 _ _ d _ (ht0.out.below hb0) (by omega) (by omega)).mono ?_
  rintro e w1 ⟨⟨r, rfl, hr1, hr2, hsm⟩, hb1⟩
  have hsm' : Hid _ := hsm
  clear hsm
  have hB1 : Below w.heap.size w w1 := hb0.trans (hb1.mono hb0.size)
  have hz0 : (w.alloc (.cells #[.string s, .slice a (kidsOf d).length cap] 24)).heap.size = w.heap.size + 1 := by simp
  have hz1 : w.heap.size + 1 ≤ w1.heap.size := by have := hb1.size; rw [hz0] at this; exact this
  have hbx1 : Below (w.heap.size + 1) (w.alloc (.cells #[.string s, .slice a (kidsOf d).length cap] 24)) w1 := by rw [hz0] at hb1; exact hb1
  have hb1' : Hid _ := hbx1
  obtain ⟨c10, c11, g1⟩ := two_cells g0.out hbx1
  have g1' : Hid _ := g1
  clear hb1 hbx1 g1 hz0
  by_cases hneg : r < 0
  · go_wp2_with fail
    go_ret
    exact ⟨rfl, hB1⟩
  have hsm : Hid (SmallT n d) := hsm'.out.resolve_left hneg
  clear hsm'
  go_wp2_with fail
  refine ((toT_all n).1 _ 0 _ _ d (ht0.out.below hB1) hsm.out).mono ?_
  rintro e w2 ⟨⟨k2, rfl, ht2⟩, hb2⟩
  have hB2 : Below w.heap.size w w2 := hB1.trans (hb2.mono hB1.size)
  have hz2 : w.heap.size + 1 ≤ w2.heap.size := by have := hb2.size; omega
  obtain ⟨c20, c21, g2⟩ := two_cells g1'.out (hb2.mono hz1)
  have g2' : Hid _ := g2
  have ht2' : Hid _ := ht2
  clear c10 c11 hb2 g2 ht2 g1'
  go_wp2_with fail
  refine (specTreeText_any ht2'.out).mono ?_
  rintro e w3 ⟨rfl, hb3⟩
  have hB3 : Below w.heap.size w w3 := hB2.trans (hb3.mono hB2.size)
  have hz3 : w.heap.size + 1 ≤ w3.heap.size := by have := hb3.size; omega
  obtain ⟨c30, c31, g3⟩ := two_cells g2'.out (hb3.mono hz2)
  have g3' : Hid _ := g3
  clear c20 c21 hb3 g3 g2'
  generalize hRES : textR n d = res
  have HRES : Hid _ := hRES
  clear hRES
  go_wp2_with fail
  refine ((toT_all n).1 _ 0 _ _ d (ht0.out.below hB3) hsm.out).mono ?_
  rintro e w4 ⟨⟨k4, rfl, ht4⟩, hb4⟩
  obtain ⟨_, a4, cap4, rfl⟩ := ht4.form
  have hB4 : Below w.heap.size w w4 := hB3.trans (hb4.mono hB3.size)
  have hz4 : w.heap.size + 1 ≤ w4.heap.size := by have := hb4.size; omega
  obtain ⟨c40, c41, g4⟩ := two_cells g3'.out (hb4.mono hz3)
  have g4' : Hid _ := g4
  have ht4' : Hid _ := ht4
  clear c30 c31 hb4 g4 ht4 g3'
  go_wp2_with fail
  have hb5 : Below w4.heap.size w4 (w4.alloc (.cells #[.string s, .slice a4 (kidsOf d).length cap4] 29)) := (Below.refl _ _).alloc (Nat.le_refl _) _
  have hB5 : Below w.heap.size w (w4.alloc (.cells #[.string s, .slice a4 (kidsOf d).length cap4] 29)) := hB4.trans (hb5.mono hB4.size)
  have hz5 : (w4.alloc (.cells #[.string s, .slice a4 (kidsOf d).length cap4] 29)).heap.size = w4.heap.size + 1 := by simp
  have g5 : (w4.alloc (.cells #[.string s, .slice a4 (kidsOf d).length cap4] 29)).heap[w4.heap.size]? = some (.cells #[.string s, .slice a4 (kidsOf d).length cap4] 29) := (MapKept.heap_alloc w4 _).1
  obtain ⟨_, _, g5a⟩ := two_cells g4'.out (hb5.mono hz4)
  refine (implTreeText_any (ht4'.out.below hb5)).mono ?_
  rintro e w6 ⟨rfl, hb6⟩
  rw [HRES.out]
  have hB6 : Below w.heap.size w w6 := hB5.trans (hb6.mono hB5.size)
  rw [hz5] at hb6
  have hz6 : w4.heap.size + 1 ≤ w6.heap.size := by have := hb6.size; rw [hz5] at this; exact this
  obtain ⟨c60, c61, g6⟩ := two_cells g5 hb6
  obtain ⟨c62, c63, g6a⟩ := two_cells g5a (hb6.mono (by omega))
  have ht6 : Hid (TreeAt w6 _ n _ _ d) := TreeAt.below (ht4'.out.below hb5) (by rw [hz5]; exact hb6)
  have h46 : w4.heap.size < w6.heap.size := by omega
  have hw6 : w.heap.size < w6.heap.size := by omega
  clear hb6 hb5 hz5 g5 g5a c40 c41 ht4' g6 g6a g4'
  go_wp2_with fail
  go_region_held3 (fun w' => w'.cell? ⟨w4.heap.size, 0, none⟩ = some (.string s) ∧ w'.cell? ⟨w4.heap.size, 1, none⟩ = some (.slice a4 (kidsOf d).length cap4) ∧ w'.cell? ⟨w.heap.size, 0, none⟩ = some (.string s) ∧ w'.cell? ⟨w.heap.size, 1, none⟩ = some (.slice a (kidsOf d).length cap)) (go_keep)
    (first | (go_at_call 9; refine ((toT_all n).1 _ 0 _ _ d (by exact ht0.out.below hB6.drew) hsm.out).mono ?_; rintro e w7 ⟨⟨k7, rfl, ht7⟩, hb7⟩; obtain ⟨z1, z2, z3, z4, hB7⟩ := keepC hB6 (undrew hb7) h46 hw6 c60 c61 c62 c63; have ht7a : Hid _ := ht6.out.below (undrew hb7); have ht7b : Hid _ := ht7; clear ht7 hb7) | (go_at_call 11; refine ((eqT_all n).1 _ _ _ _ _ _ _ d (by exact ht7a.out) (by exact ht7b.out)).mono ?_; rintro e w8 ⟨rfl, hb8⟩; obtain ⟨y1, y2, y3, y4, hB8⟩ := keepC hB7.1 hb8 hB7.2.1 hB7.2.2 z1 z2 z3 z4))
  go_wp2_with fail
  go_ret
  exact ⟨rfl, hB8.1⟩
/-! The row -/
set_option maxRecDepth 100000 in
theorem lifted (os : Os) (started : os.Started) (H : Type) (enc : TypeId × Value → H) :
    ReturnsInHanded {} Try.checked os 5 .any (Rows.fnExactTreeTextSpec.pre6 enc Try.prog Try.f5 Rows.fnExactTreeTextRow.domain false) (Rows.fnExactTreeTextSpec.post enc Try.prog Try.f5 false true false false) := by
  refine returnsInHanded_of_change (C := Try.checked) own started (by kernel_rfl) Try.func5
    (ChangeSpec.witness6 (enc := enc) (C := Try.checked) false ⟨#[], #[.agg #[.string ByteArray.empty, .slice none 0 0]], []⟩ 8 (by kernel_rfl) (by kernel_rfl) (by kernel_rfl) (by kernel_rfl)) ?_
  intro W base args ds gs before hval0 hW hcnd _
  have hval : ∀ (j : Nat) t v, Try.f5.params[j]? = some t → args[j]? = some v → Value.okWide Try.prog W .any base t v := hval0
  have hW' := hW
  obtain ⟨p, q, hA0, hV, rfl, hfz, hnd⟩ := hW
  have hA : DataW.TrodAll enc Try.prog W 0 (fun _ => true) true Try.f5.params.toList args.toList ds p := hA0
  rw [Try.params5] at hA hval
  obtain ⟨v0, vs0, d0, ds0, p0, q0, hargs, rfl, rfl, h0, r0⟩ := trodAll_cons hA
  obtain ⟨rfl, rfl, rfl⟩ := trodAll_nil r0
  obtain rfl : args = #[v0] := by cases args; simp_all
  obtain ⟨rfl, rfl⟩ := trodVars_none hV
  have k0 := h0
  have lt0 : ∀ x ∈ p0, x.block < W.heap.size := by obtain ⟨m, hm⟩ := k0; exact DataW.trod_lt m _ _ _ hm
  obtain ⟨cs, rfl, _⟩ := okWide_struct Try.underlying24 (hval 0 24 v0 rfl rfl)
  obtain ⟨fuel, hf⟩ := h0
  obtain ⟨t, k, hcs, ht⟩ := treeAt_of_trod (f0 := _) (f1 := _) Try.underlying24 rfl rfl rfl rfl Try.underlying9 Try.underlying22 (by kernel_rfl) (by kernel_rfl) (by kernel_rfl) fuel _ _ hf
  obtain rfl : cs = #[t, k] := by cases cs; simpa [Value.cells] using hcs
  clear hA0 hval0
  refine (walk ht).mono fun e W' ⟨he, bel⟩ => ?_
  subst he
  exact ⟨_, rfl, _, _, _, [], _, [], hW', trodAll_mk1 (shut_bool Try.underlying4 _), (trodAll_cons_mk (Below.trod laidOut (by kernel_rfl) (of_decide_eq_true (by kernel_rfl)) k0 bel lt0) trodAll_mk0), rfl, bel.frame _, fun h => by cases h⟩
theorem over : Rows.fnExactTreeTextRow.holds Try.pinned (OpenSpec.ofChange Rows.fnExactTreeTextSpec) :=
  OpenClaim.holds_of_wide 5 Try.f5 rfl rfl rfl rfl rfl rfl rfl ⟨rfl, rfl, rfl, rfl, rfl⟩ rfl rfl rfl rfl rfl (by kernel_rfl) Try.func5 (by kernel_rfl)
    (of_decide_eq_true (by kernel_rfl)) (by unfold Func.isWrapper; first | (rw [if_pos (by decide +kernel)]; kernel_rfl) | (rw [if_neg (by decide +kernel)]; exact ⟨rfl, rfl⟩))
    (fun os started H enc _ => lifted os started H enc)
end Go.Proofs.Ytppgakmmiefabaa.fnExactTreeText
namespace Go.Proofs.Ytppgakmmiefabaa
theorem fnExactTreeText_holds : Rows.FnExactTreeTextSaid := fnExactTreeText.over
end Go.Proofs.Ytppgakmmiefabaa
