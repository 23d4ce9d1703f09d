/- At every world WorldOk answers as its specification, and writes into no argument. No condition. -/
import Derived.Test.YtbodeijffpepfaaWdSz
import Derived.Test.YtbodeijffpepfaaWdTo
import Derived.Test.YtbodeijffpepfaaWdEq
import Derived.Test.YtbodeijffpepfaaWorldOkI
import Derived.Test.YtbodeijffpepfaaWorldOkS
import Derived.ProofKit
import Derived.OpenShut
import Derived.ShutString
import Derived.ChangeOld
import Derived.Below
namespace Go.Proofs.Ytbodeijffpepfaa.fnExactWorldOk
open Go.ChangeShapes Go.WideShapes Go.ChangeAt Go.RowKit
theorem own : ownKnob Try.prog.godebug = none := by kernel_rfl
theorem laidOut : laidOutB Try.prog = true := by kernel_rfl
theorem keepW {w wr w1 : World} {g1 g2 T1 T2 : Nat} {v0 v1 u0 u1 : Value} (hb : Below w.heap.size w wr) (hb1 : Below wr.heap.size wr w1) (b1 : Box wr g1 [v0, v1] T1) (b2 : Box wr g2 [u0, u1] T2) :
    w1.cell? ⟨g1, 0, none⟩ = some v0 ∧ w1.cell? ⟨g1, 1, none⟩ = some v1 ∧ w1.cell? ⟨g2, 0, none⟩ = some u0 ∧ w1.cell? ⟨g2, 1, none⟩ = some u1 ∧ Hid (Below w.heap.size w w1 ∧ Box w1 g1 [v0, v1] T1 ∧ Box w1 g2 [u0, u1] T2) := by
  have k1 := b1.below hb1 b1.lt
  have k2 := b2.below hb1 b2.lt
  exact ⟨k1.cell 0 rfl, k1.cell 1 rfl, k2.cell 0 rfl, k2.cell 1 rfl, hb.trans (hb1.mono hb.size), k1, k2⟩
set_option maxRecDepth 100000 in
set_option maxHeartbeats 1600000 in
theorem walk {w : World} {cs : List Value} {x : WorldD} (ht : WorldAt w 0 cs x) :
    Calls Try.prog 3 #[.agg cs.toArray] w fun e w' => e = .returned (.bool true) ∧ Below w.heap.size w w' := by
  have ht0 : Hid (WorldAt w 0 cs x) := ht
  obtain ⟨k0, k1, rfl, s0, s1, _⟩ := ht
  obtain ⟨a0, c0, rfl⟩ := s0.form
  obtain ⟨a1, c1, rfl⟩ := s1.form
  clear s0 s1
  have hb0 : Below w.heap.size w (w.alloc (.cells (List.toArray [.slice a0 x.vHeaps.length c0, .slice a1 x.vPosts.length c1]) 25)) := (Below.refl _ _).alloc (Nat.le_refl _) _
  have g0 : Hid (Box (w.alloc (.cells (List.toArray [.slice a0 x.vHeaps.length c0, .slice a1 x.vPosts.length c1]) 25)) w.heap.size [.slice a0 x.vHeaps.length c0, .slice a1 x.vPosts.length c1] 25) := Box.new w _ _
  go_enter Try.func3, Try.ntmps3
  go_wp2_with fail
  refine (szWorld_any (WorldAt_stays _ _ _ 0 _ _ (.of_below hb0) ht0.out) (by omega) (by omega)).mono ?_
  rintro e w1 ⟨⟨r, rfl, hr1, hr2, hsm⟩, hb1⟩
  have hsm' : Hid (r < 0 ∨ x.small) := hsm
  have hB1 : Below w.heap.size w w1 := hb0.trans (hb1.mono hb0.size)
  have b1' : Hid (Box w1 w.heap.size [.slice a0 x.vHeaps.length c0, .slice a1 x.vPosts.length c1] 25) := g0.out.below hb1 g0.out.lt
  have p0 := b1'.out.cell 0 rfl
  have p1 := b1'.out.cell 1 rfl
  clear hsm hb1 g0 hb0
  by_cases hneg : r < 0
  · go_wp2_with fail
    go_ret
    exact ⟨rfl, hB1⟩
  have hsm : Hid x.small := hsm'.out.resolve_left hneg
  have hneg' : decide (r < 0) = false := by simpa using hneg
  clear hsm' hneg
  go_wp2_with fail
  refine (toWorld_any (WorldAt_stays _ _ _ 0 _ _ (.of_below hB1) ht0.out) hsm.out).mono ?_
  rintro e w2 ⟨⟨cs2, rfl, ht2⟩, hb2⟩
  have hB2 : Below w.heap.size w w2 := hB1.trans (hb2.mono hB1.size)
  have b2' : Hid (Box w2 w.heap.size [.slice a0 x.vHeaps.length c0, .slice a1 x.vPosts.length c1] 25) := b1'.out.below hb2 b1'.out.lt
  have ht2' : Hid (WorldAt w2 w1.heap.size cs2 x) := ht2
  clear hb2 ht2 b1' p0 p1
  go_wp2_with fail
  refine (specWorldOk_any ht2'.out hsm.out.2.1.2).mono ?_
  rintro e w3 ⟨rfl, hb3⟩
  have hB3 : Below w.heap.size w w3 := hB2.trans (hb3.mono hB2.size)
  have b3' : Hid (Box w3 w.heap.size [.slice a0 x.vHeaps.length c0, .slice a1 x.vPosts.length c1] 25) := b2'.out.below hb3 b2'.out.lt
  have p0 := b3'.out.cell 0 rfl
  have p1 := b3'.out.cell 1 rfl
  clear hb3 b2'
  generalize hRES : worldB x = res
  have HRES : Hid _ := hRES
  clear hRES
  go_wp2_with fail
  refine (toWorld_any (WorldAt_stays _ _ _ 0 _ _ (.of_below hB3) ht0.out) hsm.out).mono ?_
  rintro e w4 ⟨⟨cs4, rfl, ht4⟩, hb4⟩
  have ht4' : Hid (WorldAt w4 w3.heap.size cs4 x) := ht4
  obtain ⟨j0, j1, rfl, t0, t1, _⟩ := ht4
  obtain ⟨e0, d0, rfl⟩ := t0.form
  obtain ⟨e1, d1, rfl⟩ := t1.form
  clear t0 t1
  have hB4 : Below w.heap.size w w4 := hB3.trans (hb4.mono hB3.size)
  have b4' : Hid (Box w4 w.heap.size [.slice a0 x.vHeaps.length c0, .slice a1 x.vPosts.length c1] 25) := b3'.out.below hb4 b3'.out.lt
  have hb5 : Below w4.heap.size w4 (w4.alloc (.cells (List.toArray [.slice e0 x.vHeaps.length d0, .slice e1 x.vPosts.length d1]) 31)) := (Below.refl _ _).alloc (Nat.le_refl _) _
  have hB5 : Below w.heap.size w (w4.alloc (.cells (List.toArray [.slice e0 x.vHeaps.length d0, .slice e1 x.vPosts.length d1]) 31)) := hB4.trans (hb5.mono hB4.size)
  have g5 : Hid (Box (w4.alloc (.cells (List.toArray [.slice e0 x.vHeaps.length d0, .slice e1 x.vPosts.length d1]) 31)) w4.heap.size [.slice e0 x.vHeaps.length d0, .slice e1 x.vPosts.length d1] 31) := Box.new w4 _ _
  have ht5 : Hid (WorldAt (w4.alloc (.cells (List.toArray [.slice e0 x.vHeaps.length d0, .slice e1 x.vPosts.length d1]) 31)) w3.heap.size [.slice e0 x.vHeaps.length d0, .slice e1 x.vPosts.length d1] x) := WorldAt_stays _ _ _ _ _ _ (.of_below hb5) ht4'.out
  have b5' : Hid (Box (w4.alloc (.cells (List.toArray [.slice e0 x.vHeaps.length d0, .slice e1 x.vPosts.length d1]) 31)) w.heap.size [.slice a0 x.vHeaps.length c0, .slice a1 x.vPosts.length c1] 25) := b4'.out.below hb5 b4'.out.lt
  have y0 := g5.out.cell 0 rfl
  have y1 := g5.out.cell 1 rfl
  clear hb4 b3' p0 p1 b4' ht4' hb5
  go_wp2_with fail
  refine (implWorldOk_any ht5.out hsm.out.2.1.2).mono ?_
  rintro e w6 ⟨rfl, hb6⟩
  rw [HRES.out]
  have hB6 : Below w.heap.size w w6 := hB5.trans (hb6.mono hB5.size)
  have B6 : Hid (Box w6 w4.heap.size [.slice e0 x.vHeaps.length d0, .slice e1 x.vPosts.length d1] 31 ∧ Box w6 w.heap.size [.slice a0 x.vHeaps.length c0, .slice a1 x.vPosts.length c1] 25) := ⟨g5.out.below hb6 g5.out.lt, b5'.out.below hb6 b5'.out.lt⟩
  have ht6 : Hid (WorldAt w6 w3.heap.size [.slice e0 x.vHeaps.length d0, .slice e1 x.vPosts.length d1] x) := WorldAt_stays _ _ _ _ _ _ (.of_below hb6) ht5.out
  have x0 := B6.out.1.cell 0 rfl
  have x1 := B6.out.1.cell 1 rfl
  have x2 := B6.out.2.cell 0 rfl
  have x3 := B6.out.2.cell 1 rfl
  clear hb6 ht5 g5 b5' y0 y1 hB5
  go_wp2_with fail
  go_region_held3 (fun w' => w'.cell? ⟨w4.heap.size, 0, none⟩ = some (.slice e0 x.vHeaps.length d0) ∧ w'.cell? ⟨w4.heap.size, 1, none⟩ = some (.slice e1 x.vPosts.length d1) ∧ w'.cell? ⟨w.heap.size, 0, none⟩ = some (.slice a0 x.vHeaps.length c0) ∧ w'.cell? ⟨w.heap.size, 1, none⟩ = some (.slice a1 x.vPosts.length c1)) (go_keep)
    (first | (go_at_call 6; refine (toWorld_any (by exact WorldAt_stays _ _ _ 0 _ _ (.of_below hB6.drew) ht0.out) hsm.out).mono ?_; rintro e w7 ⟨⟨cs7, rfl, ht7⟩, hb7⟩; obtain ⟨z0, z1, z2, z3, hB7⟩ := keepW hB6 (undrew hb7) B6.out.1 B6.out.2; have ht7a : Hid (WorldAt w7 w3.heap.size [.slice e0 x.vHeaps.length d0, .slice e1 x.vPosts.length d1] x) := WorldAt_stays _ _ _ _ _ _ (.of_below (undrew hb7)) ht6.out; have ht7' : Hid (WorldAt w7 w6.heap.size cs7 x) := ht7; clear ht7 hb7) | (go_at_call 8; refine (eqWorld_any (by exact ht7a.out) (by exact ht7'.out)).mono ?_; rintro e w8 ⟨rfl, hb8⟩; obtain ⟨v0, v1, v2, v3, hB8⟩ := keepW hB7.out.1 hb8 hB7.out.2.1 hB7.out.2.2; clear hb8))
  go_wp2_with fail
  go_ret
  exact ⟨rfl, hB8.out.1⟩
/-! The row -/
set_option maxRecDepth 100000 in
theorem lifted (os : Os) (started : os.Started) (H : Type) (enc : TypeId × Value → H) :
    ReturnsInHanded {} Try.checked os 3 .any (Rows.fnExactWorldOkSpec.pre6 enc Try.prog Try.f3 Rows.fnExactWorldOkRow.domain false) (Rows.fnExactWorldOkSpec.post enc Try.prog Try.f3 false true false false) := by
  refine returnsInHanded_of_change (C := Try.checked) own started (by kernel_rfl) Try.func3
    (ChangeSpec.witness6 (enc := enc) (C := Try.checked) false ⟨#[], #[.agg #[.slice none 0 0, .slice none 0 0]], []⟩ 8 (by kernel_rfl) (by kernel_rfl) (by kernel_rfl) (by kernel_rfl)) ?_
  intro W base args ds gs before hval0 hW hcnd _
  have hval : ∀ (j : Nat) t v, Try.f3.params[j]? = some t → args[j]? = some v → Value.okWide Try.prog W .any base t v := hval0
  have hW' := hW
  obtain ⟨p, q, hA0, hV, rfl, hfz, hnd⟩ := hW
  have hA : DataW.TrodAll enc Try.prog W 0 (fun _ => true) true Try.f3.params.toList args.toList ds p := hA0
  rw [Try.params3] at hA hval
  obtain ⟨v0, vs0, d0, ds0, p0, q0, hargs, rfl, rfl, h0, r0⟩ := trodAll_cons hA
  obtain ⟨rfl, rfl, rfl⟩ := trodAll_nil r0
  obtain rfl : args = #[v0] := by cases args; simp_all
  obtain ⟨rfl, rfl⟩ := trodVars_none hV
  have k0 := h0
  have lt0 : ∀ x ∈ p0, x.block < W.heap.size := by obtain ⟨m, hm⟩ := k0; exact DataW.trod_lt m _ _ _ hm
  obtain ⟨cs, rfl, _⟩ := okWide_struct Try.underlying25 (hval 0 25 v0 rfl rfl)
  obtain ⟨fuel, hf⟩ := h0
  obtain ⟨x, ht⟩ := WorldAt_of_trod fuel _ _ hf
  have hcs : (Value.agg cs).cells = cs := rfl
  rw [hcs] at ht
  clear hA0 hval0
  have hwk := walk ht
  rw [Array.toArray_toList] at hwk
  refine hwk.mono fun e W' ⟨he, bel⟩ => ?_
  subst he
  exact ⟨_, rfl, _, _, _, [], _, [], hW', trodAll_mk1 (shut_bool Try.underlying4 _), (trodAll_cons_mk (Below.trod laidOut (by kernel_rfl) (of_decide_eq_true (by kernel_rfl)) k0 bel lt0) trodAll_mk0), rfl, bel.frame _, fun h => by cases h⟩
theorem over : Rows.fnExactWorldOkRow.holds Try.pinned (OpenSpec.ofChange Rows.fnExactWorldOkSpec) :=
  OpenClaim.holds_of_wide 3 Try.f3 rfl rfl rfl rfl rfl rfl rfl ⟨rfl, rfl, rfl, rfl, rfl⟩ rfl rfl rfl rfl rfl (by kernel_rfl) Try.func3 (by kernel_rfl)
    (of_decide_eq_true (by kernel_rfl)) (by unfold Func.isWrapper; first | (rw [if_pos (by decide +kernel)]; kernel_rfl) | (rw [if_neg (by decide +kernel)]; exact ⟨rfl, rfl⟩))
    (fun os started H enc _ => lifted os started H enc)
end Go.Proofs.Ytbodeijffpepfaa.fnExactWorldOk
namespace Go.Proofs.Ytbodeijffpepfaa
theorem fnExactWorldOk_holds : Rows.FnExactWorldOkSaid := fnExactWorldOk.over
end Go.Proofs.Ytbodeijffpepfaa
