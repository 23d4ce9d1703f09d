/- For every arena, ArenaOk of the program answers as that of the specification; the arena reads behind the call as it read before. No condition. -/
import Derived.Test.YtcpbcpckmclciaaArSz
import Derived.Test.YtcpbcpckmclciaaArTo
import Derived.Test.YtcpbcpckmclciaaArEq
import Derived.Test.YtcpbcpckmclciaaArSpec
import Derived.ProofKit
import Derived.OpenShut
import Derived.ShutString
import Derived.ChangeOld
import Derived.Below
import Derived.Laws.Cover1
import Derived.Test.YtcpbcpckmclciaaArRightTwo
namespace Go.Proofs.Ytcpbcpckmclciaa.fnExactArenaOk
open Go.ChangeShapes Go.WideShapes Go.ChangeAt Go.RowKit
theorem own : ownKnob Try.prog.godebug = none := by kernel_rfl
theorem AR {w w' : World} {lo : Nat} {cs : List Value} {x : ArenaD} (hb : Below w.heap.size w w') (h : ArenaAt w lo cs x) : ArenaAt w' lo cs x := ArenaAt_stays _ _ _ lo _ _ (.of_below hb) h
theorem laidOut : laidOutB Try.prog = true := by kernel_rfl
set_option maxHeartbeats 1000000 in
theorem walk {w : World} {cs : List Value} {x : ArenaD} (hx : ArenaAt w 0 cs x) :
    Calls Try.prog 3 #[.agg cs.toArray] w fun e w' => e = .returned (.bool true) ∧ Below w.heap.size w w' := by
  have hx0 : Hid (ArenaAt w 0 cs x) := hx
  obtain ⟨k2, k3, rfl, s2, s3, _⟩ := hx
  obtain ⟨a2, d2, rfl⟩ := s2.form
  obtain ⟨a3, d3, rfl⟩ := s3.form
  clear s2 s3
  have hb0 : Below w.heap.size w (w.alloc (.cells #[.slice a2 x.vSlots.length d2, .slice a3 x.vFree.length d3] 25)) := (Below.refl _ _).alloc (Nat.le_refl _) _
  have g0 : Hid (Box (w.alloc (.cells #[.slice a2 x.vSlots.length d2, .slice a3 x.vFree.length d3] 25)) w.heap.size [.slice a2 x.vSlots.length d2, .slice a3 x.vFree.length d3] 25) := Box.new w _ _
  go_enter Try.func3, Try.ntmps3
  go_wp2_with fail
  refine (szArena_any (AR hb0 hx0.out) (by omega) (by omega)).mono ?_
  rintro e w1 ⟨⟨r, rfl, hr1, hr2, hsm⟩, hb1⟩
  have hsm' : Hid (r < 0 ∨ ArenaD.small x) := hsm
  clear hsm
  have hB1 : Below w.heap.size w w1 := hb0.trans (hb1.mono hb0.size)
  have g1 : Hid (Box w1 w.heap.size [.slice a2 x.vSlots.length d2, .slice a3 x.vFree.length d3] 25) := g0.out.below hb1 g0.out.lt
  clear hb1 g0
  by_cases hneg : r < 0
  · go_wp2_with fail
    go_ret
    exact ⟨rfl, hB1⟩
  have hsm : Hid (ArenaD.small x) := hsm'.out.resolve_left hneg
  clear hsm'
  have c0 := g1.out.cell 0 rfl
  have c1 := g1.out.cell 1 rfl
  go_wp2_with fail
  refine (toArena_any (AR hB1 hx0.out) hsm.out).mono ?_
  rintro e w2 ⟨⟨cs2, rfl, ht2⟩, hb2⟩
  have hB2 : Below w.heap.size w w2 := hB1.trans (hb2.mono hB1.size)
  have g2 : Hid (Box w2 w.heap.size [.slice a2 x.vSlots.length d2, .slice a3 x.vFree.length d3] 25) := g1.out.below hb2 g1.out.lt
  have ht2' : Hid (ArenaAt w2 w1.heap.size cs2 x) := ht2
  clear hb2 ht2 g1 c0 c1
  go_wp2_with fail
  refine (specArenaOk_any ht2'.out).mono ?_
  rintro e w3 ⟨rfl, hb3⟩
  have hB3 : Below w.heap.size w w3 := hB2.trans (hb3.mono hB2.size)
  have g3 : Hid (Box w3 w.heap.size [.slice a2 x.vSlots.length d2, .slice a3 x.vFree.length d3] 25) := g2.out.below hb3 g2.out.lt
  clear hb3 g2 ht2'
  generalize hRES : rightB x = res
  have HRES : Hid (rightB x = res) := hRES
  clear hRES
  have c0 := g3.out.cell 0 rfl
  have c1 := g3.out.cell 1 rfl
  go_wp2_with fail
  refine (toArena_any (AR hB3 hx0.out) hsm.out).mono ?_
  rintro e w4 ⟨⟨cs4, rfl, ht4⟩, hb4⟩
  have hB4 : Below w.heap.size w w4 := hB3.trans (hb4.mono hB3.size)
  have g4 : Hid (Box w4 w.heap.size [.slice a2 x.vSlots.length d2, .slice a3 x.vFree.length d3] 25) := g3.out.below hb4 g3.out.lt
  have ht4' : Hid (ArenaAt w4 w3.heap.size cs4 x) := ht4
  obtain ⟨p2, p3, rfl, t2, t3, _⟩ := ht4
  obtain ⟨b2, e2, rfl⟩ := t2.form
  obtain ⟨b3, e3, rfl⟩ := t3.form
  clear hb4 g3 c0 c1 t2 t3
  go_wp2_with fail
  have hb5 : Below w4.heap.size w4 (w4.alloc (.cells #[.slice b2 x.vSlots.length e2, .slice b3 x.vFree.length e3] 30)) := (Below.refl _ _).alloc (Nat.le_refl _) _
  have hB5 : Below w.heap.size w (w4.alloc (.cells #[.slice b2 x.vSlots.length e2, .slice b3 x.vFree.length e3] 30)) := hB4.trans (hb5.mono hB4.size)
  have x5 : Hid (Box (w4.alloc (.cells #[.slice b2 x.vSlots.length e2, .slice b3 x.vFree.length e3] 30)) w4.heap.size [.slice b2 x.vSlots.length e2, .slice b3 x.vFree.length e3] 30) := Box.new w4 _ _
  have g5 : Hid (Box (w4.alloc (.cells #[.slice b2 x.vSlots.length e2, .slice b3 x.vFree.length e3] 30)) w.heap.size [.slice a2 x.vSlots.length d2, .slice a3 x.vFree.length d3] 25) := g4.out.below hb5 g4.out.lt
  refine (implArenaOk_any (AR hb5 ht4'.out)).mono ?_
  rintro e w6 ⟨rfl, hb6⟩
  rw [HRES.out]
  have hB6 : Below w.heap.size w w6 := hB5.trans (hb6.mono hB5.size)
  have ht6 : Hid (ArenaAt w6 w3.heap.size _ x) := AR hb6 (AR hb5 ht4'.out)
  have x6 : Hid (Box w6 w4.heap.size [.slice b2 x.vSlots.length e2, .slice b3 x.vFree.length e3] 30) := x5.out.below hb6 x5.out.lt
  have g6 : Hid (Box w6 w.heap.size [.slice a2 x.vSlots.length d2, .slice a3 x.vFree.length d3] 25) := g5.out.below hb6 g5.out.lt
  have h46 : w4.heap.size < w6.heap.size := x6.out.lt
  have hw6 : w.heap.size < w6.heap.size := g6.out.lt
  have c0 := g6.out.cell 0 rfl
  have c1 := g6.out.cell 1 rfl
  have y0 := x6.out.cell 0 rfl
  have y1 := x6.out.cell 1 rfl
  clear hb6 hb5 x5 g5 ht4' g4
  go_wp2_with fail
  go_region_held3 (fun w' => w'.cell? ⟨w4.heap.size, 0, none⟩ = some (.slice b2 x.vSlots.length e2) ∧ w'.cell? ⟨w4.heap.size, 1, none⟩ = some (.slice b3 x.vFree.length e3) ∧ w'.cell? ⟨w.heap.size, 0, none⟩ = some (.slice a2 x.vSlots.length d2) ∧ w'.cell? ⟨w.heap.size, 1, none⟩ = some (.slice a3 x.vFree.length d3)) (go_keep)
    (first | (go_at_call 11; refine (toArena_any (by exact AR hB6.drew hx0.out) hsm.out).mono ?_; rintro e w7 ⟨⟨cs7, rfl, ht7⟩, hb7⟩; have hb7' := undrew hb7; have x7 : Hid (Box w7 w4.heap.size _ _) := Box.below x6.out hb7' h46; have g7 : Hid (Box w7 w.heap.size _ _) := Box.below g6.out hb7' hw6; have k0 := x7.out.cell 0 rfl; have k1 := x7.out.cell 1 rfl; have j0 := g7.out.cell 0 rfl; have j1 := g7.out.cell 1 rfl; have hB7 : Hid (Below w.heap.size w w7) := hB6.trans (hb7'.mono hB6.size); have ht7a : Hid (ArenaAt w7 w3.heap.size _ x) := AR hb7' ht6.out; have ht7b : Hid (ArenaAt w7 _ cs7 x) := ht7; clear ht7 hb7) | (go_at_call 13; refine (eqArena_any (by exact ht7a.out) (by exact ht7b.out)).mono ?_; rintro e w8 ⟨rfl, hb8⟩; have x8 : Hid (Box w8 w4.heap.size _ _) := Box.below x7.out hb8 x7.out.lt; have g8 : Hid (Box w8 w.heap.size _ _) := Box.below g7.out hb8 g7.out.lt; have l0 := x8.out.cell 0 rfl; have l1 := x8.out.cell 1 rfl; have m0 := g8.out.cell 0 rfl; have m1 := g8.out.cell 1 rfl; have hB8 : Hid (Below w.heap.size w w8) := hB7.out.trans (hb8.mono hB7.out.size)))
  go_wp2_with fail
  go_ret
  exact ⟨rfl, hB8.out⟩
/-! The row -/
set_option maxRecDepth 100000 in
theorem lifted (os : Os) (started : os.Started) (H : Type) (enc : TypeId × Value → H) :
    ReturnsInHanded {} Try.checked os 3 .any (Rows.fnExactArenaOkSpec.pre6 enc Try.prog Try.f3 Rows.fnExactArenaOkRow.domain false) (Rows.fnExactArenaOkSpec.post enc Try.prog Try.f3 false true false false) := by
  refine returnsInHanded_of_change (C := Try.checked) own started (by kernel_rfl) Try.func3
    (ChangeSpec.witness6 (enc := enc) (C := Try.checked) false ⟨#[], #[.agg #[.slice none 0 0, .slice none 0 0]], []⟩ 8 (by kernel_rfl) (by kernel_rfl) (by kernel_rfl) (by kernel_rfl)) ?_
  intro W base args ds gs before hval0 hW hcnd _
  have hval : ∀ (j : Nat) t v, Try.f3.params[j]? = some t → args[j]? = some v → Value.okWide Try.prog W .any base t v := hval0
  have hW' := hW
  obtain ⟨p, q, hA0, hV, rfl, hfz, hnd⟩ := hW
  have hA : DataW.TrodAll enc Try.prog W 0 (fun _ => true) true Try.f3.params.toList args.toList ds p := hA0
  rw [Try.params3] at hA hval
  obtain ⟨v0, vs0, d0, ds0, p0, q0, hargs, rfl, rfl, h0, r0⟩ := trodAll_cons hA
  obtain ⟨rfl, rfl, rfl⟩ := trodAll_nil r0
  obtain rfl : args = #[v0] := by cases args; simp_all
  obtain ⟨rfl, rfl⟩ := trodVars_none hV
  have k0 := h0
  have lt0 : ∀ x ∈ p0, x.block < W.heap.size := by obtain ⟨m, hm⟩ := k0; exact DataW.trod_lt m _ _ _ hm
  obtain ⟨cs, rfl, _⟩ := okWide_struct Try.underlying25 (hval 0 25 v0 rfl rfl)
  obtain ⟨fuel, hf⟩ := h0
  obtain ⟨x, hx⟩ := ArenaAt_of_trod fuel _ _ hf
  clear hA0 hval0
  refine (walk (cs := cs.toList) (by simpa [Value.cells] using hx)).mono fun e W' ⟨he, bel⟩ => ?_
  subst he
  exact ⟨_, rfl, _, _, _, [], _, [], hW', trodAll_mk1 (shut_bool Try.underlying4 _), (trodAll_cons_mk (Below.trod laidOut (by kernel_rfl) (of_decide_eq_true (by kernel_rfl)) k0 bel lt0) trodAll_mk0), rfl, bel.frame _, fun h => by cases h⟩
theorem over : Rows.fnExactArenaOkRow.holds Try.pinned (OpenSpec.ofChange Rows.fnExactArenaOkSpec) :=
  OpenClaim.holds_of_wide 3 Try.f3 rfl rfl rfl rfl rfl rfl rfl ⟨rfl, rfl, rfl, rfl, rfl⟩ rfl rfl rfl rfl rfl (by kernel_rfl) Try.func3 (by kernel_rfl)
    (of_decide_eq_true (by kernel_rfl)) (by unfold Func.isWrapper; first | (rw [if_pos (by decide +kernel)]; kernel_rfl) | (rw [if_neg (by decide +kernel)]; exact ⟨rfl, rfl⟩))
    (fun os started H enc _ => lifted os started H enc)

end Go.Proofs.Ytcpbcpckmclciaa.fnExactArenaOk
namespace Go.Proofs.Ytcpbcpckmclciaa
theorem fnExactArenaOk_holds : Rows.FnExactArenaOkSaid := fnExactArenaOk.over
end Go.Proofs.Ytcpbcpckmclciaa
