/- For every mark, MarkText of the program answers as that of the specification, where the table of signs starts as the program's text lays it; the mark reads behind the call as it read before. -/
import Derived.Test.YthcecgdhpondfaaDoorMarkSz
import Derived.Test.YthcecgdhpondfaaDoorMarkTo
import Derived.Test.YthcecgdhpondfaaDoorMarkEq
import Derived.Test.YthcecgdhpondfaaDoorMtTop
import Derived.ProofKit
import Derived.OpenShut
import Derived.ShutString
import Derived.ChangeOld
import Derived.Below
import Derived.Test.YthcecgdhpondfaaDoorDoorTab
namespace Go.Proofs.YthcecgdhpondfaaDoor.fnExactMarkText
open Go.ChangeShapes Go.WideShapes Go.ChangeAt Go.RowKit
theorem own : ownKnob Tryd.prog.godebug = none := by kernel_rfl
theorem laidOut : laidOutB Tryd.prog = true := by kernel_rfl
set_option maxHeartbeats 1000000 in
theorem walk {n : Nat} {w : World} {cs : List Value} {x : MarkD} (hx : MarkAt n w 0 cs x) (hsg : Signs w) :
    Calls Tryd.prog 5 #[.agg cs.toArray] w fun e w' => e = .returned (.bool true) ∧ Below w.heap.size w w' := by
  have hx0 : Hid (MarkAt n w 0 cs x) := hx
  obtain ⟨k2, k3, rfl, s2, s3, _⟩ := MarkAt.opened hx
  obtain ⟨a2, d2, rfl⟩ := s2.form
  obtain ⟨a3, d3, rfl⟩ := s3.form
  clear s2 s3 hx
  have hsg' : Hid (Signs w) := hsg
  clear hsg
  have hb0 : Below w.heap.size w (w.alloc (.cells #[.string x.vTag, .string x.vText, .slice a2 x.vAttrs.length d2, .slice a3 x.vKids.length d3] 29)) := (Below.refl _ _).alloc (Nat.le_refl _) _
  have g0 : Hid (Box (w.alloc (.cells #[.string x.vTag, .string x.vText, .slice a2 x.vAttrs.length d2, .slice a3 x.vKids.length d3] 29)) w.heap.size [.string x.vTag, .string x.vText, .slice a2 x.vAttrs.length d2, .slice a3 x.vKids.length d3] 29) := Box.new w _ _
  go_enter Tryd.func5, Tryd.ntmps5
  go_wp2_with fail
  refine ((szMark_all n).1 _ 0 _ x _ (MarkAt.below hx0.out hb0) (by omega) (by omega)).mono ?_
  rintro e w1 ⟨⟨r, rfl, hr1, hr2, hsm⟩, hb1⟩
  have hsm' : Hid (r < 0 ∨ MarkD.small n x) := hsm
  clear hsm
  have hB1 : Below w.heap.size w w1 := hb0.trans (hb1.mono hb0.size)
  have g1 : Hid (Box w1 w.heap.size [.string x.vTag, .string x.vText, .slice a2 x.vAttrs.length d2, .slice a3 x.vKids.length d3] 29) := g0.out.below hb1 g0.out.lt
  clear hb1 g0
  by_cases hneg : r < 0
  · go_wp2_with fail
    go_ret
    exact ⟨rfl, hB1⟩
  have hsm : Hid (MarkD.small n x) := hsm'.out.resolve_left hneg
  clear hsm'
  have c0 := g1.out.cell 0 rfl
  have c1 := g1.out.cell 1 rfl
  have c2 := g1.out.cell 2 rfl
  have c3 := g1.out.cell 3 rfl
  go_wp2_with fail
  refine ((toMark_all n).1 _ 0 _ x (MarkAt.below hx0.out hB1) hsm.out).mono ?_
  rintro e w2 ⟨⟨cs2, rfl, ht2⟩, hb2⟩
  have hB2 : Below w.heap.size w w2 := hB1.trans (hb2.mono hB1.size)
  have g2 : Hid (Box w2 w.heap.size [.string x.vTag, .string x.vText, .slice a2 x.vAttrs.length d2, .slice a3 x.vKids.length d3] 29) := g1.out.below hb2 g1.out.lt
  have ht2' : Hid (MarkAt n w2 w1.heap.size cs2 x) := ht2
  clear hb2 ht2 g1 c0 c1 c2 c3
  go_wp2_with fail
  refine (specMarkText_any ht2'.out).mono ?_
  rintro e w3 ⟨rfl, hb3⟩
  have hB3 : Below w.heap.size w w3 := hB2.trans (hb3.mono hB2.size)
  have g3 : Hid (Box w3 w.heap.size [.string x.vTag, .string x.vText, .slice a2 x.vAttrs.length d2, .slice a3 x.vKids.length d3] 29) := g2.out.below hb3 g2.out.lt
  clear hb3 g2 ht2'
  generalize hRES : mtR n x = res
  have HRES : Hid (mtR n x = res) := hRES
  clear hRES
  have c0 := g3.out.cell 0 rfl
  have c1 := g3.out.cell 1 rfl
  have c2 := g3.out.cell 2 rfl
  have c3 := g3.out.cell 3 rfl
  go_wp2_with fail
  refine ((toMark_all n).1 _ 0 _ x (MarkAt.below hx0.out hB3) hsm.out).mono ?_
  rintro e w4 ⟨⟨cs4, rfl, ht4⟩, hb4⟩
  have hB4 : Below w.heap.size w w4 := hB3.trans (hb4.mono hB3.size)
  have g4 : Hid (Box w4 w.heap.size [.string x.vTag, .string x.vText, .slice a2 x.vAttrs.length d2, .slice a3 x.vKids.length d3] 29) := g3.out.below hb4 g3.out.lt
  have ht4' : Hid (MarkAt n w4 w3.heap.size cs4 x) := ht4
  obtain ⟨p2, p3, rfl, t2, t3, _⟩ := MarkAt.opened ht4
  obtain ⟨b2, e2, rfl⟩ := t2.form
  obtain ⟨b3, e3, rfl⟩ := t3.form
  clear hb4 g3 c0 c1 c2 c3 ht4 t2 t3
  go_wp2_with fail
  have hb5 : Below w4.heap.size w4 (w4.alloc (.cells #[.string x.vTag, .string x.vText, .slice b2 x.vAttrs.length e2, .slice b3 x.vKids.length e3] 35)) := (Below.refl _ _).alloc (Nat.le_refl _) _
  have hB5 : Below w.heap.size w (w4.alloc (.cells #[.string x.vTag, .string x.vText, .slice b2 x.vAttrs.length e2, .slice b3 x.vKids.length e3] 35)) := hB4.trans (hb5.mono hB4.size)
  have x5 : Hid (Box (w4.alloc (.cells #[.string x.vTag, .string x.vText, .slice b2 x.vAttrs.length e2, .slice b3 x.vKids.length e3] 35)) w4.heap.size [.string x.vTag, .string x.vText, .slice b2 x.vAttrs.length e2, .slice b3 x.vKids.length e3] 35) := Box.new w4 _ _
  have g5 : Hid (Box (w4.alloc (.cells #[.string x.vTag, .string x.vText, .slice b2 x.vAttrs.length e2, .slice b3 x.vKids.length e3] 35)) w.heap.size [.string x.vTag, .string x.vText, .slice a2 x.vAttrs.length d2, .slice a3 x.vKids.length d3] 29) := g4.out.below hb5 g4.out.lt
  refine (implMarkText_any (MarkAt.below ht4'.out hb5) (Signs.below hsg'.out hB5 (Signs.lt hsg'.out))).mono ?_
  rintro e w6 ⟨rfl, hb6⟩
  rw [HRES.out]
  have hB6 : Below w.heap.size w w6 := hB5.trans (hb6.mono hB5.size)
  have ht6 : Hid (MarkAt n w6 w3.heap.size _ x) := MarkAt.below (MarkAt.below ht4'.out hb5) hb6
  have x6 : Hid (Box w6 w4.heap.size [.string x.vTag, .string x.vText, .slice b2 x.vAttrs.length e2, .slice b3 x.vKids.length e3] 35) := x5.out.below hb6 x5.out.lt
  have g6 : Hid (Box w6 w.heap.size [.string x.vTag, .string x.vText, .slice a2 x.vAttrs.length d2, .slice a3 x.vKids.length d3] 29) := g5.out.below hb6 g5.out.lt
  have h46 : w4.heap.size < w6.heap.size := x6.out.lt
  have hw6 : w.heap.size < w6.heap.size := g6.out.lt
  have c0 := g6.out.cell 0 rfl
  have c1 := g6.out.cell 1 rfl
  have c2 := g6.out.cell 2 rfl
  have c3 := g6.out.cell 3 rfl
  have y0 := x6.out.cell 0 rfl
  have y1 := x6.out.cell 1 rfl
  have y2 := x6.out.cell 2 rfl
  have y3 := x6.out.cell 3 rfl
  clear hb6 hb5 x5 g5 ht4' g4
  go_wp2_with fail
  go_region_held3 (fun w' => w'.cell? ⟨w4.heap.size, 0, none⟩ = some (.string x.vTag) ∧ w'.cell? ⟨w4.heap.size, 1, none⟩ = some (.string x.vText) ∧ w'.cell? ⟨w4.heap.size, 2, none⟩ = some (.slice b2 x.vAttrs.length e2) ∧ w'.cell? ⟨w4.heap.size, 3, none⟩ = some (.slice b3 x.vKids.length e3) ∧ w'.cell? ⟨w.heap.size, 0, none⟩ = some (.string x.vTag) ∧ w'.cell? ⟨w.heap.size, 1, none⟩ = some (.string x.vText) ∧ w'.cell? ⟨w.heap.size, 2, none⟩ = some (.slice a2 x.vAttrs.length d2) ∧ w'.cell? ⟨w.heap.size, 3, none⟩ = some (.slice a3 x.vKids.length d3)) (go_keep)
    (first | (go_at_call 12; refine ((toMark_all n).1 _ 0 _ x (by exact MarkAt.below hx0.out hB6.drew) hsm.out).mono ?_; rintro e w7 ⟨⟨cs7, rfl, ht7⟩, hb7⟩; have hb7' := undrew hb7; have x7 : Hid (Box w7 w4.heap.size _ _) := Box.below x6.out hb7' h46; have g7 : Hid (Box w7 w.heap.size _ _) := Box.below g6.out hb7' hw6; have k0 := x7.out.cell 0 rfl; have k1 := x7.out.cell 1 rfl; have k2 := x7.out.cell 2 rfl; have k3 := x7.out.cell 3 rfl; have j0 := g7.out.cell 0 rfl; have j1 := g7.out.cell 1 rfl; have j2 := g7.out.cell 2 rfl; have j3 := g7.out.cell 3 rfl; have hB7 : Hid (Below w.heap.size w w7) := hB6.trans (hb7'.mono hB6.size); have ht7a : Hid (MarkAt n w7 w3.heap.size _ x) := MarkAt.below ht6.out hb7'; have ht7b : Hid (MarkAt n w7 _ cs7 x) := ht7; clear ht7 hb7) | (go_at_call 14; refine ((eqMark_all n).1 _ _ _ _ _ x (by exact ht7a.out) (by exact ht7b.out)).mono ?_; rintro e w8 ⟨rfl, hb8⟩; have x8 : Hid (Box w8 w4.heap.size _ _) := Box.below x7.out hb8 x7.out.lt; have g8 : Hid (Box w8 w.heap.size _ _) := Box.below g7.out hb8 g7.out.lt; have l0 := x8.out.cell 0 rfl; have l1 := x8.out.cell 1 rfl; have l2 := x8.out.cell 2 rfl; have l3 := x8.out.cell 3 rfl; have m0 := g8.out.cell 0 rfl; have m1 := g8.out.cell 1 rfl; have m2 := g8.out.cell 2 rfl; have m3 := g8.out.cell 3 rfl; have hB8 : Hid (Below w.heap.size w w8) := hB7.out.trans (hb8.mono hB7.out.size)))
  go_wp2_with fail
  go_ret
  exact ⟨rfl, hB8.out⟩
theorem contract (H : Type) (enc : TypeId × Value → H) (W : World) (base : Nat) (args : Array Value) (ds gs : List (DataW H)) (before : List MemPlace)
    (hval0 : ∀ (j : Nat) t v, Tryd.f5.params[j]? = some t → args[j]? = some v → Value.okWide Tryd.prog W .any base t v)
    (hW : DataW.Whole enc Tryd.prog Tryd.f5.params.toList Rows.fnExactMarkTextSpec.vars false W args.toList ds gs before) (hL : laidMetH Tryd.prog Rows.fnExactMarkTextRow.laid W) :
    Calls Tryd.prog 5 args W fun e W' => ∃ v, e = .returned v ∧ Rows.fnExactMarkTextSpec.post enc Tryd.prog Tryd.f5 false true false false W args v W' := by
  have hval : ∀ (j : Nat) t v, Tryd.f5.params[j]? = some t → args[j]? = some v → Value.okWide Tryd.prog W .any base t v := hval0
  have hsg : Signs W := signs_of hL
  have hW' := hW
  obtain ⟨p, q, hA0, hV, rfl, hfz, hnd⟩ := hW
  have hA : DataW.TrodAll enc Tryd.prog W 0 (fun _ => true) true Tryd.f5.params.toList args.toList ds p := hA0
  rw [Tryd.params5] at hA hval
  obtain ⟨v0, vs0, d0, ds0, p0, q0, hargs, rfl, rfl, h0, r0⟩ := trodAll_cons hA
  obtain ⟨rfl, rfl, rfl⟩ := trodAll_nil r0
  obtain rfl : args = #[v0] := by cases args; simp_all
  have hV' := hV
  obtain ⟨_, _, _, _, g1, _, rfl, _⟩ := trodVars_one hV
  have k0 := h0
  have lt0 : ∀ x ∈ p0, x.block < W.heap.size := by obtain ⟨m, hm⟩ := k0; exact DataW.trod_lt m _ _ _ hm
  obtain ⟨cs, rfl, _⟩ := okWide_struct Tryd.underlying29 (hval 0 29 v0 rfl rfl)
  obtain ⟨fuel, hf⟩ := h0
  obtain ⟨x, hx⟩ := MarkAt_of_trod fuel _ _ hf
  clear hA0 hval0
  refine (walk (cs := cs.toList) (by simpa [Value.cells] using hx) hsg).mono fun e W' ⟨he, bel⟩ => ?_
  subst he
  exact ⟨_, rfl, _, _, _, [], _, _, hW', trodAll_mk1 (shut_bool Tryd.underlying4 _), (trodAll_cons_mk (Below.trod d_laidOut (by kernel_rfl) (of_decide_eq_true (by kernel_rfl)) k0 bel lt0) trodAll_mk0), Below.trodVars d_laidOut bel (by kernel_rfl) hV', bel.frame _, fun h => by cases h⟩
theorem laid_met (os : Os) : laidMet Tryd.prog Rows.fnExactMarkTextRow.laid (({ World.holding Tryd.prog os ⟨#[], #[], []⟩ with heap := (World.holding Tryd.prog os ⟨#[], #[], []⟩).heap.modify 0 fun | .cells _ t frozen => .cells #[.int .u8 38, .string ampS, .int .u8 60, .string ltG, .int .u8 62, .string gtS, .int .u8 34, .string quotS] t frozen | o => o } : World).forCall (fun _ _ => 0) ⟨#[], #[.agg #[.string ByteArray.empty, .string ByteArray.empty, .slice none 0 0, .slice none 0 0]], []⟩).memory :=
  laidMet_of_run' 8 (by kernel_rfl) (by kernel_rfl)
theorem reads (os : Os) {H : Type} (enc : TypeId × Value → H) : ∃ places, DataW.whole enc Tryd.prog (({ World.holding Tryd.prog os ⟨#[], #[], []⟩ with heap := (World.holding Tryd.prog os ⟨#[], #[], []⟩).heap.modify 0 fun | .cells _ t frozen => .cells #[.int .u8 38, .string ampS, .int .u8 60, .string ltG, .int .u8 62, .string gtS, .int .u8 34, .string quotS] t frozen | o => o } : World).forCall (fun _ _ => 0) ⟨#[], #[.agg #[.string ByteArray.empty, .string ByteArray.empty, .slice none 0 0, .slice none 0 0]], []⟩).memory Tryd.f5.params.toList Rows.fnExactMarkTextSpec.vars false #[Value.agg #[.string ByteArray.empty, .string ByteArray.empty, .slice none 0 0, .slice none 0 0]].toList 8 = some ([.agg [.lit (.string []), .lit (.string []), .nil, .nil]], [Rows.laid_loop_example_g00376_impl_signs], places) :=
  ⟨MemPlace.row ⟨0, 0, none⟩ 8, by kernel_rfl⟩
set_option maxRecDepth 100000 in
theorem lifted (os : Os) (started : os.Started) (H : Type) (enc : TypeId × Value → H) (F : Stop.Interp) :
    ReturnsInHanded {} Tryd.checked os 5 .any ((OpenSpec.ofChange Rows.fnExactMarkTextSpec).preRow enc Tryd.prog Tryd.f5 Rows.fnExactMarkTextRow.domain false Rows.fnExactMarkTextRow.laid) (((OpenSpec.ofChange Rows.fnExactMarkTextSpec).at F).post enc Tryd.prog Tryd.f5 false true false false) := by
  obtain ⟨places, hx⟩ := reads os enc
  refine returnsInHanded_of_row (C := Tryd.checked) (s := OpenSpec.ofChange Rows.fnExactMarkTextSpec) d_own started (by kernel_rfl) Tryd.func5
    (witness_row_at (enc := enc) (C := Tryd.checked) false ({ World.holding Tryd.prog os ⟨#[], #[], []⟩ with heap := (World.holding Tryd.prog os ⟨#[], #[], []⟩).heap.modify 0 fun | .cells _ t frozen => .cells #[.int .u8 38, .string ampS, .int .u8 60, .string ltG, .int .u8 62, .string gtS, .int .u8 34, .string quotS] t frozen | o => o } : World) #[.agg #[.string ByteArray.empty, .string ByteArray.empty, .slice none 0 0, .slice none 0 0]] rfl (by kernel_rfl) (by kernel_rfl) (by kernel_rfl)
      (OpenSpec.preRow_of_cond 8 hx (by kernel_rfl) (fun k hk => by cases hk) (by kernel_rfl) (laid_met os))) ?_
  intro W base args ds gs before hval hW _ _ _ hL _ _
  exact contract H enc W base args ds gs before hval hW hL
theorem said : Rows.FnExactMarkTextSaid :=
  OpenClaim.holds_of_cond 5 Tryd.f5 rfl rfl rfl rfl rfl rfl rfl ⟨rfl, rfl, rfl, rfl, rfl⟩ rfl rfl rfl rfl rfl (by kernel_rfl) Tryd.func5 (by kernel_rfl)
    (of_decide_eq_true (by kernel_rfl)) (by unfold Func.isWrapper; first | (rw [if_pos (by decide +kernel)]; kernel_rfl) | (rw [if_neg (by decide +kernel)]; exact ⟨rfl, rfl⟩))
    (fun os started H enc _ F => by rw [OpenClaim.pre_eq_preRow]; exact lifted os started H enc F)
theorem plain (f : FuncId) (fn : Func) (hf : Tryd.pinned.checked.prog.funcNamed "loop.example/g00376/laws.FnExactMarkText" = some f) (hfn : Tryd.pinned.checked.prog.funcs[f]? = some fn) :
    false = Tryd.pinned.checked.prog.looks [] ∧ ∀ (j : Nat) t, fn.params[j]? = some t → Tryd.pinned.checked.prog.wantsStandIn t = false := by
  obtain rfl : f = 5 := Option.some.inj ((show Tryd.prog.funcNamed "loop.example/g00376/laws.FnExactMarkText" = some 5 by kernel_rfl).symm.trans hf) |>.symm
  obtain rfl : fn = Tryd.f5 := (Option.some.inj (Tryd.func5.symm.trans hfn)).symm
  refine ⟨by kernel_rfl, fun j t ht => ?_⟩
  rw [Tryd.params5] at ht
  obtain rfl : t = 29 := by simpa using Array.mem_of_getElem? ht
  exact (show Tryd.prog.wantsStandIn 29 = false by kernel_rfl)
theorem over : Rows.FnExactMarkTextCardSaid :=
  Claim7.holds_tied_plain_at .later [] _ _ _ _ said (fun _ h => by cases h) (by kernel_rfl) (fun _ h => by cases h) fnExactMarkText_row_tie rfl ⟨rfl, rfl⟩ (by kernel_rfl) rfl plain (by kernel_rfl)

end Go.Proofs.YthcecgdhpondfaaDoor.fnExactMarkText
namespace Go.Proofs.YthcecgdhpondfaaDoor
theorem fnExactMarkText_holds : Rows.FnExactMarkTextCardSaid := fnExactMarkText.over
end Go.Proofs.YthcecgdhpondfaaDoor
