/- For every instruction, InstrOk of the program answers as that of the specification, where the table of forms starts as the program's text lays it. -/
import Derived.Test.YtopjkiifajlkhaaDoorInSz
import Derived.Test.YtopjkiifajlkhaaDoorInTo
import Derived.Test.YtopjkiifajlkhaaDoorInEq
import Derived.Test.YtopjkiifajlkhaaDoorVmInstr
import Derived.ProofKit
import Derived.OpenShut
import Derived.ShutString
import Derived.ChangeOld
import Derived.Below
import Derived.Laws.Cover1
import Derived.Test.YtopjkiifajlkhaaDoorDoorTab
namespace Go.Proofs.YtopjkiifajlkhaaDoor.fnExactInstrOk
open Go.ChangeShapes Go.WideShapes Go.ChangeAt Go.RowKit
set_option maxHeartbeats 1000000 in
theorem walk {w : World} {cs : List Value} {x : InstrD} (hx : InstrAt w 0 cs x) (hsg : Forms w) :
    Calls Tryd.prog 3 #[.agg cs.toArray] w fun e w' => e = .returned (.bool true) ∧ Below w.heap.size w w' := by
  have hx0 : Hid (InstrAt w 0 cs x) := hx
  obtain ⟨rfl, _⟩ := hx
  have hsg' : Hid (Forms w) := hsg
  clear hsg
  have hb0 : Below w.heap.size w (w.alloc (.cells #[.int .i64 x.vKind, .int .i64 x.vN, .string x.vName] 23)) := (Below.refl _ _).alloc (Nat.le_refl _) _
  have g0 : Hid (Box (w.alloc (.cells #[.int .i64 x.vKind, .int .i64 x.vN, .string x.vName] 23)) w.heap.size [.int .i64 x.vKind, .int .i64 x.vN, .string x.vName] 23) := Box.new w _ _
  have hat : Hid (∀ w', Below w.heap.size w w' → InstrAt w' 0 [.int .i64 x.vKind, .int .i64 x.vN, .string x.vName] x) := fun w' h => InstrAt_stays _ _ 0 0 _ _ (.of_below h) hx0.out
  go_enter Tryd.func3, Tryd.ntmps3
  go_wp2_with fail
  refine (szInstr_any (hat.out _ hb0) (by omega) (by omega)).mono ?_
  rintro e w1 ⟨⟨r, rfl, hr1, hr2, hsm⟩, hb1⟩
  have hsm' : Hid (r < 0 ∨ InstrD.small x) := hsm
  clear hsm
  have hB1 : Below w.heap.size w w1 := hb0.trans (hb1.mono hb0.size)
  have g1 : Hid (Box w1 w.heap.size [.int .i64 x.vKind, .int .i64 x.vN, .string x.vName] 23) := g0.out.below hb1 g0.out.lt
  clear hb1 g0
  by_cases hneg : r < 0
  · go_wp2_with fail
    go_ret
    exact ⟨rfl, hB1⟩
  have c0 := g1.out.cell 0 rfl
  have c1 := g1.out.cell 1 rfl
  have c2 := g1.out.cell 2 rfl
  go_wp2_with fail
  refine (toInstr_any (hat.out _ hB1)).mono ?_
  rintro e w2 ⟨⟨cs2, rfl, ht2⟩, hb2⟩
  have hB2 : Below w.heap.size w w2 := hB1.trans (hb2.mono hB1.size)
  have g2 : Hid (Box w2 w.heap.size [.int .i64 x.vKind, .int .i64 x.vN, .string x.vName] 23) := g1.out.below hb2 g1.out.lt
  have ht2' : Hid (InstrAt w2 w1.heap.size cs2 x) := ht2
  clear hb2 ht2 g1 c0 c1 c2
  go_wp2_with fail
  refine (specInstrOk_any ht2'.out).mono ?_
  rintro e w3 ⟨rfl, hb3⟩
  have hB3 : Below w.heap.size w w3 := hB2.trans (hb3.mono hB2.size)
  have g3 : Hid (Box w3 w.heap.size [.int .i64 x.vKind, .int .i64 x.vN, .string x.vName] 23) := g2.out.below hb3 g2.out.lt
  clear hb3 g2 ht2'
  generalize hRES : instrB x = res
  have HRES : Hid (instrB x = res) := hRES
  clear hRES
  have c0 := g3.out.cell 0 rfl
  have c1 := g3.out.cell 1 rfl
  have c2 := g3.out.cell 2 rfl
  go_wp2_with fail
  refine (toInstr_any (hat.out _ hB3)).mono ?_
  rintro e w4 ⟨⟨cs4, rfl, ht4⟩, hb4⟩
  have hB4 : Below w.heap.size w w4 := hB3.trans (hb4.mono hB3.size)
  have ht4' : Hid (InstrAt w4 w3.heap.size cs4 x) := ht4
  clear hb4 ht4 g3 c0 c1 c2
  go_wp2_with fail
  refine (implInstrOk_any ht4'.out (Forms.below hsg'.out hB4 (Forms.lt hsg'.out))).mono ?_
  rintro e w5 ⟨rfl, hb5⟩
  rw [HRES.out]
  have hB5 : Below w.heap.size w w5 := hB4.trans (hb5.mono hB4.size)
  go_wp2_with fail
  go_ret
  exact ⟨rfl, hB5⟩

set_option maxRecDepth 100000 in
theorem contract (H : Type) (enc : TypeId × Value → H) (W : World) (base : Nat) (args : Array Value) (ds gs : List (DataW H)) (before : List MemPlace)
    (hval0 : ∀ (j : Nat) t v, Tryd.f3.params[j]? = some t → args[j]? = some v → Value.okWide Tryd.prog W .any base t v)
    (hW : DataW.Whole enc Tryd.prog Tryd.f3.params.toList Rows.fnExactInstrOkSpec.vars false W args.toList ds gs before) (hL : laidMetH Tryd.prog Rows.fnExactInstrOkRow.laid W) :
    Calls Tryd.prog 3 args W fun e W' => ∃ v, e = .returned v ∧ Rows.fnExactInstrOkSpec.post enc Tryd.prog Tryd.f3 false true false false W args v W' := by
  have hval : ∀ (j : Nat) t v, Tryd.f3.params[j]? = some t → args[j]? = some v → Value.okWide Tryd.prog W .any base t v := hval0
  have hsg : Forms W := forms_of hL
  have hW' := hW
  obtain ⟨p, q, hA0, hV, rfl, hfz, hnd⟩ := hW
  have hA : DataW.TrodAll enc Tryd.prog W 0 (fun _ => true) true Tryd.f3.params.toList args.toList ds p := hA0
  rw [Tryd.params3] at hA hval
  obtain ⟨v0, vs0, d0, ds0, p0, q0, hargs, rfl, rfl, h0, r0⟩ := trodAll_cons hA
  obtain ⟨rfl, rfl, rfl⟩ := trodAll_nil r0
  obtain rfl : args = #[v0] := by cases args; simp_all
  have hV' := hV
  obtain ⟨_, _, _, _, g1, _, rfl, _⟩ := trodVars_one hV
  have k0 := h0
  have lt0 : ∀ x ∈ p0, x.block < W.heap.size := by obtain ⟨m, hm⟩ := k0; exact DataW.trod_lt m _ _ _ hm
  obtain ⟨cs, rfl, _⟩ := okWide_struct Tryd.underlying23 (hval 0 23 v0 rfl rfl)
  obtain ⟨fuel, hf⟩ := h0
  obtain ⟨x, hx⟩ := InstrAt_of_trod fuel _ _ hf
  clear hA0 hval0
  refine (walk (cs := cs.toList) (by simpa [Value.cells] using hx) hsg).mono fun e W' ⟨he, bel⟩ => ?_
  subst he
  exact ⟨_, rfl, _, _, _, [], _, _, hW', trodAll_mk1 (shut_bool Tryd.underlying4 _), (trodAll_cons_mk (Below.trod d_laidOut (by kernel_rfl) (of_decide_eq_true (by kernel_rfl)) k0 bel lt0) trodAll_mk0), Below.trodVars d_laidOut bel (by kernel_rfl) hV', bel.frame _, fun h => by cases h⟩
theorem laid_met (os : Os) : laidMet Tryd.prog Rows.fnExactInstrOkRow.laid (({ World.holding Tryd.prog os ⟨#[], #[], []⟩ with heap := (World.holding Tryd.prog os ⟨#[], #[], []⟩).heap.modify 0 fun | .cells _ t frozen => .cells tabL.toArray t frozen | o => o } : World).forCall (fun _ _ => 0) ⟨#[], #[Value.agg #[.int .i64 0, .int .i64 0, .string ByteArray.empty]], []⟩).memory :=
  laidMet_of_run' 80 (by kernel_rfl) (by kernel_rfl)
theorem reads (os : Os) {H : Type} (enc : TypeId × Value → H) : ∃ places, DataW.whole enc Tryd.prog (({ World.holding Tryd.prog os ⟨#[], #[], []⟩ with heap := (World.holding Tryd.prog os ⟨#[], #[], []⟩).heap.modify 0 fun | .cells _ t frozen => .cells tabL.toArray t frozen | o => o } : World).forCall (fun _ _ => 0) ⟨#[], #[Value.agg #[.int .i64 0, .int .i64 0, .string ByteArray.empty]], []⟩).memory Tryd.f3.params.toList Rows.fnExactInstrOkSpec.vars false #[Value.agg #[.int .i64 0, .int .i64 0, .string ByteArray.empty]].toList 80 = some ([.agg [.lit (.int .i64 0), .lit (.int .i64 0), .lit (.string [])]], [Rows.laid_loop_example_g00376_impl_forms], places) :=
  ⟨MemPlace.row ⟨0, 0, none⟩ 75, by kernel_rfl⟩
set_option maxRecDepth 100000 in
theorem lifted (os : Os) (started : os.Started) (H : Type) (enc : TypeId × Value → H) (F : Stop.Interp) :
    ReturnsInHanded {} Tryd.checked os 3 .any ((OpenSpec.ofChange Rows.fnExactInstrOkSpec).preRow enc Tryd.prog Tryd.f3 Rows.fnExactInstrOkRow.domain false Rows.fnExactInstrOkRow.laid) (((OpenSpec.ofChange Rows.fnExactInstrOkSpec).at F).post enc Tryd.prog Tryd.f3 false true false false) := by
  obtain ⟨places, hx⟩ := reads os enc
  refine returnsInHanded_of_row (C := Tryd.checked) (s := OpenSpec.ofChange Rows.fnExactInstrOkSpec) d_own started (by kernel_rfl) Tryd.func3
    (witness_row_at (enc := enc) (C := Tryd.checked) false ({ World.holding Tryd.prog os ⟨#[], #[], []⟩ with heap := (World.holding Tryd.prog os ⟨#[], #[], []⟩).heap.modify 0 fun | .cells _ t frozen => .cells tabL.toArray t frozen | o => o } : World) #[Value.agg #[.int .i64 0, .int .i64 0, .string ByteArray.empty]] rfl (by kernel_rfl) (by kernel_rfl) (by kernel_rfl)
      (OpenSpec.preRow_of_cond 80 hx (by kernel_rfl) (fun k hk => by cases hk) (by kernel_rfl) (laid_met os))) ?_
  intro W base args ds gs before hval hW _ _ _ hL _ _
  exact contract H enc W base args ds gs before hval hW hL
theorem said : Rows.FnExactInstrOkSaid :=
  OpenClaim.holds_of_cond 3 Tryd.f3 rfl rfl rfl rfl rfl rfl rfl ⟨rfl, rfl, rfl, rfl, rfl⟩ rfl rfl rfl rfl rfl (by kernel_rfl) Tryd.func3 (by kernel_rfl)
    (of_decide_eq_true (by kernel_rfl)) (by unfold Func.isWrapper; first | (rw [if_pos (by decide +kernel)]; kernel_rfl) | (rw [if_neg (by decide +kernel)]; exact ⟨rfl, rfl⟩))
    (fun os started H enc _ F => by rw [OpenClaim.pre_eq_preRow]; exact lifted os started H enc F)
theorem plain (f : FuncId) (fn : Func) (hf : Tryd.pinned.checked.prog.funcNamed "loop.example/g00376/laws.FnExactInstrOk" = some f) (hfn : Tryd.pinned.checked.prog.funcs[f]? = some fn) :
    false = Tryd.pinned.checked.prog.looks [] ∧ ∀ (j : Nat) t, fn.params[j]? = some t → Tryd.pinned.checked.prog.wantsStandIn t = false := by
  obtain rfl : f = 3 := Option.some.inj ((show Tryd.prog.funcNamed "loop.example/g00376/laws.FnExactInstrOk" = some 3 by kernel_rfl).symm.trans hf) |>.symm
  obtain rfl : fn = Tryd.f3 := (Option.some.inj (Tryd.func3.symm.trans hfn)).symm
  refine ⟨by kernel_rfl, fun j t ht => ?_⟩
  rw [Tryd.params3] at ht
  obtain rfl : t = 23 := by simpa using Array.mem_of_getElem? ht
  exact (show Tryd.prog.wantsStandIn 23 = false by kernel_rfl)
theorem over : Rows.FnExactInstrOkCardSaid :=
  Claim7.holds_tied_plain_at .later [] _ _ _ _ said (fun _ h => by cases h) (by kernel_rfl) (fun _ h => by cases h) fnExactInstrOk_row_tie rfl ⟨rfl, rfl⟩ (by kernel_rfl) rfl plain (by kernel_rfl)

end Go.Proofs.YtopjkiifajlkhaaDoor.fnExactInstrOk
namespace Go.Proofs.YtopjkiifajlkhaaDoor
theorem fnExactInstrOk_holds : Rows.FnExactInstrOkCardSaid := fnExactInstrOk.over
end Go.Proofs.YtopjkiifajlkhaaDoor
