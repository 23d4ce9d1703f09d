/- For every program, ProgText of the program text answers as that of the specification and writes into no argument, where the tables start as the program's text lays them. -/
import Derived.Test.YtdapgihghbmlfaaDoorInSz
import Derived.Test.YtdapgihghbmlfaaDoorInTo
import Derived.Test.YtdapgihghbmlfaaDoorInEq
import Derived.Test.YtdapgihghbmlfaaDoorVmTextI
import Derived.Test.YtdapgihghbmlfaaDoorVmTextS
import Derived.Test.YtdapgihghbmlfaaDoorDoorTabs
import Derived.ProofKit
import Derived.OpenShut
import Derived.ShutString
import Derived.ChangeOld
import Derived.Below
import Derived.Laws.Cover1
import Derived.Test.YtdapgihghbmlfaaDoorDoorTab
namespace Go.Proofs.YtdapgihghbmlfaaDoor.fnExactProgText
open Go.ChangeShapes Go.WideShapes Go.ChangeAt Go.RowKit
set_option maxHeartbeats 1000000 in
theorem walk {w : World} {k : Value} {l : List InstrD} (hx : SeqAt 3 InstrAt w 0 k l) (hsg : Tabs w) :
    Calls Tryd.prog 3 #[k] w fun e w' => e = .returned (.bool true) ∧ Below w.heap.size w w' := by
  have hx0 : Hid (SeqAt 3 InstrAt w 0 k l) := hx
  obtain ⟨a, cap, rfl⟩ := hx.form
  have hsg' : Hid (Tabs w) := hsg
  clear hx hsg
  go_enter Tryd.func3, Tryd.ntmps3
  go_wp2_with fail
  refine (szInstrS_any hx0.out (by omega) (by omega)).mono ?_
  rintro e w1 ⟨⟨r, rfl, hr1, hr2, hsm⟩, hB1⟩
  have hsm' : Hid (r < 0 ∨ AllS InstrD.small l) := hsm
  clear hsm
  by_cases hneg : r < 0
  · go_wp2_with fail
    go_ret
    exact ⟨rfl, hB1⟩
  have hsm : Hid (AllS InstrD.small l) := hsm'.out.resolve_left hneg
  clear hsm'
  go_wp2_with fail
  refine (toInstrS_any (hx0.out.below InstrAt_stays hB1) hsm.out).mono ?_
  rintro e w2 ⟨⟨k2, rfl, ht2⟩, hb2⟩
  have hB2 : Below w.heap.size w w2 := hB1.trans (hb2.mono hB1.size)
  have ht2' : Hid (SeqAt 3 InstrAt w2 w1.heap.size k2 l) := ht2
  clear hb2 ht2
  go_wp2_with fail
  refine (specProgText_any ht2'.out).mono ?_
  rintro e w3 ⟨⟨res, ys, rfl, hans⟩, hb3⟩
  have hans' : Hid (Ans l res ys) := hans
  clear hans
  have hB3 : Below w.heap.size w w3 := hB2.trans (hb3.mono hB2.size)
  clear hb3 ht2'
  go_wp2_with fail
  refine (toInstrS_any (hx0.out.below InstrAt_stays hB3) hsm.out).mono ?_
  rintro e w4 ⟨⟨k4, rfl, ht4⟩, hb4⟩
  have hB4 : Below w.heap.size w w4 := hB3.trans (hb4.mono hB3.size)
  have ht4' : Hid (SeqAt 3 InstrAt w4 w3.heap.size k4 l) := ht4
  clear hb4 ht4
  go_wp2_with fail
  refine (implProgText_any ht4'.out (hsg'.out.below hB4 (Nat.le_refl _)).1 (hsg'.out.below hB4 (Nat.le_refl _)).2).mono ?_
  rintro e w5 ⟨⟨res', ys', rfl, hans2⟩, hb5⟩
  obtain ⟨rfl, _⟩ := ans_same hans'.out hans2
  clear hans2
  have hB5 : Below w.heap.size w w5 := hB4.trans (hb5.mono hB4.size)
  have ht5 : Hid (SeqAt 3 InstrAt w5 w3.heap.size k4 l) := ht4'.out.below InstrAt_stays hb5
  clear hb5 ht4'
  go_wp2_with fail
  refine (toInstrS_any (hx0.out.below InstrAt_stays hB5) hsm.out).mono ?_
  rintro e w6 ⟨⟨k6, rfl, ht6⟩, hb6⟩
  have hB6 : Below w.heap.size w w6 := hB5.trans (hb6.mono hB5.size)
  have ht6' : Hid (SeqAt 3 InstrAt w6 w5.heap.size k6 l) := ht6
  have ht5' : Hid (SeqAt 3 InstrAt w6 w3.heap.size k4 l) := ht5.out.below InstrAt_stays hb6
  clear hb6 ht6 ht5
  go_wp2_with fail
  refine (eqInstrS_any ht5'.out ht6'.out).mono ?_
  rintro e w7 ⟨rfl, hb7⟩
  have hB7 : Below w.heap.size w w7 := hB6.trans (hb7.mono hB6.size)
  go_wp2_with fail
  go_ret
  exact ⟨rfl, hB7⟩

set_option maxRecDepth 100000 in
theorem contract (H : Type) (enc : TypeId × Value → H) (W : World) (base : Nat) (args : Array Value) (ds gs : List (DataW H)) (before : List MemPlace)
    (hval0 : ∀ (j : Nat) t v, Tryd.f3.params[j]? = some t → args[j]? = some v → Value.okWide Tryd.prog W .any base t v)
    (hW : DataW.Whole enc Tryd.prog Tryd.f3.params.toList Rows.fnExactProgTextSpec.vars false W args.toList ds gs before) (hL : laidMetH Tryd.prog Rows.fnExactProgTextRow.laid W) :
    Calls Tryd.prog 3 args W fun e W' => ∃ v, e = .returned v ∧ Rows.fnExactProgTextSpec.post enc Tryd.prog Tryd.f3 false true false false W args v W' := by
  have hval : ∀ (j : Nat) t v, Tryd.f3.params[j]? = some t → args[j]? = some v → Value.okWide Tryd.prog W .any base t v := hval0
  have hsg : Tabs W := tabs_of hL
  have hW' := hW
  obtain ⟨p, q, hA0, hV, rfl, hfz, hnd⟩ := hW
  have hA : DataW.TrodAll enc Tryd.prog W 0 (fun _ => true) true Tryd.f3.params.toList args.toList ds p := hA0
  rw [Tryd.params3] at hA hval
  obtain ⟨v0, vs0, d0, ds0, p0, q0, hargs, rfl, rfl, h0, r0⟩ := trodAll_cons hA
  obtain ⟨rfl, rfl, rfl⟩ := trodAll_nil r0
  obtain rfl : args = #[v0] := by cases args; simp_all
  have hV' := hV
  obtain ⟨_, _, _, _, g1, _, rfl, _⟩ := trodVars_one hV
  have k0 := h0
  have lt0 : ∀ x ∈ p0, x.block < W.heap.size := by obtain ⟨m, hm⟩ := k0; exact DataW.trod_lt m _ _ _ hm
  obtain ⟨fuel, hf⟩ := h0
  obtain ⟨k, l, hk, hx⟩ := seqAt_of_trod (R := InstrAt) Tryd.underlying22 (show Tryd.prog.cellsOf 35 = 3 from by kernel_rfl) (by decide) InstrAt_of_trod hf
  obtain ⟨l1, n1, q1, rfl⟩ := okWide_slice Tryd.underlying22 (hval 0 22 v0 rfl rfl)
  injection hk with hk _
  subst hk
  clear hA0 hval0
  refine (walk hx hsg).mono fun e W' ⟨he, bel⟩ => ?_
  subst he
  exact ⟨_, rfl, _, _, _, [], _, _, hW', trodAll_mk1 (shut_bool Tryd.underlying4 _), (trodAll_cons_mk (Below.trod d_laidOut (by kernel_rfl) (of_decide_eq_true (by kernel_rfl)) k0 bel lt0) trodAll_mk0), Below.trodVars d_laidOut bel (by kernel_rfl) hV', bel.frame _, fun h => by cases h⟩
theorem laid_met (os : Os) : laidMet Tryd.prog Rows.fnExactProgTextRow.laid (({ World.holding Tryd.prog os ⟨#[], #[], []⟩ with heap := (((((World.holding Tryd.prog os ⟨#[], #[], []⟩).heap.modify 0 fun | .cells _ t frozen => .cells (tabL.toArray) t frozen | o => o).modify 1 fun | .cells _ t frozen => .cells ((Lib.pow10Tab.map fun z => Value.int .u64 z).toArray) t frozen | o => o).modify 3 fun | .cells _ t frozen => .cells ((db32L.map fun z => Value.int .u8 z).toArray) t frozen | o => o).modify 4 fun | .cells _ t frozen => .cells ((db64L.map fun z => Value.int .u8 z).toArray) t frozen | o => o) } : World).forCall (fun _ _ => 0) ⟨#[], #[Value.slice none 0 0], []⟩).memory :=
  laidMet_of_run' 80 (by kernel_rfl) (by kernel_rfl)
theorem reads (os : Os) {H : Type} (enc : TypeId × Value → H) : ∃ places, DataW.whole enc Tryd.prog (({ World.holding Tryd.prog os ⟨#[], #[], []⟩ with heap := (((((World.holding Tryd.prog os ⟨#[], #[], []⟩).heap.modify 0 fun | .cells _ t frozen => .cells (tabL.toArray) t frozen | o => o).modify 1 fun | .cells _ t frozen => .cells ((Lib.pow10Tab.map fun z => Value.int .u64 z).toArray) t frozen | o => o).modify 3 fun | .cells _ t frozen => .cells ((db32L.map fun z => Value.int .u8 z).toArray) t frozen | o => o).modify 4 fun | .cells _ t frozen => .cells ((db64L.map fun z => Value.int .u8 z).toArray) t frozen | o => o) } : World).forCall (fun _ _ => 0) ⟨#[], #[Value.slice none 0 0], []⟩).memory Tryd.f3.params.toList Rows.fnExactProgTextSpec.vars false #[Value.slice none 0 0].toList 80 = some ([.nil], [Rows.laid_loop_example_g00376_impl_forms], places) :=
  ⟨MemPlace.row ⟨0, 0, none⟩ 75, by kernel_rfl⟩
set_option maxRecDepth 100000 in
theorem lifted (os : Os) (started : os.Started) (H : Type) (enc : TypeId × Value → H) (F : Stop.Interp) :
    ReturnsInHanded {} Tryd.checked os 3 .any ((OpenSpec.ofChange Rows.fnExactProgTextSpec).preRow enc Tryd.prog Tryd.f3 Rows.fnExactProgTextRow.domain false Rows.fnExactProgTextRow.laid) (((OpenSpec.ofChange Rows.fnExactProgTextSpec).at F).post enc Tryd.prog Tryd.f3 false true false false) := by
  obtain ⟨places, hx⟩ := reads os enc
  refine returnsInHanded_of_row (C := Tryd.checked) (s := OpenSpec.ofChange Rows.fnExactProgTextSpec) d_own started (by kernel_rfl) Tryd.func3
    (witness_row_at (enc := enc) (C := Tryd.checked) false ({ World.holding Tryd.prog os ⟨#[], #[], []⟩ with heap := (((((World.holding Tryd.prog os ⟨#[], #[], []⟩).heap.modify 0 fun | .cells _ t frozen => .cells (tabL.toArray) t frozen | o => o).modify 1 fun | .cells _ t frozen => .cells ((Lib.pow10Tab.map fun z => Value.int .u64 z).toArray) t frozen | o => o).modify 3 fun | .cells _ t frozen => .cells ((db32L.map fun z => Value.int .u8 z).toArray) t frozen | o => o).modify 4 fun | .cells _ t frozen => .cells ((db64L.map fun z => Value.int .u8 z).toArray) t frozen | o => o) } : World) #[Value.slice none 0 0] rfl (by kernel_rfl) (by kernel_rfl) (by kernel_rfl)
      (OpenSpec.preRow_of_cond 80 hx (by kernel_rfl) (fun k hk => by cases hk) (by kernel_rfl) (laid_met os))) ?_
  intro W base args ds gs before hval hW _ _ _ hL _ _
  exact contract H enc W base args ds gs before hval hW hL
theorem said : Rows.FnExactProgTextSaid :=
  OpenClaim.holds_of_cond 3 Tryd.f3 rfl rfl rfl rfl rfl rfl rfl ⟨rfl, rfl, rfl, rfl, rfl⟩ rfl rfl rfl rfl rfl (by kernel_rfl) Tryd.func3 (by kernel_rfl)
    (of_decide_eq_true (by kernel_rfl)) (by unfold Func.isWrapper; first | (rw [if_pos (by decide +kernel)]; kernel_rfl) | (rw [if_neg (by decide +kernel)]; exact ⟨rfl, rfl⟩))
    (fun os started H enc _ F => by rw [OpenClaim.pre_eq_preRow]; exact lifted os started H enc F)
theorem plain (f : FuncId) (fn : Func) (hf : Tryd.pinned.checked.prog.funcNamed "loop.example/g00376/laws.FnExactProgText" = some f) (hfn : Tryd.pinned.checked.prog.funcs[f]? = some fn) :
    true = Tryd.pinned.checked.prog.looks [] ∧ ∀ (j : Nat) t, fn.params[j]? = some t → Tryd.pinned.checked.prog.wantsStandIn t = false := by
  obtain rfl : f = 3 := Option.some.inj ((show Tryd.prog.funcNamed "loop.example/g00376/laws.FnExactProgText" = some 3 by kernel_rfl).symm.trans hf) |>.symm
  obtain rfl : fn = Tryd.f3 := (Option.some.inj (Tryd.func3.symm.trans hfn)).symm
  refine ⟨by kernel_rfl, fun j t ht => ?_⟩
  rw [Tryd.params3] at ht
  obtain rfl : t = 22 := by simpa using Array.mem_of_getElem? ht
  exact (show Tryd.prog.wantsStandIn 22 = false by kernel_rfl)
theorem over : Rows.FnExactProgTextCardSaid :=
  Claim7.holds_tied_plain_at .later [] _ _ _ _ said (fun _ h => by cases h) (by kernel_rfl) (fun _ h => by cases h) fnExactProgText_row_tie rfl ⟨rfl, rfl⟩ (by kernel_rfl) rfl plain (by kernel_rfl)

end Go.Proofs.YtdapgihghbmlfaaDoor.fnExactProgText
namespace Go.Proofs.YtdapgihghbmlfaaDoor
theorem fnExactProgText_holds : Rows.FnExactProgTextCardSaid := fnExactProgText.over
end Go.Proofs.YtdapgihghbmlfaaDoor
