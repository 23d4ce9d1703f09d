/- At every list of steps SelText answers as its specification and writes into no argument. No condition. -/
import Derived.Test.YtldecaccionigaaStSz
import Derived.Test.YtldecaccionigaaStTo
import Derived.Test.YtldecaccionigaaStEq
import Derived.Test.YtldecaccionigaaSelTextS
import Derived.ProofKit
import Derived.OpenShut
import Derived.ShutString
import Derived.ChangeOld
import Derived.Below
import Derived.Laws.Cover1
namespace Go.Proofs.Ytldecaccionigaa.fnExactSelText
open Go.ChangeShapes Go.WideShapes Go.ChangeAt Go.RowKit
theorem own : ownKnob Try.prog.godebug = none := by kernel_rfl
theorem laidOut : laidOutB Try.prog = true := by kernel_rfl
set_option maxHeartbeats 1000000 in
theorem walk {w : World} {k : Value} {l : List StepD} (hx : SeqAt 2 StepAt w 0 k l) :
    Calls Try.prog 4 #[k] w fun e w' => e = .returned (.bool true) ∧ Below w.heap.size w w' := by
  have hx0 : Hid (SeqAt 2 StepAt w 0 k l) := hx
  obtain ⟨a, cap, rfl⟩ := hx.form
  clear hx
  go_enter Try.func4, Try.ntmps4
  go_wp2_with fail
  refine (szStepS_any hx0.out (by omega) (by omega)).mono ?_
  rintro e w1 ⟨⟨r, rfl, hr1, hr2, hsm⟩, hB1⟩
  have hsm' : Hid (r < 0 ∨ AllS StepD.small l) := hsm
  clear hsm
  by_cases hneg : r < 0
  · go_wp2_with fail
    go_ret
    exact ⟨rfl, hB1⟩
  have hsm : Hid (AllS StepD.small l) := hsm'.out.resolve_left hneg
  clear hsm'
  go_wp2_with fail
  refine (toStepS_any (hx0.out.below StepAt_stays hB1) hsm.out).mono ?_
  rintro e w2 ⟨⟨k2, rfl, ht2⟩, hb2⟩
  have hB2 : Below w.heap.size w w2 := hB1.trans (hb2.mono hB1.size)
  have ht2' : Hid (SeqAt 2 StepAt w2 w1.heap.size k2 l) := ht2
  clear hb2 ht2
  go_wp2_with fail
  refine (specSelText_any ht2'.out).mono ?_
  rintro e w3 ⟨rfl, hb3⟩
  have hB3 : Below w.heap.size w w3 := hB2.trans (hb3.mono hB2.size)
  clear hb3 ht2'
  generalize hRES : selT l = res
  have HRES : Hid (selT l = res) := hRES
  clear hRES
  go_wp2_with fail
  refine (toStepS_any (hx0.out.below StepAt_stays hB3) hsm.out).mono ?_
  rintro e w4 ⟨⟨k4, rfl, ht4⟩, hb4⟩
  have hB4 : Below w.heap.size w w4 := hB3.trans (hb4.mono hB3.size)
  have ht4' : Hid (SeqAt 2 StepAt w4 w3.heap.size k4 l) := ht4
  clear hb4 ht4
  go_wp2_with fail
  refine (implSelText_any ht4'.out).mono ?_
  rintro e w5 ⟨rfl, hb5⟩
  rw [HRES.out]
  have hB5 : Below w.heap.size w w5 := hB4.trans (hb5.mono hB4.size)
  have ht5 : Hid (SeqAt 2 StepAt w5 w3.heap.size k4 l) := ht4'.out.below StepAt_stays hb5
  clear hb5 ht4'
  go_wp2_with fail
  refine (toStepS_any (hx0.out.below StepAt_stays hB5) hsm.out).mono ?_
  rintro e w6 ⟨⟨k6, rfl, ht6⟩, hb6⟩
  have hB6 : Below w.heap.size w w6 := hB5.trans (hb6.mono hB5.size)
  have ht6' : Hid (SeqAt 2 StepAt w6 w5.heap.size k6 l) := ht6
  have ht5' : Hid (SeqAt 2 StepAt w6 w3.heap.size k4 l) := ht5.out.below StepAt_stays hb6
  clear hb6 ht6 ht5
  go_wp2_with fail
  refine (eqStepS_any ht5'.out ht6'.out).mono ?_
  rintro e w7 ⟨rfl, hb7⟩
  have hB7 : Below w.heap.size w w7 := hB6.trans (hb7.mono hB6.size)
  go_wp2_with fail
  go_ret
  exact ⟨rfl, hB7⟩
/-! The row -/
set_option maxRecDepth 100000 in
theorem lifted (os : Os) (started : os.Started) (H : Type) (enc : TypeId × Value → H) :
    ReturnsInHanded {} Try.checked os 4 .any (Rows.fnExactSelTextSpec.pre6 enc Try.prog Try.f4 Rows.fnExactSelTextRow.domain false) (Rows.fnExactSelTextSpec.post enc Try.prog Try.f4 false true false false) := by
  refine returnsInHanded_of_change (C := Try.checked) own started (by kernel_rfl) Try.func4
    (ChangeSpec.witness6 (enc := enc) (C := Try.checked) false ⟨#[], #[.slice none 0 0], []⟩ 8 (by kernel_rfl) (by kernel_rfl) (by kernel_rfl) (by kernel_rfl)) ?_
  intro W base args ds gs before hval0 hW hcnd _
  have hval : ∀ (j : Nat) t v, Try.f4.params[j]? = some t → args[j]? = some v → Value.okWide Try.prog W .any base t v := hval0
  have hW' := hW
  obtain ⟨p, q, hA0, hV, rfl, hfz, hnd⟩ := hW
  have hA : DataW.TrodAll enc Try.prog W 0 (fun _ => true) true Try.f4.params.toList args.toList ds p := hA0
  rw [Try.params4] at hA hval
  obtain ⟨v0, vs0, d0, ds0, p0, q0, hargs, rfl, rfl, h0, r0⟩ := trodAll_cons hA
  obtain ⟨rfl, rfl, rfl⟩ := trodAll_nil r0
  obtain rfl : args = #[v0] := by cases args; simp_all
  obtain ⟨rfl, rfl⟩ := trodVars_none hV
  have k0 := h0
  have lt0 : ∀ x ∈ p0, x.block < W.heap.size := by obtain ⟨m, hm⟩ := k0; exact DataW.trod_lt m _ _ _ hm
  obtain ⟨fuel, hf⟩ := h0
  obtain ⟨k, l, hk, hx⟩ := seqAt_of_trod (R := StepAt) Try.underlying22 (show Try.prog.cellsOf 59 = 2 from by kernel_rfl) (by decide) StepAt_of_trod hf
  obtain ⟨l1, n1, q1, rfl⟩ := okWide_slice Try.underlying22 (hval 0 22 v0 rfl rfl)
  injection hk with hk _
  subst hk
  clear hA0 hval0
  refine (walk hx).mono fun e W' ⟨he, bel⟩ => ?_
  subst he
  exact ⟨_, rfl, _, _, _, [], _, [], hW', trodAll_mk1 (shut_bool Try.underlying4 _), (trodAll_cons_mk (Below.trod laidOut (by kernel_rfl) (of_decide_eq_true (by kernel_rfl)) k0 bel lt0) trodAll_mk0), rfl, bel.frame _, fun h => by cases h⟩
theorem over : Rows.fnExactSelTextRow.holds Try.pinned (OpenSpec.ofChange Rows.fnExactSelTextSpec) :=
  OpenClaim.holds_of_wide 4 Try.f4 rfl rfl rfl rfl rfl rfl rfl ⟨rfl, rfl, rfl, rfl, rfl⟩ rfl rfl rfl rfl rfl (by kernel_rfl) Try.func4 (by kernel_rfl)
    (of_decide_eq_true (by kernel_rfl)) (by unfold Func.isWrapper; first | (rw [if_pos (by decide +kernel)]; kernel_rfl) | (rw [if_neg (by decide +kernel)]; exact ⟨rfl, rfl⟩))
    (fun os started H enc _ => lifted os started H enc)
end Go.Proofs.Ytldecaccionigaa.fnExactSelText
namespace Go.Proofs.Ytldecaccionigaa
theorem fnExactSelText_holds : Rows.FnExactSelTextSaid := fnExactSelText.over
end Go.Proofs.Ytldecaccionigaa
