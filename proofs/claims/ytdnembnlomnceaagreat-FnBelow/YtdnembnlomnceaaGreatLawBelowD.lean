/- FnBelow holds for every code: what is below some of a drawn heap is they, and all that these hold, and no more. -/
import Derived.Test.YtdnembnlomnceaaGreatFnBelowW
import Derived.ProofKit
import Derived.OpenShut
import Derived.ShutString
import Derived.ChangeOld
import Derived.Below
namespace Go.Proofs.YtdnembnlomnceaaGreat.fnBelow
open Go.ChangeShapes Go.WideShapes Go.ChangeAt Go.RowKit
theorem own : ownKnob Tryz.prog.godebug = none := by kernel_rfl
theorem laidOut : laidOutB Tryz.prog = true := by kernel_rfl
/-- a cell that holds a byte -/
def U8At (_ : World) (_ : Nat) (cs : List Value) (x : Int) : Prop := cs = [.int .u8 x] ∧ 0 ≤ x ∧ x ≤ 255
theorem u8At_of_trod {H : Type} {enc : TypeId × Value → H} {w : World} {spare : Nat → Bool} {held : Bool} (n : Nat) (cs : List Value) (y : DataW H × List MemPlace) (h : DataW.trod enc Tryz.prog w 0 spare held n 5 cs = some y) : ∃ x, U8At w 0 cs x := by
 obtain ⟨x, e, _, hw⟩ := DataW.trod_int Tryz.underlying5 h
 refine ⟨x, e, ?_⟩
 simp [Lit.wf, IntKind.min, IntKind.max, IntKind.signed, IntKind.bits] at hw
 omega
theorem code_of {w : World} {a : Option Addr} {n cap : Nat} {xs : List Int} (h : SeqAt 1 U8At w 0 (.slice a n cap) xs) (hn : n ≤ 1048576) : CodeAt w a n := by
 obtain ⟨a', cap', e, hm, hx⟩ := h
 injection e with e1 e2 e3
 subst e1 e2 e3
 refine ⟨hn, fun h0 => ?_⟩
 obtain ⟨b, off, e, _, h2, h3⟩ := hx h0
 refine ⟨b, off, e, h2, fun i hi => ?_⟩
 obtain ⟨cs, hl, lie, rfl, hr⟩ := h3 i hi
 have := lie 0 (by simp)
 simp only [List.getElem?_cons_zero, Nat.add_zero, Nat.mul_one] at this
 exact ⟨_, this, hr⟩
/-! The row -/
set_option maxRecDepth 100000 in
theorem lifted (os : Os) (started : os.Started) (H : Type) (enc : TypeId × Value → H) :
 ReturnsInHanded {} Tryz.checked os 3 .any (Rows.fnBelowSpec.pre6 enc Tryz.prog Tryz.f3 Rows.fnBelowRow.domain false) (Rows.fnBelowSpec.post enc Tryz.prog Tryz.f3 false true false false) := by
 refine returnsInHanded_of_change (C := Tryz.checked) own started (by kernel_rfl) Tryz.func3
  (ChangeSpec.witness6 (enc := enc) (C := Tryz.checked) false ⟨#[], #[.slice none 0 0], []⟩ 8 (by kernel_rfl) (by kernel_rfl) (by kernel_rfl) (by kernel_rfl)) ?_
 intro W base args ds gs before hval0 hW hcnd _
 have hval : ∀ (j : Nat) t v, Tryz.f3.params[j]? = some t → args[j]? = some v → Value.okWide Tryz.prog W .any base t v := hval0
 have hW' := hW
 obtain ⟨p, q, hA0, hV, rfl, hfz, hnd⟩ := hW
 have hA : DataW.TrodAll enc Tryz.prog W 0 (fun _ => true) true Tryz.f3.params.toList args.toList ds p := hA0
 rw [Tryz.params3] at hA hval
 obtain ⟨v0, vs0, d0, ds0, p0, q0, hargs, rfl, rfl, h0, r0⟩ := trodAll_cons hA
 obtain ⟨rfl, rfl, rfl⟩ := trodAll_nil r0
 obtain rfl : args = #[v0] := by cases args; simp_all
 obtain ⟨rfl, rfl⟩ := trodVars_none hV
 have k0 := h0
 have lt0 : ∀ x ∈ p0, x.block < W.heap.size := by obtain ⟨m, hm⟩ := k0; exact DataW.trod_lt m _ _ _ hm
 obtain ⟨l1, n1, q1, rfl⟩ := okWide_slice Tryz.underlying22 (hval 0 22 v0 rfl rfl)
 obtain ⟨fuel, hf⟩ := h0
 obtain ⟨kI, xs, ecs, hti⟩ := seqAt_of_trod (R := U8At) Tryz.underlying22 (show Tryz.prog.cellsOf 5 = 1 from by kernel_rfl) (by decide) u8At_of_trod hf
 obtain rfl : Value.slice l1 n1 q1 = kI := by simpa [Value.cells] using ecs
 have hlen : n1 ≤ maxLen := by
  obtain ⟨a', cap', e, hm, _⟩ := id hti
  injection e with _ e2 _
  omega
 clear hA0 hval0
 refine (walk W hlen (code_of hti)).mono fun e W' ⟨he, bel⟩ => ?_
 subst he
 exact ⟨_, rfl, _, _, _, [], _, [], hW', trodAll_mk1 (shut_bool Tryz.underlying4 _), (trodAll_cons_mk (Below.trod laidOut (by kernel_rfl) (of_decide_eq_true (by kernel_rfl)) k0 bel lt0) trodAll_mk0), rfl, bel.frame _, fun h => by cases h⟩
theorem over : Rows.fnBelowRow.holds Tryz.pinned (OpenSpec.ofChange Rows.fnBelowSpec) :=
 OpenClaim.holds_of_wide 3 Tryz.f3 rfl rfl rfl rfl rfl rfl rfl ⟨rfl, rfl, rfl, rfl, rfl⟩ rfl rfl rfl rfl rfl (by kernel_rfl) Tryz.func3 (by kernel_rfl)
  (of_decide_eq_true (by kernel_rfl)) (by unfold Func.isWrapper; first | (rw [if_pos (by decide +kernel)]; kernel_rfl) | (rw [if_neg (by decide +kernel)]; exact ⟨rfl, rfl⟩))
  (fun os started H enc _ => lifted os started H enc)
end Go.Proofs.YtdnembnlomnceaaGreat.fnBelow
namespace Go.Proofs.YtdnembnlomnceaaGreat
theorem fnBelow_holds : Rows.FnBelowSaid := fnBelow.over
end Go.Proofs.YtdnembnlomnceaaGreat
