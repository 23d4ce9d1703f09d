/- At every op OpOk answers as its specification. No condition. -/
import Derived.Test.YtiegfonakdcciaaOpBoth
import Derived.ProofKit
import Derived.OpenShut
import Derived.ShutString
import Derived.ChangeOld
import Derived.Below
import Derived.ChangeMaps5
namespace Go.Proofs.Ytiegfonakdcciaa.fnExactOpOk
open Go.ChangeShapes Go.WideShapes Go.ChangeAt Go.RowKit
theorem own : ownKnob Try.prog.godebug = none := by kernel_rfl
theorem laidOut : laidOutB Try.prog = true := by kernel_rfl
set_option maxHeartbeats 1600000 in
theorem walk {w : World} {x : OpD} (hx : x.fits) :
    Calls Try.prog 3 #[.agg x.cells.toArray] w fun e w' => e = .returned (.bool true) ∧ Below w.heap.size w w' := by
  have hx' : Hid x.fits := hx
  clear hx
  have A1 : Hid (∀ w : World, _) := fun w : World => szOp_any (w := w) (r := 1048576) hx'.out (by omega) (by omega)
  have A2 : Hid (∀ w : World, _) := fun w : World => toOp_any (w := w) (x := x)
  have A3 : Hid (∀ w : World, _) := fun w : World => specOpOk_any (w := w) hx'.out
  have A4 : Hid (∀ w : World, _) := fun w : World => implOpOk_any (w := w) hx'.out
  unfold OpD.cells at *
  have hb0 : Below w.heap.size w (w.alloc (.cells #[.int .i64 x.vKind, .string x.vName, .string x.vOther, .string x.vWord, .string x.vType, .bool x.vCapture, .bool x.vOnce, .int .i64 x.vStop, .string x.vLname] 25)) := (Below.refl _ _).alloc (Nat.le_refl _) _
  have b0 : Hid (Box (w.alloc (.cells #[.int .i64 x.vKind, .string x.vName, .string x.vOther, .string x.vWord, .string x.vType, .bool x.vCapture, .bool x.vOnce, .int .i64 x.vStop, .string x.vLname] 25)) w.heap.size [.int .i64 x.vKind, .string x.vName, .string x.vOther, .string x.vWord, .string x.vType, .bool x.vCapture, .bool x.vOnce, .int .i64 x.vStop, .string x.vLname] 25) := Box.new w [.int .i64 x.vKind, .string x.vName, .string x.vOther, .string x.vWord, .string x.vType, .bool x.vCapture, .bool x.vOnce, .int .i64 x.vStop, .string x.vLname] 25
  go_enter Try.func3, Try.ntmps3
  go_wp2_with fail
  refine (A1.out _).mono ?_
  rintro e w1 ⟨⟨r, rfl⟩, hb1⟩
  have hB1 : Below w.heap.size w w1 := hb0.trans (hb1.mono hb0.size)
  have b1 : Hid (Box w1 w.heap.size [.int .i64 x.vKind, .string x.vName, .string x.vOther, .string x.vWord, .string x.vType, .bool x.vCapture, .bool x.vOnce, .int .i64 x.vStop, .string x.vLname] 25) := b0.out.below hb1 b0.out.lt
  have c0 := b1.out.cell 0 rfl
  have c1 := b1.out.cell 1 rfl
  have c2 := b1.out.cell 2 rfl
  have c3 := b1.out.cell 3 rfl
  have c4 := b1.out.cell 4 rfl
  have c5 := b1.out.cell 5 rfl
  have c6 := b1.out.cell 6 rfl
  have c7 := b1.out.cell 7 rfl
  have c8 := b1.out.cell 8 rfl
  clear hb1 b0
  by_cases hneg : r < 0
  · go_wp2_with fail
    go_ret
    exact ⟨rfl, hB1⟩
  have hneg' : decide (r < 0) = false := by simpa using hneg
  clear hneg
  go_wp2_with fail
  refine (A2.out _).mono ?_
  rintro e w2 ⟨rfl, hb2⟩
  have hB2 : Below w.heap.size w w2 := hB1.trans (hb2.mono hB1.size)
  have b2 : Hid (Box w2 w.heap.size [.int .i64 x.vKind, .string x.vName, .string x.vOther, .string x.vWord, .string x.vType, .bool x.vCapture, .bool x.vOnce, .int .i64 x.vStop, .string x.vLname] 25) := b1.out.below hb2 b1.out.lt
  clear c0 c1 c2 c3 c4 c5 c6 c7 c8
  have c0 := b2.out.cell 0 rfl
  have c1 := b2.out.cell 1 rfl
  have c2 := b2.out.cell 2 rfl
  have c3 := b2.out.cell 3 rfl
  have c4 := b2.out.cell 4 rfl
  have c5 := b2.out.cell 5 rfl
  have c6 := b2.out.cell 6 rfl
  have c7 := b2.out.cell 7 rfl
  have c8 := b2.out.cell 8 rfl
  clear hb2 b1
  go_wp2_with fail
  refine (A3.out _).mono ?_
  rintro e w3 ⟨rfl, hb3⟩
  have hB3 : Below w.heap.size w w3 := hB2.trans (hb3.mono hB2.size)
  have b3 : Hid (Box w3 w.heap.size [.int .i64 x.vKind, .string x.vName, .string x.vOther, .string x.vWord, .string x.vType, .bool x.vCapture, .bool x.vOnce, .int .i64 x.vStop, .string x.vLname] 25) := b2.out.below hb3 b2.out.lt
  clear c0 c1 c2 c3 c4 c5 c6 c7 c8
  have c0 := b3.out.cell 0 rfl
  have c1 := b3.out.cell 1 rfl
  have c2 := b3.out.cell 2 rfl
  have c3 := b3.out.cell 3 rfl
  have c4 := b3.out.cell 4 rfl
  have c5 := b3.out.cell 5 rfl
  have c6 := b3.out.cell 6 rfl
  have c7 := b3.out.cell 7 rfl
  have c8 := b3.out.cell 8 rfl
  clear hb3 b2
  go_wp2_with fail
  refine (A2.out _).mono ?_
  rintro e w4 ⟨rfl, hb4⟩
  have hB4 : Below w.heap.size w w4 := hB3.trans (hb4.mono hB3.size)
  clear hb4
  go_wp2_with fail
  refine (A4.out _).mono ?_
  rintro e w5 ⟨rfl, hb5⟩
  have hB5 : Below w.heap.size w w5 := hB4.trans (hb5.mono hB4.size)
  clear hb5
  generalize okB x = bb
  go_wp2_with fail
  go_ret
  exact ⟨rfl, hB5⟩
/-- the reading of an op -/
theorem fits_of_trod {H : Type} {enc : TypeId × Value → H} {W : World} {n : Nat} {cs : List Value} {y : DataW H × List MemPlace} (h : DataW.trod enc Try.prog W 0 (fun _ => true) true n 25 cs = some y) : ∃ x : OpD, cs = x.cells ∧ x.fits := by
  obtain ⟨xs, m, rfl, rfl, hl, hlen, hf⟩ := DataW.trod_struct Try.underlying25 h
  have hl' : cs.length = 9 := hl.trans (by kernel_rfl)
  have hlen' : xs.length = 5 := hlen
  match cs, hl', xs, hlen' with
  | [c0, c1, c2, c3, c4, c5, c6, c7, c8], _, [y0, y1, y2, y3, y4], _ =>
    have g0 : DataW.trod enc Try.prog W 0 (fun _ => true) true m 2 [c0] = some y0 := hf 0 _ rfl
    have g1 : DataW.trod enc Try.prog W 0 (fun _ => true) true m 9 [c1] = some y1 := hf 1 _ rfl
    have g2 : DataW.trod enc Try.prog W 0 (fun _ => true) true m 9 [c2] = some y2 := hf 2 _ rfl
    have g3 : DataW.trod enc Try.prog W 0 (fun _ => true) true m 9 [c3] = some y3 := hf 3 _ rfl
    have g4 : DataW.trod enc Try.prog W 0 (fun _ => true) true m 23 [c4, c5, c6, c7, c8] = some y4 := hf 4 _ rfl
    obtain ⟨x0, e0, _, _⟩ := DataW.trod_int Try.underlying2 g0
    obtain ⟨x1, e1, _, w1⟩ := DataW.trod_string Try.underlying9 g1
    obtain ⟨x2, e2, _, w2⟩ := DataW.trod_string Try.underlying9 g2
    obtain ⟨x3, e3, _, w3⟩ := DataW.trod_string Try.underlying9 g3
    obtain ⟨zs, m2, rfl, rfl, kl, klen, kf⟩ := DataW.trod_struct Try.underlying23 g4
    have klen' : zs.length = 5 := klen
    match zs, klen' with
    | [z4, z5, z6, z7, z8], _ =>
      have g4 : DataW.trod enc Try.prog W 0 (fun _ => true) true m2 9 [c4] = some z4 := kf 0 _ rfl
      have g5 : DataW.trod enc Try.prog W 0 (fun _ => true) true m2 4 [c5] = some z5 := kf 1 _ rfl
      have g6 : DataW.trod enc Try.prog W 0 (fun _ => true) true m2 4 [c6] = some z6 := kf 2 _ rfl
      have g7 : DataW.trod enc Try.prog W 0 (fun _ => true) true m2 2 [c7] = some z7 := kf 3 _ rfl
      have g8 : DataW.trod enc Try.prog W 0 (fun _ => true) true m2 9 [c8] = some z8 := kf 4 _ rfl
      obtain ⟨x4, e4, _, w4⟩ := DataW.trod_string Try.underlying9 g4
      obtain ⟨x5, e5, _⟩ := DataW.trod_bool Try.underlying4 g5
      obtain ⟨x6, e6, _⟩ := DataW.trod_bool Try.underlying4 g6
      obtain ⟨x7, e7, _, _⟩ := DataW.trod_int Try.underlying2 g7
      obtain ⟨x8, e8, _, w8⟩ := DataW.trod_string Try.underlying9 g8
      injection e0 with e0 _
      subst e0
      injection e1 with e1 _
      subst e1
      injection e2 with e2 _
      subst e2
      injection e3 with e3 _
      subst e3
      injection e4 with e4 _
      subst e4
      injection e5 with e5 _
      subst e5
      injection e6 with e6 _
      subst e6
      injection e7 with e7 _
      subst e7
      injection e8 with e8 _
      subst e8
      exact ⟨⟨x0, x1, x2, x3, x4, x5, x6, x7, x8⟩, rfl, w1, w2, w3, w4, w8⟩
/-! The row -/
set_option maxRecDepth 100000 in
theorem lifted (os : Os) (started : os.Started) (H : Type) (enc : TypeId × Value → H) :
    ReturnsInHanded {} Try.checked os 3 .any (Rows.fnExactOpOkSpec.pre6 enc Try.prog Try.f3 Rows.fnExactOpOkRow.domain false) (Rows.fnExactOpOkSpec.post enc Try.prog Try.f3 false true false false) := by
  refine returnsInHanded_of_change (C := Try.checked) own started (by kernel_rfl) Try.func3
    (ChangeSpec.witness6 (enc := enc) (C := Try.checked) false ⟨#[], #[.agg #[.int .i64 0, .string ByteArray.empty, .string ByteArray.empty, .string ByteArray.empty, .string ByteArray.empty, .bool false, .bool false, .int .i64 0, .string ByteArray.empty]], []⟩ 8 (by kernel_rfl) (by kernel_rfl) (by kernel_rfl) (by kernel_rfl)) ?_
  intro W base args ds gs before hval0 hW hcnd _
  have hval : ∀ (j : Nat) t v, Try.f3.params[j]? = some t → args[j]? = some v → Value.okWide Try.prog W .any base t v := hval0
  have hW' := hW
  obtain ⟨p, q, hA0, hV, rfl, hfz, hnd⟩ := hW
  have hA : DataW.TrodAll enc Try.prog W 0 (fun _ => true) true Try.f3.params.toList args.toList ds p := hA0
  rw [Try.params3] at hA hval
  obtain ⟨v0, vs0, d0, ds0, p0, q0, hargs, rfl, rfl, h0, r0⟩ := trodAll_cons hA
  obtain ⟨rfl, rfl, rfl⟩ := trodAll_nil r0
  obtain rfl : args = #[v0] := by cases args; simp_all
  obtain ⟨rfl, rfl⟩ := trodVars_none hV
  have k0 := h0
  have lt0 : ∀ x ∈ p0, x.block < W.heap.size := by obtain ⟨m, hm⟩ := k0; exact DataW.trod_lt m _ _ _ hm
  obtain ⟨cs, rfl, _⟩ := okWide_struct Try.underlying25 (hval 0 25 v0 rfl rfl)
  obtain ⟨fuel, hf⟩ := h0
  obtain ⟨x, hc, hx⟩ := fits_of_trod hf
  have hcs : (Value.agg cs).cells = cs := rfl
  rw [hcs] at hc
  clear hA0 hval0
  have hwk := walk (w := W) hx
  rw [← hc, Array.toArray_toList] at hwk
  refine hwk.mono fun e W' ⟨he, bel⟩ => ?_
  subst he
  exact ⟨_, rfl, _, _, _, [], _, [], hW', trodAll_mk1 (shut_bool Try.underlying4 _), (trodAll_cons_mk (Below.trod laidOut (by kernel_rfl) (of_decide_eq_true (by kernel_rfl)) k0 bel lt0) trodAll_mk0), rfl, bel.frame _, fun h => by cases h⟩
theorem over : Rows.fnExactOpOkRow.holds Try.pinned (OpenSpec.ofChange Rows.fnExactOpOkSpec) :=
  OpenClaim.holds_of_wide 3 Try.f3 rfl rfl rfl rfl rfl rfl rfl ⟨rfl, rfl, rfl, rfl, rfl⟩ rfl rfl rfl rfl rfl (by kernel_rfl) Try.func3 (by kernel_rfl)
    (of_decide_eq_true (by kernel_rfl)) (by unfold Func.isWrapper; first | (rw [if_pos (by decide +kernel)]; kernel_rfl) | (rw [if_neg (by decide +kernel)]; exact ⟨rfl, rfl⟩))
    (fun os started H enc _ => lifted os started H enc)
end Go.Proofs.Ytiegfonakdcciaa.fnExactOpOk
namespace Go.Proofs.Ytiegfonakdcciaa
theorem fnExactOpOk_holds : Rows.FnExactOpOkSaid := fnExactOpOk.over
end Go.Proofs.Ytiegfonakdcciaa
