/- At every string ReadSel answers as its specification, writes into no argument, and its answer owns its memory. No condition. -/
import Derived.Test.YtdlkafpemongmaaSelCnt
import Derived.Test.YtdlkafpemongmaaMarkRecs
import Derived.Test.YtdlkafpemongmaaHeldRecs
import Derived.Test.YtdlkafpemongmaaStEq
import Derived.ProofKit
import Derived.OpenShut
import Derived.ShutString
import Derived.ChangeOld
import Derived.Below
import Derived.ChangeMaps5
namespace Go.Proofs.Ytdlkafpemongmaa.fnExactReadSel
open Go.ChangeShapes Go.WideShapes Go.ChangeAt Go.RowKit
open Go.ChangeMaps (open_string)
theorem own : ownKnob Try.prog.godebug = none := by kernel_rfl
theorem laidOut : laidOutB Try.prog = true := by kernel_rfl
theorem own_on {w w' : World} {v : Value} {x : List StepD} {fs : List Nat} (h : SeqOwn 2 StepOwn w v x fs) (hb : Below w.heap.size w w') : SeqOwn 2 StepOwn w' v x fs := h.stays StepOwn_stays (fun b q => hb.block b (h.lt StepOwn_lt b q))
theorem own_out {w w' : World} {v : Value} {x : List StepD} {fs gs : List Nat} (h : SeqOwn 2 StepOwn w v x fs) (hb : Out gs w w') (hn : ∀ b ∈ fs, b ∉ gs) : SeqOwn 2 StepOwn w' v x fs := h.stays StepOwn_stays (fun b q => hb.keep (h.lt StepOwn_lt b q) (hn b q))
set_option maxRecDepth 100000 in
set_option maxHeartbeats 6400000 in
theorem walk (s : ByteArray) (w : World) :
    Calls Try.prog 4 #[.string s] w fun e w' => e = .returned (.bool true) ∧ Below w.heap.size w w' := by
  by_cases hbig : (1048576 : Int) < (s.size : Int)
  · go_enter Try.func4, Try.ntmps4
    go_wp2
    go_ret
    exact ⟨rfl, Below.refl _ _⟩
  have hss : Hid (s.size ≤ 1048576) := by show _ ≤ _; omega
  go_enter Try.func4, Try.ntmps4
  go_wp2_with fail
  clear hbig
  refine (specReadSel_any hss.out).mono ?_
  rintro e w1 ⟨aW, nW, cW, td, fW, bb, rfl, ownW, _, loW, hRW0, hb1⟩
  have hRW : Hid (ReadsS s td bb) := hRW0
  have hYC : Hid ((1 : Int) + (cntL cntStep td : Nat) ≤ 4611686018427387904) := reads_cnt hRW.out
  have hB1 : Hid (Below w.heap.size w w1) := hb1
  have oW1 : Hid (SeqOwn 2 StepOwn w1 (.slice aW nW cW) td fW) := ownW
  have hW1 : Hid (∀ b ∈ fW, b < w1.heap.size) := fun b q => ownW.lt StepOwn_lt b q
  have s1 : w.heap.size ≤ w1.heap.size := hb1.size
  clear ownW loW hRW0 hb1
  go_wp2_with fail
  refine (implReadSel_any hss.out).mono ?_
  rintro e w2 ⟨aG, nG, cG, tg, fG, bg, rfl, ownG, _, loG, hRG, hb2⟩
  obtain ⟨e1, e2⟩ := hRG.one hRW.out
  subst e1
  subst e2
  have hB2 : Hid (Below w.heap.size w w2) := hB1.out.trans (hb2.mono hB1.out.size)
  have oW2 : Hid (SeqOwn 2 StepOwn w2 (.slice aW nW cW) tg fW) := own_on oW1.out hb2
  have oG2 : Hid (SeqOwn 2 StepOwn w2 (.slice aG nG cG) tg fG) := ownG
  have hG2 : Hid (∀ b ∈ fG, b < w2.heap.size ∧ w1.heap.size ≤ b) := fun b q => ⟨ownG.lt StepOwn_lt b q, loG b q⟩
  clear ownG loG hRG hb2 oW1 hB1
  go_wp2_with fail
  refine (eqStepS_any (lo := 0) (lo2 := 0) (oG2.out.at StepOwn_at (fun _ _ => Nat.zero_le _)) (oW2.out.at StepOwn_at (fun _ _ => Nat.zero_le _))).mono ?_
  rintro e w3 ⟨rfl, hb3⟩
  have hB3 : Hid (Below w.heap.size w w3) := hB2.out.trans (hb3.mono hB2.out.size)
  have oW3 : Hid (SeqOwn 2 StepOwn w3 (.slice aW nW cW) tg fW) := own_on oW2.out hb3
  have oG3 : Hid (SeqOwn 2 StepOwn w3 (.slice aG nG cG) tg fG) := own_on oG2.out hb3
  clear hb3 hB2 oW2 oG2
  go_wp2_with fail
  refine (markStepS_any oG3.out (by omega) hYC.out).mono ?_
  rintro e w4 ⟨rfl, own4, ho4⟩
  have oG4 : Hid (SeqOwn 2 StepOwn w4 (.slice aG nG cG) (mkL cntStep mkStep tg 1) fG) := own4
  have oW4 : Hid (SeqOwn 2 StepOwn w4 (.slice aW nW cW) tg fW) := own_out oW3.out ho4 (fun b q q' => by have := hW1.out b q; have := (hG2.out b q').2; omega)
  have hB4 : Hid (Below w.heap.size w w4) := hB3.out.trans (ho4.below hB3.out.size (fun x hx => by have := (hG2.out x hx).2; omega))
  clear own4 ho4 hB3 oW3 oG3
  generalize hCI : (1 : Int) + (cntL cntStep tg : Nat) = M at *
  have hCI' : Hid ((1 : Int) + (cntL cntStep tg : Nat) = M) := hCI
  clear hCI
  have hM0 : 0 ≤ M := by have := hCI'.out; omega
  have hM1 : decide (M < 0) = false := by simp; omega
  go_wp2_with fail
  refine (heldStepS_any (lo := 0) (m := 1) (xs := tg) (oG4.out.at StepOwn_at (fun _ _ => Nat.zero_le _)) (by omega) (by rw [hCI'.out]; exact hYC.out)).mono ?_
  rintro e w5 ⟨rfl, hb5⟩
  rw [hCI'.out]
  have hB5 : Hid (Below w.heap.size w w5) := hB4.out.trans (hb5.mono hB4.out.size)
  have oW5 : Hid (SeqOwn 2 StepOwn w5 (.slice aW nW cW) tg fW) := own_on oW4.out hb5
  have oG5 : Hid (SeqOwn 2 StepOwn w5 (.slice aG nG cG) (mkL cntStep mkStep tg 1) fG) := own_on oG4.out hb5
  clear hb5 hB4 oW4 oG4
  go_wp2_with fail
  refine (implReadSel_any hss.out).mono ?_
  rintro e w6 ⟨aH, nH, cH, th, fH, bh, rfl, ownH, _, _, hRH, hb6⟩
  obtain ⟨e1, e2⟩ := hRH.one hRW.out
  subst e1
  subst e2
  have hB6 : Hid (Below w.heap.size w w6) := hB5.out.trans (hb6.mono hB5.out.size)
  have oW6 : Hid (SeqOwn 2 StepOwn w6 (.slice aW nW cW) th fW) := own_on oW5.out hb6
  have oG6 : Hid (SeqOwn 2 StepOwn w6 (.slice aG nG cG) (mkL cntStep mkStep th 1) fG) := own_on oG5.out hb6
  have oH6 : Hid (SeqOwn 2 StepOwn w6 (.slice aH nH cH) th fH) := ownH
  clear ownH hRH hb6 hB5 oW5 oG5
  go_wp2_with fail
  refine (eqStepS_any (lo := 0) (lo2 := 0) (oH6.out.at StepOwn_at (fun _ _ => Nat.zero_le _)) (oW6.out.at StepOwn_at (fun _ _ => Nat.zero_le _))).mono ?_
  rintro e w7 ⟨rfl, hb7⟩
  have hB7 : Hid (Below w.heap.size w w7) := hB6.out.trans (hb7.mono hB6.out.size)
  have oG7 : Hid (SeqOwn 2 StepOwn w7 (.slice aG nG cG) (mkL cntStep mkStep th 1) fG) := own_on oG6.out hb7
  clear hb7 hB6 oW6 oG6 oH6
  go_wp2_with fail
  refine (heldStepS_any (lo := 0) (m := 1) (xs := th) (oG7.out.at StepOwn_at (fun _ _ => Nat.zero_le _)) (by omega) (by rw [hCI'.out]; exact hYC.out)).mono ?_
  rintro e w8 ⟨rfl, hb8⟩
  rw [hCI'.out]
  have hB8 : Hid (Below w.heap.size w w8) := hB7.out.trans (hb8.mono hB7.out.size)
  clear hb8
  go_wp2_with fail
  go_ret
  exact ⟨rfl, hB8.out⟩
/-! The row -/
set_option maxRecDepth 100000 in
theorem lifted (os : Os) (started : os.Started) (H : Type) (enc : TypeId × Value → H) :
    ReturnsInHanded {} Try.checked os 4 .any (Rows.fnExactReadSelSpec.pre6 enc Try.prog Try.f4 Rows.fnExactReadSelRow.domain false) (Rows.fnExactReadSelSpec.post enc Try.prog Try.f4 false true false false) := by
  refine returnsInHanded_of_change (C := Try.checked) own started (by kernel_rfl) Try.func4
    (ChangeSpec.witness6 (enc := enc) (C := Try.checked) false ⟨#[], #[.string ByteArray.empty], []⟩ 8 (by kernel_rfl) (by kernel_rfl) (by kernel_rfl) (by kernel_rfl)) ?_
  intro W base args ds gs before hval0 hW hcnd _
  have hval : ∀ (j : Nat) t v, Try.f4.params[j]? = some t → args[j]? = some v → Value.okWide Try.prog W .any base t v := hval0
  have hW' := hW
  obtain ⟨p, q, hA0, hV, rfl, hfz, hnd⟩ := hW
  have hA : DataW.TrodAll enc Try.prog W 0 (fun _ => true) true Try.f4.params.toList args.toList ds p := hA0
  rw [Try.params4] at hA hval
  obtain ⟨v0, vs0, d0, ds0, p0, q0, hargs, rfl, rfl, h0, r0⟩ := trodAll_cons hA
  obtain ⟨rfl, rfl, rfl⟩ := trodAll_nil r0
  obtain rfl : args = #[v0] := by cases args; simp_all
  obtain ⟨rfl, rfl⟩ := trodVars_none hV
  have k0 := h0
  have lt0 : ∀ x ∈ p0, x.block < W.heap.size := by obtain ⟨m, hm⟩ := k0; exact DataW.trod_lt m _ _ _ hm
  obtain ⟨a0, rfl, rfl, rfl, w0⟩ := open_string Try.underlying9 (hval 0 9 v0 rfl rfl) h0
  clear hA0 hval0
  refine (walk a0 W).mono fun e W' ⟨he, bel⟩ => ?_
  subst he
  exact ⟨_, rfl, _, _, _, [], _, [], hW', trodAll_mk1 (shut_bool Try.underlying4 _), (trodAll_cons_mk (Below.trod laidOut (by kernel_rfl) (of_decide_eq_true (by kernel_rfl)) k0 bel lt0) trodAll_mk0), rfl, bel.frame _, fun h => by cases h⟩
theorem over : Rows.fnExactReadSelRow.holds Try.pinned (OpenSpec.ofChange Rows.fnExactReadSelSpec) :=
  OpenClaim.holds_of_wide 4 Try.f4 rfl rfl rfl rfl rfl rfl rfl ⟨rfl, rfl, rfl, rfl, rfl⟩ rfl rfl rfl rfl rfl (by kernel_rfl) Try.func4 (by kernel_rfl)
    (of_decide_eq_true (by kernel_rfl)) (by unfold Func.isWrapper; first | (rw [if_pos (by decide +kernel)]; kernel_rfl) | (rw [if_neg (by decide +kernel)]; exact ⟨rfl, rfl⟩))
    (fun os started H enc _ => lifted os started H enc)
end Go.Proofs.Ytdlkafpemongmaa.fnExactReadSel
namespace Go.Proofs.Ytdlkafpemongmaa
theorem fnExactReadSel_holds : Rows.FnExactReadSelSaid := fnExactReadSel.over
end Go.Proofs.Ytdlkafpemongmaa
