/- For every program, DepthsOf of the program text answers as that of the specification, writes into no argument and keeps nothing of one, and its answer owns its memory, where the table of forms starts as the program's text lays it. -/
import Derived.Test.YtopjkiifajlkhaaDoorInSz
import Derived.Test.YtopjkiifajlkhaaDoorInTo
import Derived.Test.YtopjkiifajlkhaaDoorInEq
import Derived.Test.YtopjkiifajlkhaaDoorVmDepW
import Derived.Test.YtopjkiifajlkhaaDoorToOwn
import Derived.Test.YtopjkiifajlkhaaDoorMarkRecs
import Derived.Test.YtopjkiifajlkhaaDoorHeldRecs
import Derived.Test.YtopjkiifajlkhaaDoorVmCnt
import Derived.ProofKit
import Derived.OpenShut
import Derived.ShutString
import Derived.ChangeOld
import Derived.Below
import Derived.Laws.Cover1
import Derived.Test.YtopjkiifajlkhaaDoorDoorTab
namespace Go.Proofs.YtopjkiifajlkhaaDoor.fnExactDepthsOf
open Go.ChangeShapes Go.WideShapes Go.ChangeAt Go.RowKit
theorem keepI {w w' : World} {k : Value} {xs : List Int} {fs : List Nat} (h : SeqOwn 1 IntOwn w k xs fs) (hk : ∀ b ∈ fs, w'.heap[b]? = w.heap[b]?) : SeqOwn 1 IntOwn w' k xs fs := h.stays intOwn_stays hk
theorem keepIB {w w' : World} {k : Value} {xs : List Int} {fs : List Nat} (h : SeqOwn 1 IntOwn w k xs fs) (hb : Below w.heap.size w w') : SeqOwn 1 IntOwn w' k xs fs := h.stays intOwn_stays (fun b q => hb.block b (h.lt intOwn_lt b q))
theorem keepXB {w w' : World} {k : Value} {xs : List InstrD} {fs : List Nat} (h : SeqOwn 3 InstrOwn w k xs fs) (hb : Below w.heap.size w w') : SeqOwn 3 InstrOwn w' k xs fs := h.stays InstrOwn_stays (fun b q => hb.block b (h.lt InstrOwn_lt b q))
theorem keepIO {w w' : World} {k : Value} {xs : List Int} {fs gs : List Nat} (h : SeqOwn 1 IntOwn w k xs fs) (hb : Out gs w w') (hd : ∀ b ∈ fs, b ∉ gs) : SeqOwn 1 IntOwn w' k xs fs := h.stays intOwn_stays (fun b q => hb.keep (h.lt intOwn_lt b q) (hd b q))
theorem atI {w : World} {k : Value} {xs : List Int} {fs : List Nat} (h : SeqOwn 1 IntOwn w k xs fs) : SeqAt 1 IntAt w 0 k xs := h.at intOwn_at (fun _ _ => Nat.zero_le _)
theorem atX {w : World} {k : Value} {xs : List InstrD} {fs : List Nat} (h : SeqOwn 3 InstrOwn w k xs fs) : SeqAt 3 InstrAt w 0 k xs := h.at InstrOwn_at (fun _ _ => Nat.zero_le _)
set_option maxHeartbeats 4000000 in
theorem walk {w : World} {k : Value} {l : List InstrD} (hx : SeqAt 3 InstrAt w 0 k l) (hsg : Forms w) :
    Calls Tryd.prog 4 #[k] w fun e w' => e = .returned (.bool true) ∧ Below w.heap.size w w' := by
  have hx0 : Hid (SeqAt 3 InstrAt w 0 k l) := hx
  obtain ⟨a, cap, rfl⟩ := hx.form
  have hsg' : Hid (∀ w', Below w.heap.size w w' → Forms w') := fun w' h => Forms.below hsg h (Forms.lt hsg)
  clear hx hsg
  go_enter Tryd.func4, Tryd.ntmps4
  go_wp2_with fail
  refine (szInstrS_any hx0.out (by omega) (by omega)).mono ?_
  rintro e w1 ⟨⟨r, rfl, hr1, hr2, hsm⟩, hB1⟩
  have hsm' : Hid (r < 0 ∨ AllS InstrD.small l) := hsm
  clear hsm
  by_cases hneg : r < 0
  · go_wp2_with fail
    go_ret
    exact ⟨rfl, hB1⟩
  have hsm : Hid (AllS InstrD.small l) := hsm'.out.resolve_left hneg
  clear hsm'
  have hx' : Hid (∀ w', Below w.heap.size w w' → SeqAt 3 InstrAt w' 0 (.slice a l.length cap) l) := fun w' h => hx0.out.below InstrAt_stays h
  clear hx0
  go_wp2_with fail
  refine (toInstrS_any (hx'.out _ hB1) hsm.out).mono ?_
  rintro e w2 ⟨⟨k2, rfl, ht2⟩, hb2⟩
  have hB2 : Below w.heap.size w w2 := hB1.trans (hb2.mono hB1.size)
  have ht2' : Hid (SeqAt 3 InstrAt w2 w1.heap.size k2 l) := ht2
  clear hb2 ht2
  go_wp2_with fail
  refine (specDepths_any ht2'.out).mono ?_
  rintro e w3 ⟨⟨bb, ys, kw, rfl, hans, hdr⟩, hb3⟩
  have hans' : Hid (Ans l bb ys) := hans
  obtain ⟨hyl, hyi⟩ := ans_range hans
  obtain ⟨fw, hkw, hfw⟩ := hdr.own hyl hyi
  have hB3 : Below w.heap.size w w3 := hB2.trans (hb3.mono hB2.size)
  have hW3 : Hid (SeqOwn 1 IntOwn w3 kw ys fw) := hkw
  have hWlt : Hid (∀ b ∈ fw, b < w3.heap.size) := hkw.lt intOwn_lt
  obtain ⟨aw, cw, rfl⟩ := hkw.form
  have hyl' : Hid (ys.length ≤ 20) := hyl
  clear hb3 ht2' hans hdr hkw hyl hyi hfw
  go_wp2_with fail
  refine (toInstrS_own (hx'.out _ hB3) hsm.out).mono ?_
  rintro e w4 ⟨⟨k4, fx, rfl, ht4, _, hfx⟩, hb4⟩
  have hB4 : Below w.heap.size w w4 := hB3.trans (hb4.mono hB3.size)
  have hX4 : Hid (SeqOwn 3 InstrOwn w4 k4 l fx) := ht4
  have hXb : Hid (∀ b ∈ fx, w3.heap.size ≤ b ∧ b < w4.heap.size) := fun b q => ⟨hfx b q, ht4.lt InstrOwn_lt b q⟩
  have hW4 : Hid (SeqOwn 1 IntOwn w4 _ ys fw) := keepIB hW3.out hb4
  obtain ⟨a4, c4, rfl⟩ := ht4.form
  clear hb4 ht4 hW3 hfx
  go_wp2_with fail
  refine (implDepths_any (atX hX4.out) (hsg'.out _ hB4)).mono ?_
  rintro e w5 ⟨⟨b2, ys2, kg, rfl, hans2, hdr⟩, hb5⟩
  obtain ⟨rfl, rfl⟩ := ans_same hans'.out hans2
  obtain ⟨hyl, hyi⟩ := ans_range hans2
  obtain ⟨fg, hkg, hfg⟩ := hdr.own hyl hyi
  have hB5 : Below w.heap.size w w5 := hB4.trans (hb5.mono hB4.size)
  have hG5 : Hid (SeqOwn 1 IntOwn w5 kg ys fg) := hkg
  have hGb : Hid (∀ b ∈ fg, w4.heap.size ≤ b) := hfg
  have hW5 : Hid (SeqOwn 1 IntOwn w5 _ ys fw) := keepIB hW4.out hb5
  have hX5 : Hid (SeqOwn 3 InstrOwn w5 _ l fx) := keepXB hX4.out hb5
  obtain ⟨ag, cg, rfl⟩ := hkg.form
  have hz34 : Hid (w.heap.size ≤ w3.heap.size ∧ w.heap.size ≤ w4.heap.size) := ⟨hB3.size, hB4.size⟩
  have hd1 : Hid (∀ b ∈ fw, b ∉ fx) := fun b q1 q2 => by have := hWlt.out b q1; have := hXb.out b q2; omega
  have hd2 : Hid (∀ b ∈ fg, b ∉ fx) := fun b q1 q2 => by have := hGb.out b q1; have := hXb.out b q2; omega
  have hd3 : Hid (∀ b ∈ fw, b ∉ fg) := fun b q1 q2 => by
    have := hWlt.out b q1
    have := hGb.out b q2
    have : w3.heap.size ≤ w4.heap.size := by
      rcases Nat.lt_or_ge w4.heap.size w3.heap.size with h | h
      · have := hW4.out.lt intOwn_lt b q1; omega
      · exact h
    omega
  clear hb5 hW4 hX4 hans2 hdr hkg hyl hyi hfg
  go_wp2_with fail
  refine (eqInt64S_any (atI hG5.out) (atI hW5.out)).mono ?_
  rintro e w6 ⟨rfl, hb6⟩
  have hB6 : Below w.heap.size w w6 := hB5.trans (hb6.mono hB5.size)
  have hW6 : Hid (SeqOwn 1 IntOwn w6 _ ys fw) := keepIB hW5.out hb6
  have hG6 : Hid (SeqOwn 1 IntOwn w6 _ ys fg) := keepIB hG5.out hb6
  have hX6 : Hid (SeqOwn 3 InstrOwn w6 _ l fx) := keepXB hX5.out hb6
  clear hb6 hW5 hG5 hX5
  have hbeq : (bb == bb) = true := by simp
  go_wp2_with fail
  refine (toInstrS_any (hx'.out _ hB6) hsm.out).mono ?_
  rintro e w7 ⟨⟨k7, rfl, ht7⟩, hb7⟩
  have hB7 : Below w.heap.size w w7 := hB6.trans (hb7.mono hB6.size)
  have ht7' : Hid (SeqAt 3 InstrAt w7 w6.heap.size k7 l) := ht7
  have hW7 : Hid (SeqOwn 1 IntOwn w7 _ ys fw) := keepIB hW6.out hb7
  have hG7 : Hid (SeqOwn 1 IntOwn w7 _ ys fg) := keepIB hG6.out hb7
  have hX7 : Hid (SeqOwn 3 InstrOwn w7 _ l fx) := keepXB hX6.out hb7
  clear hb7 hW6 hG6 hX6 ht7
  go_wp2_with fail
  refine (eqInstrS_any (atX hX7.out) ht7'.out).mono ?_
  rintro e w8 ⟨rfl, hb8⟩
  have hB8 : Below w.heap.size w w8 := hB7.trans (hb8.mono hB7.size)
  have hW8 : Hid (SeqOwn 1 IntOwn w8 _ ys fw) := keepIB hW7.out hb8
  have hG8 : Hid (SeqOwn 1 IntOwn w8 _ ys fg) := keepIB hG7.out hb8
  have hX8 : Hid (SeqOwn 3 InstrOwn w8 _ l fx) := keepXB hX7.out hb8
  clear hb8 hW7 hG7 hX7 ht7'
  go_wp2_with fail
  refine (markInstrS_any hX8.out (by omega) (cntL_instr hsm.out.1)).mono ?_
  rintro e w9 ⟨rfl, _, ho9⟩
  have hB9 : Below w.heap.size w w9 := hB8.trans (ho9.below hB8.size (fun b q => by have := hXb.out b q; have := hz34.out; omega))
  have hW9 : Hid (SeqOwn 1 IntOwn w9 _ ys fw) := keepIO hW8.out ho9 hd1.out
  have hG9 : Hid (SeqOwn 1 IntOwn w9 _ ys fg) := keepIO hG8.out ho9 hd2.out
  have hk9 : ¬ (1 : Int) + (cntL cntInstr l : Nat) < 0 := by omega
  clear ho9 hW8 hG8 hX8
  generalize (1 : Int) + (cntL cntInstr l : Nat) = K9 at hk9
  go_wp2_with (go_at_call 15; refine (eqInt64S_any (atI hG9.out) (atI hW9.out)).mono ?_; rintro e w10 ⟨rfl, hb10⟩)
  have hB10 : Below w.heap.size w w10 := hB9.trans (hb10.mono hB9.size)
  have hW10 : Hid (SeqOwn 1 IntOwn w10 _ ys fw) := keepIB hW9.out hb10
  have hG10 : Hid (SeqOwn 1 IntOwn w10 _ ys fg) := keepIB hG9.out hb10
  clear hb10 hW9 hG9
  refine (markInt64S_any hG10.out (by omega) (cntL_few hyl'.out)).mono ?_
  rintro e w11 ⟨rfl, hm11, ho11⟩
  have hB11 : Below w.heap.size w w11 := hB10.trans (ho11.below hB10.size (fun b q => by have := hGb.out b q; have := hz34.out; omega))
  have hW11 : Hid (SeqOwn 1 IntOwn w11 _ ys fw) := keepIO hW10.out ho11 hd3.out
  have hG11 : Hid (SeqOwn 1 IntOwn w11 (.slice ag ys.length cg) (mkL cntI mkI ys 1) fg) := hm11
  have hk11 : ¬ (1 : Int) + (cntL cntI ys : Nat) < 0 := by omega
  have hcnt : Hid ((1 : Int) + (cntL cntI ys : Nat) ≤ 4611686018427387904) := cntL_few hyl'.out
  clear ho11 hW10 hG10 hm11
  generalize hK : (1 : Int) + (cntL cntI ys : Nat) = K11 at hk11
  have hK' : Hid ((1 : Int) + (cntL cntI ys : Nat) = K11) := hK
  clear hK
  go_wp2_with fail
  refine (heldInt64S_any (atI hG11.out) (by omega) hcnt.out).mono ?_
  rintro e w12 ⟨rfl, hb12⟩
  rw [hK'.out]
  have hB12 : Below w.heap.size w w12 := hB11.trans (hb12.mono hB11.size)
  have hW12 : Hid (SeqOwn 1 IntOwn w12 _ ys fw) := keepIB hW11.out hb12
  have hG12 : Hid (SeqOwn 1 IntOwn w12 (.slice ag ys.length cg) (mkL cntI mkI ys 1) fg) := keepIB hG11.out hb12
  clear hb12 hW11 hG11
  go_wp2_with fail
  refine (toInstrS_any (hx'.out _ hB12) hsm.out).mono ?_
  rintro e w13 ⟨⟨k13, rfl, ht13⟩, hb13⟩
  have hB13 : Below w.heap.size w w13 := hB12.trans (hb13.mono hB12.size)
  have ht13' : Hid (SeqAt 3 InstrAt w13 w12.heap.size k13 l) := ht13
  have hW13 : Hid (SeqOwn 1 IntOwn w13 _ ys fw) := keepIB hW12.out hb13
  have hG13 : Hid (SeqOwn 1 IntOwn w13 (.slice ag ys.length cg) (mkL cntI mkI ys 1) fg) := keepIB hG12.out hb13
  clear hb13 hW12 hG12 ht13
  go_wp2_with fail
  refine (implDepths_any ht13'.out (hsg'.out _ hB13)).mono ?_
  rintro e w14 ⟨⟨b3, ys3, kh, rfl, hans3, hdr⟩, hb14⟩
  obtain ⟨rfl, rfl⟩ := ans_same hans'.out hans3
  obtain ⟨hyl, hyi⟩ := ans_range hans3
  obtain ⟨fh, hkh, _⟩ := hdr.own hyl hyi
  have hB14 : Below w.heap.size w w14 := hB13.trans (hb14.mono hB13.size)
  have hH14 : Hid (SeqOwn 1 IntOwn w14 kh ys fh) := hkh
  have hW14 : Hid (SeqOwn 1 IntOwn w14 _ ys fw) := keepIB hW13.out hb14
  have hG14 : Hid (SeqOwn 1 IntOwn w14 (.slice ag ys.length cg) (mkL cntI mkI ys 1) fg) := keepIB hG13.out hb14
  obtain ⟨ah, ch, rfl⟩ := hkh.form
  clear hb14 hW13 hG13 hans3 hdr hkh hyl hyi
  go_wp2_with fail
  refine (eqInt64S_any (atI hH14.out) (atI hW14.out)).mono ?_
  rintro e w15 ⟨rfl, hb15⟩
  have hB15 : Below w.heap.size w w15 := hB14.trans (hb15.mono hB14.size)
  have hG15 : Hid (SeqOwn 1 IntOwn w15 (.slice ag ys.length cg) (mkL cntI mkI ys 1) fg) := keepIB hG14.out hb15
  clear hb15 hW14 hG14 hH14
  go_wp2_with fail
  refine (heldInt64S_any (atI hG15.out) (by omega) hcnt.out).mono ?_
  rintro e w16 ⟨rfl, hb16⟩
  rw [hK'.out]
  have hB16 : Below w.heap.size w w16 := hB15.trans (hb16.mono hB15.size)
  go_wp2_with fail
  go_ret
  exact ⟨rfl, hB16⟩

set_option maxRecDepth 100000 in
theorem contract (H : Type) (enc : TypeId × Value → H) (W : World) (base : Nat) (args : Array Value) (ds gs : List (DataW H)) (before : List MemPlace)
    (hval0 : ∀ (j : Nat) t v, Tryd.f4.params[j]? = some t → args[j]? = some v → Value.okWide Tryd.prog W .any base t v)
    (hW : DataW.Whole enc Tryd.prog Tryd.f4.params.toList Rows.fnExactDepthsOfSpec.vars false W args.toList ds gs before) (hL : laidMetH Tryd.prog Rows.fnExactDepthsOfRow.laid W) :
    Calls Tryd.prog 4 args W fun e W' => ∃ v, e = .returned v ∧ Rows.fnExactDepthsOfSpec.post enc Tryd.prog Tryd.f4 false true false false W args v W' := by
  have hval : ∀ (j : Nat) t v, Tryd.f4.params[j]? = some t → args[j]? = some v → Value.okWide Tryd.prog W .any base t v := hval0
  have hsg : Forms W := forms_of hL
  have hW' := hW
  obtain ⟨p, q, hA0, hV, rfl, hfz, hnd⟩ := hW
  have hA : DataW.TrodAll enc Tryd.prog W 0 (fun _ => true) true Tryd.f4.params.toList args.toList ds p := hA0
  rw [Tryd.params4] at hA hval
  obtain ⟨v0, vs0, d0, ds0, p0, q0, hargs, rfl, rfl, h0, r0⟩ := trodAll_cons hA
  obtain ⟨rfl, rfl, rfl⟩ := trodAll_nil r0
  obtain rfl : args = #[v0] := by cases args; simp_all
  have hV' := hV
  obtain ⟨_, _, _, _, g1, _, rfl, _⟩ := trodVars_one hV
  have k0 := h0
  have lt0 : ∀ x ∈ p0, x.block < W.heap.size := by obtain ⟨m, hm⟩ := k0; exact DataW.trod_lt m _ _ _ hm
  obtain ⟨fuel, hf⟩ := h0
  obtain ⟨k, l, hk, hx⟩ := seqAt_of_trod (R := InstrAt) Tryd.underlying29 (show Tryd.prog.cellsOf 23 = 3 from by kernel_rfl) (by decide) InstrAt_of_trod hf
  obtain ⟨l1, n1, q1, rfl⟩ := okWide_slice Tryd.underlying29 (hval 0 29 v0 rfl rfl)
  injection hk with hk _
  subst hk
  clear hA0 hval0
  refine (walk hx hsg).mono fun e W' ⟨he, bel⟩ => ?_
  subst he
  exact ⟨_, rfl, _, _, _, [], _, _, hW', trodAll_mk1 (shut_bool Tryd.underlying4 _), (trodAll_cons_mk (Below.trod d_laidOut (by kernel_rfl) (of_decide_eq_true (by kernel_rfl)) k0 bel lt0) trodAll_mk0), Below.trodVars d_laidOut bel (by kernel_rfl) hV', bel.frame _, fun h => by cases h⟩
theorem laid_met (os : Os) : laidMet Tryd.prog Rows.fnExactDepthsOfRow.laid (({ World.holding Tryd.prog os ⟨#[], #[], []⟩ with heap := (World.holding Tryd.prog os ⟨#[], #[], []⟩).heap.modify 0 fun | .cells _ t frozen => .cells tabL.toArray t frozen | o => o } : World).forCall (fun _ _ => 0) ⟨#[], #[Value.slice none 0 0], []⟩).memory :=
  laidMet_of_run' 80 (by kernel_rfl) (by kernel_rfl)
theorem reads (os : Os) {H : Type} (enc : TypeId × Value → H) : ∃ places, DataW.whole enc Tryd.prog (({ World.holding Tryd.prog os ⟨#[], #[], []⟩ with heap := (World.holding Tryd.prog os ⟨#[], #[], []⟩).heap.modify 0 fun | .cells _ t frozen => .cells tabL.toArray t frozen | o => o } : World).forCall (fun _ _ => 0) ⟨#[], #[Value.slice none 0 0], []⟩).memory Tryd.f4.params.toList Rows.fnExactDepthsOfSpec.vars false #[Value.slice none 0 0].toList 80 = some ([.nil], [Rows.laid_loop_example_g00376_impl_forms], places) :=
  ⟨MemPlace.row ⟨0, 0, none⟩ 75, by kernel_rfl⟩
set_option maxRecDepth 100000 in
theorem lifted (os : Os) (started : os.Started) (H : Type) (enc : TypeId × Value → H) (F : Stop.Interp) :
    ReturnsInHanded {} Tryd.checked os 4 .any ((OpenSpec.ofChange Rows.fnExactDepthsOfSpec).preRow enc Tryd.prog Tryd.f4 Rows.fnExactDepthsOfRow.domain false Rows.fnExactDepthsOfRow.laid) (((OpenSpec.ofChange Rows.fnExactDepthsOfSpec).at F).post enc Tryd.prog Tryd.f4 false true false false) := by
  obtain ⟨places, hx⟩ := reads os enc
  refine returnsInHanded_of_row (C := Tryd.checked) (s := OpenSpec.ofChange Rows.fnExactDepthsOfSpec) d_own started (by kernel_rfl) Tryd.func4
    (witness_row_at (enc := enc) (C := Tryd.checked) false ({ World.holding Tryd.prog os ⟨#[], #[], []⟩ with heap := (World.holding Tryd.prog os ⟨#[], #[], []⟩).heap.modify 0 fun | .cells _ t frozen => .cells tabL.toArray t frozen | o => o } : World) #[Value.slice none 0 0] rfl (by kernel_rfl) (by kernel_rfl) (by kernel_rfl)
      (OpenSpec.preRow_of_cond 80 hx (by kernel_rfl) (fun k hk => by cases hk) (by kernel_rfl) (laid_met os))) ?_
  intro W base args ds gs before hval hW _ _ _ hL _ _
  exact contract H enc W base args ds gs before hval hW hL
theorem said : Rows.FnExactDepthsOfSaid :=
  OpenClaim.holds_of_cond 4 Tryd.f4 rfl rfl rfl rfl rfl rfl rfl ⟨rfl, rfl, rfl, rfl, rfl⟩ rfl rfl rfl rfl rfl (by kernel_rfl) Tryd.func4 (by kernel_rfl)
    (of_decide_eq_true (by kernel_rfl)) (by unfold Func.isWrapper; first | (rw [if_pos (by decide +kernel)]; kernel_rfl) | (rw [if_neg (by decide +kernel)]; exact ⟨rfl, rfl⟩))
    (fun os started H enc _ F => by rw [OpenClaim.pre_eq_preRow]; exact lifted os started H enc F)
theorem plain (f : FuncId) (fn : Func) (hf : Tryd.pinned.checked.prog.funcNamed "loop.example/g00376/laws.FnExactDepthsOf" = some f) (hfn : Tryd.pinned.checked.prog.funcs[f]? = some fn) :
    false = Tryd.pinned.checked.prog.looks [] ∧ ∀ (j : Nat) t, fn.params[j]? = some t → Tryd.pinned.checked.prog.wantsStandIn t = false := by
  obtain rfl : f = 4 := Option.some.inj ((show Tryd.prog.funcNamed "loop.example/g00376/laws.FnExactDepthsOf" = some 4 by kernel_rfl).symm.trans hf) |>.symm
  obtain rfl : fn = Tryd.f4 := (Option.some.inj (Tryd.func4.symm.trans hfn)).symm
  refine ⟨by kernel_rfl, fun j t ht => ?_⟩
  rw [Tryd.params4] at ht
  obtain rfl : t = 29 := by simpa using Array.mem_of_getElem? ht
  exact (show Tryd.prog.wantsStandIn 29 = false by kernel_rfl)
theorem over : Rows.FnExactDepthsOfCardSaid :=
  Claim7.holds_tied_plain_at .later [] _ _ _ _ said (fun _ h => by cases h) (by kernel_rfl) (fun _ h => by cases h) fnExactDepthsOf_row_tie rfl ⟨rfl, rfl⟩ (by kernel_rfl) rfl plain (by kernel_rfl)

end Go.Proofs.YtopjkiifajlkhaaDoor.fnExactDepthsOf
namespace Go.Proofs.YtopjkiifajlkhaaDoor
theorem fnExactDepthsOf_holds : Rows.FnExactDepthsOfCardSaid := fnExactDepthsOf.over
end Go.Proofs.YtopjkiifajlkhaaDoor
