/- At every string ReadProg answers as its specification, writes into no argument, and its answer owns its memory, where the package's variables start as the program's text lays them. No other condition. -/
import Derived.Test.YtdapgihghbmlfaaDoorRpSpec
import Derived.Test.YtdapgihghbmlfaaDoorInEq
import Derived.Test.YtdapgihghbmlfaaDoorMarkRecs
import Derived.Test.YtdapgihghbmlfaaDoorHeldRecs
import Derived.Test.YtdapgihghbmlfaaDoorVmCnt
import Derived.Test.YtdapgihghbmlfaaDoorDoorTabsB
import Derived.ProofKit
import Derived.OpenShut
import Derived.ShutString
import Derived.ChangeOld
import Derived.Below
import Derived.ChangeMaps5
import Derived.Laws.Cover1
namespace Go.Proofs.YtdapgihghbmlfaaDoor.fnExactReadProg
open Go.ChangeShapes Go.WideShapes Go.ChangeAt Go.RowKit
open Go.ChangeMaps (open_string shut_string)
theorem _root_.Go.Proofs.YtdapgihghbmlfaaDoor.ReadsP.one {s : ByteArray} {x y : List InstrD} {b c : Bool} (h1 : ReadsP s x b) (h2 : ReadsP s y c) : x = y ∧ b = c := readsP_same h1 h2
theorem reads_cnt {s : ByteArray} {x : List InstrD} {b : Bool} (h : ReadsP s x b) : (1 : Int) + (cntL cntInstr x : Nat) ≤ 4611686018427387904 := by
  refine cntL_instr ?_
  rcases h with ⟨_, h, _⟩ | ⟨_, rfl, _⟩
  · have := h.parts.2.1; omega
  · simp
theorem own_on {w w' : World} {v : Value} {x : List InstrD} {fs : List Nat} (h : SeqOwn 3 InstrOwn w v x fs) (hb : Below w.heap.size w w') : SeqOwn 3 InstrOwn w' v x fs := h.stays InstrOwn_stays (fun b q => hb.block b (h.lt InstrOwn_lt b q))
theorem own_out {w w' : World} {v : Value} {x : List InstrD} {fs gs : List Nat} (h : SeqOwn 3 InstrOwn w v x fs) (hb : Out gs w w') (hn : ∀ b ∈ fs, b ∉ gs) : SeqOwn 3 InstrOwn w' v x fs := h.stays InstrOwn_stays (fun b q => hb.keep (h.lt InstrOwn_lt b q) (hn b q))
set_option maxRecDepth 100000 in
set_option maxHeartbeats 6400000 in
theorem walk (s : ByteArray) (w : World) (hT0 : Tb w) :
    Calls Tryd.prog 4 #[.string s] w fun e w' => e = .returned (.bool true) ∧ Below w.heap.size w w' := by
  by_cases hbig : (1048576 : Int) < (s.size : Int)
  · go_enter Tryd.func4, Tryd.ntmps4
    go_wp2
    go_ret
    exact ⟨rfl, Below.refl _ _⟩
  have hT : Hid (Tb w) := hT0
  clear hT0
  have hss : Hid (s.size ≤ 1048576) := by show _ ≤ _; omega
  go_enter Tryd.func4, Tryd.ntmps4
  go_wp2_with fail
  clear hbig
  refine (specReadProg_any hss.out).mono ?_
  rintro e w1 ⟨aW, nW, cW, td, fW, bb, rfl, ownW, _, loW, hRW0, hb1⟩
  have hRW : Hid (ReadsP s td bb) := hRW0
  have hYC : Hid ((1 : Int) + (cntL cntInstr td : Nat) ≤ 4611686018427387904) := reads_cnt hRW.out
  have hB1 : Hid (Below w.heap.size w w1) := hb1
  have oW1 : Hid (SeqOwn 3 InstrOwn w1 (.slice aW nW cW) td fW) := ownW
  have hW1 : Hid (∀ b ∈ fW, b < w1.heap.size) := fun b q => ownW.lt InstrOwn_lt b q
  have s1 : w.heap.size ≤ w1.heap.size := hb1.size
  clear ownW loW hRW0 hb1
  go_wp2_with fail
  refine (implReadProg_any hss.out (hT.out.below hB1.out hT.out.lt)).mono ?_
  rintro e w2 ⟨aG, nG, cG, tg, fG, bg, rfl, ownG, _, loG, hRG, hb2⟩
  obtain ⟨e1, e2⟩ := hRG.one hRW.out
  subst e1
  subst e2
  have hB2 : Hid (Below w.heap.size w w2) := hB1.out.trans (hb2.mono hB1.out.size)
  have oW2 : Hid (SeqOwn 3 InstrOwn w2 (.slice aW nW cW) tg fW) := own_on oW1.out hb2
  have oG2 : Hid (SeqOwn 3 InstrOwn w2 (.slice aG nG cG) tg fG) := ownG
  have hG2 : Hid (∀ b ∈ fG, b < w2.heap.size ∧ w1.heap.size ≤ b) := fun b q => ⟨ownG.lt InstrOwn_lt b q, loG b q⟩
  clear ownG loG hRG hb2 oW1 hB1
  go_wp2_with fail
  refine (eqInstrS_any (lo := 0) (lo2 := 0) (oG2.out.at InstrOwn_at (fun _ _ => Nat.zero_le _)) (oW2.out.at InstrOwn_at (fun _ _ => Nat.zero_le _))).mono ?_
  rintro e w3 ⟨rfl, hb3⟩
  have hB3 : Hid (Below w.heap.size w w3) := hB2.out.trans (hb3.mono hB2.out.size)
  have oW3 : Hid (SeqOwn 3 InstrOwn w3 (.slice aW nW cW) tg fW) := own_on oW2.out hb3
  have oG3 : Hid (SeqOwn 3 InstrOwn w3 (.slice aG nG cG) tg fG) := own_on oG2.out hb3
  clear hb3 hB2 oW2 oG2
  go_wp2_with fail
  refine (markInstrS_any oG3.out (by omega) hYC.out).mono ?_
  rintro e w4 ⟨rfl, own4, ho4⟩
  have oG4 : Hid (SeqOwn 3 InstrOwn w4 (.slice aG nG cG) (mkL cntInstr mkInstr tg 1) fG) := own4
  have oW4 : Hid (SeqOwn 3 InstrOwn w4 (.slice aW nW cW) tg fW) := own_out oW3.out ho4 (fun b q q' => by have := hW1.out b q; have := (hG2.out b q').2; omega)
  have hB4 : Hid (Below w.heap.size w w4) := hB3.out.trans (ho4.below hB3.out.size (fun x hx => by have := (hG2.out x hx).2; omega))
  clear own4 ho4 hB3 oW3 oG3
  generalize hCI : (1 : Int) + (cntL cntInstr tg : Nat) = M at *
  have hCI' : Hid ((1 : Int) + (cntL cntInstr tg : Nat) = M) := hCI
  clear hCI
  have hM0 : 0 ≤ M := by have := hCI'.out; omega
  have hM1 : decide (M < 0) = false := by simp; omega
  go_wp2_with fail
  refine (heldInstrS_any (lo := 0) (m := 1) (xs := tg) (oG4.out.at InstrOwn_at (fun _ _ => Nat.zero_le _)) (by omega) (by rw [hCI'.out]; exact hYC.out)).mono ?_
  rintro e w5 ⟨rfl, hb5⟩
  rw [hCI'.out]
  have hB5 : Hid (Below w.heap.size w w5) := hB4.out.trans (hb5.mono hB4.out.size)
  have oW5 : Hid (SeqOwn 3 InstrOwn w5 (.slice aW nW cW) tg fW) := own_on oW4.out hb5
  have oG5 : Hid (SeqOwn 3 InstrOwn w5 (.slice aG nG cG) (mkL cntInstr mkInstr tg 1) fG) := own_on oG4.out hb5
  clear hb5 hB4 oW4 oG4
  go_wp2_with fail
  refine (implReadProg_any hss.out (hT.out.below hB5.out hT.out.lt)).mono ?_
  rintro e w6 ⟨aH, nH, cH, th, fH, bh, rfl, ownH, _, _, hRH, hb6⟩
  obtain ⟨e1, e2⟩ := hRH.one hRW.out
  subst e1
  subst e2
  have hB6 : Hid (Below w.heap.size w w6) := hB5.out.trans (hb6.mono hB5.out.size)
  have oW6 : Hid (SeqOwn 3 InstrOwn w6 (.slice aW nW cW) th fW) := own_on oW5.out hb6
  have oG6 : Hid (SeqOwn 3 InstrOwn w6 (.slice aG nG cG) (mkL cntInstr mkInstr th 1) fG) := own_on oG5.out hb6
  have oH6 : Hid (SeqOwn 3 InstrOwn w6 (.slice aH nH cH) th fH) := ownH
  clear ownH hRH hb6 hB5 oW5 oG5
  go_wp2_with fail
  refine (eqInstrS_any (lo := 0) (lo2 := 0) (oH6.out.at InstrOwn_at (fun _ _ => Nat.zero_le _)) (oW6.out.at InstrOwn_at (fun _ _ => Nat.zero_le _))).mono ?_
  rintro e w7 ⟨rfl, hb7⟩
  have hB7 : Hid (Below w.heap.size w w7) := hB6.out.trans (hb7.mono hB6.out.size)
  have oG7 : Hid (SeqOwn 3 InstrOwn w7 (.slice aG nG cG) (mkL cntInstr mkInstr th 1) fG) := own_on oG6.out hb7
  clear hb7 hB6 oW6 oG6 oH6
  go_wp2_with fail
  refine (heldInstrS_any (lo := 0) (m := 1) (xs := th) (oG7.out.at InstrOwn_at (fun _ _ => Nat.zero_le _)) (by omega) (by rw [hCI'.out]; exact hYC.out)).mono ?_
  rintro e w8 ⟨rfl, hb8⟩
  rw [hCI'.out]
  have hB8 : Hid (Below w.heap.size w w8) := hB7.out.trans (hb8.mono hB7.out.size)
  clear hb8
  go_wp2_with fail
  go_ret
  exact ⟨rfl, hB8.out⟩
set_option maxRecDepth 100000 in
theorem contract (H : Type) (enc : TypeId × Value → H) (W : World) (base : Nat) (args : Array Value) (ds gs : List (DataW H)) (before : List MemPlace)
    (hval0 : ∀ (j : Nat) t v, Tryd.f4.params[j]? = some t → args[j]? = some v → Value.okWide Tryd.prog W .any base t v)
    (hW : DataW.Whole enc Tryd.prog Tryd.f4.params.toList Rows.fnExactReadProgSpec.vars false W args.toList ds gs before) (hL : laidMetH Tryd.prog Rows.fnExactReadProgRow.laid W) :
    Calls Tryd.prog 4 args W fun e W' => ∃ v, e = .returned v ∧ Rows.fnExactReadProgSpec.post enc Tryd.prog Tryd.f4 false true false false W args v W' := by
  have hval : ∀ (j : Nat) t v, Tryd.f4.params[j]? = some t → args[j]? = some v → Value.okWide Tryd.prog W .any base t v := hval0
  have hsg : Tb W := tb_of hL
  have hW' := hW
  obtain ⟨p, q, hA0, hV, rfl, hfz, hnd⟩ := hW
  have hA : DataW.TrodAll enc Tryd.prog W 0 (fun _ => true) true Tryd.f4.params.toList args.toList ds p := hA0
  rw [Tryd.params4] at hA hval
  obtain ⟨v0, vs0, d0, ds0, p0, q0, hargs, rfl, rfl, h0, r0⟩ := trodAll_cons hA
  obtain ⟨rfl, rfl, rfl⟩ := trodAll_nil r0
  obtain rfl : args = #[v0] := by cases args; simp_all
  have hV' := hV
  obtain ⟨_, _, _, _, g1, _, rfl, _⟩ := trodVars_one hV
  have k0 := h0
  have lt0 : ∀ x ∈ p0, x.block < W.heap.size := by obtain ⟨m, hm⟩ := k0; exact DataW.trod_lt m _ _ _ hm
  obtain ⟨a0, rfl, rfl, rfl, w0⟩ := open_string Tryd.underlying9 (hval 0 9 v0 rfl rfl) h0
  clear hA0 hval0
  refine (walk a0 W hsg).mono fun e W' ⟨he, bel⟩ => ?_
  subst he
  exact ⟨_, rfl, _, _, _, [], _, _, hW', trodAll_mk1 (shut_bool Tryd.underlying4 _), (trodAll_cons_mk (Below.trod d_laidOut (by kernel_rfl) (of_decide_eq_true (by kernel_rfl)) k0 bel lt0) trodAll_mk0), Below.trodVars d_laidOut bel (by kernel_rfl) hV', bel.frame _, fun h => by cases h⟩
theorem laid_met (os : Os) : laidMet Tryd.prog Rows.fnExactReadProgRow.laid (({ World.holding Tryd.prog os ⟨#[.cells #[.string ⟨#[118, 97, 108, 117, 101, 32, 111, 117, 116, 32, 111, 102, 32, 114, 97, 110, 103, 101]⟩] 136, .cells #[.string ⟨#[105, 110, 118, 97, 108, 105, 100, 32, 115, 121, 110, 116, 97, 120]⟩] 136], #[], []⟩ with heap := (((((((World.holding Tryd.prog os ⟨#[.cells #[.string ⟨#[118, 97, 108, 117, 101, 32, 111, 117, 116, 32, 111, 102, 32, 114, 97, 110, 103, 101]⟩] 136, .cells #[.string ⟨#[105, 110, 118, 97, 108, 105, 100, 32, 115, 121, 110, 116, 97, 120]⟩] 136], #[], []⟩).heap.modify 0 fun | .cells _ t frozen => .cells (tabL.toArray) t frozen | o => o).modify 1 fun | .cells _ t frozen => .cells ((Lib.pow10Tab.map fun z => Value.int .u64 z).toArray) t frozen | o => o).modify 3 fun | .cells _ t frozen => .cells ((db32L.map fun z => Value.int .u8 z).toArray) t frozen | o => o).modify 4 fun | .cells _ t frozen => .cells ((db64L.map fun z => Value.int .u8 z).toArray) t frozen | o => o).modify 5 fun | .cells _ t frozen => .cells (#[.iface 134 (.pointer (some ⟨13, 0, none⟩))]) t frozen | o => o).modify 6 fun | .cells _ t frozen => .cells (#[.iface 134 (.pointer (some ⟨12, 0, none⟩))]) t frozen | o => o) } : World).forCall (fun _ _ => 0) ⟨#[], #[Value.string ⟨#[]⟩], []⟩).memory :=
  laidMet_of_run' 80 (by kernel_rfl) (by kernel_rfl)
theorem reads (os : Os) {H : Type} (enc : TypeId × Value → H) : ∃ places, DataW.whole enc Tryd.prog (({ World.holding Tryd.prog os ⟨#[.cells #[.string ⟨#[118, 97, 108, 117, 101, 32, 111, 117, 116, 32, 111, 102, 32, 114, 97, 110, 103, 101]⟩] 136, .cells #[.string ⟨#[105, 110, 118, 97, 108, 105, 100, 32, 115, 121, 110, 116, 97, 120]⟩] 136], #[], []⟩ with heap := (((((((World.holding Tryd.prog os ⟨#[.cells #[.string ⟨#[118, 97, 108, 117, 101, 32, 111, 117, 116, 32, 111, 102, 32, 114, 97, 110, 103, 101]⟩] 136, .cells #[.string ⟨#[105, 110, 118, 97, 108, 105, 100, 32, 115, 121, 110, 116, 97, 120]⟩] 136], #[], []⟩).heap.modify 0 fun | .cells _ t frozen => .cells (tabL.toArray) t frozen | o => o).modify 1 fun | .cells _ t frozen => .cells ((Lib.pow10Tab.map fun z => Value.int .u64 z).toArray) t frozen | o => o).modify 3 fun | .cells _ t frozen => .cells ((db32L.map fun z => Value.int .u8 z).toArray) t frozen | o => o).modify 4 fun | .cells _ t frozen => .cells ((db64L.map fun z => Value.int .u8 z).toArray) t frozen | o => o).modify 5 fun | .cells _ t frozen => .cells (#[.iface 134 (.pointer (some ⟨13, 0, none⟩))]) t frozen | o => o).modify 6 fun | .cells _ t frozen => .cells (#[.iface 134 (.pointer (some ⟨12, 0, none⟩))]) t frozen | o => o) } : World).forCall (fun _ _ => 0) ⟨#[], #[Value.string ⟨#[]⟩], []⟩).memory Tryd.f4.params.toList Rows.fnExactReadProgSpec.vars false #[Value.string ⟨#[]⟩].toList 80 = some ([.lit (.string [])], [Rows.laid_loop_example_g00376_impl_forms], places) :=
  ⟨MemPlace.row ⟨0, 0, none⟩ 75, by kernel_rfl⟩
set_option maxRecDepth 100000 in
theorem lifted (os : Os) (started : os.Started) (H : Type) (enc : TypeId × Value → H) (F : Stop.Interp) :
    ReturnsInHanded {} Tryd.checked os 4 .any ((OpenSpec.ofChange Rows.fnExactReadProgSpec).preRow enc Tryd.prog Tryd.f4 Rows.fnExactReadProgRow.domain false Rows.fnExactReadProgRow.laid) (((OpenSpec.ofChange Rows.fnExactReadProgSpec).at F).post enc Tryd.prog Tryd.f4 false true false false) := by
  obtain ⟨places, hx⟩ := reads os enc
  refine returnsInHanded_of_row (C := Tryd.checked) (s := OpenSpec.ofChange Rows.fnExactReadProgSpec) d_own started (by kernel_rfl) Tryd.func4
    (witness_row_at (enc := enc) (C := Tryd.checked) false ({ World.holding Tryd.prog os ⟨#[.cells #[.string ⟨#[118, 97, 108, 117, 101, 32, 111, 117, 116, 32, 111, 102, 32, 114, 97, 110, 103, 101]⟩] 136, .cells #[.string ⟨#[105, 110, 118, 97, 108, 105, 100, 32, 115, 121, 110, 116, 97, 120]⟩] 136], #[], []⟩ with heap := (((((((World.holding Tryd.prog os ⟨#[.cells #[.string ⟨#[118, 97, 108, 117, 101, 32, 111, 117, 116, 32, 111, 102, 32, 114, 97, 110, 103, 101]⟩] 136, .cells #[.string ⟨#[105, 110, 118, 97, 108, 105, 100, 32, 115, 121, 110, 116, 97, 120]⟩] 136], #[], []⟩).heap.modify 0 fun | .cells _ t frozen => .cells (tabL.toArray) t frozen | o => o).modify 1 fun | .cells _ t frozen => .cells ((Lib.pow10Tab.map fun z => Value.int .u64 z).toArray) t frozen | o => o).modify 3 fun | .cells _ t frozen => .cells ((db32L.map fun z => Value.int .u8 z).toArray) t frozen | o => o).modify 4 fun | .cells _ t frozen => .cells ((db64L.map fun z => Value.int .u8 z).toArray) t frozen | o => o).modify 5 fun | .cells _ t frozen => .cells (#[.iface 134 (.pointer (some ⟨13, 0, none⟩))]) t frozen | o => o).modify 6 fun | .cells _ t frozen => .cells (#[.iface 134 (.pointer (some ⟨12, 0, none⟩))]) t frozen | o => o) } : World) #[Value.string ⟨#[]⟩] rfl (by kernel_rfl) (by kernel_rfl) (by kernel_rfl)
      (OpenSpec.preRow_of_cond 80 hx (by kernel_rfl) (fun k hk => by cases hk) (by kernel_rfl) (laid_met os))) ?_
  intro W base args ds gs before hval hW _ _ _ hL _ _
  exact contract H enc W base args ds gs before hval hW hL
theorem said : Rows.FnExactReadProgSaid :=
  OpenClaim.holds_of_cond 4 Tryd.f4 rfl rfl rfl rfl rfl rfl rfl ⟨rfl, rfl, rfl, rfl, rfl⟩ rfl rfl rfl rfl rfl (by kernel_rfl) Tryd.func4 (by kernel_rfl)
    (of_decide_eq_true (by kernel_rfl)) (by unfold Func.isWrapper; first | (rw [if_pos (by decide +kernel)]; kernel_rfl) | (rw [if_neg (by decide +kernel)]; exact ⟨rfl, rfl⟩))
    (fun os started H enc _ F => by rw [OpenClaim.pre_eq_preRow]; exact lifted os started H enc F)
theorem plain (f : FuncId) (fn : Func) (hf : Tryd.pinned.checked.prog.funcNamed "loop.example/g00376/laws.FnExactReadProg" = some f) (hfn : Tryd.pinned.checked.prog.funcs[f]? = some fn) :
    true = Tryd.pinned.checked.prog.looks [] ∧ ∀ (j : Nat) t, fn.params[j]? = some t → Tryd.pinned.checked.prog.wantsStandIn t = false := by
  obtain rfl : f = 4 := Option.some.inj ((show Tryd.prog.funcNamed "loop.example/g00376/laws.FnExactReadProg" = some 4 by kernel_rfl).symm.trans hf) |>.symm
  obtain rfl : fn = Tryd.f4 := (Option.some.inj (Tryd.func4.symm.trans hfn)).symm
  refine ⟨by kernel_rfl, fun j t ht => ?_⟩
  rw [Tryd.params4] at ht
  obtain rfl : t = 9 := by simpa using Array.mem_of_getElem? ht
  exact (show Tryd.prog.wantsStandIn 9 = false by kernel_rfl)
theorem over : Rows.FnExactReadProgCardSaid :=
  Claim7.holds_tied_plain_at .later [] _ _ _ _ said (fun _ h => by cases h) (by kernel_rfl) (fun _ h => by cases h) fnExactReadProg_row_tie rfl ⟨rfl, rfl⟩ (by kernel_rfl) rfl plain (by kernel_rfl)

end Go.Proofs.YtdapgihghbmlfaaDoor.fnExactReadProg
namespace Go.Proofs.YtdapgihghbmlfaaDoor
theorem fnExactReadProg_holds : Rows.FnExactReadProgCardSaid := fnExactReadProg.over
end Go.Proofs.YtdapgihghbmlfaaDoor
