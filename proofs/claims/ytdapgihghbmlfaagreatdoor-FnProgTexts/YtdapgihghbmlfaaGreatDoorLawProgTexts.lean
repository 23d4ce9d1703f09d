/- For every code FnProgTexts returns true and writes into no argument, where the package's variables start as the program's text lays them. No other condition. -/
import Derived.Test.YtdapgihghbmlfaaGreatDoorDoorTabsB
import Derived.Test.YtdapgihghbmlfaaGreatDoorPgGo
namespace Go.Proofs.YtdapgihghbmlfaaGreatDoor.fnProgTexts
open Go.ChangeShapes Go.WideShapes Go.ChangeAt Go.RowKit
open Go.ChangeMaps (open_string shut_string)
/-- a cell that holds a byte -/
def U8At (_ : World) (_ : Nat) (cs : List Value) (x : Int) : Prop := cs = [.int .u8 x] ∧ 0 ≤ x ∧ x ≤ 255
theorem u8At_of_trod {H : Type} {enc : TypeId × Value → H} {w : World} {spare : Nat → Bool} {held : Bool} (n : Nat) (cs : List Value) (y : DataW H × List MemPlace) (h : DataW.trod enc Tryz.prog w 0 spare held n 5 cs = some y) : ∃ x, U8At w 0 cs x := by
  obtain ⟨x, e, _, hw⟩ := DataW.trod_int Tryz.underlying5 h
  refine ⟨x, e, ?_⟩
  simp [Lit.wf, IntKind.min, IntKind.max, IntKind.signed, IntKind.bits] at hw
  omega
theorem code_of {w : World} {a : Option Addr} {n cap : Nat} {xs : List Int} (h : SeqAt 1 U8At w 0 (.slice a n cap) xs) (hn : n ≤ 1048576) : CodeAt w a n := by
  obtain ⟨a', cap', e, hm, hx⟩ := h
  injection e with e1 e2 e3
  subst e1 e2 e3
  refine ⟨hn, fun h0 => ?_⟩
  obtain ⟨b, off, e, _, h2, h3⟩ := hx h0
  refine ⟨b, off, e, h2, fun i hi => ?_⟩
  obtain ⟨cs, hl, lie, rfl, hr⟩ := h3 i hi
  have := lie 0 (by simp)
  simp only [List.getElem?_cons_zero, Nat.add_zero, Nat.mul_one] at this
  exact ⟨_, this, hr⟩
set_option maxRecDepth 100000 in
theorem contract (H : Type) (enc : TypeId × Value → H) (W : World) (base : Nat) (args : Array Value) (ds gs : List (DataW H)) (before : List MemPlace)
    (hval0 : ∀ (j : Nat) t v, Tryz.f3.params[j]? = some t → args[j]? = some v → Value.okWide Tryz.prog W .any base t v)
    (hW : DataW.Whole enc Tryz.prog Tryz.f3.params.toList Rows.fnProgTextsSpec.vars false W args.toList ds gs before) (hL : laidMetH Tryz.prog Rows.fnProgTextsRow.laid W) :
    Calls Tryz.prog 3 args W fun e W' => ∃ v, e = .returned v ∧ Rows.fnProgTextsSpec.post enc Tryz.prog Tryz.f3 false true false false W args v W' := by
  have hval : ∀ (j : Nat) t v, Tryz.f3.params[j]? = some t → args[j]? = some v → Value.okWide Tryz.prog W .any base t v := hval0
  have hsg : Tb W := tb_of hL
  have hW' := hW
  obtain ⟨p, q, hA0, hV, rfl, hfz, hnd⟩ := hW
  have hA : DataW.TrodAll enc Tryz.prog W 0 (fun _ => true) true Tryz.f3.params.toList args.toList ds p := hA0
  rw [Tryz.params3] at hA hval
  obtain ⟨v0, vs0, d0, ds0, p0, q0, hargs, rfl, rfl, h0, r0⟩ := trodAll_cons hA
  obtain ⟨rfl, rfl, rfl⟩ := trodAll_nil r0
  obtain rfl : args = #[v0] := by cases args; simp_all
  have hV' := hV
  obtain ⟨_, _, _, _, g1, _, rfl, _⟩ := trodVars_one hV
  have k0 := h0
  have lt0 : ∀ x ∈ p0, x.block < W.heap.size := by obtain ⟨m, hm⟩ := k0; exact DataW.trod_lt m _ _ _ hm
  obtain ⟨l1, n1, q1, rfl⟩ := okWide_slice Tryz.underlying22 (hval 0 22 v0 rfl rfl)
  obtain ⟨fuel, hf⟩ := h0
  obtain ⟨kI, xs, ecs, hti⟩ := seqAt_of_trod (R := U8At) Tryz.underlying22 (show Tryz.prog.cellsOf 5 = 1 from by kernel_rfl) (by decide) u8At_of_trod hf
  obtain rfl : Value.slice l1 n1 q1 = kI := by simpa [Value.cells] using ecs
  have hlen : n1 ≤ maxLen := by
    obtain ⟨a', cap', e, hm, _⟩ := id hti
    injection e with _ e2 _
    omega
  clear hA0 hval0
  refine (walk W hlen (code_of hti) hsg).mono fun e W' ⟨he, bel⟩ => ?_
  subst he
  exact ⟨_, rfl, _, _, _, [], _, _, hW', trodAll_mk1 (shut_bool Tryz.underlying4 _), (trodAll_cons_mk (Below.trod d_laidOut (by kernel_rfl) (of_decide_eq_true (by kernel_rfl)) k0 bel lt0) trodAll_mk0), Below.trodVars d_laidOut bel (by kernel_rfl) hV', bel.frame _, fun h => by cases h⟩
theorem laid_met (os : Os) : laidMet Tryz.prog Rows.fnProgTextsRow.laid (({ World.holding Tryz.prog os ⟨#[.cells #[.string ⟨#[118, 97, 108, 117, 101, 32, 111, 117, 116, 32, 111, 102, 32, 114, 97, 110, 103, 101]⟩] 139, .cells #[.string ⟨#[105, 110, 118, 97, 108, 105, 100, 32, 115, 121, 110, 116, 97, 120]⟩] 139], #[], []⟩ with heap := (((((((World.holding Tryz.prog os ⟨#[.cells #[.string ⟨#[118, 97, 108, 117, 101, 32, 111, 117, 116, 32, 111, 102, 32, 114, 97, 110, 103, 101]⟩] 139, .cells #[.string ⟨#[105, 110, 118, 97, 108, 105, 100, 32, 115, 121, 110, 116, 97, 120]⟩] 139], #[], []⟩).heap.modify 0 fun | .cells _ t frozen => .cells (tabL.toArray) t frozen | o => o).modify 1 fun | .cells _ t frozen => .cells ((Lib.pow10Tab.map fun z => Value.int .u64 z).toArray) t frozen | o => o).modify 3 fun | .cells _ t frozen => .cells ((db32L.map fun z => Value.int .u8 z).toArray) t frozen | o => o).modify 4 fun | .cells _ t frozen => .cells ((db64L.map fun z => Value.int .u8 z).toArray) t frozen | o => o).modify 5 fun | .cells _ t frozen => .cells (#[.iface 137 (.pointer (some ⟨13, 0, none⟩))]) t frozen | o => o).modify 6 fun | .cells _ t frozen => .cells (#[.iface 137 (.pointer (some ⟨12, 0, none⟩))]) t frozen | o => o) } : World).forCall (fun _ _ => 0) ⟨#[], #[.slice none 0 0], []⟩).memory :=
  laidMet_of_run' 80 (by kernel_rfl) (by kernel_rfl)
theorem reads (os : Os) {H : Type} (enc : TypeId × Value → H) : ∃ places, DataW.whole enc Tryz.prog (({ World.holding Tryz.prog os ⟨#[.cells #[.string ⟨#[118, 97, 108, 117, 101, 32, 111, 117, 116, 32, 111, 102, 32, 114, 97, 110, 103, 101]⟩] 139, .cells #[.string ⟨#[105, 110, 118, 97, 108, 105, 100, 32, 115, 121, 110, 116, 97, 120]⟩] 139], #[], []⟩ with heap := (((((((World.holding Tryz.prog os ⟨#[.cells #[.string ⟨#[118, 97, 108, 117, 101, 32, 111, 117, 116, 32, 111, 102, 32, 114, 97, 110, 103, 101]⟩] 139, .cells #[.string ⟨#[105, 110, 118, 97, 108, 105, 100, 32, 115, 121, 110, 116, 97, 120]⟩] 139], #[], []⟩).heap.modify 0 fun | .cells _ t frozen => .cells (tabL.toArray) t frozen | o => o).modify 1 fun | .cells _ t frozen => .cells ((Lib.pow10Tab.map fun z => Value.int .u64 z).toArray) t frozen | o => o).modify 3 fun | .cells _ t frozen => .cells ((db32L.map fun z => Value.int .u8 z).toArray) t frozen | o => o).modify 4 fun | .cells _ t frozen => .cells ((db64L.map fun z => Value.int .u8 z).toArray) t frozen | o => o).modify 5 fun | .cells _ t frozen => .cells (#[.iface 137 (.pointer (some ⟨13, 0, none⟩))]) t frozen | o => o).modify 6 fun | .cells _ t frozen => .cells (#[.iface 137 (.pointer (some ⟨12, 0, none⟩))]) t frozen | o => o) } : World).forCall (fun _ _ => 0) ⟨#[], #[.slice none 0 0], []⟩).memory Tryz.f3.params.toList Rows.fnProgTextsSpec.vars false #[Value.slice none 0 0].toList 80 = some ([.nil], [Rows.laid_loop_example_g00376_impl_forms], places) :=
  ⟨MemPlace.row ⟨0, 0, none⟩ 75, by kernel_rfl⟩
set_option maxRecDepth 100000 in
theorem lifted (os : Os) (started : os.Started) (H : Type) (enc : TypeId × Value → H) (F : Stop.Interp) :
    ReturnsInHanded {} Tryz.checked os 3 .any ((OpenSpec.ofChange Rows.fnProgTextsSpec).preRow enc Tryz.prog Tryz.f3 Rows.fnProgTextsRow.domain false Rows.fnProgTextsRow.laid) (((OpenSpec.ofChange Rows.fnProgTextsSpec).at F).post enc Tryz.prog Tryz.f3 false true false false) := by
  obtain ⟨places, hx⟩ := reads os enc
  refine returnsInHanded_of_row (C := Tryz.checked) (s := OpenSpec.ofChange Rows.fnProgTextsSpec) d_own started (by kernel_rfl) Tryz.func3
    (witness_row_at (enc := enc) (C := Tryz.checked) false ({ World.holding Tryz.prog os ⟨#[.cells #[.string ⟨#[118, 97, 108, 117, 101, 32, 111, 117, 116, 32, 111, 102, 32, 114, 97, 110, 103, 101]⟩] 139, .cells #[.string ⟨#[105, 110, 118, 97, 108, 105, 100, 32, 115, 121, 110, 116, 97, 120]⟩] 139], #[], []⟩ with heap := (((((((World.holding Tryz.prog os ⟨#[.cells #[.string ⟨#[118, 97, 108, 117, 101, 32, 111, 117, 116, 32, 111, 102, 32, 114, 97, 110, 103, 101]⟩] 139, .cells #[.string ⟨#[105, 110, 118, 97, 108, 105, 100, 32, 115, 121, 110, 116, 97, 120]⟩] 139], #[], []⟩).heap.modify 0 fun | .cells _ t frozen => .cells (tabL.toArray) t frozen | o => o).modify 1 fun | .cells _ t frozen => .cells ((Lib.pow10Tab.map fun z => Value.int .u64 z).toArray) t frozen | o => o).modify 3 fun | .cells _ t frozen => .cells ((db32L.map fun z => Value.int .u8 z).toArray) t frozen | o => o).modify 4 fun | .cells _ t frozen => .cells ((db64L.map fun z => Value.int .u8 z).toArray) t frozen | o => o).modify 5 fun | .cells _ t frozen => .cells (#[.iface 137 (.pointer (some ⟨13, 0, none⟩))]) t frozen | o => o).modify 6 fun | .cells _ t frozen => .cells (#[.iface 137 (.pointer (some ⟨12, 0, none⟩))]) t frozen | o => o) } : World) #[.slice none 0 0] rfl (by kernel_rfl) (by kernel_rfl) (by kernel_rfl)
      (OpenSpec.preRow_of_cond 80 hx (by kernel_rfl) (fun k hk => by cases hk) (by kernel_rfl) (laid_met os))) ?_
  intro W base args ds gs before hval hW _ _ _ hL _ _
  exact contract H enc W base args ds gs before hval hW hL
theorem said : Rows.FnProgTextsSaid :=
  OpenClaim.holds_of_cond 3 Tryz.f3 rfl rfl rfl rfl rfl rfl rfl ⟨rfl, rfl, rfl, rfl, rfl⟩ rfl rfl rfl rfl rfl (by kernel_rfl) Tryz.func3 (by kernel_rfl)
    (of_decide_eq_true (by kernel_rfl)) (by unfold Func.isWrapper; first | (rw [if_pos (by decide +kernel)]; kernel_rfl) | (rw [if_neg (by decide +kernel)]; exact ⟨rfl, rfl⟩))
    (fun os started H enc _ F => by rw [OpenClaim.pre_eq_preRow]; exact lifted os started H enc F)
theorem plain (f : FuncId) (fn : Func) (hf : Tryz.pinned.checked.prog.funcNamed "loop.example/g00376/laws.FnProgTexts" = some f) (hfn : Tryz.pinned.checked.prog.funcs[f]? = some fn) :
    true = Tryz.pinned.checked.prog.looks [] ∧ ∀ (j : Nat) t, fn.params[j]? = some t → Tryz.pinned.checked.prog.wantsStandIn t = false := by
  obtain rfl : f = 3 := Option.some.inj ((show Tryz.prog.funcNamed "loop.example/g00376/laws.FnProgTexts" = some 3 by kernel_rfl).symm.trans hf) |>.symm
  obtain rfl : fn = Tryz.f3 := (Option.some.inj (Tryz.func3.symm.trans hfn)).symm
  refine ⟨by kernel_rfl, fun j t ht => ?_⟩
  rw [Tryz.params3] at ht
  obtain rfl : t = 22 := by simpa using Array.mem_of_getElem? ht
  exact (show Tryz.prog.wantsStandIn 22 = false by kernel_rfl)
theorem card : Rows.FnProgTextsCardSaid :=
  Claim7.holds_tied_plain_at .later [] _ _ _ _ said (fun _ h => by cases h) (by kernel_rfl) (fun _ h => by cases h) fnProgTexts_row_tie rfl ⟨rfl, rfl⟩ (by kernel_rfl) rfl plain (by kernel_rfl)
end Go.Proofs.YtdapgihghbmlfaaGreatDoor.fnProgTexts
namespace Go.Proofs.YtdapgihghbmlfaaGreatDoor
theorem fnProgTexts_holds : Rows.FnProgTextsCardSaid := fnProgTexts.card
end Go.Proofs.YtdapgihghbmlfaaGreatDoor
