/- For every code that is drawn by, the text in the drawn mark is that of the specification and, where the mark is right, what stands between its tags, unescaped; where the table of signs starts as the program's text lays it; the code reads behind the call as it read before. -/
import Derived.Test.YtapjplecdfemeaaDoorDoorTab
import Derived.Test.YtapjplecdfemeaaDoorUmDraw
import Derived.Test.YtapjplecdfemeaaDoorUmWalk
import Derived.Test.YtapjplecdfemeaaDoorInTop
import Derived.Test.YtapjplecdfemeaaDoorMtTop
import Derived.Test.YtapjplecdfemeaaDoorUnImpl
namespace Go.Proofs.YtapjplecdfemeaaDoor.fnTextIn
open Go.ChangeShapes Go.WideShapes Go.ChangeAt Go.RowKit
open Go.ChangeMaps (open_string shut_string)
set_option maxHeartbeats 400000 in
theorem big_any {a : Option Addr} {n cap : Nat} (w : World) : Calls Tryd.prog 7 #[.slice a n cap] w fun e w' => e = .returned (.bool (decide ((1048576 : Int) < (n : Int)))) ∧ w' = w := by
  go_enter Tryd.func7, Tryd.ntmps7
  go_wp2
  go_ret
  exact ⟨rfl, rfl⟩
set_option maxRecDepth 100000 in
set_option maxHeartbeats 2000000 in
theorem walk {a : Option Addr} {n cap : Nat} (w : World) (hlen : n ≤ maxLen) (hcode : n ≤ 1048576 → CodeAt w a n) (hsg : Signs w) :
    Calls Tryd.prog 5 #[.slice a n cap] w fun e w' => e = .returned (.bool true) ∧ Below w.heap.size w w' := by
  unfold maxLen at hlen
  have hsg' : Hid (Signs w) := hsg
  clear hsg
  by_cases hbig : (1048576 : Int) < (n : Int)
  · clear hcode
    go_enter Tryd.func5, Tryd.ntmps5
    go_wp2_with (go_at_call 7; refine (big_any _).mono ?_; rintro e w' ⟨rfl, rfl⟩; rw [decide_eq_true hbig])
    go_ret
    exact ⟨rfl, Below.refl _ _⟩
  · have hc' : Hid (CodeAt w a n) := hcode (by omega)
    clear hcode
    go_enter Tryd.func5, Tryd.ntmps5
    go_wp2_with fail
    refine (big_any _).mono ?_
    rintro e w0 ⟨rfl, rfl⟩
    rw [decide_eq_false (show ¬ (1048576 : Int) < (n : Int) by omega)]
    go_wp2_with fail
    refine (drawTextIn_any hc'.out).mono ?_
    rintro e w2 ⟨⟨cs, x, rfl, hx⟩, hb2⟩
    have hx' : Hid (MarkAt 4 w2 (w0.heap.size + 1) cs x) := hx
    have hB2 : Hid (Below w0.heap.size w0 w2) := hb2
    obtain ⟨q2, q3, e, s2, s3, _⟩ := MarkAt.opened hx
    obtain ⟨x1, x2, x3⟩ := s2.form
    obtain ⟨y1, y2, y3⟩ := s3.form
    subst x3 y3 e
    clear hb2 hx s2 s3
    go_wp2_with fail
    have hbM : Hid (Below w2.heap.size w2 (w2.alloc (.cells #[.string x.vTag, .string x.vText, .slice x1 x.vAttrs.length x2, .slice y1 x.vKids.length y2] 31))) := (Below.refl _ _).alloc (Nat.le_refl _) _
    have bM : Hid (Box (w2.alloc (.cells #[.string x.vTag, .string x.vText, .slice x1 x.vAttrs.length x2, .slice y1 x.vKids.length y2] 31)) w2.heap.size [.string x.vTag, .string x.vText, .slice x1 x.vAttrs.length x2, .slice y1 x.vKids.length y2] 31) := Box.new w2 _ _
    refine (implTextIn_any (MarkAt.below hx'.out hbM.out)).mono ?_
    rintro e w3 ⟨rfl, hb3⟩
    have hx3 : Hid (MarkAt 4 w3 _ _ x) := MarkAt.below (MarkAt.below hx'.out hbM.out) hb3
    have bM3 : Hid (Box w3 w2.heap.size [.string x.vTag, .string x.vText, .slice x1 x.vAttrs.length x2, .slice y1 x.vKids.length y2] 31) := bM.out.below hb3 bM.out.lt
    have hB3 : Hid (Below w0.heap.size w0 w3) := (hB2.out.trans (hbM.out.mono hB2.out.size)).trans (hb3.mono (Nat.le_trans hB2.out.size hbM.out.size))
    have c0 := bM3.out.cell 0 rfl
    have c1 := bM3.out.cell 1 rfl
    have c2 := bM3.out.cell 2 rfl
    have c3 := bM3.out.cell 3 rfl
    clear hb3 bM
    go_wp2_with fail
    refine (specTextIn_any hx3.out).mono ?_
    rintro e w4 ⟨rfl, hb4⟩
    have hx4 : Hid (MarkAt 4 w4 _ _ x) := MarkAt.below hx3.out hb4
    have bM4 : Hid (Box w4 w2.heap.size [.string x.vTag, .string x.vText, .slice x1 x.vAttrs.length x2, .slice y1 x.vKids.length y2] 31) := bM3.out.below hb4 bM3.out.lt
    have hB4 : Hid (Below w0.heap.size w0 w4) := hB3.out.trans (hb4.mono hB3.out.size)
    clear hb4 c0 c1 c2 c3
    have c0 := bM4.out.cell 0 rfl
    have c1 := bM4.out.cell 1 rfl
    have c2 := bM4.out.cell 2 rfl
    have c3 := bM4.out.cell 3 rfl
    go_wp2_with fail
    refine (specMarkOk_any hx4.out).mono ?_
    rintro e w5 ⟨rfl, hb5⟩
    have hx5 : Hid (MarkAt 4 w5 _ _ x) := MarkAt.below hx4.out hb5
    have bM5 : Hid (Box w5 w2.heap.size [.string x.vTag, .string x.vText, .slice x1 x.vAttrs.length x2, .slice y1 x.vKids.length y2] 31) := bM4.out.below hb5 bM4.out.lt
    have hB5 : Hid (Below w0.heap.size w0 w5) := hB4.out.trans (hb5.mono hB4.out.size)
    clear hb5 c0 c1 c2 c3
    have c0 := bM5.out.cell 0 rfl
    have c1 := bM5.out.cell 1 rfl
    have c2 := bM5.out.cell 2 rfl
    have c3 := bM5.out.cell 3 rfl
    cases hq : okM (mzD 4 x 30)
    · have HQ : Hid _ := hq
      clear hq
      go_wp2_with fail
      refine (specTextIn_any hx5.out).mono ?_
      rintro e w6 ⟨rfl, hb6⟩
      have hB6 : Hid (Below w0.heap.size w0 w6) := hB5.out.trans (hb6.mono hB5.out.size)
      go_wp2_with fail
      go_ret
      exact ⟨by simp, hB6.out⟩
    · have hin : Hid (inR 4 x = ⟨(inD 4 x).toArray⟩) := inR_yes hq
      have hmt : Hid (mtR 4 x = ⟨(mtD 4 x).toArray⟩) := mtR_yes hq
      have hml : Hid ((mtD 4 x).length ≤ 1048576) := ok_mt hq
      have hun : Hid (unmF false (mtD 4 x) = escL (inD 4 x)) := by
        show _ = _
        cases hz : mzD 4 x 30 with
        | none => rw [hz] at hq; cases hq
        | some m => exact mt_unm_all hz
      have hs5 : Hid (Signs w5) := Signs.below hsg'.out hB5.out (Signs.lt hsg'.out)
      clear hq
      go_wp2_with fail
      refine (implMarkText_any hx5.out hs5.out).mono ?_
      rintro e w6 ⟨rfl, hb6⟩
      have hB6 : Hid (Below w0.heap.size w0 w6) := hB5.out.trans (hb6.mono hB5.out.size)
      have hmz : Hid ((mtR 4 x).size ≤ 1048576) := by show _ ≤ _; rw [hmt.out]; show (mtD 4 x).toArray.size ≤ _; rw [List.size_toArray]; exact hml.out
      have hmd : Hid ((mtR 4 x).data.toList = mtD 4 x) := by show _ = _; rw [hmt.out]
      generalize mtR 4 x = mt at *
      clear hb6
      go_wp2_with fail
      refine (unmarked_any mt _ hmz.out).mono ?_
      rintro e w7 ⟨⟨r, rfl, hr, hrs⟩, rfl⟩
      have hs6 : Hid (Signs w7) := Signs.below hsg'.out hB6.out (Signs.lt hsg'.out)
      have hru : Hid (unL r.data.toList = some (inD 4 x)) := by show _ = _; rw [hr, hmd.out, hun.out]; exact unL_esc _
      have hrz : Hid (r.size ≤ 1048576) := Nat.le_trans hrs hmz.out
      clear hr hrs
      go_wp2_with fail
      refine (implUnescaped_any r _ hrz.out hs6.out).mono ?_
      rintro e w8 ⟨rfl, hb8⟩
      have hB8 : Hid (Below w0.heap.size w0 w8) := hB6.out.trans (hb8.mono hB6.out.size)
      rw [hru.out, show unV (some (inD 4 x)) = .tuple #[.string ⟨(inD 4 x).toArray⟩, .bool true] from rfl]
      rw [hin.out]
      generalize (⟨(inD 4 x).toArray⟩ : ByteArray) = tt at *
      clear hb8
      go_wp2_with fail
      go_ret
      exact ⟨by simp, hB8.out⟩

/-- a cell that holds a byte -/
def U8At (_ : World) (_ : Nat) (cs : List Value) (x : Int) : Prop := cs = [.int .u8 x] ∧ 0 ≤ x ∧ x ≤ 255
theorem u8At_of_trod {H : Type} {enc : TypeId × Value → H} {w : World} {spare : Nat → Bool} {held : Bool} (n : Nat) (cs : List Value) (y : DataW H × List MemPlace) (h : DataW.trod enc Tryd.prog w 0 spare held n 5 cs = some y) : ∃ x, U8At w 0 cs x := by
  obtain ⟨x, e, _, hw⟩ := DataW.trod_int Tryd.underlying5 h
  refine ⟨x, e, ?_⟩
  simp [Lit.wf, IntKind.min, IntKind.max, IntKind.signed, IntKind.bits] at hw
  omega
theorem code_of {w : World} {a : Option Addr} {n cap : Nat} {xs : List Int} (h : SeqAt 1 U8At w 0 (.slice a n cap) xs) (hn : n ≤ 1048576) : CodeAt w a n := by
  obtain ⟨a', cap', e, hm, hx⟩ := h
  injection e with e1 e2 e3
  subst e1 e2 e3
  refine ⟨hn, fun h0 => ?_⟩
  obtain ⟨b, off, e, _, h2, h3⟩ := hx h0
  refine ⟨b, off, e, h2, fun i hi => ?_⟩
  obtain ⟨cs, hl, lie, rfl, hr⟩ := h3 i hi
  have := lie 0 (by simp)
  simp only [List.getElem?_cons_zero, Nat.add_zero, Nat.mul_one] at this
  exact ⟨_, this, hr⟩
theorem contract (H : Type) (enc : TypeId × Value → H) (W : World) (base : Nat) (args : Array Value) (ds gs : List (DataW H)) (before : List MemPlace)
    (hval0 : ∀ (j : Nat) t v, Tryd.f5.params[j]? = some t → args[j]? = some v → Value.okWide Tryd.prog W .any base t v)
    (hW : DataW.Whole enc Tryd.prog Tryd.f5.params.toList Rows.fnTextInSpec.vars false W args.toList ds gs before) (hL : laidMetH Tryd.prog Rows.fnTextInRow.laid W) :
    Calls Tryd.prog 5 args W fun e W' => ∃ v, e = .returned v ∧ Rows.fnTextInSpec.post enc Tryd.prog Tryd.f5 false true false false W args v W' := by
  have hval : ∀ (j : Nat) t v, Tryd.f5.params[j]? = some t → args[j]? = some v → Value.okWide Tryd.prog W .any base t v := hval0
  have hsg : Signs W := signs_of hL
  have hW' := hW
  obtain ⟨p, q, hA0, hV, rfl, hfz, hnd⟩ := hW
  have hA : DataW.TrodAll enc Tryd.prog W 0 (fun _ => true) true Tryd.f5.params.toList args.toList ds p := hA0
  rw [Tryd.params5] at hA hval
  obtain ⟨v0, vs0, d0, ds0, p0, q0, hargs, rfl, rfl, h0, r0⟩ := trodAll_cons hA
  obtain ⟨rfl, rfl, rfl⟩ := trodAll_nil r0
  obtain rfl : args = #[v0] := by cases args; simp_all
  have hV' := hV
  obtain ⟨_, _, _, _, g1, _, rfl, _⟩ := trodVars_one hV
  have k0 := h0
  have lt0 : ∀ x ∈ p0, x.block < W.heap.size := by obtain ⟨m, hm⟩ := k0; exact DataW.trod_lt m _ _ _ hm
  obtain ⟨l1, n1, q1, rfl⟩ := okWide_slice Tryd.underlying22 (hval 0 22 v0 rfl rfl)
  obtain ⟨fuel, hf⟩ := h0
  obtain ⟨kI, xs, ecs, hti⟩ := seqAt_of_trod (R := U8At) Tryd.underlying22 (show Tryd.prog.cellsOf 5 = 1 from by kernel_rfl) (by decide) u8At_of_trod hf
  obtain rfl : Value.slice l1 n1 q1 = kI := by simpa [Value.cells] using ecs
  have hlen : n1 ≤ maxLen := by
    obtain ⟨a', cap', e, hm, _⟩ := id hti
    injection e with _ e2 _
    omega
  clear hA0 hval0
  refine (walk W hlen (code_of hti) hsg).mono fun e W' ⟨he, bel⟩ => ?_
  subst he
  exact ⟨_, rfl, _, _, _, [], _, _, hW', trodAll_mk1 (shut_bool Tryd.underlying4 _), (trodAll_cons_mk (Below.trod d_laidOut (by kernel_rfl) (of_decide_eq_true (by kernel_rfl)) k0 bel lt0) trodAll_mk0), Below.trodVars d_laidOut bel (by kernel_rfl) hV', bel.frame _, fun h => by cases h⟩
theorem laid_met (os : Os) : laidMet Tryd.prog Rows.fnTextInRow.laid (({ World.holding Tryd.prog os ⟨#[], #[], []⟩ with heap := (World.holding Tryd.prog os ⟨#[], #[], []⟩).heap.modify 0 fun | .cells _ t frozen => .cells #[.int .u8 38, .string ampS, .int .u8 60, .string ltG, .int .u8 62, .string gtS, .int .u8 34, .string quotS] t frozen | o => o } : World).forCall (fun _ _ => 0) ⟨#[], #[.slice none 0 0], []⟩).memory :=
  laidMet_of_run' 8 (by kernel_rfl) (by kernel_rfl)
theorem reads (os : Os) {H : Type} (enc : TypeId × Value → H) : ∃ places, DataW.whole enc Tryd.prog (({ World.holding Tryd.prog os ⟨#[], #[], []⟩ with heap := (World.holding Tryd.prog os ⟨#[], #[], []⟩).heap.modify 0 fun | .cells _ t frozen => .cells #[.int .u8 38, .string ampS, .int .u8 60, .string ltG, .int .u8 62, .string gtS, .int .u8 34, .string quotS] t frozen | o => o } : World).forCall (fun _ _ => 0) ⟨#[], #[.slice none 0 0], []⟩).memory Tryd.f5.params.toList Rows.fnTextInSpec.vars false #[Value.slice none 0 0].toList 8 = some ([.nil], [Rows.laid_loop_example_g00376_impl_signs], places) :=
  ⟨MemPlace.row ⟨0, 0, none⟩ 8, by kernel_rfl⟩
set_option maxRecDepth 100000 in
theorem lifted (os : Os) (started : os.Started) (H : Type) (enc : TypeId × Value → H) (F : Stop.Interp) :
    ReturnsInHanded {} Tryd.checked os 5 .any ((OpenSpec.ofChange Rows.fnTextInSpec).preRow enc Tryd.prog Tryd.f5 Rows.fnTextInRow.domain false Rows.fnTextInRow.laid) (((OpenSpec.ofChange Rows.fnTextInSpec).at F).post enc Tryd.prog Tryd.f5 false true false false) := by
  obtain ⟨places, hx⟩ := reads os enc
  refine returnsInHanded_of_row (C := Tryd.checked) (s := OpenSpec.ofChange Rows.fnTextInSpec) d_own started (by kernel_rfl) Tryd.func5
    (witness_row_at (enc := enc) (C := Tryd.checked) false ({ World.holding Tryd.prog os ⟨#[], #[], []⟩ with heap := (World.holding Tryd.prog os ⟨#[], #[], []⟩).heap.modify 0 fun | .cells _ t frozen => .cells #[.int .u8 38, .string ampS, .int .u8 60, .string ltG, .int .u8 62, .string gtS, .int .u8 34, .string quotS] t frozen | o => o } : World) #[.slice none 0 0] rfl (by kernel_rfl) (by kernel_rfl) (by kernel_rfl)
      (OpenSpec.preRow_of_cond 8 hx (by kernel_rfl) (fun k hk => by cases hk) (by kernel_rfl) (laid_met os))) ?_
  intro W base args ds gs before hval hW _ _ _ hL _ _
  exact contract H enc W base args ds gs before hval hW hL
theorem said : Rows.FnTextInSaid :=
  OpenClaim.holds_of_cond 5 Tryd.f5 rfl rfl rfl rfl rfl rfl rfl ⟨rfl, rfl, rfl, rfl, rfl⟩ rfl rfl rfl rfl rfl (by kernel_rfl) Tryd.func5 (by kernel_rfl)
    (of_decide_eq_true (by kernel_rfl)) (by unfold Func.isWrapper; first | (rw [if_pos (by decide +kernel)]; kernel_rfl) | (rw [if_neg (by decide +kernel)]; exact ⟨rfl, rfl⟩))
    (fun os started H enc _ F => by rw [OpenClaim.pre_eq_preRow]; exact lifted os started H enc F)
theorem plain (f : FuncId) (fn : Func) (hf : Tryd.pinned.checked.prog.funcNamed "loop.example/g00376/laws.FnTextIn" = some f) (hfn : Tryd.pinned.checked.prog.funcs[f]? = some fn) :
    false = Tryd.pinned.checked.prog.looks [] ∧ ∀ (j : Nat) t, fn.params[j]? = some t → Tryd.pinned.checked.prog.wantsStandIn t = false := by
  obtain rfl : f = 5 := Option.some.inj ((show Tryd.prog.funcNamed "loop.example/g00376/laws.FnTextIn" = some 5 by kernel_rfl).symm.trans hf) |>.symm
  obtain rfl : fn = Tryd.f5 := (Option.some.inj (Tryd.func5.symm.trans hfn)).symm
  refine ⟨by kernel_rfl, fun j t ht => ?_⟩
  rw [Tryd.params5] at ht
  obtain rfl : t = 22 := by simpa using Array.mem_of_getElem? ht
  exact (show Tryd.prog.wantsStandIn 22 = false by kernel_rfl)
theorem card : Rows.FnTextInCardSaid :=
  Claim7.holds_tied_plain_at .later [] _ _ _ _ said (fun _ h => by cases h) (by kernel_rfl) (fun _ h => by cases h) fnTextIn_row_tie rfl ⟨rfl, rfl⟩ (by kernel_rfl) rfl plain (by kernel_rfl)
end Go.Proofs.YtapjplecdfemeaaDoor.fnTextIn
namespace Go.Proofs.YtapjplecdfemeaaDoor
theorem fnTextIn_holds : Rows.FnTextInCardSaid := fnTextIn.card
end Go.Proofs.YtapjplecdfemeaaDoor
