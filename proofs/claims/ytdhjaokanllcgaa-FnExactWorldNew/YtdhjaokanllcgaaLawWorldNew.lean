/- At every number WorldNew answers as its specification, and its answer owns its memory, behind another call too. No condition. -/
import Derived.Test.YtdhjaokanllcgaaWorldTop
import Derived.ProofKit
import Derived.OpenShut
import Derived.ShutString
import Derived.ChangeOld
import Derived.Below
import Derived.ChangeMaps5
namespace Go.Proofs.Ytdhjaokanllcgaa.fnExactWorldNew
open Go.ChangeShapes Go.WideShapes Go.ChangeAt Go.RowKit
theorem own : ownKnob Try.prog.godebug = none := by kernel_rfl
theorem laidOut : laidOutB Try.prog = true := by kernel_rfl
theorem cnt_rep (k : Nat) : cntL cntHeap (List.replicate k newH) = k * cntHeap newH := by
  have : ∀ j, j ≤ k → pos cntHeap (List.replicate k newH) j = j * cntHeap newH := by
    intro j
    induction j with
    | zero => intro _; simp [pos_zero]
    | succ j ih =>
      intro hj
      rw [pos_succ (by simp; omega), ih (by omega), List.getElem_replicate, Nat.add_mul, Nat.one_mul]
  unfold cntL
  rw [List.length_replicate]
  exact this k (Nat.le_refl _)
theorem newWorld_cnt (n : Int) : (1 : Int) + (cntL cntHeap (newWorld n).1 : Nat) ≤ 4611686018427387904 := by
  unfold newWorld
  split
  · rename_i h
    simp [inB] at h
    rw [cnt_rep]
    have h1 : n.toNat ≤ 3 := by omega
    have h2 : cntHeap newH ≤ 100 := by decide
    have h3 := Nat.mul_le_mul h1 h2
    omega
  · simp [cntL, pos]
set_option maxRecDepth 100000 in
set_option maxHeartbeats 4000000 in
theorem walk {w : World} {n : Int} : Calls Try.prog 3 #[.int .i64 n] w fun e w' => e = .returned (.bool true) ∧ Below w.heap.size w w' := by
  have hYC : Hid ((1 : Int) + (cntL cntHeap (newWorld n).1 : Nat) ≤ 4611686018427387904) := newWorld_cnt n
  go_enter Try.func3, Try.ntmps3
  go_wp2_with fail
  refine specWorldNew_any.mono ?_
  rintro e w3 ⟨⟨csw, fw, rfl, own0, low0⟩, hB3⟩
  generalize hYS : newWorld n = rr at *
  have hYS' : Hid (newWorld n = rr) := hYS
  clear hYS
  obtain ⟨td, bb⟩ := rr
  dsimp only at own0 hYC ⊢
  have hw3 : Hid (∀ b ∈ fw, b < w3.heap.size) := WorldOwn_lt _ _ _ _ own0
  have s3 := hB3.size
  obtain ⟨aw, cw, rfl⟩ : ∃ aw cw, csw = [.slice aw td.length cw, .slice none 0 0] := by obtain ⟨k, e, hs⟩ := own0; obtain ⟨a, c, hk⟩ := hs.form; exact ⟨a, c, by rw [e, hk]⟩
  have hbV : Below w3.heap.size w3 (w3.alloc (.cells (List.toArray [.slice aw td.length cw, .slice none 0 0]) 25)) := (Below.refl _ _).alloc (Nat.le_refl _) _
  have hBV : Below w.heap.size w (w3.alloc (.cells (List.toArray [.slice aw td.length cw, .slice none 0 0]) 25)) := hB3.trans (hbV.mono hB3.size)
  have v0_0 : Hid (WorldOwn w3 [.slice aw td.length cw, .slice none 0 0] td fw) := own0
  clear own0 low0
  have v0_1 : Hid (WorldOwn (w3.alloc (.cells (List.toArray [.slice aw td.length cw, .slice none 0 0]) 25)) [.slice aw td.length cw, .slice none 0 0] td fw) := WorldOwn_stays _ _ _ _ _ (fun x hx => (hbV).block x (WorldOwn_lt _ _ _ _ v0_0.out x hx)) v0_0.out
  clear v0_0
  have bW_1 : Hid (Box (w3.alloc (.cells (List.toArray [.slice aw td.length cw, .slice none 0 0]) 25)) w3.heap.size [.slice aw td.length cw, .slice none 0 0] 25) := Box.new w3 _ _
  go_wp2_with fail
  refine implWorldNew_any.mono ?_
  rintro e w6 ⟨⟨csg, fg, rfl, owng, logg⟩, hb6⟩
  rw [hYS'.out] at owng ⊢
  dsimp only at owng ⊢
  have hB6 : Below w.heap.size w w6 := hBV.trans (hb6.mono hBV.size)
  have s6 : w3.heap.size + 1 ≤ w6.heap.size := by have := hb6.size; simpa using this
  have hg6 : Hid (∀ b ∈ fg, b < w6.heap.size ∧ w3.heap.size + 1 ≤ b) := fun b q => ⟨WorldOwn_lt _ _ _ _ owng b q, by have := logg b q; simpa using this⟩
  have v0_2 : Hid (WorldOwn w6 [.slice aw td.length cw, .slice none 0 0] td fw) := WorldOwn_stays _ _ _ _ _ (fun x hx => (hb6).block x (WorldOwn_lt _ _ _ _ v0_1.out x hx)) v0_1.out
  have bW_2 : Hid (Box w6 w3.heap.size [.slice aw td.length cw, .slice none 0 0] 25) := bW_1.out.below hb6 bW_1.out.lt
  clear v0_1 bW_1
  have z2_bW_0 := bW_2.out.cell 0 rfl
  have z2_bW_1 := bW_2.out.cell 1 rfl
  obtain ⟨ag, cg, rfl⟩ : ∃ ag cg, csg = [.slice ag td.length cg, .slice none 0 0] := by obtain ⟨k, e, hs⟩ := owng; obtain ⟨a, c, hk⟩ := hs.form; exact ⟨a, c, by rw [e, hk]⟩
  have g0_2 : Hid (WorldOwn w6 [.slice ag td.length cg, .slice none 0 0] td fg) := owng
  have hbG : Below w6.heap.size w6 (w6.alloc (.cells (List.toArray [.slice ag td.length cg, .slice none 0 0]) 25)) := (Below.refl _ _).alloc (Nat.le_refl _) _
  have hBG : Below w.heap.size w (w6.alloc (.cells (List.toArray [.slice ag td.length cg, .slice none 0 0]) 25)) := hB6.trans (hbG.mono hB6.size)
  clear owng logg hb6
  have v0_3 : Hid (WorldOwn (w6.alloc (.cells (List.toArray [.slice ag td.length cg, .slice none 0 0]) 25)) [.slice aw td.length cw, .slice none 0 0] td fw) := WorldOwn_stays _ _ _ _ _ (fun x hx => (hbG).block x (WorldOwn_lt _ _ _ _ v0_2.out x hx)) v0_2.out
  have bW_3 : Hid (Box (w6.alloc (.cells (List.toArray [.slice ag td.length cg, .slice none 0 0]) 25)) w3.heap.size [.slice aw td.length cw, .slice none 0 0] 25) := bW_2.out.below hbG bW_2.out.lt
  have g0_3 : Hid (WorldOwn (w6.alloc (.cells (List.toArray [.slice ag td.length cg, .slice none 0 0]) 25)) [.slice ag td.length cg, .slice none 0 0] td fg) := WorldOwn_stays _ _ _ _ _ (fun x hx => (hbG).block x (WorldOwn_lt _ _ _ _ g0_2.out x hx)) g0_2.out
  clear v0_2 bW_2 g0_2
  clear z2_bW_0 z2_bW_1
  have z3_bW_0 := bW_3.out.cell 0 rfl
  have z3_bW_1 := bW_3.out.cell 1 rfl
  have bG_3 : Hid (Box (w6.alloc (.cells (List.toArray [.slice ag td.length cg, .slice none 0 0]) 25)) w6.heap.size [.slice ag td.length cg, .slice none 0 0] 25) := Box.new w6 _ _
  go_wp2_with fail
  refine (eqWorld_any (lo := 0) (lo2 := 0) (by exact WorldOwn_at (lo := 0) _ _ _ _ g0_3.out (fun _ _ => Nat.zero_le _)) (by exact WorldOwn_at (lo := 0) _ _ _ _ v0_3.out (fun _ _ => Nat.zero_le _))).mono ?_
  rintro e w11 ⟨rfl, hb11⟩
  have hB11 : Below w.heap.size w w11 := hBG.trans (hb11.mono hBG.size)
  have s11 : w6.heap.size + 1 ≤ w11.heap.size := by have := hb11.size; simpa using this
  have v0_4 : Hid (WorldOwn w11 [.slice aw td.length cw, .slice none 0 0] td fw) := WorldOwn_stays _ _ _ _ _ (fun x hx => (hb11).block x (WorldOwn_lt _ _ _ _ v0_3.out x hx)) v0_3.out
  have bW_4 : Hid (Box w11 w3.heap.size [.slice aw td.length cw, .slice none 0 0] 25) := bW_3.out.below hb11 bW_3.out.lt
  have g0_4 : Hid (WorldOwn w11 [.slice ag td.length cg, .slice none 0 0] td fg) := WorldOwn_stays _ _ _ _ _ (fun x hx => (hb11).block x (WorldOwn_lt _ _ _ _ g0_3.out x hx)) g0_3.out
  have bG_4 : Hid (Box w11 w6.heap.size [.slice ag td.length cg, .slice none 0 0] 25) := bG_3.out.below hb11 bG_3.out.lt
  clear v0_3 bW_3 g0_3 bG_3
  clear z3_bW_0 z3_bW_1
  have z4_bW_0 := bW_4.out.cell 0 rfl
  have z4_bW_1 := bW_4.out.cell 1 rfl
  have z4_bG_0 := bG_4.out.cell 0 rfl
  have z4_bG_1 := bG_4.out.cell 1 rfl
  go_wp2_with fail
  refine (markWorld_any g0_4.out (by omega) hYC.out).mono ?_
  rintro e w12 ⟨rfl, own12, ho12⟩
  have s12 := ho12.2.2.2.1
  have hB12 : Below w.heap.size w w12 := hB11.trans (ho12.below hB11.size (fun x hx => by have := hg6.out x hx; omega))
  have v0_5 : Hid (WorldOwn w12 [.slice aw td.length cw, .slice none 0 0] td fw) := WorldOwn_stays _ _ _ _ _ (fun x hx => (ho12).keep (WorldOwn_lt _ _ _ _ v0_4.out x hx) (fun q => by have := hg6.out _ q; have := hw3.out _ hx; omega)) v0_4.out
  have bW_5 : Hid (Box w12 w3.heap.size [.slice aw td.length cw, .slice none 0 0] 25) := ((ho12).keep bW_4.out.lt (fun q => by have := hg6.out _ q; omega)).trans bW_4.out
  have bG_5 : Hid (Box w12 w6.heap.size [.slice ag td.length cg, .slice none 0 0] 25) := ((ho12).keep bG_4.out.lt (fun q => by have := hg6.out _ q; omega)).trans bG_4.out
  clear v0_4 bW_4 g0_4 bG_4
  clear z4_bW_0 z4_bW_1 z4_bG_0 z4_bG_1
  have z5_bW_0 := bW_5.out.cell 0 rfl
  have z5_bW_1 := bW_5.out.cell 1 rfl
  have z5_bG_0 := bG_5.out.cell 0 rfl
  have z5_bG_1 := bG_5.out.cell 1 rfl
  have g0_5 : Hid (WorldOwn w12 [.slice ag td.length cg, .slice none 0 0] (mkL cntHeap mkHeap td 1) fg) := own12
  clear own12
  generalize hCI : (1 : Int) + (cntL cntHeap td : Nat) = M at *
  have hCI' : Hid _ := hCI
  clear hCI
  have hM0 : 0 ≤ M := by have := hCI'.out; omega
  have hM1 : decide (M < 0) = false := by simp; omega
  go_wp2_with fail
  refine (heldWorld_any (lo := 0) (m := 1) (y := td) (by exact WorldOwn_at (lo := 0) _ _ _ _ g0_5.out (fun _ _ => Nat.zero_le _)) (by omega) (by rw [hCI'.out]; exact hYC.out)).mono ?_
  rintro e w13 ⟨rfl, hb13⟩
  rw [hCI'.out]
  have hB13 : Below w.heap.size w w13 := hB12.trans (hb13.mono hB12.size)
  have s13 := hb13.size
  have v0_6 : Hid (WorldOwn w13 [.slice aw td.length cw, .slice none 0 0] td fw) := WorldOwn_stays _ _ _ _ _ (fun x hx => (hb13).block x (WorldOwn_lt _ _ _ _ v0_5.out x hx)) v0_5.out
  have bW_6 : Hid (Box w13 w3.heap.size [.slice aw td.length cw, .slice none 0 0] 25) := bW_5.out.below hb13 bW_5.out.lt
  have g0_6 : Hid (WorldOwn w13 [.slice ag td.length cg, .slice none 0 0] (mkL cntHeap mkHeap td 1) fg) := WorldOwn_stays _ _ _ _ _ (fun x hx => (hb13).block x (WorldOwn_lt _ _ _ _ g0_5.out x hx)) g0_5.out
  have bG_6 : Hid (Box w13 w6.heap.size [.slice ag td.length cg, .slice none 0 0] 25) := bG_5.out.below hb13 bG_5.out.lt
  clear v0_5 bW_5 g0_5 bG_5
  clear z5_bW_0 z5_bW_1 z5_bG_0 z5_bG_1
  have z6_bW_0 := bW_6.out.cell 0 rfl
  have z6_bW_1 := bW_6.out.cell 1 rfl
  have z6_bG_0 := bG_6.out.cell 0 rfl
  have z6_bG_1 := bG_6.out.cell 1 rfl
  go_wp2_with fail
  refine implWorldNew_any.mono ?_
  rintro e w15 ⟨⟨csh, fh, rfl, ownh, _⟩, hb15⟩
  rw [hYS'.out] at ownh ⊢
  dsimp only at ownh ⊢
  have hB15 : Below w.heap.size w w15 := hB13.trans (hb15.mono hB13.size)
  have s15 := hb15.size
  have v0_7 : Hid (WorldOwn w15 [.slice aw td.length cw, .slice none 0 0] td fw) := WorldOwn_stays _ _ _ _ _ (fun x hx => (hb15).block x (WorldOwn_lt _ _ _ _ v0_6.out x hx)) v0_6.out
  have bW_7 : Hid (Box w15 w3.heap.size [.slice aw td.length cw, .slice none 0 0] 25) := bW_6.out.below hb15 bW_6.out.lt
  have g0_7 : Hid (WorldOwn w15 [.slice ag td.length cg, .slice none 0 0] (mkL cntHeap mkHeap td 1) fg) := WorldOwn_stays _ _ _ _ _ (fun x hx => (hb15).block x (WorldOwn_lt _ _ _ _ g0_6.out x hx)) g0_6.out
  have bG_7 : Hid (Box w15 w6.heap.size [.slice ag td.length cg, .slice none 0 0] 25) := bG_6.out.below hb15 bG_6.out.lt
  clear v0_6 bW_6 g0_6 bG_6
  clear z6_bW_0 z6_bW_1 z6_bG_0 z6_bG_1
  have z7_bW_0 := bW_7.out.cell 0 rfl
  have z7_bW_1 := bW_7.out.cell 1 rfl
  have z7_bG_0 := bG_7.out.cell 0 rfl
  have z7_bG_1 := bG_7.out.cell 1 rfl
  obtain ⟨ah, ch, rfl⟩ : ∃ ah ch, csh = [.slice ah td.length ch, .slice none 0 0] := by obtain ⟨k, e, hs⟩ := ownh; obtain ⟨a, c, hk⟩ := hs.form; exact ⟨a, c, by rw [e, hk]⟩
  have h0_7 : Hid (WorldOwn w15 [.slice ah td.length ch, .slice none 0 0] td fh) := ownh
  have hbH : Below w15.heap.size w15 (w15.alloc (.cells (List.toArray [.slice ah td.length ch, .slice none 0 0]) 25)) := (Below.refl _ _).alloc (Nat.le_refl _) _
  have hBH : Below w.heap.size w (w15.alloc (.cells (List.toArray [.slice ah td.length ch, .slice none 0 0]) 25)) := hB15.trans (hbH.mono hB15.size)
  clear ownh hb15
  have v0_8 : Hid (WorldOwn (w15.alloc (.cells (List.toArray [.slice ah td.length ch, .slice none 0 0]) 25)) [.slice aw td.length cw, .slice none 0 0] td fw) := WorldOwn_stays _ _ _ _ _ (fun x hx => (hbH).block x (WorldOwn_lt _ _ _ _ v0_7.out x hx)) v0_7.out
  have bW_8 : Hid (Box (w15.alloc (.cells (List.toArray [.slice ah td.length ch, .slice none 0 0]) 25)) w3.heap.size [.slice aw td.length cw, .slice none 0 0] 25) := bW_7.out.below hbH bW_7.out.lt
  have g0_8 : Hid (WorldOwn (w15.alloc (.cells (List.toArray [.slice ah td.length ch, .slice none 0 0]) 25)) [.slice ag td.length cg, .slice none 0 0] (mkL cntHeap mkHeap td 1) fg) := WorldOwn_stays _ _ _ _ _ (fun x hx => (hbH).block x (WorldOwn_lt _ _ _ _ g0_7.out x hx)) g0_7.out
  have bG_8 : Hid (Box (w15.alloc (.cells (List.toArray [.slice ah td.length ch, .slice none 0 0]) 25)) w6.heap.size [.slice ag td.length cg, .slice none 0 0] 25) := bG_7.out.below hbH bG_7.out.lt
  have h0_8 : Hid (WorldOwn (w15.alloc (.cells (List.toArray [.slice ah td.length ch, .slice none 0 0]) 25)) [.slice ah td.length ch, .slice none 0 0] td fh) := WorldOwn_stays _ _ _ _ _ (fun x hx => (hbH).block x (WorldOwn_lt _ _ _ _ h0_7.out x hx)) h0_7.out
  clear v0_7 bW_7 g0_7 bG_7 h0_7
  clear z7_bW_0 z7_bW_1 z7_bG_0 z7_bG_1
  have z8_bW_0 := bW_8.out.cell 0 rfl
  have z8_bW_1 := bW_8.out.cell 1 rfl
  have z8_bG_0 := bG_8.out.cell 0 rfl
  have z8_bG_1 := bG_8.out.cell 1 rfl
  go_wp2_with fail
  refine (eqWorld_any (lo := 0) (lo2 := 0) (by exact WorldOwn_at (lo := 0) _ _ _ _ h0_8.out (fun _ _ => Nat.zero_le _)) (by exact WorldOwn_at (lo := 0) _ _ _ _ v0_8.out (fun _ _ => Nat.zero_le _))).mono ?_
  rintro e w16 ⟨rfl, hb16⟩
  have hB16 : Below w.heap.size w w16 := hBH.trans (hb16.mono hBH.size)
  have v0_9 : Hid (WorldOwn w16 [.slice aw td.length cw, .slice none 0 0] td fw) := WorldOwn_stays _ _ _ _ _ (fun x hx => (hb16).block x (WorldOwn_lt _ _ _ _ v0_8.out x hx)) v0_8.out
  have bW_9 : Hid (Box w16 w3.heap.size [.slice aw td.length cw, .slice none 0 0] 25) := bW_8.out.below hb16 bW_8.out.lt
  have g0_9 : Hid (WorldOwn w16 [.slice ag td.length cg, .slice none 0 0] (mkL cntHeap mkHeap td 1) fg) := WorldOwn_stays _ _ _ _ _ (fun x hx => (hb16).block x (WorldOwn_lt _ _ _ _ g0_8.out x hx)) g0_8.out
  have bG_9 : Hid (Box w16 w6.heap.size [.slice ag td.length cg, .slice none 0 0] 25) := bG_8.out.below hb16 bG_8.out.lt
  have h0_9 : Hid (WorldOwn w16 [.slice ah td.length ch, .slice none 0 0] td fh) := WorldOwn_stays _ _ _ _ _ (fun x hx => (hb16).block x (WorldOwn_lt _ _ _ _ h0_8.out x hx)) h0_8.out
  clear v0_8 bW_8 g0_8 bG_8 h0_8
  clear z8_bW_0 z8_bW_1 z8_bG_0 z8_bG_1
  have z9_bW_0 := bW_9.out.cell 0 rfl
  have z9_bW_1 := bW_9.out.cell 1 rfl
  have z9_bG_0 := bG_9.out.cell 0 rfl
  have z9_bG_1 := bG_9.out.cell 1 rfl
  go_wp2_with fail
  refine (heldWorld_any (lo := 0) (m := 1) (y := td) (by exact WorldOwn_at (lo := 0) _ _ _ _ g0_9.out (fun _ _ => Nat.zero_le _)) (by omega) (by rw [hCI'.out]; exact hYC.out)).mono ?_
  rintro e w17 ⟨rfl, hb17⟩
  rw [hCI'.out]
  have hB17 : Below w.heap.size w w17 := hB16.trans (hb17.mono hB16.size)
  go_wp2_with fail
  go_ret
  exact ⟨rfl, hB17⟩
/-! The row -/
set_option maxRecDepth 100000 in
theorem lifted (os : Os) (started : os.Started) (H : Type) (enc : TypeId × Value → H) :
    ReturnsInHanded {} Try.checked os 3 .any (Rows.fnExactWorldNewSpec.pre6 enc Try.prog Try.f3 Rows.fnExactWorldNewRow.domain false) (Rows.fnExactWorldNewSpec.post enc Try.prog Try.f3 false true false false) := by
  refine returnsInHanded_of_change (C := Try.checked) own started (by kernel_rfl) Try.func3
    (ChangeSpec.witness6 (enc := enc) (C := Try.checked) false ⟨#[], #[.int .i64 0], []⟩ 8 (by kernel_rfl) (by kernel_rfl) (by kernel_rfl) (by kernel_rfl)) ?_
  intro W base args ds gs before hval0 hW hcnd _
  have hval : ∀ (j : Nat) t v, Try.f3.params[j]? = some t → args[j]? = some v → Value.okWide Try.prog W .any base t v := hval0
  have hW' := hW
  obtain ⟨p, q, hA0, hV, rfl, hfz, hnd⟩ := hW
  have hA : DataW.TrodAll enc Try.prog W 0 (fun _ => true) true Try.f3.params.toList args.toList ds p := hA0
  rw [Try.params3] at hA hval
  obtain ⟨v0, vs0, d0, ds0, p0, q0, hargs, rfl, rfl, h0, r0⟩ := trodAll_cons hA
  obtain ⟨rfl, rfl, rfl⟩ := trodAll_nil r0
  obtain rfl : args = #[v0] := by cases args; simp_all
  obtain ⟨rfl, rfl⟩ := trodVars_none hV
  obtain ⟨s0, rfl, rfl, rfl, hm0⟩ := open_int Try.underlying2 (hval 0 2 v0 rfl rfl) h0
  clear hA0 hval0
  refine (walk (n := s0)).mono fun e W' ⟨he, bel⟩ => ?_
  subst he
  exact ⟨_, rfl, _, _, _, [], _, [], hW', trodAll_mk1 (shut_bool Try.underlying4 _), (trodAll_cons_mk (shut_int Try.underlying2 hm0) trodAll_mk0), rfl, bel.frame _, fun h => by cases h⟩
theorem over : Rows.fnExactWorldNewRow.holds Try.pinned (OpenSpec.ofChange Rows.fnExactWorldNewSpec) :=
  OpenClaim.holds_of_wide 3 Try.f3 rfl rfl rfl rfl rfl rfl rfl ⟨rfl, rfl, rfl, rfl, rfl⟩ rfl rfl rfl rfl rfl (by kernel_rfl) Try.func3 (by kernel_rfl)
    (of_decide_eq_true (by kernel_rfl)) (by unfold Func.isWrapper; first | (rw [if_pos (by decide +kernel)]; kernel_rfl) | (rw [if_neg (by decide +kernel)]; exact ⟨rfl, rfl⟩))
    (fun os started H enc _ => lifted os started H enc)
end Go.Proofs.Ytdhjaokanllcgaa.fnExactWorldNew
namespace Go.Proofs.Ytdhjaokanllcgaa
theorem fnExactWorldNew_holds : Rows.FnExactWorldNewSaid := fnExactWorldNew.over
end Go.Proofs.Ytdhjaokanllcgaa
