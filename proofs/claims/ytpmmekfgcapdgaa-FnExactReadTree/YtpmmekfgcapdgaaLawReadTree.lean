/- At every string ReadTree answers as its specification, writes into no argument, and its answer owns its memory. No condition. -/
import Derived.Test.YtpmmekfgcapdgaaRtCnt
import Derived.Test.YtpmmekfgcapdgaaTreeMarks
import Derived.Test.YtpmmekfgcapdgaaTreeEq
import Derived.ProofKit
import Derived.OpenShut
import Derived.ShutString
import Derived.ChangeOld
import Derived.Below
import Derived.ChangeMaps5
namespace Go.Proofs.Ytpmmekfgcapdgaa.fnExactReadTree
open Go.ChangeShapes Go.WideShapes Go.ChangeAt Go.RowKit
open Go.ChangeMaps (open_string)
theorem own : ownKnob Try.prog.godebug = none := by kernel_rfl
theorem laidOut : laidOutB Try.prog = true := by kernel_rfl
theorem own_on {w w' : World} {cs : List Value} {x : TD} {fs : List Nat} (h : TreeO 31 w cs x fs) (hb : Below w.heap.size w w') : TreeO 31 w' cs x fs := TreeO_stays _ _ _ _ _ _ (fun b q => hb.block b (TreeO_lt _ _ _ _ _ h b q)) h
theorem own_out {w w' : World} {cs : List Value} {x : TD} {fs gs : List Nat} (h : TreeO 31 w cs x fs) (hb : Out gs w w') (hn : ∀ b ∈ fs, b ∉ gs) : TreeO 31 w' cs x fs := TreeO_stays _ _ _ _ _ _ (fun b q => hb.keep (TreeO_lt _ _ _ _ _ h b q) (hn b q)) h
theorem box_out {w w' : World} {g : Nat} {cs : List Value} {T : TypeId} {gs : List Nat} (h : Box w g cs T) (hb : Out gs w w') (hn : g ∉ gs) : Box w' g cs T := (hb.keep h.lt hn).trans h
set_option maxRecDepth 100000 in
set_option maxHeartbeats 6400000 in
theorem walk (s : ByteArray) (w : World) :
    Calls Try.prog 4 #[.string s] w fun e w' => e = .returned (.bool true) ∧ Below w.heap.size w w' := by
  by_cases hbig : (1048576 : Int) < (s.size : Int)
  · go_enter Try.func4, Try.ntmps4
    go_wp2
    go_ret
    exact ⟨rfl, Below.refl _ _⟩
  have hss : Hid (s.size ≤ 1048576) := by show _ ≤ _; omega
  go_enter Try.func4, Try.ntmps4
  go_wp2_with fail
  clear hbig
  refine (specReadTree_any hss.out).mono ?_
  rintro e w1 ⟨csW, td, fW, bb, rfl, ownW, _, loW, hRW0, hb1⟩
  have hRW : Hid (ReadsT s td bb) := hRW0
  have hYC : Hid ((1 : Int) + (cntL (cntTree 30) (kidsOf td) : Nat) ≤ 4611686018427387904) := reads_cnt hRW.out 30
  obtain ⟨tW, aW, nW, cW, rfl⟩ : ∃ (tW : ByteArray) (aW : Option Addr) (nW cW : Nat), csW = [.string tW, .slice aW nW cW] := by obtain ⟨k, e, h3, _⟩ := ownW.opened; obtain ⟨y1, y2, y3⟩ := h3.form; exact ⟨_, y1, _, y2, by rw [e, y3]⟩
  have hB1 : Hid (Below w.heap.size w (w1.alloc (.cells (List.toArray [.string tW, .slice aW nW cW]) 26))) := hb1.alloc hb1.size _
  have oW1 : Hid (TreeO 31 (w1.alloc (.cells (List.toArray [.string tW, .slice aW nW cW]) 26)) [.string tW, .slice aW nW cW] td fW) := own_on ownW ((Below.refl _ _).alloc (Nat.le_refl _) _)
  have bW1 : Hid (Box (w1.alloc (.cells (List.toArray [.string tW, .slice aW nW cW]) 26)) w1.heap.size [.string tW, .slice aW nW cW] 26) := Box.new w1 _ _
  have hW1 : Hid (∀ b ∈ fW, b < w1.heap.size) := fun b q => TreeO_lt _ _ _ _ _ ownW b q
  have sz1 : (w1.alloc (.cells (List.toArray [.string tW, .slice aW nW cW]) 26)).heap.size = w1.heap.size + 1 := by simp
  have s1 : w.heap.size ≤ w1.heap.size := hb1.size
  clear ownW loW hRW0 hb1
  go_wp2_with fail
  refine (implReadTree_any hss.out).mono ?_
  rintro e w2 ⟨csG, tg, fG, bg, rfl, ownG, _, loG, hRG, hb2⟩
  obtain ⟨e1, e2⟩ := hRG.one hRW.out
  subst e1
  subst e2
  obtain ⟨tG, aG, nG, cG, rfl⟩ : ∃ (tG : ByteArray) (aG : Option Addr) (nG cG : Nat), csG = [.string tG, .slice aG nG cG] := by obtain ⟨k, e, h3, _⟩ := ownG.opened; obtain ⟨y1, y2, y3⟩ := h3.form; exact ⟨_, y1, _, y2, by rw [e, y3]⟩
  have hB2 : Hid (Below w.heap.size w (w2.alloc (.cells (List.toArray [.string tG, .slice aG nG cG]) 26))) := (hB1.out.trans (hb2.mono hB1.out.size)).alloc (Nat.le_trans hB1.out.size hb2.size) _
  have s2 : w1.heap.size + 1 ≤ w2.heap.size := by have := hb2.size; rw [sz1] at this; exact this
  have hb2a : Hid (Below (w1.alloc (.cells (List.toArray [.string tW, .slice aW nW cW]) 26)).heap.size (w1.alloc (.cells (List.toArray [.string tW, .slice aW nW cW]) 26)) (w2.alloc (.cells (List.toArray [.string tG, .slice aG nG cG]) 26))) := hb2.alloc hb2.size _
  have oW2 : Hid (TreeO 31 (w2.alloc (.cells (List.toArray [.string tG, .slice aG nG cG]) 26)) [.string tW, .slice aW nW cW] tg fW) := own_on oW1.out hb2a.out
  have bW2 : Hid (Box (w2.alloc (.cells (List.toArray [.string tG, .slice aG nG cG]) 26)) w1.heap.size [.string tW, .slice aW nW cW] 26) := bW1.out.below hb2a.out bW1.out.lt
  have oG2 : Hid (TreeO 31 (w2.alloc (.cells (List.toArray [.string tG, .slice aG nG cG]) 26)) [.string tG, .slice aG nG cG] tg fG) := own_on ownG ((Below.refl _ _).alloc (Nat.le_refl _) _)
  have bG2 : Hid (Box (w2.alloc (.cells (List.toArray [.string tG, .slice aG nG cG]) 26)) w2.heap.size [.string tG, .slice aG nG cG] 26) := Box.new w2 _ _
  have hG2 : Hid (∀ b ∈ fG, b < w2.heap.size ∧ w1.heap.size + 1 ≤ b) := fun b q => ⟨TreeO_lt _ _ _ _ _ ownG b q, by have := loG b q; rw [sz1] at this; exact this⟩
  clear ownG loG hRG hb2 hb2a oW1 bW1 hB1 sz1
  have zW0 := bW2.out.cell 0 rfl
  have zW1 := bW2.out.cell 1 rfl
  have zG0 := bG2.out.cell 0 rfl
  have zG1 := bG2.out.cell 1 rfl
  go_wp2_with fail
  refine (eqTree_any (n := 31) (lo := 0) (lo2 := 0) (TreeO_at (lo := 0) _ _ _ _ _ oG2.out (fun _ _ => Nat.zero_le _)) (TreeO_at (lo := 0) _ _ _ _ _ oW2.out (fun _ _ => Nat.zero_le _))).mono ?_
  rintro e w3 ⟨rfl, hb3⟩
  clear zW0 zW1 zG0 zG1
  have hB3 : Hid (Below w.heap.size w w3) := hB2.out.trans (hb3.mono hB2.out.size)
  have oW3 : Hid (TreeO 31 w3 [.string tW, .slice aW nW cW] tg fW) := own_on oW2.out hb3
  have bW3 : Hid (Box w3 w1.heap.size [.string tW, .slice aW nW cW] 26) := bW2.out.below hb3 bW2.out.lt
  have bG3 : Hid (Box w3 w2.heap.size [.string tG, .slice aG nG cG] 26) := bG2.out.below hb3 bG2.out.lt
  have oG3 : Hid (TreeO 31 w3 [.string tG, .slice aG nG cG] tg fG) := own_on oG2.out hb3
  have s3 : w2.heap.size + 1 ≤ w3.heap.size := by have := hb3.size; simpa using this
  clear hb3 hB2 oW2 bW2 bG2 oG2
  have zW0 := bW3.out.cell 0 rfl
  have zW1 := bW3.out.cell 1 rfl
  have zG0 := bG3.out.cell 0 rfl
  have zG1 := bG3.out.cell 1 rfl
  go_wp2_with fail
  refine (markTree_any (n := 30) oG3.out (by omega) hYC.out).mono ?_
  rintro e w4 ⟨rfl, own4, ho4⟩
  have oG4 : Hid (TreeO 31 w4 [.string tG, .slice aG nG cG] (mkTTree 30 tg 1) fG) := own4
  have oW4 : Hid (TreeO 31 w4 [.string tW, .slice aW nW cW] tg fW) := own_out oW3.out ho4 (fun b q q' => by have := hW1.out b q; have := (hG2.out b q').2; omega)
  have bW4 : Hid (Box w4 w1.heap.size [.string tW, .slice aW nW cW] 26) := box_out bW3.out ho4 (fun q => by have := (hG2.out _ q).2; omega)
  have bG4 : Hid (Box w4 w2.heap.size [.string tG, .slice aG nG cG] 26) := box_out bG3.out ho4 (fun q => by have := (hG2.out _ q).1; omega)
  have hB4 : Hid (Below w.heap.size w w4) := hB3.out.trans (ho4.below hB3.out.size (fun x hx => by have := (hG2.out x hx).2; have := hB3.out.size; omega))
  clear zW0 zW1 zG0 zG1
  clear own4 ho4 hB3 oW3 bW3 bG3 oG3
  generalize hCI : (1 : Int) + (cntL (cntTree 30) (kidsOf tg) : Nat) = M at *
  have hCI' : Hid ((1 : Int) + (cntL (cntTree 30) (kidsOf tg) : Nat) = M) := hCI
  clear hCI
  have hM0 : 0 ≤ M := by have := hCI'.out; omega
  have hM1 : decide (M < 0) = false := by simp; omega
  have zW0 := bW4.out.cell 0 rfl
  have zW1 := bW4.out.cell 1 rfl
  have zG0 := bG4.out.cell 0 rfl
  have zG1 := bG4.out.cell 1 rfl
  go_wp2_with fail
  refine (heldTree_any (n := 30) (lo := 0) (m := 1) (x := tg) (TreeO_at (lo := 0) _ _ _ _ _ oG4.out (fun _ _ => Nat.zero_le _)) (by omega) (by rw [hCI'.out]; exact hYC.out)).mono ?_
  rintro e w5 ⟨rfl, hb5⟩
  rw [hCI'.out]
  clear zW0 zW1 zG0 zG1
  have hB5 : Hid (Below w.heap.size w w5) := hB4.out.trans (hb5.mono hB4.out.size)
  have oW5 : Hid (TreeO 31 w5 [.string tW, .slice aW nW cW] tg fW) := own_on oW4.out hb5
  have bW5 : Hid (Box w5 w1.heap.size [.string tW, .slice aW nW cW] 26) := bW4.out.below hb5 bW4.out.lt
  have bG5 : Hid (Box w5 w2.heap.size [.string tG, .slice aG nG cG] 26) := bG4.out.below hb5 bG4.out.lt
  have oG5 : Hid (TreeO 31 w5 [.string tG, .slice aG nG cG] (mkTTree 30 tg 1) fG) := own_on oG4.out hb5
  clear hb5 hB4 oW4 bW4 bG4 oG4
  have zW0 := bW5.out.cell 0 rfl
  have zW1 := bW5.out.cell 1 rfl
  have zG0 := bG5.out.cell 0 rfl
  have zG1 := bG5.out.cell 1 rfl
  go_wp2_with fail
  refine (implReadTree_any hss.out).mono ?_
  rintro e w6 ⟨csH, th, fH, bh, rfl, ownH, _, _, hRH, hb6⟩
  obtain ⟨e1, e2⟩ := hRH.one hRW.out
  subst e1
  subst e2
  obtain ⟨tH, aH, nH, cH, rfl⟩ : ∃ (tH : ByteArray) (aH : Option Addr) (nH cH : Nat), csH = [.string tH, .slice aH nH cH] := by obtain ⟨k, e, h3, _⟩ := ownH.opened; obtain ⟨y1, y2, y3⟩ := h3.form; exact ⟨_, y1, _, y2, by rw [e, y3]⟩
  have hb6a : Hid (Below w5.heap.size w5 (w6.alloc (.cells (List.toArray [.string tH, .slice aH nH cH]) 26))) := hb6.alloc hb6.size _
  have hB6 : Hid (Below w.heap.size w (w6.alloc (.cells (List.toArray [.string tH, .slice aH nH cH]) 26))) := hB5.out.trans (hb6a.out.mono hB5.out.size)
  have oW6 : Hid (TreeO 31 (w6.alloc (.cells (List.toArray [.string tH, .slice aH nH cH]) 26)) [.string tW, .slice aW nW cW] th fW) := own_on oW5.out hb6a.out
  have oG6 : Hid (TreeO 31 (w6.alloc (.cells (List.toArray [.string tH, .slice aH nH cH]) 26)) [.string tG, .slice aG nG cG] (mkTTree 30 th 1) fG) := own_on oG5.out hb6a.out
  have oH6 : Hid (TreeO 31 (w6.alloc (.cells (List.toArray [.string tH, .slice aH nH cH]) 26)) [.string tH, .slice aH nH cH] th fH) := own_on ownH ((Below.refl _ _).alloc (Nat.le_refl _) _)
  have bW6 : Hid (Box (w6.alloc (.cells (List.toArray [.string tH, .slice aH nH cH]) 26)) w1.heap.size [.string tW, .slice aW nW cW] 26) := bW5.out.below hb6a.out bW5.out.lt
  have bG6 : Hid (Box (w6.alloc (.cells (List.toArray [.string tH, .slice aH nH cH]) 26)) w2.heap.size [.string tG, .slice aG nG cG] 26) := bG5.out.below hb6a.out bG5.out.lt
  clear zW0 zW1 zG0 zG1
  clear ownH hRH hb6 hb6a hB5 oW5 oG5 bW5 bG5
  have zW0 := bW6.out.cell 0 rfl
  have zW1 := bW6.out.cell 1 rfl
  have zG0 := bG6.out.cell 0 rfl
  have zG1 := bG6.out.cell 1 rfl
  go_wp2_with fail
  refine (eqTree_any (n := 31) (lo := 0) (lo2 := 0) (TreeO_at (lo := 0) _ _ _ _ _ oH6.out (fun _ _ => Nat.zero_le _)) (TreeO_at (lo := 0) _ _ _ _ _ oW6.out (fun _ _ => Nat.zero_le _))).mono ?_
  rintro e w7 ⟨rfl, hb7⟩
  have hB7 : Hid (Below w.heap.size w w7) := hB6.out.trans (hb7.mono hB6.out.size)
  have oG7 : Hid (TreeO 31 w7 [.string tG, .slice aG nG cG] (mkTTree 30 th 1) fG) := own_on oG6.out hb7
  have bG7 : Hid (Box w7 w2.heap.size [.string tG, .slice aG nG cG] 26) := bG6.out.below hb7 bG6.out.lt
  clear zW0 zW1 zG0 zG1
  clear hb7 hB6 oW6 oG6 oH6 bW6 bG6
  have zG0 := bG7.out.cell 0 rfl
  have zG1 := bG7.out.cell 1 rfl
  go_wp2_with fail
  refine (heldTree_any (n := 30) (lo := 0) (m := 1) (x := th) (TreeO_at (lo := 0) _ _ _ _ _ oG7.out (fun _ _ => Nat.zero_le _)) (by omega) (by rw [hCI'.out]; exact hYC.out)).mono ?_
  rintro e w8 ⟨rfl, hb8⟩
  rw [hCI'.out]
  have hB8 : Hid (Below w.heap.size w w8) := hB7.out.trans (hb8.mono hB7.out.size)
  clear hb8
  go_wp2_with fail
  go_ret
  exact ⟨rfl, hB8.out⟩
/-! The row -/
set_option maxRecDepth 100000 in
theorem lifted (os : Os) (started : os.Started) (H : Type) (enc : TypeId × Value → H) :
    ReturnsInHanded {} Try.checked os 4 .any (Rows.fnExactReadTreeSpec.pre6 enc Try.prog Try.f4 Rows.fnExactReadTreeRow.domain false) (Rows.fnExactReadTreeSpec.post enc Try.prog Try.f4 false true false false) := by
  refine returnsInHanded_of_change (C := Try.checked) own started (by kernel_rfl) Try.func4
    (ChangeSpec.witness6 (enc := enc) (C := Try.checked) false ⟨#[], #[.string ByteArray.empty], []⟩ 8 (by kernel_rfl) (by kernel_rfl) (by kernel_rfl) (by kernel_rfl)) ?_
  intro W base args ds gs before hval0 hW hcnd _
  have hval : ∀ (j : Nat) t v, Try.f4.params[j]? = some t → args[j]? = some v → Value.okWide Try.prog W .any base t v := hval0
  have hW' := hW
  obtain ⟨p, q, hA0, hV, rfl, hfz, hnd⟩ := hW
  have hA : DataW.TrodAll enc Try.prog W 0 (fun _ => true) true Try.f4.params.toList args.toList ds p := hA0
  rw [Try.params4] at hA hval
  obtain ⟨v0, vs0, d0, ds0, p0, q0, hargs, rfl, rfl, h0, r0⟩ := trodAll_cons hA
  obtain ⟨rfl, rfl, rfl⟩ := trodAll_nil r0
  obtain rfl : args = #[v0] := by cases args; simp_all
  obtain ⟨rfl, rfl⟩ := trodVars_none hV
  have k0 := h0
  have lt0 : ∀ x ∈ p0, x.block < W.heap.size := by obtain ⟨m, hm⟩ := k0; exact DataW.trod_lt m _ _ _ hm
  obtain ⟨a0, rfl, rfl, rfl, w0⟩ := open_string Try.underlying9 (hval 0 9 v0 rfl rfl) h0
  clear hA0 hval0
  refine (walk a0 W).mono fun e W' ⟨he, bel⟩ => ?_
  subst he
  exact ⟨_, rfl, _, _, _, [], _, [], hW', trodAll_mk1 (shut_bool Try.underlying4 _), (trodAll_cons_mk (Below.trod laidOut (by kernel_rfl) (of_decide_eq_true (by kernel_rfl)) k0 bel lt0) trodAll_mk0), rfl, bel.frame _, fun h => by cases h⟩
theorem over : Rows.fnExactReadTreeRow.holds Try.pinned (OpenSpec.ofChange Rows.fnExactReadTreeSpec) :=
  OpenClaim.holds_of_wide 4 Try.f4 rfl rfl rfl rfl rfl rfl rfl ⟨rfl, rfl, rfl, rfl, rfl⟩ rfl rfl rfl rfl rfl (by kernel_rfl) Try.func4 (by kernel_rfl)
    (of_decide_eq_true (by kernel_rfl)) (by unfold Func.isWrapper; first | (rw [if_pos (by decide +kernel)]; kernel_rfl) | (rw [if_neg (by decide +kernel)]; exact ⟨rfl, rfl⟩))
    (fun os started H enc _ => lifted os started H enc)
end Go.Proofs.Ytpmmekfgcapdgaa.fnExactReadTree
namespace Go.Proofs.Ytpmmekfgcapdgaa
theorem fnExactReadTree_holds : Rows.FnExactReadTreeSaid := fnExactReadTree.over
end Go.Proofs.Ytpmmekfgcapdgaa
