/- At every string ReadMark answers as its specification, writes into no argument, and its answer owns its memory. No condition. -/
import Derived.Test.YtlcddndpfhdakaaDoorDoorTab
import Derived.Test.YtlcddndpfhdakaaDoorRmCnt
import Derived.Test.YtlcddndpfhdakaaDoorMarkEq
import Derived.ChangeOld
import Derived.Below
import Derived.ChangeMaps5
namespace Go.Proofs.YtlcddndpfhdakaaDoor.fnExactReadMark
open Go.ChangeShapes Go.WideShapes Go.ChangeAt Go.RowKit
open Go.ChangeMaps (open_string shut_string)
theorem eqMarkN {n : Nat} {w : World} {lo lo2 : Nat} {cs cs2 : List Value} {x : MarkD} (h : MarkAt n w lo cs x) (h2 : MarkAt n w lo2 cs2 x) :
    Calls Tryd.prog 22 #[.agg cs.toArray, .agg cs2.toArray] w fun e w' => e = .returned (.bool true) ∧ Below w.heap.size w w' := (eqMark_all n).1 w lo lo2 cs cs2 x h h2
theorem own_on {w w' : World} {cs : List Value} {x : MarkD} {fs : List Nat} (h : MarkOwn 31 w cs x fs) (hb : Below w.heap.size w w') : MarkOwn 31 w' cs x fs := MarkOwn_stays _ _ _ _ _ _ (fun b q => hb.block b (MarkOwn_lt _ _ _ _ _ h b q)) h
theorem own_out {w w' : World} {cs : List Value} {x : MarkD} {fs gs : List Nat} (h : MarkOwn 31 w cs x fs) (hb : Out gs w w') (hn : ∀ b ∈ fs, b ∉ gs) : MarkOwn 31 w' cs x fs := MarkOwn_stays _ _ _ _ _ _ (fun b q => hb.keep (MarkOwn_lt _ _ _ _ _ h b q) (hn b q)) h
theorem box_out {w w' : World} {g : Nat} {cs : List Value} {T : TypeId} {gs : List Nat} (h : Box w g cs T) (hb : Out gs w w') (hn : g ∉ gs) : Box w' g cs T := (hb.keep h.lt hn).trans h
set_option maxRecDepth 100000 in
set_option maxHeartbeats 6400000 in
theorem walk (s : ByteArray) (_ : s.size ≤ maxLen) (w : World) (hsg0 : Signs w) :
    Calls Tryd.prog 5 #[.string s] w fun e w' => e = .returned (.bool true) ∧ Below w.heap.size w w' := by
  by_cases hbig : (1048576 : Int) < (s.size : Int)
  · go_enter Tryd.func5, Tryd.ntmps5
    go_wp2
    go_ret
    exact ⟨rfl, Below.refl _ _⟩
  have hsg : Hid (Signs w) := hsg0
  clear hsg0
  have hss : Hid (s.size ≤ 1048576) := by show _ ≤ _; omega
  go_enter Tryd.func5, Tryd.ntmps5
  go_wp2_with fail
  clear hbig
  refine (specReadMark_any hss.out).mono ?_
  rintro e w1 ⟨csW, td, fW, bb, rfl, ownW, _, loW, hRW0, hb1⟩
  have hRW : Hid (ReadsM s td bb) := hRW0
  have hYC : Hid ((1 : Int) + (cntL cntAttr td.vAttrs : Nat) + (cntL (cntMark 30) td.vKids : Nat) ≤ 4611686018427387904) := readsM_cnt hRW.out
  obtain ⟨tW, uW, aW, nW, cW, dW, mW, eW, rfl⟩ : ∃ (tW uW : ByteArray) (aW : Option Addr) (nW cW : Nat) (dW : Option Addr) (mW eW : Nat), csW = [.string tW, .string uW, .slice aW nW cW, .slice dW mW eW] := ownW.form4
  have hB1 : Hid (Below w.heap.size w (w1.alloc (.cells (List.toArray [.string tW, .string uW, .slice aW nW cW, .slice dW mW eW]) 27))) := hb1.alloc hb1.size _
  have oW1 : Hid (MarkOwn 31 (w1.alloc (.cells (List.toArray [.string tW, .string uW, .slice aW nW cW, .slice dW mW eW]) 27)) [.string tW, .string uW, .slice aW nW cW, .slice dW mW eW] td fW) := own_on ownW ((Below.refl _ _).alloc (Nat.le_refl _) _)
  have bW1 : Hid (Box (w1.alloc (.cells (List.toArray [.string tW, .string uW, .slice aW nW cW, .slice dW mW eW]) 27)) w1.heap.size [.string tW, .string uW, .slice aW nW cW, .slice dW mW eW] 27) := Box.new w1 _ _
  have hW1 : Hid (∀ b ∈ fW, b < w1.heap.size) := fun b q => MarkOwn_lt _ _ _ _ _ ownW b q
  have sz1 : (w1.alloc (.cells (List.toArray [.string tW, .string uW, .slice aW nW cW, .slice dW mW eW]) 27)).heap.size = w1.heap.size + 1 := by simp
  have s1 : w.heap.size ≤ w1.heap.size := hb1.size
  clear ownW loW hRW0 hb1
  go_wp2_with fail
  refine (implReadMark_any hss.out (Signs.all hsg.out hB1.out)).mono ?_
  rintro e w2 ⟨csG, tg, fG, bg, rfl, ownG, ndG0, loG, hRG, hb2⟩
  obtain ⟨e1, e2⟩ := hRG.one hRW.out
  subst e1
  subst e2
  obtain ⟨tG, uG, aG, nG, cG, dG, mG, eG, rfl⟩ : ∃ (tG uG : ByteArray) (aG : Option Addr) (nG cG : Nat) (dG : Option Addr) (mG eG : Nat), csG = [.string tG, .string uG, .slice aG nG cG, .slice dG mG eG] := ownG.form4
  have hB2 : Hid (Below w.heap.size w (w2.alloc (.cells (List.toArray [.string tG, .string uG, .slice aG nG cG, .slice dG mG eG]) 27))) := (hB1.out.trans (hb2.mono hB1.out.size)).alloc (Nat.le_trans hB1.out.size hb2.size) _
  have s2 : w1.heap.size + 1 ≤ w2.heap.size := by have := hb2.size; rw [sz1] at this; exact this
  have hb2a : Hid (Below (w1.alloc (.cells (List.toArray [.string tW, .string uW, .slice aW nW cW, .slice dW mW eW]) 27)).heap.size (w1.alloc (.cells (List.toArray [.string tW, .string uW, .slice aW nW cW, .slice dW mW eW]) 27)) (w2.alloc (.cells (List.toArray [.string tG, .string uG, .slice aG nG cG, .slice dG mG eG]) 27))) := hb2.alloc hb2.size _
  have oW2 : Hid (MarkOwn 31 (w2.alloc (.cells (List.toArray [.string tG, .string uG, .slice aG nG cG, .slice dG mG eG]) 27)) [.string tW, .string uW, .slice aW nW cW, .slice dW mW eW] tg fW) := own_on oW1.out hb2a.out
  have bW2 : Hid (Box (w2.alloc (.cells (List.toArray [.string tG, .string uG, .slice aG nG cG, .slice dG mG eG]) 27)) w1.heap.size [.string tW, .string uW, .slice aW nW cW, .slice dW mW eW] 27) := bW1.out.below hb2a.out bW1.out.lt
  have oG2 : Hid (MarkOwn 31 (w2.alloc (.cells (List.toArray [.string tG, .string uG, .slice aG nG cG, .slice dG mG eG]) 27)) [.string tG, .string uG, .slice aG nG cG, .slice dG mG eG] tg fG) := own_on ownG ((Below.refl _ _).alloc (Nat.le_refl _) _)
  have bG2 : Hid (Box (w2.alloc (.cells (List.toArray [.string tG, .string uG, .slice aG nG cG, .slice dG mG eG]) 27)) w2.heap.size [.string tG, .string uG, .slice aG nG cG, .slice dG mG eG] 27) := Box.new w2 _ _
  have hG2 : Hid (∀ b ∈ fG, b < w2.heap.size ∧ w1.heap.size + 1 ≤ b) := fun b q => ⟨MarkOwn_lt _ _ _ _ _ ownG b q, by have := loG b q; rw [sz1] at this; exact this⟩
  have ndG : Hid fG.Nodup := ndG0
  clear ndG0
  clear ownG loG hRG hb2 hb2a oW1 bW1 hB1 sz1
  have zW0 := bW2.out.cell 0 rfl
  have zW1 := bW2.out.cell 1 rfl
  have zW2 := bW2.out.cell 2 rfl
  have zW3 := bW2.out.cell 3 rfl
  have zG0 := bG2.out.cell 0 rfl
  have zG1 := bG2.out.cell 1 rfl
  have zG2 := bG2.out.cell 2 rfl
  have zG3 := bG2.out.cell 3 rfl
  go_wp2_with fail
  refine (eqMarkN (n := 31) (lo := 0) (lo2 := 0) (MarkOwn_at (lo := 0) _ _ _ _ _ oG2.out (fun _ _ => Nat.zero_le _)) (MarkOwn_at (lo := 0) _ _ _ _ _ oW2.out (fun _ _ => Nat.zero_le _))).mono ?_
  rintro e w3 ⟨rfl, hb3⟩
  clear zW0 zW1 zW2 zW3 zG0 zG1 zG2 zG3
  have hB3 : Hid (Below w.heap.size w w3) := hB2.out.trans (hb3.mono hB2.out.size)
  have oW3 : Hid (MarkOwn 31 w3 [.string tW, .string uW, .slice aW nW cW, .slice dW mW eW] tg fW) := own_on oW2.out hb3
  have bW3 : Hid (Box w3 w1.heap.size [.string tW, .string uW, .slice aW nW cW, .slice dW mW eW] 27) := bW2.out.below hb3 bW2.out.lt
  have bG3 : Hid (Box w3 w2.heap.size [.string tG, .string uG, .slice aG nG cG, .slice dG mG eG] 27) := bG2.out.below hb3 bG2.out.lt
  have oG3 : Hid (MarkOwn 31 w3 [.string tG, .string uG, .slice aG nG cG, .slice dG mG eG] tg fG) := own_on oG2.out hb3
  have s3 : w2.heap.size + 1 ≤ w3.heap.size := by have := hb3.size; simpa using this
  clear hb3 hB2 oW2 bW2 bG2 oG2
  have zW0 := bW3.out.cell 0 rfl
  have zW1 := bW3.out.cell 1 rfl
  have zW2 := bW3.out.cell 2 rfl
  have zW3 := bW3.out.cell 3 rfl
  have zG0 := bG3.out.cell 0 rfl
  have zG1 := bG3.out.cell 1 rfl
  have zG2 := bG3.out.cell 2 rfl
  have zG3 := bG3.out.cell 3 rfl
  go_wp2_with fail
  refine (markMark_any (n := 30) oG3.out ndG.out (by omega) hYC.out).mono ?_
  rintro e w4 ⟨rfl, own4, ho4⟩
  have oG4 : Hid (MarkOwn 31 w4 [.string tG, .string uG, .slice aG nG cG, .slice dG mG eG] (mkTMark 30 tg 1) fG) := own4
  have oW4 : Hid (MarkOwn 31 w4 [.string tW, .string uW, .slice aW nW cW, .slice dW mW eW] tg fW) := own_out oW3.out ho4 (fun b q q' => by have := hW1.out b q; have := (hG2.out b q').2; omega)
  have bW4 : Hid (Box w4 w1.heap.size [.string tW, .string uW, .slice aW nW cW, .slice dW mW eW] 27) := box_out bW3.out ho4 (fun q => by have := (hG2.out _ q).2; omega)
  have bG4 : Hid (Box w4 w2.heap.size [.string tG, .string uG, .slice aG nG cG, .slice dG mG eG] 27) := box_out bG3.out ho4 (fun q => by have := (hG2.out _ q).1; omega)
  have hB4 : Hid (Below w.heap.size w w4) := hB3.out.trans (ho4.below hB3.out.size (fun x hx => by have := (hG2.out x hx).2; have := hB3.out.size; omega))
  clear zW0 zW1 zW2 zW3 zG0 zG1 zG2 zG3
  clear own4 ho4 hB3 oW3 bW3 bG3 oG3
  generalize hCI : (1 : Int) + (cntL cntAttr tg.vAttrs : Nat) + (cntL (cntMark 30) tg.vKids : Nat) = M at *
  have hCI' : Hid ((1 : Int) + (cntL cntAttr tg.vAttrs : Nat) + (cntL (cntMark 30) tg.vKids : Nat) = M) := hCI
  clear hCI
  have hM0 : 0 ≤ M := by have := hCI'.out; omega
  have hM1 : decide (M < 0) = false := by simp; omega
  have zW0 := bW4.out.cell 0 rfl
  have zW1 := bW4.out.cell 1 rfl
  have zW2 := bW4.out.cell 2 rfl
  have zW3 := bW4.out.cell 3 rfl
  have zG0 := bG4.out.cell 0 rfl
  have zG1 := bG4.out.cell 1 rfl
  have zG2 := bG4.out.cell 2 rfl
  have zG3 := bG4.out.cell 3 rfl
  go_wp2_with fail
  refine (heldMark_any (n := 30) (lo := 0) (m := 1) (x := tg) (MarkOwn_at (lo := 0) _ _ _ _ _ oG4.out (fun _ _ => Nat.zero_le _)) (by omega) (by rw [hCI'.out]; exact hYC.out)).mono ?_
  rintro e w5 ⟨rfl, hb5⟩
  rw [hCI'.out]
  clear zW0 zW1 zW2 zW3 zG0 zG1 zG2 zG3
  have hB5 : Hid (Below w.heap.size w w5) := hB4.out.trans (hb5.mono hB4.out.size)
  have oW5 : Hid (MarkOwn 31 w5 [.string tW, .string uW, .slice aW nW cW, .slice dW mW eW] tg fW) := own_on oW4.out hb5
  have bW5 : Hid (Box w5 w1.heap.size [.string tW, .string uW, .slice aW nW cW, .slice dW mW eW] 27) := bW4.out.below hb5 bW4.out.lt
  have bG5 : Hid (Box w5 w2.heap.size [.string tG, .string uG, .slice aG nG cG, .slice dG mG eG] 27) := bG4.out.below hb5 bG4.out.lt
  have oG5 : Hid (MarkOwn 31 w5 [.string tG, .string uG, .slice aG nG cG, .slice dG mG eG] (mkTMark 30 tg 1) fG) := own_on oG4.out hb5
  clear hb5 hB4 oW4 bW4 bG4 oG4
  have zW0 := bW5.out.cell 0 rfl
  have zW1 := bW5.out.cell 1 rfl
  have zW2 := bW5.out.cell 2 rfl
  have zW3 := bW5.out.cell 3 rfl
  have zG0 := bG5.out.cell 0 rfl
  have zG1 := bG5.out.cell 1 rfl
  have zG2 := bG5.out.cell 2 rfl
  have zG3 := bG5.out.cell 3 rfl
  go_wp2_with fail
  refine (implReadMark_any hss.out (Signs.all hsg.out hB5.out)).mono ?_
  rintro e w6 ⟨csH, th, fH, bh, rfl, ownH, _, _, hRH, hb6⟩
  obtain ⟨e1, e2⟩ := hRH.one hRW.out
  subst e1
  subst e2
  obtain ⟨tH, uH, aH, nH, cH, dH, mH, eH, rfl⟩ : ∃ (tH uH : ByteArray) (aH : Option Addr) (nH cH : Nat) (dH : Option Addr) (mH eH : Nat), csH = [.string tH, .string uH, .slice aH nH cH, .slice dH mH eH] := ownH.form4
  have hb6a : Hid (Below w5.heap.size w5 (w6.alloc (.cells (List.toArray [.string tH, .string uH, .slice aH nH cH, .slice dH mH eH]) 27))) := hb6.alloc hb6.size _
  have hB6 : Hid (Below w.heap.size w (w6.alloc (.cells (List.toArray [.string tH, .string uH, .slice aH nH cH, .slice dH mH eH]) 27))) := hB5.out.trans (hb6a.out.mono hB5.out.size)
  have oW6 : Hid (MarkOwn 31 (w6.alloc (.cells (List.toArray [.string tH, .string uH, .slice aH nH cH, .slice dH mH eH]) 27)) [.string tW, .string uW, .slice aW nW cW, .slice dW mW eW] th fW) := own_on oW5.out hb6a.out
  have oG6 : Hid (MarkOwn 31 (w6.alloc (.cells (List.toArray [.string tH, .string uH, .slice aH nH cH, .slice dH mH eH]) 27)) [.string tG, .string uG, .slice aG nG cG, .slice dG mG eG] (mkTMark 30 th 1) fG) := own_on oG5.out hb6a.out
  have oH6 : Hid (MarkOwn 31 (w6.alloc (.cells (List.toArray [.string tH, .string uH, .slice aH nH cH, .slice dH mH eH]) 27)) [.string tH, .string uH, .slice aH nH cH, .slice dH mH eH] th fH) := own_on ownH ((Below.refl _ _).alloc (Nat.le_refl _) _)
  have bW6 : Hid (Box (w6.alloc (.cells (List.toArray [.string tH, .string uH, .slice aH nH cH, .slice dH mH eH]) 27)) w1.heap.size [.string tW, .string uW, .slice aW nW cW, .slice dW mW eW] 27) := bW5.out.below hb6a.out bW5.out.lt
  have bG6 : Hid (Box (w6.alloc (.cells (List.toArray [.string tH, .string uH, .slice aH nH cH, .slice dH mH eH]) 27)) w2.heap.size [.string tG, .string uG, .slice aG nG cG, .slice dG mG eG] 27) := bG5.out.below hb6a.out bG5.out.lt
  clear zW0 zW1 zW2 zW3 zG0 zG1 zG2 zG3
  clear ownH hRH hb6 hb6a hB5 oW5 oG5 bW5 bG5
  have zW0 := bW6.out.cell 0 rfl
  have zW1 := bW6.out.cell 1 rfl
  have zW2 := bW6.out.cell 2 rfl
  have zW3 := bW6.out.cell 3 rfl
  have zG0 := bG6.out.cell 0 rfl
  have zG1 := bG6.out.cell 1 rfl
  have zG2 := bG6.out.cell 2 rfl
  have zG3 := bG6.out.cell 3 rfl
  go_wp2_with fail
  refine (eqMarkN (n := 31) (lo := 0) (lo2 := 0) (MarkOwn_at (lo := 0) _ _ _ _ _ oH6.out (fun _ _ => Nat.zero_le _)) (MarkOwn_at (lo := 0) _ _ _ _ _ oW6.out (fun _ _ => Nat.zero_le _))).mono ?_
  rintro e w7 ⟨rfl, hb7⟩
  have hB7 : Hid (Below w.heap.size w w7) := hB6.out.trans (hb7.mono hB6.out.size)
  have oG7 : Hid (MarkOwn 31 w7 [.string tG, .string uG, .slice aG nG cG, .slice dG mG eG] (mkTMark 30 th 1) fG) := own_on oG6.out hb7
  have bG7 : Hid (Box w7 w2.heap.size [.string tG, .string uG, .slice aG nG cG, .slice dG mG eG] 27) := bG6.out.below hb7 bG6.out.lt
  clear zW0 zW1 zW2 zW3 zG0 zG1 zG2 zG3
  clear hb7 hB6 oW6 oG6 oH6 bW6 bG6
  have zG0 := bG7.out.cell 0 rfl
  have zG1 := bG7.out.cell 1 rfl
  have zG2 := bG7.out.cell 2 rfl
  have zG3 := bG7.out.cell 3 rfl
  go_wp2_with fail
  refine (heldMark_any (n := 30) (lo := 0) (m := 1) (x := th) (MarkOwn_at (lo := 0) _ _ _ _ _ oG7.out (fun _ _ => Nat.zero_le _)) (by omega) (by rw [hCI'.out]; exact hYC.out)).mono ?_
  rintro e w8 ⟨rfl, hb8⟩
  rw [hCI'.out]
  have hB8 : Hid (Below w.heap.size w w8) := hB7.out.trans (hb8.mono hB7.out.size)
  clear hb8
  go_wp2_with fail
  go_ret
  exact ⟨rfl, hB8.out⟩

theorem contract (H : Type) (enc : TypeId × Value → H) (W : World) (base : Nat) (args : Array Value) (ds gs : List (DataW H)) (before : List MemPlace)
    (hval0 : ∀ (j : Nat) t v, Tryd.f5.params[j]? = some t → args[j]? = some v → Value.okWide Tryd.prog W .any base t v)
    (hW : DataW.Whole enc Tryd.prog Tryd.f5.params.toList Rows.fnExactReadMarkSpec.vars false W args.toList ds gs before) (hL : laidMetH Tryd.prog Rows.fnExactReadMarkRow.laid W) :
    Calls Tryd.prog 5 args W fun e W' => ∃ v, e = .returned v ∧ Rows.fnExactReadMarkSpec.post enc Tryd.prog Tryd.f5 false true false false W args v W' := by
  have hval : ∀ (j : Nat) t v, Tryd.f5.params[j]? = some t → args[j]? = some v → Value.okWide Tryd.prog W .any base t v := hval0
  have hsg : Signs W := signs_of hL
  have hW' := hW
  obtain ⟨p, q, hA0, hV, rfl, hfz, hnd⟩ := hW
  have hA : DataW.TrodAll enc Tryd.prog W 0 (fun _ => true) true Tryd.f5.params.toList args.toList ds p := hA0
  rw [Tryd.params5] at hA hval
  obtain ⟨v0, vs0, d0, ds0, p0, q0, hargs, rfl, rfl, h0, r0⟩ := trodAll_cons hA
  obtain ⟨rfl, rfl, rfl⟩ := trodAll_nil r0
  obtain rfl : args = #[v0] := by cases args; simp_all
  have hV' := hV
  obtain ⟨_, _, _, _, g1, _, rfl, _⟩ := trodVars_one hV
  obtain ⟨a0, rfl, rfl, rfl, w0⟩ := open_string Tryd.underlying9 (hval 0 9 v0 rfl rfl) h0
  clear hA0 hval0
  refine (walk a0 w0 W hsg).mono fun e W' ⟨he, bel⟩ => ?_
  subst he
  exact ⟨_, rfl, _, _, _, [], _, _, hW', trodAll_mk1 (shut_bool Tryd.underlying4 _), (trodAll_cons_mk (shut_string Tryd.underlying9 w0) trodAll_mk0), Below.trodVars d_laidOut bel (by kernel_rfl) hV', bel.frame _, fun h => by cases h⟩
theorem laid_met (os : Os) : laidMet Tryd.prog Rows.fnExactReadMarkRow.laid (({ World.holding Tryd.prog os ⟨#[], #[], []⟩ with heap := (World.holding Tryd.prog os ⟨#[], #[], []⟩).heap.modify 0 fun | .cells _ t frozen => .cells #[.int .u8 38, .string ampS, .int .u8 60, .string ltG, .int .u8 62, .string gtS, .int .u8 34, .string quotS] t frozen | o => o } : World).forCall (fun _ _ => 0) ⟨#[], #[.string ByteArray.empty], []⟩).memory :=
  laidMet_of_run' 8 (by kernel_rfl) (by kernel_rfl)
theorem reads (os : Os) {H : Type} (enc : TypeId × Value → H) : ∃ places, DataW.whole enc Tryd.prog (({ World.holding Tryd.prog os ⟨#[], #[], []⟩ with heap := (World.holding Tryd.prog os ⟨#[], #[], []⟩).heap.modify 0 fun | .cells _ t frozen => .cells #[.int .u8 38, .string ampS, .int .u8 60, .string ltG, .int .u8 62, .string gtS, .int .u8 34, .string quotS] t frozen | o => o } : World).forCall (fun _ _ => 0) ⟨#[], #[.string ByteArray.empty], []⟩).memory Tryd.f5.params.toList Rows.fnExactReadMarkSpec.vars false #[Value.string ByteArray.empty].toList 8 = some ([.lit (.string [])], [Rows.laid_loop_example_g00376_impl_signs], places) :=
  ⟨MemPlace.row ⟨0, 0, none⟩ 8, by kernel_rfl⟩
set_option maxRecDepth 100000 in
theorem lifted (os : Os) (started : os.Started) (H : Type) (enc : TypeId × Value → H) (F : Stop.Interp) :
    ReturnsInHanded {} Tryd.checked os 5 .any ((OpenSpec.ofChange Rows.fnExactReadMarkSpec).preRow enc Tryd.prog Tryd.f5 Rows.fnExactReadMarkRow.domain false Rows.fnExactReadMarkRow.laid) (((OpenSpec.ofChange Rows.fnExactReadMarkSpec).at F).post enc Tryd.prog Tryd.f5 false true false false) := by
  obtain ⟨places, hx⟩ := reads os enc
  refine returnsInHanded_of_row (C := Tryd.checked) (s := OpenSpec.ofChange Rows.fnExactReadMarkSpec) d_own started (by kernel_rfl) Tryd.func5
    (witness_row_at (enc := enc) (C := Tryd.checked) false ({ World.holding Tryd.prog os ⟨#[], #[], []⟩ with heap := (World.holding Tryd.prog os ⟨#[], #[], []⟩).heap.modify 0 fun | .cells _ t frozen => .cells #[.int .u8 38, .string ampS, .int .u8 60, .string ltG, .int .u8 62, .string gtS, .int .u8 34, .string quotS] t frozen | o => o } : World) #[.string ByteArray.empty] rfl (by kernel_rfl) (by kernel_rfl) (by kernel_rfl)
      (OpenSpec.preRow_of_cond 8 hx (by kernel_rfl) (fun k hk => by cases hk) (by kernel_rfl) (laid_met os))) ?_
  intro W base args ds gs before hval hW _ _ _ hL _ _
  exact contract H enc W base args ds gs before hval hW hL
theorem said : Rows.FnExactReadMarkSaid :=
  OpenClaim.holds_of_cond 5 Tryd.f5 rfl rfl rfl rfl rfl rfl rfl ⟨rfl, rfl, rfl, rfl, rfl⟩ rfl rfl rfl rfl rfl (by kernel_rfl) Tryd.func5 (by kernel_rfl)
    (of_decide_eq_true (by kernel_rfl)) (by unfold Func.isWrapper; first | (rw [if_pos (by decide +kernel)]; kernel_rfl) | (rw [if_neg (by decide +kernel)]; exact ⟨rfl, rfl⟩))
    (fun os started H enc _ F => by rw [OpenClaim.pre_eq_preRow]; exact lifted os started H enc F)
theorem plain (f : FuncId) (fn : Func) (hf : Tryd.pinned.checked.prog.funcNamed "loop.example/g00376/laws.FnExactReadMark" = some f) (hfn : Tryd.pinned.checked.prog.funcs[f]? = some fn) :
    false = Tryd.pinned.checked.prog.looks [] ∧ ∀ (j : Nat) t, fn.params[j]? = some t → Tryd.pinned.checked.prog.wantsStandIn t = false := by
  obtain rfl : f = 5 := Option.some.inj ((show Tryd.prog.funcNamed "loop.example/g00376/laws.FnExactReadMark" = some 5 by kernel_rfl).symm.trans hf) |>.symm
  obtain rfl : fn = Tryd.f5 := (Option.some.inj (Tryd.func5.symm.trans hfn)).symm
  refine ⟨by kernel_rfl, fun j t ht => ?_⟩
  rw [Tryd.params5] at ht
  obtain rfl : t = 9 := by simpa using Array.mem_of_getElem? ht
  exact (show Tryd.prog.wantsStandIn 9 = false by kernel_rfl)
theorem card : Rows.FnExactReadMarkCardSaid :=
  Claim7.holds_tied_plain_at .later [] _ _ _ _ said (fun _ h => by cases h) (by kernel_rfl) (fun _ h => by cases h) fnExactReadMark_row_tie rfl ⟨rfl, rfl⟩ (by kernel_rfl) rfl plain (by kernel_rfl)
end Go.Proofs.YtlcddndpfhdakaaDoor.fnExactReadMark
namespace Go.Proofs.YtlcddndpfhdakaaDoor
theorem fnExactReadMark_holds : Rows.FnExactReadMarkCardSaid := fnExactReadMark.card
end Go.Proofs.YtlcddndpfhdakaaDoor
