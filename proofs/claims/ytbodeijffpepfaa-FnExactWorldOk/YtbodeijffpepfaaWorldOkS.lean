/- WorldOk, of the specification: walked. -/
import Derived.Test.YtbodeijffpepfaaWorldOk
import Derived.Test.YtbodeijffpepfaaHeapSpec
namespace Go.Proofs.Ytbodeijffpepfaa
open Go.RowKit Go.Deep
set_option maxRecDepth 100000 in
set_option maxHeartbeats 8000000 in
theorem specWorldOk_any {w : World} {lo : Nat} {cs : List Value} {x : WorldD} (hx : WorldAt w lo cs x) (hsm0 : ∀ i, (h : i < x.vPosts.length) → PostD.small x.vPosts[i]) :
    Calls Try.prog 5 #[.agg cs.toArray] w fun e w' => e = .returned (.bool (worldB x)) ∧ Below w.heap.size w w' := by
  have hx' : Hid (WorldAt w lo cs x) := hx
  obtain ⟨k0, k1, rfl, s0, s1, _⟩ := hx
  obtain ⟨a0, c0, rfl⟩ := s0.form
  obtain ⟨a1, c1, rfl⟩ := s1.form
  have hsm : Hid _ := hsm0
  clear hsm0
  obtain ⟨_, _, e0, hm0, hxh0⟩ := id s0
  injection e0 with e01 _ e03
  subst e01 e03
  obtain ⟨_, _, e1, hm1, hxp0⟩ := id s1
  injection e1 with e11 _ e13
  subst e11 e13
  unfold maxLen at hm0 hm1
  have hxh : Hid _ := hxh0
  have hxp : Hid _ := hxp0
  clear s0 s1 hxh0 hxp0
  have hb0 : Below w.heap.size w (w.alloc (.cells (List.toArray [.slice a0 x.vHeaps.length c0, .slice a1 x.vPosts.length c1]) 31)) := (Below.refl _ _).alloc (Nat.le_refl _) _
  have bW0 : Hid (Box (w.alloc (.cells (List.toArray [.slice a0 x.vHeaps.length c0, .slice a1 x.vPosts.length c1]) 31)) w.heap.size [.slice a0 x.vHeaps.length c0, .slice a1 x.vPosts.length c1] 31) := Box.new w [.slice a0 x.vHeaps.length c0, .slice a1 x.vPosts.length c1] 31
  have q0 := bW0.out.cell 0 rfl
  have q1 := bW0.out.cell 1 rfl
  go_enter Try.func5, Try.ntmps5
  go_wp2_with fail
  refine (l1In_any _ _ _ _).mono ?_
  rintro e w1 ⟨rfl, e9⟩
  have e10 := e9.symm
  clear e9
  subst e10
  obtain ⟨g, hg⟩ : ∃ g, inB (x.vHeaps.length : Int) 2 3 = g := ⟨_, rfl⟩
  have hgh : Hid (inB (x.vHeaps.length : Int) 2 3 = g) := hg
  rw [hg]
  clear hg
  cases g
  · have hF : Hid (worldB x = false) := world_no (Or.inl hgh.out)
    go_wp2_with fail
    go_ret
    exact ⟨by rw [hF.out] <;> rfl, hb0⟩
  by_cases hpl : (10 : Int) < (x.vPosts.length : Int)
  · have hF : Hid (worldB x = false) := world_no (Or.inr (Or.inl (by omega)))
    go_wp2_with fail
    go_ret
    exact ⟨by rw [hF.out] <;> rfl, hb0⟩
  generalize (w.alloc (.cells (List.toArray [.slice a0 x.vHeaps.length c0, .slice a1 x.vPosts.length c1]) 31)) = w1 at hb0 bW0 q0 q1 ⊢
  go_wp2_with fail
  go_loopw [4] (fun iv wr => ∃ (j : Nat), j ≤ x.vHeaps.length ∧ iv = .int .i64 j ∧ Below w.heap.size w wr ∧ Hid (Box wr w.heap.size [.slice a0 x.vHeaps.length c0, .slice a1 x.vPosts.length c1] 31) ∧ Hid (∀ i, (hi : i < x.vHeaps.length) → i < j → specB x.vHeaps[i] = true)) (fun iv _ => x.vHeaps.length - (intOf iv).toNat)
  case atStart => exact ⟨0, by omega, rfl, hb0, bW0, fun i _ h => absurd h (by omega)⟩
  case round =>
    clear q0 q1 bW0 hb0
    obtain ⟨j, hj, rfl, hb, bW, hok⟩ := hrel
    have hlen2 : x.vHeaps.length ≤ 3 := by have q := hgh.out; unfold inB at q; simp at q; omega
    have q0 := bW.out.cell 0 rfl
    have q1 := bW.out.cell 1 rfl
    by_cases hlt : j < x.vHeaps.length
    · have hlI : (j : Int) < ((x.vHeaps.length : Nat) : Int) := by omega
      have hj0 : (0 : Int) ≤ (j : Int) := by omega
      obtain ⟨b, off, rfl, hlo, hbw, hc⟩ := hxh.out (by omega)
      obtain ⟨cs, hcl, lie, hr⟩ := hc j hlt
      have lie1 := Lie.keep (lo := lo) (lo' := lo) lie (.of_below hb) hlo hbw
      have hr2 := HeapAt_stays _ _ _ lo _ _ (.of_below hb) hr
      obtain ⟨h, hh⟩ : ∃ h, x.vHeaps[j] = h := ⟨_, rfl⟩
      have hhh : Hid (x.vHeaps[j] = h) := hh
      rw [hh] at hr2
      have hr3 : Hid (HeapAt wr lo cs h) := hr2
      obtain ⟨k2, k3, k4, rfl, s2, s3, s4, _⟩ := hr2
      obtain ⟨a2, cap2, rfl⟩ := s2.form
      obtain ⟨a3, cap3, rfl⟩ := s3.form
      obtain ⟨a4, cap4, rfl⟩ := s4.form
      have z0 := lie_at lie1 0 rfl
      have z1 := lie_at lie1 1 rfl
      have z2 := lie_at lie1 2 rfl
      have z3 := lie_at lie1 3 rfl
      have z4 := lie_at lie1 4 rfl
      simp only [Nat.add_zero] at z0
      clear lie lie1 hcl hc hr hh s2 s3 s4 hxh
      go_wp2_with fail
      refine (specHeapOk_any (lo := lo) hr3.out).mono ?_
      rintro e w3 ⟨rfl, hb3⟩
      have hB3 : Hid (Below w.heap.size w w3) := hb.trans (hb3.mono hb.size)
      have bW3 : Hid (Box w3 w.heap.size [.slice (some ⟨b, off, none⟩) x.vHeaps.length c0, .slice a1 x.vPosts.length c1] 31) := bW.out.below hb3 bW.out.lt

      obtain ⟨v, hv⟩ : ∃ v, specB h = v := ⟨_, rfl⟩
      have hvh : Hid (specB h = v) := hv
      rw [hv]
      clear hv hb3 z0 z1 z2 z3 z4 q0 q1 bW hb
      cases v
      · have hF : Hid (worldB x = false) := world_no (Or.inr (Or.inr (Or.inl ⟨j, hlt, by rw [hhh.out]; exact hvh.out⟩)))
        go_wp2_with fail
        go_ret
        exact ⟨by rw [hF.out] <;> rfl, hB3.out⟩
      · go_wp2_with fail
        go_roundw
        case rel => exact ⟨j + 1, by omega, by go_num, hB3.out, bW3, fun i hi h => by
          by_cases e : i < j
          · exact hok.out i hi e
          · obtain rfl : i = j := by omega
            rw [hhh.out]; exact hvh.out⟩
        case measure => simp [intOf]; omega
    · obtain rfl : j = x.vHeaps.length := by omega
      have hall : Hid (∀ i, (hi : i < x.vHeaps.length) → specB x.vHeaps[i] = true) := fun i hi => hok.out i hi hi
      clear hok hxh
      go_wp2_with fail
      go_loopw [5] (fun iv wr => ∃ (j : Nat), j ≤ x.vPosts.length ∧ iv = .int .i64 j ∧ Below w.heap.size w wr ∧ Hid (Box wr w.heap.size [.slice a0 x.vHeaps.length c0, .slice a1 x.vPosts.length c1] 31) ∧ Hid (∀ i, (hi : i < x.vPosts.length) → i < j → postB x.vHeaps.length x.vPosts[i] = true)) (fun iv _ => x.vPosts.length - (intOf iv).toNat)
      case atStart => exact ⟨0, by omega, rfl, hb, bW, fun i _ h => absurd h (by omega)⟩
      case round =>
        clear q0 q1 bW hb
        obtain ⟨j, hj, rfl, hb, bW, hok⟩ := hrel
        have q0 := bW.out.cell 0 rfl
        have q1 := bW.out.cell 1 rfl
        by_cases hlt : j < x.vPosts.length
        · have hlJ : (j : Int) < ((x.vPosts.length : Nat) : Int) := by omega
          have hj0 : (0 : Int) ≤ (j : Int) := by omega
          obtain ⟨b, off, rfl, hlo, hbw, hc⟩ := hxp.out (by omega)
          obtain ⟨cs, hcl, lie, hr⟩ := hc j hlt
          have lie1 := Lie.keep (lo := lo) (lo' := lo) lie (.of_below hb) hlo hbw
          obtain ⟨p, hp⟩ : ∃ p, x.vPosts[j] = p := ⟨_, rfl⟩
          have hph : Hid (x.vPosts[j] = p) := hp
          rw [hp] at hr
          have hr3 : Hid (PostAt wr lo cs p) := hr
          obtain ⟨rfl, pF, pT, _⟩ := hr
          have z0 := lie_at lie1 0 rfl
          have z1 := lie_at lie1 1 rfl
          have z2 := lie_at lie1 2 rfl
          simp only [Nat.add_zero] at z0
          have hsz : Hid (p.vText.size ≤ 1048576) := by show _ ≤ _; rw [← hp]; exact (hsm.out j hlt).1
          clear lie lie1 hcl hc hp hxp
          have hbp : Below w.heap.size w (wr.alloc (.cells (List.toArray [.int .i64 p.vFrom, .int .i64 p.vTo, .string p.vText]) 45)) := hb.alloc hb.size _
          have bWp : Hid (Box (wr.alloc (.cells (List.toArray [.int .i64 p.vFrom, .int .i64 p.vTo, .string p.vText]) 45)) w.heap.size [.slice a0 x.vHeaps.length c0, .slice (some ⟨b, off, none⟩) x.vPosts.length c1] 31) := bW.out.alloc _
          have bPp : Hid (Box (wr.alloc (.cells (List.toArray [.int .i64 p.vFrom, .int .i64 p.vTo, .string p.vText]) 45)) wr.heap.size [.int .i64 p.vFrom, .int .i64 p.vTo, .string p.vText] 45) := Box.new wr _ _
          have y2 := bPp.out.cell 2 rfl
          go_wp2_with fail
          refine (specReadTree_any hsz.out).mono ?_
          rintro e w3 ⟨ct, tx, ft, bt, rfl, hto, _, _, hrd, hb3⟩
          obtain ⟨kt, b3, l3, c3, rfl⟩ : ∃ (kt : ByteArray) (b3 : Option Addr) (l3 c3 : Nat), ct = [.string kt, .slice b3 l3 c3] := by obtain ⟨k, e, h3, _⟩ := hto.opened; obtain ⟨y1, y2, y3⟩ := h3.form; exact ⟨_, y1, _, y2, by rw [e, y3]⟩
          have hbe : Hid (bt = readB p.vText) := readB_of hrd
          have hbp3 := hbp.trans (hb3.mono hbp.size)
          have hB3 : Hid (Below w.heap.size w (w3.alloc (.cells #[.string kt, .slice b3 l3 c3] 48))) := hbp3.alloc hbp3.size _
          have bW3 : Hid (Box (w3.alloc (.cells #[.string kt, .slice b3 l3 c3] 48)) w.heap.size [.slice a0 x.vHeaps.length c0, .slice (some ⟨b, off, none⟩) x.vPosts.length c1] 31) := (bWp.out.below hb3 bWp.out.lt).alloc _
          have bP3 : Hid (Box (w3.alloc (.cells #[.string kt, .slice b3 l3 c3] 48)) wr.heap.size [.int .i64 p.vFrom, .int .i64 p.vTo, .string p.vText] 45) := (bPp.out.below hb3 bPp.out.lt).alloc _
          clear y2 hbp bWp bPp hb3 hbp3 hto hrd z0 z1 z2 q0 q1 bW hb
          go_upto_region 14 with fail
          generalize (w3.alloc (.cells #[.string kt, .slice b3 l3 c3] 48)) = w4 at hB3 bW3 bP3 ⊢
          have y0 := bP3.out.cell 0 rfl
          have y1 := bP3.out.cell 1 rfl
          have hwn : IntKind.i64.wrap ((x.vHeaps.length : Int) - 1) = (x.vHeaps.length : Int) - 1 := by rw [IntKind.wrap_i64]; omega
          have hi1 : Hid (inB p.vFrom 0 ((x.vHeaps.length : Int) - 1) = orgB x.vHeaps.length p.vFrom) := by
            show _ = _
            unfold inB orgB
            congr 1
            by_cases h : p.vFrom < (x.vHeaps.length : Int)
            · rw [decide_eq_true h, decide_eq_true (by omega)]
            · rw [decide_eq_false h, decide_eq_false (by omega)]
          have hi2 : Hid (inB p.vTo 0 ((x.vHeaps.length : Int) - 1) = orgB x.vHeaps.length p.vTo) := by
            show _ = _
            unfold inB orgB
            congr 1
            by_cases h : p.vTo < (x.vHeaps.length : Int)
            · rw [decide_eq_true h, decide_eq_true (by omega)]
            · rw [decide_eq_false h, decide_eq_false (by omega)]
          have hPB : Hid (postB x.vHeaps.length p = (bt && orgB x.vHeaps.length p.vFrom && orgB x.vHeaps.length p.vTo && !decide (p.vFrom = p.vTo))) := by show _ = _; unfold postB; rw [← hbe.out]
          have hno : Hid (postB x.vHeaps.length p = false → worldB x = false) := fun h => world_no (Or.inr (Or.inr (Or.inr ⟨j, hlt, by rw [hph.out]; exact h⟩)))
          have q0 := bW3.out.cell 0 rfl
          have q1 := bW3.out.cell 1 rfl
          go_wp2_with fail
          refine (l1In_any _ _ _ _).mono ?_
          rintro e w5 ⟨rfl, e9⟩
          have e10 := e9.symm
          clear e9
          subst e10
          rw [hi1.out]
          obtain ⟨f1, hf1⟩ : ∃ f1, orgB x.vHeaps.length p.vFrom = f1 := ⟨_, rfl⟩
          rw [hf1] at hPB ⊢
          clear hf1 hi1
          cases f1
          · have hF : Hid (worldB x = false) := hno.out (by rw [hPB.out]; cases bt <;> rfl)
            go_wp2_with fail
            go_ret
            exact ⟨by rw [hF.out] <;> rfl, hB3.out⟩
          go_wp2_with fail
          refine (l1In_any _ _ _ _).mono ?_
          rintro e w5 ⟨rfl, e9⟩
          have e10 := e9.symm
          clear e9
          subst e10
          rw [hi2.out]
          obtain ⟨f2, hf2⟩ : ∃ f2, orgB x.vHeaps.length p.vTo = f2 := ⟨_, rfl⟩
          rw [hf2] at hPB ⊢
          clear hf2 hi2
          cases f2
          · have hF : Hid (worldB x = false) := hno.out (by rw [hPB.out]; cases bt <;> rfl)
            go_wp2_with fail
            go_ret
            exact ⟨by rw [hF.out] <;> rfl, hB3.out⟩
          by_cases hEq : p.vFrom = p.vTo
          · have hF : Hid (worldB x = false) := hno.out (by rw [hPB.out, decide_eq_true hEq]; cases bt <;> rfl)
            go_wp2_with fail
            go_ret
            exact ⟨by rw [hF.out] <;> rfl, hB3.out⟩
          cases bt
          · have hF : Hid (worldB x = false) := hno.out (by rw [hPB.out]; rfl)
            go_wp2_with fail
            go_ret
            exact ⟨by rw [hF.out] <;> rfl, hB3.out⟩
          · have hvh : Hid (postB x.vHeaps.length p = true) := by show _ = _; rw [hPB.out, decide_eq_false hEq]; rfl
            go_wp2_with fail
            go_roundw
            case rel => exact ⟨j + 1, by omega, by go_num, hB3.out, bW3, fun i hi h => by
              by_cases e : i < j
              · exact hok.out i hi e
              · obtain rfl : i = j := by omega
                rw [hph.out]; exact hvh.out⟩
            case measure => simp [intOf]; omega
        · obtain rfl : j = x.vPosts.length := by omega
          have hF : Hid (worldB x = true) := world_yes hgh.out (by omega) hall.out fun i hi => hok.out i hi hi
          go_wp2_with fail
          go_ret
          exact ⟨by rw [hF.out] <;> rfl, hb⟩
end Go.Proofs.Ytbodeijffpepfaa
