/- WorldOk, of the program: walked. -/
import Derived.Test.YtbodeijffpepfaaWorldOk
import Derived.Test.YtbodeijffpepfaaImplRight
import Derived.Test.YtbodeijffpepfaaHeapEq
namespace Go.Proofs.Ytbodeijffpepfaa
open Go.RowKit Go.Deep
set_option maxRecDepth 100000 in
set_option maxHeartbeats 8000000 in
theorem implWorldOk_any {w : World} {lo : Nat} {cs : List Value} {x : WorldD} (hx : WorldAt w lo cs x) (hsm0 : ∀ i, (h : i < x.vPosts.length) → PostD.small x.vPosts[i]) :
    Calls Try.prog 7 #[.agg cs.toArray] w fun e w' => e = .returned (.bool (worldB x)) ∧ Below w.heap.size w w' := by
  have hx' : Hid (WorldAt w lo cs x) := hx
  obtain ⟨k0, k1, rfl, s0, s1, _⟩ := hx
  obtain ⟨a0, c0, rfl⟩ := s0.form
  obtain ⟨a1, c1, rfl⟩ := s1.form
  have hsm : Hid _ := hsm0
  clear hsm0
  obtain ⟨_, _, e0, hm0, hxh0⟩ := id s0
  injection e0 with e01 _ e03
  subst e01 e03
  obtain ⟨_, _, e1, hm1, hxp0⟩ := id s1
  injection e1 with e11 _ e13
  subst e11 e13
  unfold maxLen at hm0 hm1
  have hxh : Hid _ := hxh0
  have hxp : Hid _ := hxp0
  clear s0 s1 hxh0 hxp0
  have hb0 : Below w.heap.size w (w.alloc (.cells (List.toArray [.slice a0 x.vHeaps.length c0, .slice a1 x.vPosts.length c1]) 31)) := (Below.refl _ _).alloc (Nat.le_refl _) _
  have bW0 : Hid (Box (w.alloc (.cells (List.toArray [.slice a0 x.vHeaps.length c0, .slice a1 x.vPosts.length c1]) 31)) w.heap.size [.slice a0 x.vHeaps.length c0, .slice a1 x.vPosts.length c1] 31) := Box.new w [.slice a0 x.vHeaps.length c0, .slice a1 x.vPosts.length c1] 31
  have q0 := bW0.out.cell 0 rfl
  have q1 := bW0.out.cell 1 rfl
  go_enter Try.func7, Try.ntmps7
  go_wp2_with fail
  refine (originCount_any _ _).mono ?_
  rintro e w1 ⟨rfl, e9⟩
  have e10 := e9.symm
  clear e9
  subst e10
  obtain ⟨g, hg⟩ : ∃ g, inB (x.vHeaps.length : Int) 2 3 = g := ⟨_, rfl⟩
  have hgh : Hid (inB (x.vHeaps.length : Int) 2 3 = g) := hg
  rw [hg]
  clear hg
  cases g
  · have hF : Hid (worldB x = false) := world_no (Or.inl hgh.out)
    go_wp2_with fail
    go_ret
    exact ⟨by rw [hF.out] <;> rfl, hb0⟩
  by_cases hpl : (10 : Int) < (x.vPosts.length : Int)
  · have hF : Hid (worldB x = false) := world_no (Or.inr (Or.inl (by omega)))
    go_wp2_with fail
    go_ret
    exact ⟨by rw [hF.out] <;> rfl, hb0⟩
  generalize (w.alloc (.cells (List.toArray [.slice a0 x.vHeaps.length c0, .slice a1 x.vPosts.length c1]) 31)) = w1 at hb0 bW0 q0 q1 ⊢
  go_wp2_with fail
  go_loopw [21] (fun iv wr => ∃ (j : Nat), j ≤ x.vHeaps.length ∧ iv = .int .i64 j ∧ Below w.heap.size w wr ∧ Hid (Box wr w.heap.size [.slice a0 x.vHeaps.length c0, .slice a1 x.vPosts.length c1] 31) ∧ Hid (∀ i, (hi : i < x.vHeaps.length) → i < j → specB x.vHeaps[i] = true)) (fun iv _ => x.vHeaps.length - (intOf iv).toNat)
  case atStart => exact ⟨0, by omega, rfl, hb0, bW0, fun i _ h => absurd h (by omega)⟩
  case round =>
    clear q0 q1 bW0 hb0
    obtain ⟨j, hj, rfl, hb, bW, hok⟩ := hrel
    have hlen2 : x.vHeaps.length ≤ 3 := by have q := hgh.out; unfold inB at q; simp at q; omega
    have q0 := bW.out.cell 0 rfl
    have q1 := bW.out.cell 1 rfl
    by_cases hlt : j < x.vHeaps.length
    · have hlI : (j : Int) < ((x.vHeaps.length : Nat) : Int) := by omega
      have hj0 : (0 : Int) ≤ (j : Int) := by omega
      obtain ⟨b, off, rfl, hlo, hbw, hc⟩ := hxh.out (by omega)
      obtain ⟨cs, hcl, lie, hr⟩ := hc j hlt
      have lie1 := Lie.keep (lo := lo) (lo' := lo) lie (.of_below hb) hlo hbw
      have hr2 := HeapAt_stays _ _ _ lo _ _ (.of_below hb) hr
      obtain ⟨h, hh⟩ : ∃ h, x.vHeaps[j] = h := ⟨_, rfl⟩
      have hhh : Hid (x.vHeaps[j] = h) := hh
      rw [hh] at hr2
      have hr3 : Hid (HeapAt wr lo cs h) := hr2
      obtain ⟨k2, k3, k4, rfl, s2, s3, s4, _⟩ := hr2
      obtain ⟨a2, cap2, rfl⟩ := s2.form
      obtain ⟨a3, cap3, rfl⟩ := s3.form
      obtain ⟨a4, cap4, rfl⟩ := s4.form
      have z0 := lie_at lie1 0 rfl
      have z1 := lie_at lie1 1 rfl
      have z2 := lie_at lie1 2 rfl
      have z3 := lie_at lie1 3 rfl
      have z4 := lie_at lie1 4 rfl
      simp only [Nat.add_zero] at z0
      clear lie lie1 hcl hc hr hh s2 s3 s4 hxh
      have hbh : Below w.heap.size w (wr.alloc (.cells (List.toArray [.int .i64 h.vNext, .int .i64 h.vDoc, .slice a2 h.vNodes.length cap2, .slice a3 h.vObjs.length cap3, .slice a4 h.vGlobals.length cap4]) 43)) := hb.alloc hb.size _
      have bWh : Hid (Box (wr.alloc (.cells (List.toArray [.int .i64 h.vNext, .int .i64 h.vDoc, .slice a2 h.vNodes.length cap2, .slice a3 h.vObjs.length cap3, .slice a4 h.vGlobals.length cap4]) 43)) w.heap.size [.slice (some ⟨b, off, none⟩) x.vHeaps.length c0, .slice a1 x.vPosts.length c1] 31) := bW.out.alloc _
      have y0 := (Box.new wr [.int .i64 h.vNext, .int .i64 h.vDoc, .slice a2 h.vNodes.length cap2, .slice a3 h.vObjs.length cap3, .slice a4 h.vGlobals.length cap4] 43).cell 0 rfl
      go_wp2_with fail
      refine (implHeapOk_any (lo := lo) (HeapAt_stays _ _ _ lo _ _ (.of_below ((Below.refl _ _).alloc (Nat.le_refl _) _)) hr3.out)).mono ?_
      rintro e w3 ⟨rfl, hb3⟩
      rw [← spec_impl]
      have hB3 : Hid (Below w.heap.size w w3) := hbh.trans (hb3.mono hbh.size)
      have bW3 : Hid (Box w3 w.heap.size [.slice (some ⟨b, off, none⟩) x.vHeaps.length c0, .slice a1 x.vPosts.length c1] 31) := bWh.out.below hb3 bWh.out.lt
      clear y0 hbh bWh
      obtain ⟨v, hv⟩ : ∃ v, specB h = v := ⟨_, rfl⟩
      have hvh : Hid (specB h = v) := hv
      rw [hv]
      clear hv hb3 z0 z1 z2 z3 z4 q0 q1 bW hb
      cases v
      · have hF : Hid (worldB x = false) := world_no (Or.inr (Or.inr (Or.inl ⟨j, hlt, by rw [hhh.out]; exact hvh.out⟩)))
        go_wp2_with fail
        go_ret
        exact ⟨by rw [hF.out] <;> rfl, hB3.out⟩
      · go_wp2_with fail
        go_roundw
        case rel => exact ⟨j + 1, by omega, by go_num, hB3.out, bW3, fun i hi h => by
          by_cases e : i < j
          · exact hok.out i hi e
          · obtain rfl : i = j := by omega
            rw [hhh.out]; exact hvh.out⟩
        case measure => simp [intOf]; omega
    · obtain rfl : j = x.vHeaps.length := by omega
      have hall : Hid (∀ i, (hi : i < x.vHeaps.length) → specB x.vHeaps[i] = true) := fun i hi => hok.out i hi hi
      clear hok hxh
      go_wp2_with fail
      go_loopw [32] (fun iv wr => ∃ (j : Nat), j ≤ x.vPosts.length ∧ iv = .int .i64 j ∧ Below w.heap.size w wr ∧ Hid (Box wr w.heap.size [.slice a0 x.vHeaps.length c0, .slice a1 x.vPosts.length c1] 31) ∧ Hid (∀ i, (hi : i < x.vPosts.length) → i < j → postB x.vHeaps.length x.vPosts[i] = true)) (fun iv _ => x.vPosts.length - (intOf iv).toNat)
      case atStart => exact ⟨0, by omega, rfl, hb, bW, fun i _ h => absurd h (by omega)⟩
      case round =>
        clear q0 q1 bW hb
        obtain ⟨j, hj, rfl, hb, bW, hok⟩ := hrel
        have q0 := bW.out.cell 0 rfl
        have q1 := bW.out.cell 1 rfl
        by_cases hlt : j < x.vPosts.length
        · have hlJ : (j : Int) < ((x.vPosts.length : Nat) : Int) := by omega
          have hj0 : (0 : Int) ≤ (j : Int) := by omega
          obtain ⟨b, off, rfl, hlo, hbw, hc⟩ := hxp.out (by omega)
          obtain ⟨cs, hcl, lie, hr⟩ := hc j hlt
          have lie1 := Lie.keep (lo := lo) (lo' := lo) lie (.of_below hb) hlo hbw
          obtain ⟨p, hp⟩ : ∃ p, x.vPosts[j] = p := ⟨_, rfl⟩
          have hph : Hid (x.vPosts[j] = p) := hp
          rw [hp] at hr
          have hr3 : Hid (PostAt wr lo cs p) := hr
          obtain ⟨rfl, pF, pT, _⟩ := hr
          have z0 := lie_at lie1 0 rfl
          have z1 := lie_at lie1 1 rfl
          have z2 := lie_at lie1 2 rfl
          simp only [Nat.add_zero] at z0
          have hsz : Hid (p.vText.size ≤ 1048576) := by show _ ≤ _; rw [← hp]; exact (hsm.out j hlt).1
          clear lie lie1 hcl hc hp hxp
          have hbp : Below w.heap.size w (wr.alloc (.cells (List.toArray [.int .i64 p.vFrom, .int .i64 p.vTo, .string p.vText]) 45)) := hb.alloc hb.size _
          have bWp : Hid (Box (wr.alloc (.cells (List.toArray [.int .i64 p.vFrom, .int .i64 p.vTo, .string p.vText]) 45)) w.heap.size [.slice a0 x.vHeaps.length c0, .slice (some ⟨b, off, none⟩) x.vPosts.length c1] 31) := bW.out.alloc _
          have y0 := (Box.new wr [.int .i64 p.vFrom, .int .i64 p.vTo, .string p.vText] 45).cell 0 rfl
          have u0 := bWp.out.cell 0 rfl
          have u1 := bWp.out.cell 1 rfl
          go_wp2_with fail
          refine (postOk_any (lo := lo) (WorldAt_stays _ _ _ lo _ _ (.of_below hbp) hx'.out) (PostAt_stays _ _ _ lo _ _ (.of_below ((Below.refl _ _).alloc (Nat.le_refl _) _)) hr3.out) hsz.out).mono ?_
          rintro e w3 ⟨rfl, hb3⟩
          have hB3 : Hid (Below w.heap.size w w3) := hbp.trans (hb3.mono hbp.size)
          have bW3 : Hid (Box w3 w.heap.size [.slice a0 x.vHeaps.length c0, .slice (some ⟨b, off, none⟩) x.vPosts.length c1] 31) := bWp.out.below hb3 bWp.out.lt
          clear y0 u0 u1 hbp bWp hb3
          obtain ⟨v, hv⟩ : ∃ v, postB x.vHeaps.length p = v := ⟨_, rfl⟩
          have hvh : Hid (postB x.vHeaps.length p = v) := hv
          rw [hv]
          clear hv z0 z1 z2 q0 q1 bW hb
          cases v
          · have hF : Hid (worldB x = false) := world_no (Or.inr (Or.inr (Or.inr ⟨j, hlt, by rw [hph.out]; exact hvh.out⟩)))
            go_wp2_with fail
            go_ret
            exact ⟨by rw [hF.out] <;> rfl, hB3.out⟩
          · go_wp2_with fail
            go_roundw
            case rel => exact ⟨j + 1, by omega, by go_num, hB3.out, bW3, fun i hi h => by
              by_cases e : i < j
              · exact hok.out i hi e
              · obtain rfl : i = j := by omega
                rw [hph.out]; exact hvh.out⟩
            case measure => simp [intOf]; omega
        · obtain rfl : j = x.vPosts.length := by omega
          have hF : Hid (worldB x = true) := world_yes hgh.out (by omega) hall.out fun i hi => hok.out i hi hi
          go_wp2_with fail
          go_ret
          exact ⟨by rw [hF.out] <;> rfl, hb⟩
end Go.Proofs.Ytbodeijffpepfaa
