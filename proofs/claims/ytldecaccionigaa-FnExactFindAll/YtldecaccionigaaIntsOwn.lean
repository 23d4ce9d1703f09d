/- Lists of lists of whole numbers that own their memory; the laws' eq.., mark.., held.. of them, walked. -/
import Derived.Test.YtldecaccionigaaMarkRecs
import Derived.Test.YtldecaccionigaaHeldRecs
import Derived.Test.YtldecaccionigaaStEq
import Derived.Test.YtldecaccionigaaTakeLit
import Derived.WalkKit
namespace Go.Proofs.Ytldecaccionigaa
open Go.RowKit
def IntsOwn (w : World) (cs : List Value) (xs : List Int) (fs : List Nat) : Prop := ∃ k, cs = [k] ∧ SeqOwn 1 IntOwn w k xs fs
def IntsAt (w : World) (lo : Nat) (cs : List Value) (xs : List Int) : Prop := ∃ k, cs = [k] ∧ SeqAt 1 IntAt w lo k xs
theorem IntsOwn_stays : OwnStays IntsOwn := fun _ _ _ _ _ q h => by obtain ⟨k, e, h⟩ := h; exact ⟨k, e, h.stays intOwn_stays q⟩
theorem IntsOwn_lt : OwnLt IntsOwn := fun _ _ _ _ h => by obtain ⟨k, e, h⟩ := h; exact h.lt intOwn_lt
theorem IntsAt_stays : Stays IntsAt := fun _ _ _ _ _ _ q h => by obtain ⟨k, e, h⟩ := h; exact ⟨k, e, h.keep intAt_stays q⟩
theorem IntsOwn_at {lo : Nat} (w : World) (cs : List Value) (x : List Int) (fs : List Nat) (h : IntsOwn w cs x fs) (q : ∀ b ∈ fs, lo ≤ b) : IntsAt w lo cs x := by obtain ⟨k, e, h⟩ := h; exact ⟨k, e, h.at intOwn_at q⟩
def cntInts (xs : List Int) : Nat := cntL cntI xs
def mkInts (xs : List Int) (m : Int) : List Int := mkL cntI mkI xs m
set_option maxHeartbeats 1000000 in
theorem eqInt64SS_any {w : World} {lo lo2 : Nat} {k k2 : Value} {xs : List (List Int)} (hk : SeqAt 1 IntsAt w lo k xs) (hk2 : SeqAt 1 IntsAt w lo2 k2 xs) :
    Calls Try.prog 20 #[k, k2] w fun e w' => e = .returned (.bool true) ∧ Below w.heap.size w w' := by
  obtain ⟨a, cap, rfl, hm, hx⟩ := hk
  obtain ⟨a2, cap2, rfl, _, hx2⟩ := hk2
  unfold maxLen at hm
  have hx' : Hid (0 < xs.length → ∃ b off, a = some ⟨b, off, none⟩ ∧ lo ≤ b ∧ b < w.heap.size ∧ ∀ i, (h : i < xs.length) → ∃ cs, cs.length = 1 ∧ Lie w b (off + i * 1) cs ∧ IntsAt w lo cs xs[i]) := hx
  have hx2' : Hid (0 < xs.length → ∃ b off, a2 = some ⟨b, off, none⟩ ∧ lo2 ≤ b ∧ b < w.heap.size ∧ ∀ i, (h : i < xs.length) → ∃ cs, cs.length = 1 ∧ Lie w b (off + i * 1) cs ∧ IntsAt w lo2 cs xs[i]) := hx2
  clear hx hx2
  go_enter Try.func20, Try.ntmps20
  go_wp2_with fail
  go_loopw [5] (fun i wr => ∃ (j : Nat), j ≤ xs.length ∧ i = .int .i64 j ∧ Below w.heap.size w wr) (fun i _ => xs.length - (intOf i).toNat)
  case atStart => exact ⟨0, by omega, rfl, Below.refl _ _⟩
  case round =>
    obtain ⟨j, hj, rfl, hb⟩ := hrel
    by_cases hlt : j < xs.length
    · obtain ⟨b, off, rfl, hlo, hbw, hc⟩ := hx'.out (by omega)
      obtain ⟨b2, off2, rfl, hlo2, hbw2, hc2⟩ := hx2'.out (by omega)
      obtain ⟨cs, _, lie, k1, rfl, s1⟩ := hc j hlt
      obtain ⟨cs2, _, lie2, k2, rfl, s2⟩ := hc2 j hlt
      have z0 := (Lie.keep (lo := lo) (lo' := lo) lie (.of_below hb) hlo hbw) 0 (by simp)
      have y0 := (Lie.keep (lo := lo2) (lo' := lo2) lie2 (.of_below hb) hlo2 hbw2) 0 (by simp)
      simp only [List.getElem?_cons_zero, Nat.add_zero, Nat.mul_one] at z0 y0
      have s1' : Hid (SeqAt 1 IntAt wr lo k1 xs[j]) := s1.below intAt_stays hb
      have s2' : Hid (SeqAt 1 IntAt wr lo2 k2 xs[j]) := s2.below intAt_stays hb
      obtain ⟨p1, d1, rfl⟩ := s1.form
      obtain ⟨p2, d2, rfl⟩ := s2.form
      have hlt' : (j : Int) < (xs.length : Int) := by omega
      have h0' : (0 : Int) ≤ (j : Int) := by omega
      clear lie lie2 s1 s2 hc hc2 hx' hx2'
      go_wp2_with fail
      go_region_held3 (fun w' => w'.cell? ⟨b, off + j, none⟩ = some (.slice p1 xs[j].length d1) ∧ w'.cell? ⟨b2, off2 + j, none⟩ = some (.slice p2 xs[j].length d2)) (go_keep)
        (first | (go_at_call 28; refine (eqInt64S_any (by exact SeqAt.below intAt_stays s1'.out (Below.drew (Below.refl _ _))) (by exact SeqAt.below intAt_stays s2'.out (Below.drew (Below.refl _ _)))).mono ?_; rintro e w1 ⟨rfl, hb1⟩; have hb1' := undrew hb1; have q0 := cell_on hb1' z0; have q1 := cell_on hb1' y0; have hb' : Hid (Below w.heap.size w w1) := hb.trans (hb1'.mono hb.size); clear hb1 hb1'))
      go_wp2_with fail
      go_roundw
      case rel => exact ⟨j + 1, by omega, by go_num, hb'.out⟩
      case measure => simp [intOf]; omega
    · go_wp2_with fail
      go_ret
      exact ⟨rfl, hb⟩
set_option maxHeartbeats 1000000 in
theorem markInt64SS_any {w : World} {k : Value} {xs : List (List Int)} {fs : List Nat} {m : Int} (hk : SeqOwn 1 IntsOwn w k xs fs) (h0 : 0 ≤ m) (h1 : m + (cntL cntInts xs : Nat) ≤ 4611686018427387904) :
    Calls Try.prog 23 #[k, .int .i64 m] w fun e w' => e = .returned (.int .i64 (m + (cntL cntInts xs : Nat))) ∧ SeqOwn 1 IntsOwn w' k (mkL cntInts mkInts xs m) fs ∧ Out fs w w' := by
  have hk' : Hid (SeqOwn 1 IntsOwn w k xs fs) := hk
  obtain ⟨a, cap, rfl, hm, _⟩ := hk
  unfold maxLen at hm
  go_enter Try.func23, Try.ntmps23
  go_wp2_with fail
  go_loopw [1, 5] (fun z i wr => ∃ (j : Nat), j ≤ xs.length ∧ i = .int .i64 j ∧ z = .int .i64 (m + (pos cntInts xs j : Nat)) ∧ Hid (SeqOwn 1 IntsOwn wr (.slice a xs.length cap) (mix (mkL cntInts mkInts xs m) xs j) fs) ∧ Hid (Out fs w wr)) (fun _ i _ => xs.length - (intOf i).toNat)
  case atStart => exact ⟨0, by omega, rfl, by rw [pos_zero]; simp, by rw [mix_zero]; exact hk'.out, Out.refl _ _⟩
  case round =>
    obtain ⟨j, hj, rfl, rfl, hown, hout⟩ := hrel
    by_cases hlt : j < xs.length
    · have hml := mix_length (mkL_length (cnt := cntInts) (mk := mkInts) (xs := xs) (m := m)) hj
      obtain ⟨b, off, C, T, cs, fj, rfl, hrow, hcl, ⟨hbf, hbn, hsub, hnd⟩, hr, hclose⟩ := hown.out.step IntsOwn_stays IntsOwn_lt (j := j) (by omega)
      have hset : Hid _ := mix_set (mkL_length (cnt := cntInts) (mk := mkInts) (xs := xs) (m := m)) hlt
      have hps2 : pos cntInts xs (j + 1) = pos cntInts xs j + cntL cntI xs[j] := pos_succ hlt
      have hpl : pos cntInts xs (j + 1) ≤ cntL cntInts xs := pos_le (by omega) (Nat.le_refl _)
      rw [mkL_get] at hset
      rw [mix_get mkL_length hlt] at hr
      generalize xs[j] = Q at *
      obtain ⟨k1, rfl, o1⟩ := hr
      obtain ⟨p1, d1, rfl⟩ := o1.form
      have o1' : Hid (SeqOwn 1 IntOwn wr (.slice p1 Q.length d1) Q fj) := o1
      have hrow' : Hid (RowIs wr b (off + j * 1) C T [.slice p1 Q.length d1]) := hrow
      have hclose' : Hid _ := hclose
      have z0 := RowIs.cell hrow 0 rfl
      simp only [Nat.add_zero, Nat.mul_one] at z0
      clear hrow hclose o1
      generalize hP : m + (pos cntInts xs j : Nat) = P at *
      have hP0 : 0 ≤ P := by omega
      generalize hC1 : cntL cntI Q = N1 at *
      have hP1 : P + (N1 : Int) ≤ 4611686018427387904 := by omega
      have hz : m + (pos cntInts xs (j + 1) : Nat) = P + (N1 : Int) := by omega
      clear hpl hps2
      go_wp2_with fail
      refine (markInt64S_any o1'.out hP0 (by rw [hC1]; exact hP1)).mono ?_
      rintro e v1 ⟨rfl, hown1, hc1⟩
      rw [hC1]
      have row1 : Hid (RowIs v1 b (off + j * 1) C T [.slice p1 Q.length d1]) := RowIs.out hrow'.out hc1 hbn
      have out1 : Hid (Out (b :: fj) wr v1) := Out.mono hc1 (fun x q => List.mem_cons_of_mem _ q)
      have hown1' : Hid (SeqOwn 1 IntOwn v1 (.slice p1 Q.length d1) (mkL cntI mkI Q P) fj) := hown1
      clear hown1 hc1
      go_wp2_with fail
      go_roundw
      case rel =>
        refine ⟨j + 1, by omega, by go_num, by rw [hz], ?_, ?_⟩
        · rw [← hset.out]
          exact hclose'.out _ [.slice p1 Q.length d1] _ rfl row1.out out1.out ⟨_, rfl, hown1'.out⟩
        · exact Out.trans hout.out (Out.mono out1.out (fun x q => by rcases List.mem_cons.1 q with q | q; (rw [q]; exact hbf); (exact hsub x q)))
      case measure => simp [intOf]; omega
    · obtain rfl : j = xs.length := by omega
      have hful : Hid _ := mix_full (mkL_length (cnt := cntInts) (mk := mkInts) (xs := xs) (m := m))
      go_wp2_with fail
      go_ret
      exact ⟨rfl, by rw [← hful.out]; exact hown.out, hout.out⟩
set_option maxHeartbeats 1000000 in
theorem heldInt64SS_any {w : World} {lo : Nat} {k : Value} {xs : List (List Int)} {m : Int} (hk : SeqAt 1 IntsAt w lo k (mkL cntInts mkInts xs m)) (h0 : 0 ≤ m) (h1 : m + (cntL cntInts xs : Nat) ≤ 4611686018427387904) :
    Calls Try.prog 24 #[k, .int .i64 m] w fun e w' => e = .returned (.int .i64 (m + (cntL cntInts xs : Nat))) ∧ Below w.heap.size w w' := by
  obtain ⟨a, cap, rfl, hm, hx⟩ := hk
  have hx' : Hid _ := hx
  clear hx
  rw [mkL_length] at hm ⊢
  unfold maxLen at hm
  go_enter Try.func24, Try.ntmps24
  go_wp2_with fail
  go_loopw [1, 5] (fun z i wr => ∃ (j : Nat), j ≤ xs.length ∧ i = .int .i64 j ∧ z = .int .i64 (m + (pos cntInts xs j : Nat)) ∧ Hid (Below w.heap.size w wr)) (fun _ i _ => xs.length - (intOf i).toNat)
  case atStart => exact ⟨0, by omega, rfl, by rw [pos_zero]; simp, Below.refl _ _⟩
  case round =>
    obtain ⟨j, hj, rfl, rfl, hbr⟩ := hrel
    by_cases hlt : j < xs.length
    · obtain ⟨b, off, rfl, hlo, hbw, hc⟩ := hx'.out (by rw [mkL_length]; omega)
      obtain ⟨cs, hcl, lie, hr⟩ := hc j (by rw [mkL_length]; exact hlt)
      have hps2 : pos cntInts xs (j + 1) = pos cntInts xs j + cntL cntI xs[j] := pos_succ hlt
      have hpl : pos cntInts xs (j + 1) ≤ cntL cntInts xs := pos_le (by omega) (Nat.le_refl _)
      rw [mkL_get] at hr
      generalize xs[j] = Q at *
      generalize hP : m + (pos cntInts xs j : Nat) = P at *
      have hP0 : 0 ≤ P := by omega
      obtain ⟨k1, rfl, s1⟩ := hr
      have s1' : Hid (SeqAt 1 IntAt wr lo k1 (mkL cntI mkI Q P)) := s1.below intAt_stays hbr.out
      obtain ⟨p1, d1, rfl⟩ := s1.form
      have z0 := (Lie.keep (lo := lo) (lo' := lo) lie (.of_below hbr.out) hlo hbw) 0 (by simp)
      simp only [List.getElem?_cons_zero, Nat.add_zero, Nat.mul_one] at z0
      generalize hC1 : cntL cntI Q = N1 at *
      have hP1 : P + (N1 : Int) ≤ 4611686018427387904 := by omega
      have hz : m + (pos cntInts xs (j + 1) : Nat) = P + (N1 : Int) := by omega
      clear hpl hps2 hcl hc lie s1
      go_wp2_with fail
      refine (heldInt64S_any s1'.out hP0 (by rw [hC1]; exact hP1)).mono ?_
      rintro e v1 ⟨rfl, hb1⟩
      rw [hC1]
      have hb2 : Hid (Below w.heap.size w v1) := hbr.out.trans (hb1.mono hbr.out.size)
      clear hb1
      go_wp2_with fail
      go_roundw
      case rel => exact ⟨j + 1, by omega, by go_num, by rw [hz], hb2⟩
      case measure => simp [intOf]; omega
    · obtain rfl : j = xs.length := by omega
      go_wp2_with fail
      go_ret
      exact ⟨rfl, hbr.out⟩
end Go.Proofs.Ytldecaccionigaa
