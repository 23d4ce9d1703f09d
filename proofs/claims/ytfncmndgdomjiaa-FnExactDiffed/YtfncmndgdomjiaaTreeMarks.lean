/- The walks of markTree, heldTree, eqTree and of their rows. -/
import Derived.Test.YtfncmndgdomjiaaTreeO
import Derived.Test.YtfncmndgdomjiaaToOwn
import Derived.Test.YtfncmndgdomjiaaTakeLit
import Derived.Deep.RegionHeld3
import Derived.WalkKit
namespace Go.Proofs.Ytfncmndgdomjiaa
open Go.RowKit
def MarkS (n : Nat) : Prop := ∀ {w : World} {k : Value} {xs : List TD} {fs : List Nat} {m : Int}, SeqOwn 2 (TreeO n) w k xs fs → 0 ≤ m → m + (cntL (cntTree n) xs : Nat) ≤ 4611686018427387904 →
    Calls Try.prog 44 #[k, .int .i64 m] w fun e w' => e = .returned (.int .i64 (m + (cntL (cntTree n) xs : Nat))) ∧ SeqOwn 2 (TreeO n) w' k (mkL (cntTree n) (mkTree n) xs m) fs ∧ Out fs w w'
set_option maxRecDepth 100000 in
set_option maxHeartbeats 3200000 in
theorem markS_step (n : Nat) (ih0 : MarkS n) : MarkS (n + 1) := by
  have ih : Hid (MarkS n) := ih0
  clear ih0
  intro w k xs fs m hk h0 h1
  have hk' : Hid (SeqOwn 2 (TreeO (n + 1)) w k xs fs) := hk
  obtain ⟨a, cap, rfl, hm, _⟩ := hk
  unfold maxLen at hm
  go_enter Try.func44, Try.ntmps44
  go_wp2_with fail
  go_loopw [1, 5] (fun z i wr => ∃ (j : Nat), j ≤ xs.length ∧ i = .int .i64 j ∧ z = .int .i64 (m + (pos (cntTree (n + 1)) xs j : Nat)) ∧ Hid (SeqOwn 2 (TreeO (n + 1)) wr (.slice a xs.length cap) (mix (mkL (cntTree (n + 1)) (mkTree (n + 1)) xs m) xs j) fs) ∧ Hid (Out fs w wr)) (fun _ i _ => xs.length - (intOf i).toNat)
  case atStart => exact ⟨0, by omega, rfl, by rw [pos_zero]; simp, by rw [mix_zero]; exact hk'.out, Out.refl _ _⟩
  case round =>
    obtain ⟨j, hj, rfl, rfl, hown, hout⟩ := hrel
    by_cases hlt : j < xs.length
    · have hml := mix_length (mkL_length (cnt := (cntTree (n + 1))) (mk := (mkTree (n + 1))) (xs := xs) (m := m)) hj
      obtain ⟨b, off, C, T, cs, fj, rfl, hrow, hcl, ⟨hbf, hbn, hsub, hnd⟩, hr, hclose⟩ := hown.out.step (TreeO_stays (n + 1)) (TreeO_lt (n + 1)) (j := j) (by omega)
      have hset : Hid _ := mix_set (mkL_length (cnt := (cntTree (n + 1))) (mk := (mkTree (n + 1))) (xs := xs) (m := m)) hlt
      have hps2 : pos (cntTree (n + 1)) xs (j + 1) = pos (cntTree (n + 1)) xs j + (1 + cntL (cntTree n) (kidsOf xs[j])) := pos_succ hlt
      have hpl : pos (cntTree (n + 1)) xs (j + 1) ≤ cntL (cntTree (n + 1)) xs := pos_le (by omega) (Nat.le_refl _)
      rw [mkL_get] at hset
      rw [mix_get mkL_length hlt] at hr
      generalize xs[j] = Q at *
      obtain ⟨k1, f1, rfl, o1, _, hfs⟩ := hr
      obtain ⟨p1, d1, rfl⟩ := o1.form
      have o1' : Hid (SeqOwn 2 (TreeO n) wr (.slice p1 (kidsOf Q).length d1) (kidsOf Q) f1) := o1
      clear o1
      subst hfs
      have hb1 := hbn
      have hrow' : Hid (RowIs wr b (off + j * 2) C T [.string (strT Q), .slice p1 (kidsOf Q).length d1]) := hrow
      have hclose' : Hid _ := hclose
      clear hrow hclose
      generalize hP : m + (pos (cntTree (n + 1)) xs j : Nat) = P at *
      have hP0 : 0 ≤ P := by omega
      generalize hC1 : cntL (cntTree n) (kidsOf Q) = N1 at *
      have hP1 : P + (1 + (N1 : Int)) ≤ 4611686018427387904 := by omega
      have hz : m + (pos (cntTree (n + 1)) xs (j + 1) : Nat) = P + 1 + (N1 : Int) := by omega
      clear hpl hps2
      have row0 := hrow'.out
      have out0 : Hid (Out [b] wr wr) := Out.refl _ _
      have z0_0 := (RowIs.cell hrow'.out 0 rfl)
      have z0_1 := (RowIs.cell hrow'.out 1 rfl)
      have u0 := RowIs.unfrozen hrow'.out
      simp only [Nat.add_zero] at z0_0
      clear row0
      go_wp2_with fail
      refine (markText_any (by omega)).mono ?_
      rintro e v0 ⟨rfl, hc0⟩
      have row1 := RowIs.below hrow'.out hc0
      have out1 : Hid (Out [b] wr v0) := Out.trans out0.out (Out.of_below hc0)
      have row1' : Hid (RowIs v0 b (off + j * 2) C T _) := row1
      clear z0_0 z0_1 u0
      have z1_0 := (RowIs.cell row1 0 rfl)
      have z1_1 := (RowIs.cell row1 1 rfl)
      have u1 := RowIs.unfrozen row1
      simp only [Nat.add_zero] at z1_0
      clear row1
      go_wp2_with fail
      refine (ih.out (by exact SeqOwn.stays (TreeO_stays n) o1'.out (fun x hx => Out.keep (Out.set out1.out List.mem_cons_self _) (SeqOwn.lt (TreeO_lt n) o1'.out x hx) (fun q => (by rcases List.mem_cons.1 q with q | q; (exact hb1 (q ▸ hx)); cases q)))) (by omega) (by omega)).mono ?_
      rintro e v1 ⟨rfl, hown1, hc1⟩
      have row2 := RowIs.out (RowIs.set (m := 0) row1'.out (by simp) _) hc1 hb1
      have out2 : Hid (Out (b :: fj) wr v1) := Out.trans (Out.mono (Out.set out1.out List.mem_cons_self _) (fun x q => by rcases List.mem_cons.1 q with q | q; (rw [q]; exact List.mem_cons_self); (cases q))) (Out.mono hc1 (fun x q => List.mem_cons_of_mem _ q))
      have row2' : Hid (RowIs v1 b (off + j * 2) C T _) := row2
      have hown1' : Hid _ := hown1
      have oc1 : Hid _ := hc1
      clear hown1
      clear z1_0 z1_1 u1
      have z2_0 := (RowIs.cell row2 0 rfl)
      have z2_1 := (RowIs.cell row2 1 rfl)
      have u2 := RowIs.unfrozen row2
      simp only [Nat.add_zero] at z2_0
      clear row2
      go_wp2_with fail
      subst hC1
      go_roundw
      case rel =>
        refine ⟨j + 1, by omega, by go_num, by rw [hz], ?_, ?_⟩
        · rw [← hset.out]
          exact hclose'.out _ [.string (markT (P)), .slice p1 (kidsOf Q).length d1] _ rfl row2'.out out2.out ⟨_, fj, rfl, hown1'.out, markT_size (by omega), rfl⟩
        · exact Out.trans hout.out (Out.mono out2.out (fun x q => by rcases List.mem_cons.1 q with q | q; (rw [q]; exact hbf); (exact hsub x q)))
      case measure => simp [intOf]; omega
    · obtain rfl : j = xs.length := by omega
      have hful : Hid _ := mix_full (mkL_length (cnt := (cntTree (n + 1))) (mk := (mkTree (n + 1))) (xs := xs) (m := m))
      go_wp2_with fail
      go_ret
      exact ⟨rfl, by rw [← hful.out]; exact hown.out, hout.out⟩
set_option maxHeartbeats 800000 in
theorem markS_zero : MarkS 0 := by
  intro w k xs fs m hk h0 h1
  obtain rfl := seqOwn_zero hk
  have hk' : Hid (SeqOwn 2 (TreeO 0) w k [] fs) := hk
  obtain ⟨a, cap, rfl, _⟩ := hk
  go_enter Try.func44, Try.ntmps44
  go_wp2_with fail
  go_loopw [1, 5] (fun z i wr => z = .int .i64 m ∧ i = .int .i64 0 ∧ wr = w) (fun _ _ _ => 0)
  case atStart => exact ⟨rfl, rfl, rfl⟩
  case round =>
    obtain ⟨rfl, rfl, rfl⟩ := hrel
    go_wp2_with fail
    go_ret
    exact ⟨by simp [cntL, pos], hk'.out, Out.refl _ _⟩
theorem markTreeS_any : ∀ n, MarkS n := fun n => by
  induction n with
  | zero => exact markS_zero
  | succ n ih => exact markS_step n ih
def mkTTree (n : Nat) (x : TD) (m : Int) : TD := mkT (strT x) (mkL (cntTree n) (mkTree n) (kidsOf x) (m))
set_option maxRecDepth 100000 in
set_option maxHeartbeats 1600000 in
theorem markTree_any {n : Nat} {w : World} {cs : List Value} {x : TD} {fs : List Nat} {m : Int} (hk : TreeO (n + 1) w cs x fs) (h0 : 0 ≤ m) (h1 : m + (cntL (cntTree n) (kidsOf x) : Nat) ≤ 4611686018427387904) :
    Calls Try.prog 18 #[.agg cs.toArray, .int .i64 m] w fun e w' => e = .returned (.int .i64 (m + (cntL (cntTree n) (kidsOf x) : Nat))) ∧ TreeO (n + 1) w' cs (mkTTree n x m) fs ∧ Out fs w w' := by
  have hlt := TreeO_lt (n + 1) _ _ _ _ hk
  obtain ⟨k1, f1, rfl, o1, rg0, hfs⟩ := hk
  obtain ⟨a1, cap1, rfl⟩ := o1.form
  subst hfs
  have hb0 : Below w.heap.size w (w.alloc (.cells (List.toArray [.string (strT x), .slice a1 (kidsOf x).length cap1]) 33)) := (Below.refl _ _).alloc (Nat.le_refl _) _
  have bx0 : Hid (Box (w.alloc (.cells (List.toArray [.string (strT x), .slice a1 (kidsOf x).length cap1]) 33)) w.heap.size [.string (strT x), .slice a1 (kidsOf x).length cap1] 33) := Box.new w _ _
  have n1 : w.heap.size ∉ fs := fun q => by have := hlt _ q; omega
  have q1_0 : Hid (SeqOwn 2 (TreeO n) (w.alloc (.cells (List.toArray [.string (strT x), .slice a1 (kidsOf x).length cap1]) 33)) (.slice a1 (kidsOf x).length cap1) (kidsOf x) fs) := o1.stays (TreeO_stays n) (fun y hy => hb0.block y (hlt y hy))
  have ou0 : Hid (Out (fs) w (w.alloc (.cells (List.toArray [.string (strT x), .slice a1 (kidsOf x).length cap1]) 33))) := Out.of_below hb0
  clear o1
  generalize hN1 : cntL (cntTree n) (kidsOf x) = N1 at *
  go_enter Try.func18, Try.ntmps18
  go_wp2_with fail
  refine (markTreeS_any n q1_0.out (by omega) (by omega)).mono ?_
  rintro e v0 ⟨rfl, ho1, hc0⟩
  rw [hN1]
  have bx1 : Hid (Box v0 w.heap.size [.string (strT x), .slice a1 (kidsOf x).length cap1] 33) := (Out.keep hc0 bx0.out.lt n1).trans bx0.out
  have q1_1 : Hid (SeqOwn 2 (TreeO n) v0 (.slice a1 (kidsOf x).length cap1) (mkL (cntTree n) (mkTree n) (kidsOf x) (m)) fs) := ho1
  have ou1 : Hid (Out (fs) w v0) := Out.trans ou0.out (Out.mono hc0 (fun y hy => hy))
  clear ho1 hc0
  have t0_0 := bx1.out.cell 0 rfl
  have t0_1 := bx1.out.cell 1 rfl
  go_wp2_with fail
  go_ret
  subst hN1
  exact ⟨rfl, ⟨_, fs, rfl, q1_1.out, rg0, rfl⟩, ou1.out⟩
def HeldS (n : Nat) : Prop := ∀ {w : World} {lo : Nat} {k : Value} {xs : List TD} {m : Int}, SeqAt 2 (TreeL n) w lo k (mkL (cntTree n) (mkTree n) xs m) → 0 ≤ m → m + (cntL (cntTree n) xs : Nat) ≤ 4611686018427387904 →
    Calls Try.prog 46 #[k, .int .i64 m] w fun e w' => e = .returned (.int .i64 (m + (cntL (cntTree n) xs : Nat))) ∧ Below w.heap.size w w'
set_option maxRecDepth 100000 in
set_option maxHeartbeats 3200000 in
theorem heldS_step (n : Nat) (ih0 : HeldS n) : HeldS (n + 1) := by
  have ih : Hid (HeldS n) := ih0
  clear ih0
  intro w lo k xs m hk h0 h1
  obtain ⟨a, cap, rfl, hm, hx⟩ := hk
  have hx' : Hid _ := hx
  clear hx
  rw [mkL_length] at hm ⊢
  unfold maxLen at hm
  go_enter Try.func46, Try.ntmps46
  go_wp2_with fail
  go_loopw [1, 5] (fun z i wr => ∃ (j : Nat), j ≤ xs.length ∧ i = .int .i64 j ∧ z = .int .i64 (m + (pos (cntTree (n + 1)) xs j : Nat)) ∧ Hid (Below w.heap.size w wr)) (fun _ i _ => xs.length - (intOf i).toNat)
  case atStart => exact ⟨0, by omega, rfl, by rw [pos_zero]; simp, Below.refl _ _⟩
  case round =>
    obtain ⟨j, hj, rfl, rfl, hbr⟩ := hrel
    by_cases hlt : j < xs.length
    · obtain ⟨b, off, rfl, hlo, hbw, hc⟩ := hx'.out (by rw [mkL_length]; omega)
      obtain ⟨cs, hcl, lie, hr⟩ := hc j (by rw [mkL_length]; exact hlt)
      have hps2 : pos (cntTree (n + 1)) xs (j + 1) = pos (cntTree (n + 1)) xs j + (1 + cntL (cntTree n) (kidsOf xs[j])) := pos_succ hlt
      have hpl : pos (cntTree (n + 1)) xs (j + 1) ≤ cntL (cntTree (n + 1)) xs := pos_le (by omega) (Nat.le_refl _)
      rw [mkL_get] at hr
      generalize xs[j] = Q at *
      generalize hP : m + (pos (cntTree (n + 1)) xs j : Nat) = P at *
      have hP0 : 0 ≤ P := by omega
      obtain ⟨k1, rfl, s1, _⟩ := hr
      have s1' : Hid (SeqAt 2 (TreeL n) w lo k1 (mkL (cntTree n) (mkTree n) (kidsOf Q) (P + 1))) := s1
      obtain ⟨p1, d1, rfl⟩ := s1'.out.form
      clear s1
      generalize hC1 : cntL (cntTree n) (kidsOf Q) = N1 at *
      have hP1 : P + (1 + (N1 : Int)) ≤ 4611686018427387904 := by omega
      have hz : m + (pos (cntTree (n + 1)) xs (j + 1) : Nat) = P + 1 + (N1 : Int) := by omega
      clear hpl hps2
      clear hcl hc
      have hb0 := hbr.out
      have lie' : Hid (Lie w b (off + j * 2) [.string (markT (P)), .slice p1 (mkL (cntTree n) (mkTree n) (kidsOf Q) (P + 1)).length d1]) := by subst hC1; exact lie
      clear lie
      have lie0 := Lie.keep (lo := lo) (lo' := lo) lie'.out (.of_below hb0) hlo hbw
      have z0_0 : wr.cell? ⟨b, off + j * 2 + 0, none⟩ = some (.string (markT (P))) := lie_at2 lie0 0 rfl
      have z0_1 : wr.cell? ⟨b, off + j * 2 + 1, none⟩ = some (.slice p1 (mkL (cntTree n) (mkTree n) (kidsOf Q) (P + 1)).length d1) := lie_at2 lie0 1 rfl
      simp only [Nat.add_zero] at z0_0
      clear lie0
      go_wp2_with fail
      go_region_held3 (fun w' => w'.cell? ⟨b, off + j * 2, none⟩ = some (.string (markT (P)))) (go_keep) (first | (go_at_call 49; refine (markText_any (by omega)).mono ?_; rintro e v1 ⟨rfl, hq1⟩; have zz := cell_on (undrew hq1) z0_0))
      have hb1 : Below w.heap.size w v1 := hb0.trans ((undrew hq1).mono hb0.size)
      clear hq1 zz
      clear z0_0 z0_1
      have lie1 := Lie.keep (lo := lo) (lo' := lo) lie'.out (.of_below hb1) hlo hbw
      have z1_0 : v1.cell? ⟨b, off + j * 2 + 0, none⟩ = some (.string (markT (P))) := lie_at2 lie1 0 rfl
      have z1_1 : v1.cell? ⟨b, off + j * 2 + 1, none⟩ = some (.slice p1 (mkL (cntTree n) (mkTree n) (kidsOf Q) (P + 1)).length d1) := lie_at2 lie1 1 rfl
      simp only [Nat.add_zero] at z1_0
      clear lie1
      go_wp2_with fail
      refine (ih.out (s1'.out.below (TreeL_stays n) hb1) (by omega) (by omega)).mono ?_
      rintro e v2 ⟨rfl, hq2⟩
      rw [hC1]
      have hb2 : Below w.heap.size w v2 := hb1.trans (hq2.mono hb1.size)
      clear hq2
      clear z1_0 z1_1
      have lie2 := Lie.keep (lo := lo) (lo' := lo) lie'.out (.of_below hb2) hlo hbw
      have z2_0 : v2.cell? ⟨b, off + j * 2 + 0, none⟩ = some (.string (markT (P))) := lie_at2 lie2 0 rfl
      have z2_1 : v2.cell? ⟨b, off + j * 2 + 1, none⟩ = some (.slice p1 (mkL (cntTree n) (mkTree n) (kidsOf Q) (P + 1)).length d1) := lie_at2 lie2 1 rfl
      simp only [Nat.add_zero] at z2_0
      clear lie2
      go_wp2_with fail
      go_roundw
      case rel => exact ⟨j + 1, by omega, by go_num, by rw [hz], hb2⟩
      case measure => simp [intOf]; omega
    · obtain rfl : j = xs.length := by omega
      go_wp2_with fail
      go_ret
      exact ⟨rfl, hbr.out⟩
set_option maxHeartbeats 800000 in
theorem heldS_zero : HeldS 0 := by
  intro w lo k xs m hk h0 h1
  have e : xs.length = 0 := by rw [← mkL_length (cnt := cntTree 0) (mk := mkTree 0) (xs := xs) (m := m), seqAt_zero hk]; rfl
  obtain rfl := List.length_eq_zero_iff.1 e
  obtain ⟨a, cap, rfl, _⟩ := hk
  go_enter Try.func46, Try.ntmps46
  go_wp2_with fail
  go_loopw [1, 5] (fun z i wr => z = .int .i64 m ∧ i = .int .i64 0 ∧ wr = w) (fun _ _ _ => 0)
  case atStart => exact ⟨rfl, rfl, rfl⟩
  case round =>
    obtain ⟨rfl, rfl, rfl⟩ := hrel
    go_wp2_with fail
    go_ret
    exact ⟨by simp [cntL, pos], Below.refl _ _⟩
theorem heldTreeS_any : ∀ n, HeldS n := fun n => by
  induction n with
  | zero => exact heldS_zero
  | succ n ih => exact heldS_step n ih
set_option maxRecDepth 100000 in
set_option maxHeartbeats 1600000 in
theorem heldTree_any {n : Nat} {w : World} {lo : Nat} {cs : List Value} {x : TD} {m : Int} (hk : TreeL (n + 1) w lo cs (mkTTree n x m)) (h0 : 0 ≤ m) (h1 : m + (cntL (cntTree n) (kidsOf x) : Nat) ≤ 4611686018427387904) :
    Calls Try.prog 20 #[.agg cs.toArray, .int .i64 m] w fun e w' => e = .returned (.int .i64 (m + (cntL (cntTree n) (kidsOf x) : Nat))) ∧ Below w.heap.size w w' := by
  obtain ⟨k1, rfl, o1, _⟩ := hk
  have s1' : Hid (SeqAt 2 (TreeL n) w lo k1 (mkL (cntTree n) (mkTree n) (kidsOf x) (m))) := o1
  obtain ⟨a1, cap1, rfl⟩ := s1'.out.form
  clear o1
  generalize hN1 : cntL (cntTree n) (kidsOf x) = N1 at *
  have hb0 : Below w.heap.size w (w.alloc (.cells (List.toArray [.string (strT x), .slice a1 (mkL (cntTree n) (mkTree n) (kidsOf x) (m)).length cap1]) 33)) := (Below.refl _ _).alloc (Nat.le_refl _) _
  have bx0 : Hid (Box (w.alloc (.cells (List.toArray [.string (strT x), .slice a1 (mkL (cntTree n) (mkTree n) (kidsOf x) (m)).length cap1]) 33)) w.heap.size [.string (strT x), .slice a1 (mkL (cntTree n) (mkTree n) (kidsOf x) (m)).length cap1] 33) := Box.new w _ _
  go_enter Try.func20, Try.ntmps20
  go_wp2_with fail
  refine (heldTreeS_any n (s1'.out.below (TreeL_stays n) hb0) (by omega) (by omega)).mono ?_
  rintro e v0 ⟨rfl, hc0⟩
  rw [hN1]
  have hb1 : Below w.heap.size w v0 := hb0.trans (hc0.mono hb0.size)
  have bx1 : Hid (Box v0 w.heap.size [.string (strT x), .slice a1 (mkL (cntTree n) (mkTree n) (kidsOf x) (m)).length cap1] 33) := Box.below bx0.out hc0 bx0.out.lt
  clear hc0
  have t0_0 := bx1.out.cell 0 rfl
  have t0_1 := bx1.out.cell 1 rfl
  go_wp2_with fail
  go_ret
  subst hN1
  exact ⟨rfl, hb1⟩
end Go.Proofs.Ytfncmndgdomjiaa
