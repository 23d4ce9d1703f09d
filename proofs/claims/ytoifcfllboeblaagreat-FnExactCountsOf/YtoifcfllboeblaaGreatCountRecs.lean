/- A count: as data, in memory, its marks, and the walks of eq.., mark.. and held.. -/
import Derived.Test.YtoifcfllboeblaaGreatEqRecs
import Derived.Test.YtoifcfllboeblaaGreatOwnRecs
import Derived.Test.YtoifcfllboeblaaGreatMarkRecs
import Derived.Test.YtoifcfllboeblaaGreatHeldRecs
import Derived.Test.YtoifcfllboeblaaGreatOwnRows
import Derived.WalkKit
namespace Go.Proofs.YtoifcfllboeblaaGreat
open Go.RowKit
structure CountD where
  vId : Int
  vN : Int
def CountAt (_ : World) (_ : Nat) (cs : List Value) (x : CountD) : Prop :=
  cs = [.int .i64 x.vId, .int .i64 x.vN] ∧ InI x.vId ∧ InI x.vN ∧ True
theorem CountAt_stays : Stays CountAt := fun _ _ _ _ _ _ _ h => h
def CountOwn (_ : World) (cs : List Value) (x : CountD) (fs : List Nat) : Prop :=
  cs = [.int .i64 x.vId, .int .i64 x.vN] ∧ InI x.vId ∧ InI x.vN ∧ fs = []
theorem CountOwn_stays : OwnStays CountOwn := fun _ _ _ _ _ _ h => h
theorem CountOwn_lt : OwnLt CountOwn := by
  intro w cs x fs h b hb
  obtain ⟨_, _, _, rfl⟩ := h
  cases hb
theorem CountOwn_at {lo : Nat} (w : World) (cs : List Value) (x : CountD) (fs : List Nat) (h : CountOwn w cs x fs) (_ : ∀ b ∈ fs, lo ≤ b) : CountAt w lo cs x := by
  obtain ⟨e, r0, r1, _⟩ := h
  exact ⟨e, r0, r1, trivial⟩
def cntCount (_ : CountD) : Nat := 1 + 1
def mkCount (_ : CountD) (m : Int) : CountD := { vId := m, vN := m + 1 }
set_option maxHeartbeats 1000000 in
theorem eqCount_any {w : World} {lo lo2 : Nat} {cs cs2 : List Value} {x : CountD} (hx : CountAt w lo cs x) (hx2 : CountAt w lo2 cs2 x) :
    Calls Tryz.prog 51 #[.agg cs.toArray, .agg cs2.toArray] w fun e w' => e = .returned (.bool true) ∧ Below w.heap.size w w' := by
  obtain ⟨rfl, rId, rN, _⟩ := hx
  obtain ⟨rfl, _⟩ := hx2
  have hb : Below w.heap.size w ((w.alloc (.cells (List.toArray [.int .i64 x.vId, .int .i64 x.vN]) 79)).alloc (.cells (List.toArray [.int .i64 x.vId, .int .i64 x.vN]) 79)) := ((Below.refl _ _).alloc (Nat.le_refl _) _).alloc (by simp) _
  go_enter Tryz.func51, Tryz.ntmps51
  go_wp2_with fail
  go_ret
  exact ⟨rfl, hb⟩
set_option maxHeartbeats 1000000 in
theorem eqCountS_any {w : World} {lo lo2 : Nat} {k k2 : Value} {xs : List CountD} (hk : SeqAt 2 CountAt w lo k xs) (hk2 : SeqAt 2 CountAt w lo2 k2 xs) :
    Calls Tryz.prog 19 #[k, k2] w fun e w' => e = .returned (.bool true) ∧ Below w.heap.size w w' := by
  obtain ⟨a, cap, rfl, hm, hx⟩ := hk
  obtain ⟨a2, cap2, rfl, _, hx2⟩ := hk2
  unfold maxLen at hm
  have hx' : Hid _ := hx
  have hx2' : Hid _ := hx2
  clear hx hx2
  go_enter Tryz.func19, Tryz.ntmps19
  go_wp2_with fail
  go_loopw [5] (fun i wr => ∃ (j : Nat), j ≤ xs.length ∧ i = .int .i64 j ∧ Below w.heap.size w wr) (fun i _ => xs.length - (intOf i).toNat)
  case atStart => exact ⟨0, by omega, rfl, Below.refl _ _⟩
  case round =>
    obtain ⟨j, hj, rfl, hb⟩ := hrel
    by_cases hlt : j < xs.length
    · obtain ⟨b, off, rfl, hlo, hbw, hc⟩ := hx'.out (by omega)
      obtain ⟨b2, off2, rfl, hlo2, hbw2, hc2⟩ := hx2'.out (by omega)
      obtain ⟨cs, hcl, lie, hr⟩ := hc j hlt
      obtain ⟨cs2, hcl2, lie2, hr2⟩ := hc2 j hlt
      have lie1 := Lie.keep (lo := lo) (lo' := lo) lie (.of_below hb) hlo hbw
      have lie3 := Lie.keep (lo := lo2) (lo' := lo2) lie2 (.of_below hb) hlo2 hbw2
      replace hr := CountAt_stays _ _ _ lo _ _ (.of_below hb.drew) hr
      replace hr2 := CountAt_stays _ _ _ lo2 _ _ (.of_below hb.drew) hr2
      generalize xs[j] = X at hr hr2
      have hr' : Hid (CountAt wr.drew lo cs X) := hr
      have hr2' : Hid (CountAt wr.drew lo2 cs2 X) := hr2
      obtain ⟨rfl, rId, rN, _⟩ := hr
      obtain ⟨rfl, _⟩ := hr2
      clear rId rN
      have z0 := lie1 0 (by simp)
      have y0 := lie3 0 (by simp)
      have z1 := lie1 1 (by simp)
      have y1 := lie3 1 (by simp)
      simp only [List.getElem?_cons_zero, List.getElem?_cons_succ, Nat.add_zero] at z0 y0 z1 y1
      have hbr : b < wr.heap.size := by have := hb.size; omega
      have hbr2 : b2 < wr.heap.size := by have := hb.size; omega
      have hlt' : (j : Int) < (xs.length : Int) := by omega
      have h0' : (0 : Int) ≤ (j : Int) := by omega
      clear lie lie2 lie1 lie3 hcl hcl2 hx' hx2' hc hc2
      go_wp2_with fail
      go_region_held3 (fun w' => w'.cell? ⟨b, off + j * 2, none⟩ = some (.int .i64 X.vId) ∧ w'.cell? ⟨b, off + j * 2 + 1, none⟩ = some (.int .i64 X.vN) ∧ w'.cell? ⟨b2, off2 + j * 2, none⟩ = some (.int .i64 X.vId) ∧ w'.cell? ⟨b2, off2 + j * 2 + 1, none⟩ = some (.int .i64 X.vN)) (go_keep) (first | (go_at_call 51; refine (eqCount_any (by exact hr'.out) (by exact hr2'.out)).mono ?_; rintro e w1 ⟨rfl, hb1⟩; have z0n := (hb1.cell (p := ⟨b, off + j * 2, none⟩) (by exact hbr)).trans z0; have z1n := (hb1.cell (p := ⟨b, off + j * 2 + 1, none⟩) (by exact hbr)).trans z1; have y0n := (hb1.cell (p := ⟨b2, off2 + j * 2, none⟩) (by exact hbr2)).trans y0; have y1n := (hb1.cell (p := ⟨b2, off2 + j * 2 + 1, none⟩) (by exact hbr2)).trans y1; have hb' : Below w.heap.size w w1 := hb.drew.trans (hb1.mono hb.size)))
      go_wp2_with fail
      go_roundw
      case rel => exact ⟨j + 1, by omega, by go_num, hb'⟩
      case measure => simp [intOf]; omega
    · go_wp2_with fail
      go_ret
      exact ⟨rfl, hb⟩
set_option maxRecDepth 100000 in
set_option maxHeartbeats 3200000 in
theorem markCountS_any {w : World} {k : Value} {xs : List CountD} {fs : List Nat} {m : Int} (hk : SeqOwn 2 CountOwn w k xs fs) (h0 : 0 ≤ m) (h1 : m + (cntL cntCount xs : Nat) ≤ 4611686018427387904) :
    Calls Tryz.prog 20 #[k, .int .i64 m] w fun e w' => e = .returned (.int .i64 (m + (cntL cntCount xs : Nat))) ∧ SeqOwn 2 CountOwn w' k (mkL cntCount mkCount xs m) fs ∧ Out fs w w' := by
  have hk' : Hid (SeqOwn 2 CountOwn w k xs fs) := hk
  obtain ⟨a, cap, rfl, hm, _⟩ := hk
  unfold maxLen at hm
  go_enter Tryz.func20, Tryz.ntmps20
  go_wp2_with fail
  go_loopw [1, 5] (fun z i wr => ∃ (j : Nat), j ≤ xs.length ∧ i = .int .i64 j ∧ z = .int .i64 (m + (pos cntCount xs j : Nat)) ∧ Hid (SeqOwn 2 CountOwn wr (.slice a xs.length cap) (mix (mkL cntCount mkCount xs m) xs j) fs) ∧ Hid (Out fs w wr)) (fun _ i _ => xs.length - (intOf i).toNat)
  case atStart => exact ⟨0, by omega, rfl, by rw [pos_zero]; simp, by rw [mix_zero]; exact hk'.out, Out.refl _ _⟩
  case round =>
    obtain ⟨j, hj, rfl, rfl, hown, hout⟩ := hrel
    by_cases hlt : j < xs.length
    · have hml := mix_length (mkL_length (cnt := cntCount) (mk := mkCount) (xs := xs) (m := m)) hj
      obtain ⟨b, off, C, T, cs, fj, rfl, hrow, hcl, ⟨hbf, hbn, hsub, hnd⟩, hr, hclose⟩ := hown.out.step CountOwn_stays CountOwn_lt (j := j) (by omega)
      have hset : Hid _ := mix_set (mkL_length (cnt := cntCount) (mk := mkCount) (xs := xs) (m := m)) hlt
      have hps2 : pos cntCount xs (j + 1) = pos cntCount xs j + (1 + 1) := pos_succ hlt
      have hpl : pos cntCount xs (j + 1) ≤ cntL cntCount xs := pos_le (by omega) (Nat.le_refl _)
      rw [mkL_get] at hset
      rw [mix_get mkL_length hlt] at hr
      generalize xs[j] = Q at *
      obtain ⟨rfl, _, _, hfs⟩ := hr
      subst hfs
      have hrow' : Hid (RowIs wr b (off + j * 2) C T [.int .i64 Q.vId, .int .i64 Q.vN]) := hrow
      have hclose' : Hid _ := hclose
      clear hrow hclose
      generalize hP : m + (pos cntCount xs j : Nat) = P at *
      have hP0 : 0 ≤ P := by omega
      have hP1 : P + (1 + 1) ≤ 4611686018427387904 := by omega
      have hz : m + (pos cntCount xs (j + 1) : Nat) = P + 1 + 1 := by omega
      clear hpl hps2
      have row0 := hrow'.out
      have out0 : Hid (Out [b] wr wr) := Out.refl _ _
      have z0_0 := (RowIs.cell hrow'.out 0 rfl)
      have z0_1 := (RowIs.cell hrow'.out 1 rfl)
      have u0 := RowIs.unfrozen hrow'.out
      simp only [Nat.add_zero] at z0_0
      clear row0
      go_wp2_with fail
      go_roundw
      case rel =>
        refine ⟨j + 1, by omega, by go_num, by rw [hz], ?_, ?_⟩
        · rw [← hset.out]
          exact hclose'.out _ [.int .i64 (P), .int .i64 (P + 1)] _ rfl (RowIs.set (m := 1) (RowIs.set (m := 0) hrow'.out (by simp) _) (by simp) _) (Out.set (Out.set out0.out List.mem_cons_self _) List.mem_cons_self _) ⟨rfl, (by unfold InI; simp only [mkCount]; omega), (by unfold InI; simp only [mkCount]; omega), rfl⟩
        · exact Out.trans hout.out (Out.mono (Out.set (Out.set out0.out List.mem_cons_self _) List.mem_cons_self _) (fun x q => by rcases List.mem_cons.1 q with q | q; (rw [q]; exact hbf); (exact hsub x q)))
      case measure => simp [intOf]; omega
    · obtain rfl : j = xs.length := by omega
      have hful : Hid _ := mix_full (mkL_length (cnt := cntCount) (mk := mkCount) (xs := xs) (m := m))
      go_wp2_with fail
      go_ret
      exact ⟨rfl, by rw [← hful.out]; exact hown.out, hout.out⟩
set_option maxRecDepth 100000 in
set_option maxHeartbeats 3200000 in
theorem heldCountS_any {w : World} {lo : Nat} {k : Value} {xs : List CountD} {m : Int} (hk : SeqAt 2 CountAt w lo k (mkL cntCount mkCount xs m)) (h0 : 0 ≤ m) (h1 : m + (cntL cntCount xs : Nat) ≤ 4611686018427387904) :
    Calls Tryz.prog 21 #[k, .int .i64 m] w fun e w' => e = .returned (.int .i64 (m + (cntL cntCount xs : Nat))) ∧ Below w.heap.size w w' := by
  obtain ⟨a, cap, rfl, hm, hx⟩ := hk
  have hx' : Hid _ := hx
  clear hx
  rw [mkL_length] at hm ⊢
  unfold maxLen at hm
  go_enter Tryz.func21, Tryz.ntmps21
  go_wp2_with fail
  go_loopw [1, 5] (fun z i wr => ∃ (j : Nat), j ≤ xs.length ∧ i = .int .i64 j ∧ z = .int .i64 (m + (pos cntCount xs j : Nat)) ∧ Hid (Below w.heap.size w wr)) (fun _ i _ => xs.length - (intOf i).toNat)
  case atStart => exact ⟨0, by omega, rfl, by rw [pos_zero]; simp, Below.refl _ _⟩
  case round =>
    obtain ⟨j, hj, rfl, rfl, hbr⟩ := hrel
    by_cases hlt : j < xs.length
    · obtain ⟨b, off, rfl, hlo, hbw, hc⟩ := hx'.out (by rw [mkL_length]; omega)
      obtain ⟨cs, hcl, lie, hr⟩ := hc j (by rw [mkL_length]; exact hlt)
      have hps2 : pos cntCount xs (j + 1) = pos cntCount xs j + (1 + 1) := pos_succ hlt
      have hpl : pos cntCount xs (j + 1) ≤ cntL cntCount xs := pos_le (by omega) (Nat.le_refl _)
      rw [mkL_get] at hr
      generalize xs[j] = Q at *
      generalize hP : m + (pos cntCount xs j : Nat) = P at *
      have hP0 : 0 ≤ P := by omega
      obtain ⟨rfl, _⟩ := hr
      have hP1 : P + (1 + 1) ≤ 4611686018427387904 := by omega
      have hz : m + (pos cntCount xs (j + 1) : Nat) = P + 1 + 1 := by omega
      clear hpl hps2
      clear hcl hc
      have hb0 := hbr.out
      have lie' : Hid (Lie w b (off + j * 2) [.int .i64 (P), .int .i64 (P + 1)]) := by exact lie
      clear lie
      have lie0 := Lie.keep (lo := lo) (lo' := lo) lie'.out (.of_below hb0) hlo hbw
      have z0_0 : wr.cell? ⟨b, off + j * 2 + 0, none⟩ = some (.int .i64 (P)) := lie_at2 lie0 0 rfl
      have z0_1 : wr.cell? ⟨b, off + j * 2 + 1, none⟩ = some (.int .i64 (P + 1)) := lie_at2 lie0 1 rfl
      simp only [Nat.add_zero] at z0_0
      clear lie0
      go_wp2_with fail
      go_roundw
      case rel => exact ⟨j + 1, by omega, by go_num, by rw [hz], hb0⟩
      case measure => simp [intOf]; omega
    · obtain rfl : j = xs.length := by omega
      go_wp2_with fail
      go_ret
      exact ⟨rfl, hbr.out⟩
/-- rows of counts that a call has made, as owners of their memory -/
def cellsC (xs : List CountD) : List Value := xs.flatMap fun x => [.int .i64 x.vId, .int .i64 x.vN]
theorem cellsC_len (xs : List CountD) : (cellsC xs).length = xs.length * 2 := by
  induction xs with
  | nil => rfl
  | cons x xs ih => simp only [cellsC, List.flatMap_cons, List.length_append, List.length_cons, List.length_nil] at ih ⊢; omega
theorem cellsC_snoc (xs : List CountD) (x : CountD) : cellsC (xs ++ [x]) = cellsC xs ++ [.int .i64 x.vId, .int .i64 x.vN] := by simp [cellsC]
theorem cellsC_get : ∀ (xs : List CountD) (i : Nat) (hi : i < xs.length), (cellsC xs)[i * 2]? = some (.int .i64 xs[i].vId) ∧ (cellsC xs)[i * 2 + 1]? = some (.int .i64 xs[i].vN) := by
  intro xs
  induction xs with
  | nil => intro i hi; simp at hi
  | cons x xs ih =>
    intro i hi
    cases i with
    | zero => exact ⟨rfl, rfl⟩
    | succ i =>
      have q := ih i (by simpa using hi)
      have e : cellsC (x :: xs) = .int .i64 x.vId :: .int .i64 x.vN :: cellsC xs := rfl
      rw [e, show (i + 1) * 2 = i * 2 + 1 + 1 by omega]
      simpa only [List.getElem?_cons_succ, List.getElem_cons_succ] using q
theorem seqOwn_of_counts {w : World} {base T : Nat} {v : Value} {xs : List CountD} (h : w.ownsRow base T 2 v xs.length (cellsC xs)) (hx : ∀ x ∈ xs, InI x.vId ∧ InI x.vN) : ∃ fs, SeqOwn 2 CountOwn w v xs fs ∧ ∀ b ∈ fs, base ≤ b := by
  obtain ⟨_, ho⟩ := h
  rcases ho with ⟨rfl, hn⟩ | ⟨g, cap, cur, rfl, hg, hh, h1, h2, h3, h4⟩
  · exact ⟨[], ⟨none, 0, by rw [hn], ⟨by omega, by omega⟩, Or.inl ⟨hn, rfl⟩⟩, by simp⟩
  · refine ⟨[g], ⟨_, _, rfl, ⟨Nat.le_trans h1 h2, h1⟩, Or.inr ⟨g, 0, rfl, cur, T, xs.map fun _ => [], hh, by omega, by simp, by simp, by simp, fun i hi hi' => ⟨[.int .i64 xs[i].vId, .int .i64 xs[i].vN], rfl, fun m hm => ?_, rfl, (hx _ (List.getElem_mem hi)).1, (hx _ (List.getElem_mem hi)).2, by simp⟩⟩⟩, by simpa using hg⟩
    have q := cellsC_get xs i hi
    rw [← h4] at q
    rcases (by omega : m = 0 ∨ m = 1) with rfl | rfl
    · have e := q.1
      rw [List.getElem?_take_of_lt (by omega)] at e
      simpa using e
    · have e := q.2
      rw [List.getElem?_take_of_lt (by omega)] at e
      simpa using e
theorem cntL_count (xs : List CountD) : cntL cntCount xs = xs.length * 2 := by
  unfold cntL
  have : ∀ j, j ≤ xs.length → pos cntCount xs j = j * 2 := by
    intro j
    induction j with
    | zero => intro _; simp [pos_zero]
    | succ j ih => intro h; rw [pos_succ (by omega), ih (by omega)]; unfold cntCount; omega
  exact this _ (Nat.le_refl _)
theorem countsOwn_none (w : World) : SeqOwn 2 CountOwn w (.slice none 0 0) [] [] := ⟨none, 0, rfl, ⟨by simp, by simp⟩, Or.inl ⟨rfl, rfl⟩⟩
theorem countsOwn_empty (w : World) (T : TypeId) : SeqOwn 2 CountOwn (w.alloc (.cells #[] T)) (.slice (some ⟨w.heap.size, 0, none⟩) 0 0) [] [w.heap.size] :=
  ⟨_, _, rfl, ⟨by simp, by simp⟩, Or.inr ⟨_, _, rfl, #[], T, [], (MapKept.heap_alloc w _).1, by simp, rfl, rfl, by simp, fun i hi => absurd hi (by simp)⟩⟩
end Go.Proofs.YtoifcfllboeblaaGreat
