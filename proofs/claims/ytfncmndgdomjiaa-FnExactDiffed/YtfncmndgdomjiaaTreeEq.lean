/- The walks of eqTree and of its rows. -/
import Derived.Test.YtfncmndgdomjiaaTreeO
import Derived.Test.YtfncmndgdomjiaaToOwn
import Derived.Test.YtfncmndgdomjiaaTakeLit
import Derived.Deep.RegionHeld3
import Derived.WalkKit
namespace Go.Proofs.Ytfncmndgdomjiaa
open Go.RowKit
def EqT (n : Nat) : Prop := ∀ {w : World} {lo lo2 : Nat} {cs cs2 : List Value} {x : TD}, TreeL n w lo cs x → TreeL n w lo2 cs2 x →
    Calls Try.prog 14 #[.agg cs.toArray, .agg cs2.toArray] w fun e w' => e = .returned (.bool true) ∧ Below w.heap.size w w'
def EqS (n : Nat) : Prop := ∀ {w : World} {lo lo2 : Nat} {k k2 : Value} {xs : List TD}, SeqAt 2 (TreeL n) w lo k xs → SeqAt 2 (TreeL n) w lo2 k2 xs →
    Calls Try.prog 38 #[k, k2] w fun e w' => e = .returned (.bool true) ∧ Below w.heap.size w w'
set_option maxHeartbeats 1000000 in
theorem eqT_step (n : Nat) (ih0 : EqS n) : EqT (n + 1) := by
  have ih : Hid (EqS n) := ih0
  clear ih0
  intro w lo lo2 cs cs2 x hx hx2
  obtain ⟨k1, rfl, s1, rTag, _⟩ := hx
  obtain ⟨l1, rfl, t1, _⟩ := hx2
  have s1' : Hid (SeqAt 2 (TreeL n) w lo k1 (kidsOf x)) := s1
  have t1' : Hid (SeqAt 2 (TreeL n) w lo2 l1 (kidsOf x)) := t1
  clear s1 t1
  have hb : Below w.heap.size w ((w.alloc (.cells (List.toArray [.string (strT x), k1]) 33)).alloc (.cells (List.toArray [.string (strT x), l1]) 33)) := ((Below.refl _ _).alloc (Nat.le_refl _) _).alloc (by simp) _
  have bA : Hid (Box ((w.alloc (.cells (List.toArray [.string (strT x), k1]) 33)).alloc (.cells (List.toArray [.string (strT x), l1]) 33)) w.heap.size [.string (strT x), k1] 33) := (Box.new w _ _).alloc _
  have bB : Hid (Box ((w.alloc (.cells (List.toArray [.string (strT x), k1]) 33)).alloc (.cells (List.toArray [.string (strT x), l1]) 33)) (w.heap.size + 1) [.string (strT x), l1] 33) := by have := Box.new (w.alloc (.cells (List.toArray [.string (strT x), k1]) 33)) [.string (strT x), l1] 33; simpa [Hid] using this
  go_enter Try.func14, Try.ntmps14
  go_wp2_with fail
  refine (ih.out (s1'.out.below (TreeL_stays n) hb) (t1'.out.below (TreeL_stays n) hb)).mono ?_
  rintro e u1 ⟨rfl, hbc⟩
  replace hb := hb.trans (hbc.mono hb.size)
  replace bA : Hid (Box u1 w.heap.size [.string (strT x), k1] 33) := bA.out.below hbc bA.out.lt
  replace bB : Hid (Box u1 (w.heap.size + 1) [.string (strT x), l1] 33) := bB.out.below hbc bB.out.lt
  have tA1_0 := bA.out.cell 0 rfl
  have tB1_0 := bB.out.cell 0 rfl
  have tA1_1 := bA.out.cell 1 rfl
  have tB1_1 := bB.out.cell 1 rfl
  clear hbc
  go_wp2_with fail
  go_ret
  exact ⟨rfl, hb⟩
set_option maxHeartbeats 800000 in
theorem eqS_zero : EqS 0 := by
  intro w lo lo2 k k2 xs hk hk2
  obtain rfl := seqAt_zero hk
  obtain ⟨a, cap, rfl, _⟩ := hk
  obtain ⟨a2, cap2, rfl, _⟩ := hk2
  go_enter Try.func38, Try.ntmps38
  go_wp2_with fail
  go_loopw [5] (fun i wr => i = .int .i64 0 ∧ wr = w) (fun _ _ => 0)
  case atStart => exact ⟨rfl, rfl⟩
  case round =>
    obtain ⟨rfl, rfl⟩ := hrel
    go_wp2_with fail
    go_ret
    exact ⟨rfl, Below.refl _ _⟩
set_option maxHeartbeats 1000000 in
theorem eqS_succ (n : Nat) (ih0 : EqT (n + 1)) : EqS (n + 1) := by
  have ih : Hid (EqT (n + 1)) := ih0
  clear ih0
  intro w lo lo2 k k2 xs hk hk2
  obtain ⟨a, cap, rfl, hm, hx⟩ := hk
  obtain ⟨a2, cap2, rfl, _, hx2⟩ := hk2
  unfold maxLen at hm
  have hx' : Hid _ := hx
  have hx2' : Hid _ := hx2
  clear hx hx2
  go_enter Try.func38, Try.ntmps38
  go_wp2_with fail
  go_loopw [5] (fun i wr => ∃ (j : Nat), j ≤ xs.length ∧ i = .int .i64 j ∧ Below w.heap.size w wr) (fun i _ => xs.length - (intOf i).toNat)
  case atStart => exact ⟨0, by omega, rfl, Below.refl _ _⟩
  case round =>
    obtain ⟨j, hj, rfl, hb⟩ := hrel
    by_cases hlt : j < xs.length
    · obtain ⟨b, off, rfl, hlo, hbw, hc⟩ := hx'.out (by omega)
      obtain ⟨b2, off2, rfl, hlo2, hbw2, hc2⟩ := hx2'.out (by omega)
      obtain ⟨cs, hcl, lie, hr⟩ := hc j hlt
      obtain ⟨cs2, hcl2, lie2, hr2⟩ := hc2 j hlt
      have lie1 := Lie.keep (lo := lo) (lo' := lo) lie (.of_below hb) hlo hbw
      have lie3 := Lie.keep (lo := lo2) (lo' := lo2) lie2 (.of_below hb) hlo2 hbw2
      replace hr := (TreeL_stays (n + 1)) _ _ _ lo _ _ (.of_below hb.drew) hr
      replace hr2 := (TreeL_stays (n + 1)) _ _ _ lo2 _ _ (.of_below hb.drew) hr2
      generalize xs[j] = X at hr hr2
      have hr' : Hid (TreeL (n + 1) wr.drew lo cs X) := hr
      have hr2' : Hid (TreeL (n + 1) wr.drew lo2 cs2 X) := hr2
      obtain ⟨k1, rfl, s1, rTag, _⟩ := hr
      obtain ⟨l1, rfl, t1, _⟩ := hr2
      clear s1 t1 rTag
      have z0 := lie1 0 (by simp)
      have y0 := lie3 0 (by simp)
      have z1 := lie1 1 (by simp)
      have y1 := lie3 1 (by simp)
      simp only [List.getElem?_cons_zero, List.getElem?_cons_succ, Nat.add_zero] at z0 y0 z1 y1
      have hbr : b < wr.heap.size := by have := hb.size; omega
      have hbr2 : b2 < wr.heap.size := by have := hb.size; omega
      have hlt' : (j : Int) < (xs.length : Int) := by omega
      have h0' : (0 : Int) ≤ (j : Int) := by omega
      clear lie lie2 lie1 lie3 hcl hcl2 hx' hx2' hc hc2
      go_wp2_with fail
      go_region_held3 (fun w' => w'.cell? ⟨b, off + j * 2, none⟩ = some (.string (strT X)) ∧ w'.cell? ⟨b, off + j * 2 + 1, none⟩ = some (k1) ∧ w'.cell? ⟨b2, off2 + j * 2, none⟩ = some (.string (strT X)) ∧ w'.cell? ⟨b2, off2 + j * 2 + 1, none⟩ = some (l1)) (go_keep) (first | (go_at_call 14; refine (ih.out (by exact hr'.out) (by exact hr2'.out)).mono ?_; rintro e w1 ⟨rfl, hb1⟩; have z0n := (hb1.cell (p := ⟨b, off + j * 2, none⟩) (by exact hbr)).trans z0; have z1n := (hb1.cell (p := ⟨b, off + j * 2 + 1, none⟩) (by exact hbr)).trans z1; have y0n := (hb1.cell (p := ⟨b2, off2 + j * 2, none⟩) (by exact hbr2)).trans y0; have y1n := (hb1.cell (p := ⟨b2, off2 + j * 2 + 1, none⟩) (by exact hbr2)).trans y1; have hb' : Below w.heap.size w w1 := hb.drew.trans (hb1.mono hb.size)))
      go_wp2_with fail
      go_roundw
      case rel => exact ⟨j + 1, by omega, by go_num, hb'⟩
      case measure => simp [intOf]; omega
    · go_wp2_with fail
      go_ret
      exact ⟨rfl, hb⟩
theorem eqT_all : ∀ n, EqT n ∧ EqS n := by
  intro n
  induction n with
  | zero => exact ⟨fun h _ => h.elim, eqS_zero⟩
  | succ n ih => exact ⟨eqT_step n ih.2, eqS_succ n (eqT_step n ih.2)⟩
theorem eqTree_any {n : Nat} {w : World} {lo lo2 : Nat} {cs cs2 : List Value} {x : TD} (h : TreeL n w lo cs x) (h2 : TreeL n w lo2 cs2 x) :
    Calls Try.prog 14 #[.agg cs.toArray, .agg cs2.toArray] w fun e w' => e = .returned (.bool true) ∧ Below w.heap.size w w' := (eqT_all n).1 h h2
end Go.Proofs.Ytfncmndgdomjiaa
