/- The functions eq.. of the laws return true of two that lie in memory as one and the same. -/
import Derived.Test.YtlcddndpfhdakaaMarkRecs
import Derived.WalkKit
import Derived.Deep.RegionHeld3
namespace Go.Proofs.Ytlcddndpfhdakaa
open Go.RowKit
set_option maxHeartbeats 1000000 in
theorem eqAttr_any {w : World} {lo lo2 : Nat} {cs cs2 : List Value} {x : AttrD} (hx : AttrAt w lo cs x) (hx2 : AttrAt w lo2 cs2 x) :
    Calls Try.prog 33 #[.agg cs.toArray, .agg cs2.toArray] w fun e w' => e = .returned (.bool true) ∧ Below w.heap.size w w' := by
  obtain ⟨rfl, rName, rValue, _⟩ := hx
  obtain ⟨rfl, _⟩ := hx2
  have hb : Below w.heap.size w ((w.alloc (.cells (List.toArray [.string x.vName, .string x.vValue]) 58)).alloc (.cells (List.toArray [.string x.vName, .string x.vValue]) 58)) := ((Below.refl _ _).alloc (Nat.le_refl _) _).alloc (by simp) _
  go_enter Try.func33, Try.ntmps33
  go_wp2_with fail
  go_ret
  exact ⟨rfl, hb⟩
set_option maxHeartbeats 1000000 in
theorem eqAttrS_any {w : World} {lo lo2 : Nat} {k k2 : Value} {xs : List AttrD} (hk : SeqAt 2 AttrAt w lo k xs) (hk2 : SeqAt 2 AttrAt w lo2 k2 xs) :
    Calls Try.prog 23 #[k, k2] w fun e w' => e = .returned (.bool true) ∧ Below w.heap.size w w' := by
  obtain ⟨a, cap, rfl, hm, hx⟩ := hk
  obtain ⟨a2, cap2, rfl, _, hx2⟩ := hk2
  unfold maxLen at hm
  have hx' : Hid _ := hx
  have hx2' : Hid _ := hx2
  clear hx hx2
  go_enter Try.func23, Try.ntmps23
  go_wp2_with fail
  go_loopw [5] (fun i wr => ∃ (j : Nat), j ≤ xs.length ∧ i = .int .i64 j ∧ Below w.heap.size w wr) (fun i _ => xs.length - (intOf i).toNat)
  case atStart => exact ⟨0, by omega, rfl, Below.refl _ _⟩
  case round =>
    obtain ⟨j, hj, rfl, hb⟩ := hrel
    by_cases hlt : j < xs.length
    · obtain ⟨b, off, rfl, hlo, hbw, hc⟩ := hx'.out (by omega)
      obtain ⟨b2, off2, rfl, hlo2, hbw2, hc2⟩ := hx2'.out (by omega)
      obtain ⟨cs, hcl, lie, hr⟩ := hc j hlt
      obtain ⟨cs2, hcl2, lie2, hr2⟩ := hc2 j hlt
      have lie1 := Lie.keep (lo := lo) (lo' := lo) lie (.of_below hb) hlo hbw
      have lie3 := Lie.keep (lo := lo2) (lo' := lo2) lie2 (.of_below hb) hlo2 hbw2
      replace hr := AttrAt_stays _ _ _ lo _ _ (.of_below hb.drew) hr
      replace hr2 := AttrAt_stays _ _ _ lo2 _ _ (.of_below hb.drew) hr2
      generalize xs[j] = X at hr hr2
      have hr' : Hid (AttrAt wr.drew lo cs X) := hr
      have hr2' : Hid (AttrAt wr.drew lo2 cs2 X) := hr2
      obtain ⟨rfl, rName, rValue, _⟩ := hr
      obtain ⟨rfl, _⟩ := hr2
      clear rName rValue
      have z0 := lie1 0 (by simp)
      have y0 := lie3 0 (by simp)
      have z1 := lie1 1 (by simp)
      have y1 := lie3 1 (by simp)
      simp only [List.getElem?_cons_zero, List.getElem?_cons_succ, Nat.add_zero] at z0 y0 z1 y1
      have hbr : b < wr.heap.size := by have := hb.size; omega
      have hbr2 : b2 < wr.heap.size := by have := hb.size; omega
      have hlt' : (j : Int) < (xs.length : Int) := by omega
      have h0' : (0 : Int) ≤ (j : Int) := by omega
      clear lie lie2 lie1 lie3 hcl hcl2 hx' hx2' hc hc2
      go_wp2_with fail
      go_region_held3 (fun w' => w'.cell? ⟨b, off + j * 2, none⟩ = some (.string X.vName) ∧ w'.cell? ⟨b, off + j * 2 + 1, none⟩ = some (.string X.vValue) ∧ w'.cell? ⟨b2, off2 + j * 2, none⟩ = some (.string X.vName) ∧ w'.cell? ⟨b2, off2 + j * 2 + 1, none⟩ = some (.string X.vValue)) (go_keep) (first | (go_at_call 33; refine (eqAttr_any (by exact hr'.out) (by exact hr2'.out)).mono ?_; rintro e w1 ⟨rfl, hb1⟩; have z0n := (hb1.cell (p := ⟨b, off + j * 2, none⟩) (by exact hbr)).trans z0; have z1n := (hb1.cell (p := ⟨b, off + j * 2 + 1, none⟩) (by exact hbr)).trans z1; have y0n := (hb1.cell (p := ⟨b2, off2 + j * 2, none⟩) (by exact hbr2)).trans y0; have y1n := (hb1.cell (p := ⟨b2, off2 + j * 2 + 1, none⟩) (by exact hbr2)).trans y1; have hb' : Below w.heap.size w w1 := hb.drew.trans (hb1.mono hb.size)))
      go_wp2_with fail
      go_roundw
      case rel => exact ⟨j + 1, by omega, by go_num, hb'⟩
      case measure => simp [intOf]; omega
    · go_wp2_with fail
      go_ret
      exact ⟨rfl, hb⟩
def EqM (n : Nat) : Prop := ∀ (w : World) (lo lo2 : Nat) (cs cs2 : List Value) (x : MarkD), MarkAt n w lo cs x → MarkAt n w lo2 cs2 x →
    Calls Try.prog 9 #[.agg cs.toArray, .agg cs2.toArray] w fun e w' => e = .returned (.bool true) ∧ Below w.heap.size w w'
def EqMS (n : Nat) : Prop := ∀ (w : World) (lo lo2 : Nat) (k k2 : Value) (xs : List MarkD), SeqAt 4 (MarkAt n) w lo k xs → SeqAt 4 (MarkAt n) w lo2 k2 xs →
    Calls Try.prog 24 #[k, k2] w fun e w' => e = .returned (.bool true) ∧ Below w.heap.size w w'
set_option maxHeartbeats 1000000 in
theorem eqMark_of {n : Nat} (hK : Hid (EqMS n)) {w : World} {lo lo2 : Nat} {cs cs2 : List Value} {x : MarkD} (hx : MarkAt (n + 1) w lo cs x) (hx2 : MarkAt (n + 1) w lo2 cs2 x) :
    Calls Try.prog 9 #[.agg cs.toArray, .agg cs2.toArray] w fun e w' => e = .returned (.bool true) ∧ Below w.heap.size w w' := by
  obtain ⟨k2, k3, rfl, s2, s3, rTag, rText, _⟩ := hx
  obtain ⟨l2, l3, rfl, t2, t3, _⟩ := hx2
  have s2' : Hid (SeqAt 2 AttrAt w lo k2 x.vAttrs) := s2
  have t2' : Hid (SeqAt 2 AttrAt w lo2 l2 x.vAttrs) := t2
  clear s2 t2
  have s3' : Hid (SeqAt 4 (MarkAt n) w lo k3 x.vKids) := s3
  have t3' : Hid (SeqAt 4 (MarkAt n) w lo2 l3 x.vKids) := t3
  clear s3 t3
  have hb : Below w.heap.size w ((w.alloc (.cells (List.toArray [.string x.vTag, .string x.vText, k2, k3]) 35)).alloc (.cells (List.toArray [.string x.vTag, .string x.vText, l2, l3]) 35)) := ((Below.refl _ _).alloc (Nat.le_refl _) _).alloc (by simp) _
  have bA : Hid (Box ((w.alloc (.cells (List.toArray [.string x.vTag, .string x.vText, k2, k3]) 35)).alloc (.cells (List.toArray [.string x.vTag, .string x.vText, l2, l3]) 35)) w.heap.size [.string x.vTag, .string x.vText, k2, k3] 35) := (Box.new w _ _).alloc _
  have bB : Hid (Box ((w.alloc (.cells (List.toArray [.string x.vTag, .string x.vText, k2, k3]) 35)).alloc (.cells (List.toArray [.string x.vTag, .string x.vText, l2, l3]) 35)) (w.heap.size + 1) [.string x.vTag, .string x.vText, l2, l3] 35) := by have := Box.new (w.alloc (.cells (List.toArray [.string x.vTag, .string x.vText, k2, k3]) 35)) [.string x.vTag, .string x.vText, l2, l3] 35; simpa [Hid] using this
  go_enter Try.func9, Try.ntmps9
  go_wp2_with fail
  refine (eqAttrS_any (s2'.out.below AttrAt_stays hb) (t2'.out.below AttrAt_stays hb)).mono ?_
  rintro e u2 ⟨rfl, hbc⟩
  replace hb := hb.trans (hbc.mono hb.size)
  replace bA : Hid (Box u2 w.heap.size [.string x.vTag, .string x.vText, k2, k3] 35) := bA.out.below hbc bA.out.lt
  replace bB : Hid (Box u2 (w.heap.size + 1) [.string x.vTag, .string x.vText, l2, l3] 35) := bB.out.below hbc bB.out.lt
  have tA2_0 := bA.out.cell 0 rfl
  have tB2_0 := bB.out.cell 0 rfl
  have tA2_1 := bA.out.cell 1 rfl
  have tB2_1 := bB.out.cell 1 rfl
  have tA2_2 := bA.out.cell 2 rfl
  have tB2_2 := bB.out.cell 2 rfl
  have tA2_3 := bA.out.cell 3 rfl
  have tB2_3 := bB.out.cell 3 rfl
  clear hbc
  go_wp2_with fail
  refine (hK.out _ lo lo2 _ _ _ (s3'.out.below (MarkAt_stays n) hb) (t3'.out.below (MarkAt_stays n) hb)).mono ?_
  rintro e u3 ⟨rfl, hbc⟩
  replace hb := hb.trans (hbc.mono hb.size)
  replace bA : Hid (Box u3 w.heap.size [.string x.vTag, .string x.vText, k2, k3] 35) := bA.out.below hbc bA.out.lt
  replace bB : Hid (Box u3 (w.heap.size + 1) [.string x.vTag, .string x.vText, l2, l3] 35) := bB.out.below hbc bB.out.lt
  clear tA2_0 tB2_0 tA2_1 tB2_1 tA2_2 tB2_2 tA2_3 tB2_3
  have tA3_0 := bA.out.cell 0 rfl
  have tB3_0 := bB.out.cell 0 rfl
  have tA3_1 := bA.out.cell 1 rfl
  have tB3_1 := bB.out.cell 1 rfl
  have tA3_2 := bA.out.cell 2 rfl
  have tB3_2 := bB.out.cell 2 rfl
  have tA3_3 := bA.out.cell 3 rfl
  have tB3_3 := bB.out.cell 3 rfl
  clear hbc
  go_wp2_with fail
  go_ret
  exact ⟨rfl, hb⟩
set_option maxHeartbeats 1000000 in
theorem eqMarkS_of {n : Nat} (hM : Hid (EqM n)) {w : World} {lo lo2 : Nat} {k k2 : Value} {xs : List MarkD} (hk : SeqAt 4 (MarkAt n) w lo k xs) (hk2 : SeqAt 4 (MarkAt n) w lo2 k2 xs) :
    Calls Try.prog 24 #[k, k2] w fun e w' => e = .returned (.bool true) ∧ Below w.heap.size w w' := by
  obtain ⟨a, cap, rfl, hm, hx⟩ := hk
  obtain ⟨a2, cap2, rfl, _, hx2⟩ := hk2
  unfold maxLen at hm
  have hx' : Hid _ := hx
  have hx2' : Hid _ := hx2
  clear hx hx2
  go_enter Try.func24, Try.ntmps24
  go_wp2_with fail
  go_loopw [5] (fun i wr => ∃ (j : Nat), j ≤ xs.length ∧ i = .int .i64 j ∧ Below w.heap.size w wr) (fun i _ => xs.length - (intOf i).toNat)
  case atStart => exact ⟨0, by omega, rfl, Below.refl _ _⟩
  case round =>
    obtain ⟨j, hj, rfl, hb⟩ := hrel
    by_cases hlt : j < xs.length
    · obtain ⟨b, off, rfl, hlo, hbw, hc⟩ := hx'.out (by omega)
      obtain ⟨b2, off2, rfl, hlo2, hbw2, hc2⟩ := hx2'.out (by omega)
      obtain ⟨cs, hcl, lie, hr⟩ := hc j hlt
      obtain ⟨cs2, hcl2, lie2, hr2⟩ := hc2 j hlt
      have lie1 := Lie.keep (lo := lo) (lo' := lo) lie (.of_below hb) hlo hbw
      have lie3 := Lie.keep (lo := lo2) (lo' := lo2) lie2 (.of_below hb) hlo2 hbw2
      replace hr := (MarkAt_stays n) _ _ _ lo _ _ (.of_below hb.drew) hr
      replace hr2 := (MarkAt_stays n) _ _ _ lo2 _ _ (.of_below hb.drew) hr2
      generalize xs[j] = X at hr hr2
      have hr' : Hid (MarkAt n wr.drew lo cs X) := hr
      have hr2' : Hid (MarkAt n wr.drew lo2 cs2 X) := hr2
      obtain ⟨k2, k3, rfl, s2, s3, rTag, rText, _⟩ := MarkAt.opened hr
      obtain ⟨l2, l3, rfl, t2, t3, _⟩ := MarkAt.opened hr2
      clear s2 s3 t2 t3 rTag rText
      have z0 := lie1 0 (by simp)
      have y0 := lie3 0 (by simp)
      have z1 := lie1 1 (by simp)
      have y1 := lie3 1 (by simp)
      have z2 := lie1 2 (by simp)
      have y2 := lie3 2 (by simp)
      have z3 := lie1 3 (by simp)
      have y3 := lie3 3 (by simp)
      simp only [List.getElem?_cons_zero, List.getElem?_cons_succ, Nat.add_zero] at z0 y0 z1 y1 z2 y2 z3 y3
      have hbr : b < wr.heap.size := by have := hb.size; omega
      have hbr2 : b2 < wr.heap.size := by have := hb.size; omega
      have hlt' : (j : Int) < (xs.length : Int) := by omega
      have h0' : (0 : Int) ≤ (j : Int) := by omega
      clear lie lie2 lie1 lie3 hcl hcl2 hx' hx2' hc hc2
      go_wp2_with fail
      go_region_held3 (fun w' => w'.cell? ⟨b, off + j * 4, none⟩ = some (.string X.vTag) ∧ w'.cell? ⟨b, off + j * 4 + 1, none⟩ = some (.string X.vText) ∧ w'.cell? ⟨b, off + j * 4 + 2, none⟩ = some (k2) ∧ w'.cell? ⟨b, off + j * 4 + 3, none⟩ = some (k3) ∧ w'.cell? ⟨b2, off2 + j * 4, none⟩ = some (.string X.vTag) ∧ w'.cell? ⟨b2, off2 + j * 4 + 1, none⟩ = some (.string X.vText) ∧ w'.cell? ⟨b2, off2 + j * 4 + 2, none⟩ = some (l2) ∧ w'.cell? ⟨b2, off2 + j * 4 + 3, none⟩ = some (l3)) (go_keep) (first | (go_at_call 9; refine (hM.out _ lo lo2 _ _ _ (by exact hr'.out) (by exact hr2'.out)).mono ?_; rintro e w1 ⟨rfl, hb1⟩; have z0n := (hb1.cell (p := ⟨b, off + j * 4, none⟩) (by exact hbr)).trans z0; have z1n := (hb1.cell (p := ⟨b, off + j * 4 + 1, none⟩) (by exact hbr)).trans z1; have z2n := (hb1.cell (p := ⟨b, off + j * 4 + 2, none⟩) (by exact hbr)).trans z2; have z3n := (hb1.cell (p := ⟨b, off + j * 4 + 3, none⟩) (by exact hbr)).trans z3; have y0n := (hb1.cell (p := ⟨b2, off2 + j * 4, none⟩) (by exact hbr2)).trans y0; have y1n := (hb1.cell (p := ⟨b2, off2 + j * 4 + 1, none⟩) (by exact hbr2)).trans y1; have y2n := (hb1.cell (p := ⟨b2, off2 + j * 4 + 2, none⟩) (by exact hbr2)).trans y2; have y3n := (hb1.cell (p := ⟨b2, off2 + j * 4 + 3, none⟩) (by exact hbr2)).trans y3; have hb' : Below w.heap.size w w1 := hb.drew.trans (hb1.mono hb.size)))
      go_wp2_with fail
      go_roundw
      case rel => exact ⟨j + 1, by omega, by go_num, hb'⟩
      case measure => simp [intOf]; omega
    · go_wp2_with fail
      go_ret
      exact ⟨rfl, hb⟩
theorem eqMark_all : ∀ n, EqM n ∧ EqMS n := by
  intro n
  induction n with
  | zero =>
    have h : EqM 0 := fun _ _ _ _ _ _ h _ => h.elim
    exact ⟨h, by
      intro w lo lo2 k k2 xs hk hk2
      exact eqMarkS_of h hk hk2⟩
  | succ n ih =>
    have h : EqM (n + 1) := by
      intro w lo lo2 cs cs2 x hx hx2
      exact eqMark_of ih.2 hx hx2
    exact ⟨h, by
      intro w lo lo2 k k2 xs hk hk2
      exact eqMarkS_of h hk hk2⟩
end Go.Proofs.Ytlcddndpfhdakaa
