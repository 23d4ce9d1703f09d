/- The functions eq.. of the laws return true of two that lie in memory as one and the same. -/
import Derived.Test.YtbodeijffpepfaaRecs
import Derived.WalkKit
import Derived.Deep.RegionHeld3
namespace Go.Proofs.Ytbodeijffpepfaa
open Go.RowKit
set_option maxHeartbeats 800000 in
theorem eqInt64S_any {w : World} {lo lo2 : Nat} {k k2 : Value} {xs : List Int} (hk : SeqAt 1 IntAt w lo k xs) (hk2 : SeqAt 1 IntAt w lo2 k2 xs) :
    Calls Try.prog 92 #[k, k2] w fun e w' => e = .returned (.bool true) ∧ Below w.heap.size w w' := by
  obtain ⟨a, cap, rfl, hm, hx⟩ := hk
  obtain ⟨a2, cap2, rfl, _, hx2⟩ := hk2
  unfold maxLen at hm
  have hx' : Hid _ := hx
  have hx2' : Hid _ := hx2
  clear hx hx2
  go_enter Try.func92, Try.ntmps92
  go_wp2_with fail
  go_loopw [5] (fun i wr => ∃ (j : Nat), j ≤ xs.length ∧ i = .int .i64 j ∧ Below w.heap.size w wr) (fun i _ => xs.length - (intOf i).toNat)
  case atStart => exact ⟨0, by omega, rfl, Below.refl _ _⟩
  case round =>
    obtain ⟨j, hj, rfl, hb⟩ := hrel
    by_cases hlt : j < xs.length
    · obtain ⟨b, off, rfl, hlo, hbw, hc⟩ := hx'.out (by omega)
      obtain ⟨b2, off2, rfl, hlo2, hbw2, hc2⟩ := hx2'.out (by omega)
      obtain ⟨cs, hcl, lie, hr⟩ := hc j hlt
      obtain ⟨cs2, hcl2, lie2, hr2⟩ := hc2 j hlt
      have lie1 := Lie.keep (lo := lo) (lo' := lo) lie (.of_below hb) hlo hbw
      have lie3 := Lie.keep (lo := lo2) (lo' := lo2) lie2 (.of_below hb) hlo2 hbw2
      generalize xs[j] = X at hr hr2
      obtain ⟨rfl, hI⟩ := hr
      obtain ⟨rfl, _⟩ := hr2
      have z0 := lie1 0 (by simp)
      have z1 := lie3 0 (by simp)
      simp only [List.getElem?_cons_zero, Nat.add_zero, Nat.mul_one] at z0 z1
      have hlt' : (j : Int) < (xs.length : Int) := by omega
      have h0' : (0 : Int) ≤ (j : Int) := by omega
      clear lie lie2 lie1 lie3 hcl hcl2 hx' hx2' hc hc2
      go_wp2_with fail
      go_region_held3 (fun w' => w'.cell? ⟨b, off + j, none⟩ = some (.int .i64 X) ∧ w'.cell? ⟨b2, off2 + j, none⟩ = some (.int .i64 X)) (go_keep) (fail)
      go_wp2_with fail
      go_roundw
      case rel => exact ⟨j + 1, by omega, by go_num, hb.drew⟩
      case measure => simp [intOf]; omega
    · go_wp2_with fail
      go_ret
      exact ⟨rfl, hb⟩
set_option maxHeartbeats 1000000 in
theorem eqListener_any {w : World} {lo lo2 : Nat} {cs cs2 : List Value} {x : ListenerD} (hx : ListenerAt w lo cs x) (hx2 : ListenerAt w lo2 cs2 x) :
    Calls Try.prog 98 #[.agg cs.toArray, .agg cs2.toArray] w fun e w' => e = .returned (.bool true) ∧ Below w.heap.size w w' := by
  obtain ⟨rfl, rType, rStop, rName, _⟩ := hx
  obtain ⟨rfl, _⟩ := hx2
  have hb : Below w.heap.size w ((w.alloc (.cells (List.toArray [.string x.vType, .bool x.vCapture, .bool x.vOnce, .int .i64 x.vStop, .string x.vName]) 100)).alloc (.cells (List.toArray [.string x.vType, .bool x.vCapture, .bool x.vOnce, .int .i64 x.vStop, .string x.vName]) 100)) := ((Below.refl _ _).alloc (Nat.le_refl _) _).alloc (by simp) _
  go_enter Try.func98, Try.ntmps98
  go_wp2_with fail
  go_ret
  exact ⟨rfl, hb⟩
set_option maxHeartbeats 1000000 in
theorem eqListenerS_any {w : World} {lo lo2 : Nat} {k k2 : Value} {xs : List ListenerD} (hk : SeqAt 5 ListenerAt w lo k xs) (hk2 : SeqAt 5 ListenerAt w lo2 k2 xs) :
    Calls Try.prog 93 #[k, k2] w fun e w' => e = .returned (.bool true) ∧ Below w.heap.size w w' := by
  obtain ⟨a, cap, rfl, hm, hx⟩ := hk
  obtain ⟨a2, cap2, rfl, _, hx2⟩ := hk2
  unfold maxLen at hm
  have hx' : Hid _ := hx
  have hx2' : Hid _ := hx2
  clear hx hx2
  go_enter Try.func93, Try.ntmps93
  go_wp2_with fail
  go_loopw [5] (fun i wr => ∃ (j : Nat), j ≤ xs.length ∧ i = .int .i64 j ∧ Below w.heap.size w wr) (fun i _ => xs.length - (intOf i).toNat)
  case atStart => exact ⟨0, by omega, rfl, Below.refl _ _⟩
  case round =>
    obtain ⟨j, hj, rfl, hb⟩ := hrel
    by_cases hlt : j < xs.length
    · obtain ⟨b, off, rfl, hlo, hbw, hc⟩ := hx'.out (by omega)
      obtain ⟨b2, off2, rfl, hlo2, hbw2, hc2⟩ := hx2'.out (by omega)
      obtain ⟨cs, hcl, lie, hr⟩ := hc j hlt
      obtain ⟨cs2, hcl2, lie2, hr2⟩ := hc2 j hlt
      have lie1 := Lie.keep (lo := lo) (lo' := lo) lie (.of_below hb) hlo hbw
      have lie3 := Lie.keep (lo := lo2) (lo' := lo2) lie2 (.of_below hb) hlo2 hbw2
      replace hr := ListenerAt_stays _ _ _ lo _ _ (.of_below hb.drew) hr
      replace hr2 := ListenerAt_stays _ _ _ lo2 _ _ (.of_below hb.drew) hr2
      generalize xs[j] = X at hr hr2
      have hr' : Hid (ListenerAt wr.drew lo cs X) := hr
      have hr2' : Hid (ListenerAt wr.drew lo2 cs2 X) := hr2
      obtain ⟨rfl, rType, rStop, rName, _⟩ := hr
      obtain ⟨rfl, _⟩ := hr2
      clear rType rStop rName
      have z0 := lie1 0 (by simp)
      have y0 := lie3 0 (by simp)
      have z1 := lie1 1 (by simp)
      have y1 := lie3 1 (by simp)
      have z2 := lie1 2 (by simp)
      have y2 := lie3 2 (by simp)
      have z3 := lie1 3 (by simp)
      have y3 := lie3 3 (by simp)
      have z4 := lie1 4 (by simp)
      have y4 := lie3 4 (by simp)
      simp only [List.getElem?_cons_zero, List.getElem?_cons_succ, Nat.add_zero] at z0 y0 z1 y1 z2 y2 z3 y3 z4 y4
      have hbr : b < wr.heap.size := by have := hb.size; omega
      have hbr2 : b2 < wr.heap.size := by have := hb.size; omega
      have hlt' : (j : Int) < (xs.length : Int) := by omega
      have h0' : (0 : Int) ≤ (j : Int) := by omega
      clear lie lie2 lie1 lie3 hcl hcl2 hx' hx2' hc hc2
      go_wp2_with fail
      go_region_held3 (fun w' => w'.cell? ⟨b, off + j * 5, none⟩ = some (.string X.vType) ∧ w'.cell? ⟨b, off + j * 5 + 1, none⟩ = some (.bool X.vCapture) ∧ w'.cell? ⟨b, off + j * 5 + 2, none⟩ = some (.bool X.vOnce) ∧ w'.cell? ⟨b, off + j * 5 + 3, none⟩ = some (.int .i64 X.vStop) ∧ w'.cell? ⟨b, off + j * 5 + 4, none⟩ = some (.string X.vName) ∧ w'.cell? ⟨b2, off2 + j * 5, none⟩ = some (.string X.vType) ∧ w'.cell? ⟨b2, off2 + j * 5 + 1, none⟩ = some (.bool X.vCapture) ∧ w'.cell? ⟨b2, off2 + j * 5 + 2, none⟩ = some (.bool X.vOnce) ∧ w'.cell? ⟨b2, off2 + j * 5 + 3, none⟩ = some (.int .i64 X.vStop) ∧ w'.cell? ⟨b2, off2 + j * 5 + 4, none⟩ = some (.string X.vName)) (go_keep) (first | (go_at_call 98; refine (eqListener_any (by exact hr'.out) (by exact hr2'.out)).mono ?_; rintro e w1 ⟨rfl, hb1⟩; have z0n := (hb1.cell (p := ⟨b, off + j * 5, none⟩) (by exact hbr)).trans z0; have z1n := (hb1.cell (p := ⟨b, off + j * 5 + 1, none⟩) (by exact hbr)).trans z1; have z2n := (hb1.cell (p := ⟨b, off + j * 5 + 2, none⟩) (by exact hbr)).trans z2; have z3n := (hb1.cell (p := ⟨b, off + j * 5 + 3, none⟩) (by exact hbr)).trans z3; have z4n := (hb1.cell (p := ⟨b, off + j * 5 + 4, none⟩) (by exact hbr)).trans z4; have y0n := (hb1.cell (p := ⟨b2, off2 + j * 5, none⟩) (by exact hbr2)).trans y0; have y1n := (hb1.cell (p := ⟨b2, off2 + j * 5 + 1, none⟩) (by exact hbr2)).trans y1; have y2n := (hb1.cell (p := ⟨b2, off2 + j * 5 + 2, none⟩) (by exact hbr2)).trans y2; have y3n := (hb1.cell (p := ⟨b2, off2 + j * 5 + 3, none⟩) (by exact hbr2)).trans y3; have y4n := (hb1.cell (p := ⟨b2, off2 + j * 5 + 4, none⟩) (by exact hbr2)).trans y4; have hb' : Below w.heap.size w w1 := hb.drew.trans (hb1.mono hb.size)))
      go_wp2_with fail
      go_roundw
      case rel => exact ⟨j + 1, by omega, by go_num, hb'⟩
      case measure => simp [intOf]; omega
    · go_wp2_with fail
      go_ret
      exact ⟨rfl, hb⟩
set_option maxHeartbeats 1000000 in
theorem eqNode_any {w : World} {lo lo2 : Nat} {cs cs2 : List Value} {x : NodeD} (hx : NodeAt w lo cs x) (hx2 : NodeAt w lo2 cs2 x) :
    Calls Try.prog 80 #[.agg cs.toArray, .agg cs2.toArray] w fun e w' => e = .returned (.bool true) ∧ Below w.heap.size w w' := by
  obtain ⟨k3, k5, rfl, s3, s5, rId, rTag, rParent, rWrapper, _⟩ := hx
  obtain ⟨l3, l5, rfl, t3, t5, _⟩ := hx2
  have s3' : Hid (SeqAt 1 IntAt w lo k3 x.vKids) := s3
  have t3' : Hid (SeqAt 1 IntAt w lo2 l3 x.vKids) := t3
  clear s3 t3
  have s5' : Hid (SeqAt 5 ListenerAt w lo k5 x.vListeners) := s5
  have t5' : Hid (SeqAt 5 ListenerAt w lo2 l5 x.vListeners) := t5
  clear s5 t5
  have hb : Below w.heap.size w ((w.alloc (.cells (List.toArray [.int .i64 x.vId, .string x.vTag, .int .i64 x.vParent, k3, .int .i64 x.vWrapper, k5]) 69)).alloc (.cells (List.toArray [.int .i64 x.vId, .string x.vTag, .int .i64 x.vParent, l3, .int .i64 x.vWrapper, l5]) 69)) := ((Below.refl _ _).alloc (Nat.le_refl _) _).alloc (by simp) _
  have bA : Hid (Box ((w.alloc (.cells (List.toArray [.int .i64 x.vId, .string x.vTag, .int .i64 x.vParent, k3, .int .i64 x.vWrapper, k5]) 69)).alloc (.cells (List.toArray [.int .i64 x.vId, .string x.vTag, .int .i64 x.vParent, l3, .int .i64 x.vWrapper, l5]) 69)) w.heap.size [.int .i64 x.vId, .string x.vTag, .int .i64 x.vParent, k3, .int .i64 x.vWrapper, k5] 69) := (Box.new w _ _).alloc _
  have bB : Hid (Box ((w.alloc (.cells (List.toArray [.int .i64 x.vId, .string x.vTag, .int .i64 x.vParent, k3, .int .i64 x.vWrapper, k5]) 69)).alloc (.cells (List.toArray [.int .i64 x.vId, .string x.vTag, .int .i64 x.vParent, l3, .int .i64 x.vWrapper, l5]) 69)) (w.heap.size + 1) [.int .i64 x.vId, .string x.vTag, .int .i64 x.vParent, l3, .int .i64 x.vWrapper, l5] 69) := by have := Box.new (w.alloc (.cells (List.toArray [.int .i64 x.vId, .string x.vTag, .int .i64 x.vParent, k3, .int .i64 x.vWrapper, k5]) 69)) [.int .i64 x.vId, .string x.vTag, .int .i64 x.vParent, l3, .int .i64 x.vWrapper, l5] 69; simpa [Hid] using this
  go_enter Try.func80, Try.ntmps80
  go_wp2_with fail
  refine (eqInt64S_any (s3'.out.below intAt_stays hb) (t3'.out.below intAt_stays hb)).mono ?_
  rintro e u3 ⟨rfl, hbc⟩
  replace hb := hb.trans (hbc.mono hb.size)
  replace bA : Hid (Box u3 w.heap.size [.int .i64 x.vId, .string x.vTag, .int .i64 x.vParent, k3, .int .i64 x.vWrapper, k5] 69) := bA.out.below hbc bA.out.lt
  replace bB : Hid (Box u3 (w.heap.size + 1) [.int .i64 x.vId, .string x.vTag, .int .i64 x.vParent, l3, .int .i64 x.vWrapper, l5] 69) := bB.out.below hbc bB.out.lt
  have tA3_0 := bA.out.cell 0 rfl
  have tB3_0 := bB.out.cell 0 rfl
  have tA3_1 := bA.out.cell 1 rfl
  have tB3_1 := bB.out.cell 1 rfl
  have tA3_2 := bA.out.cell 2 rfl
  have tB3_2 := bB.out.cell 2 rfl
  have tA3_3 := bA.out.cell 3 rfl
  have tB3_3 := bB.out.cell 3 rfl
  have tA3_4 := bA.out.cell 4 rfl
  have tB3_4 := bB.out.cell 4 rfl
  have tA3_5 := bA.out.cell 5 rfl
  have tB3_5 := bB.out.cell 5 rfl
  clear hbc
  go_wp2_with fail
  refine (eqListenerS_any (s5'.out.below ListenerAt_stays hb) (t5'.out.below ListenerAt_stays hb)).mono ?_
  rintro e u5 ⟨rfl, hbc⟩
  replace hb := hb.trans (hbc.mono hb.size)
  replace bA : Hid (Box u5 w.heap.size [.int .i64 x.vId, .string x.vTag, .int .i64 x.vParent, k3, .int .i64 x.vWrapper, k5] 69) := bA.out.below hbc bA.out.lt
  replace bB : Hid (Box u5 (w.heap.size + 1) [.int .i64 x.vId, .string x.vTag, .int .i64 x.vParent, l3, .int .i64 x.vWrapper, l5] 69) := bB.out.below hbc bB.out.lt
  clear tA3_0 tB3_0 tA3_1 tB3_1 tA3_2 tB3_2 tA3_3 tB3_3 tA3_4 tB3_4 tA3_5 tB3_5
  have tA5_0 := bA.out.cell 0 rfl
  have tB5_0 := bB.out.cell 0 rfl
  have tA5_1 := bA.out.cell 1 rfl
  have tB5_1 := bB.out.cell 1 rfl
  have tA5_2 := bA.out.cell 2 rfl
  have tB5_2 := bB.out.cell 2 rfl
  have tA5_3 := bA.out.cell 3 rfl
  have tB5_3 := bB.out.cell 3 rfl
  have tA5_4 := bA.out.cell 4 rfl
  have tB5_4 := bB.out.cell 4 rfl
  have tA5_5 := bA.out.cell 5 rfl
  have tB5_5 := bB.out.cell 5 rfl
  clear hbc
  go_wp2_with fail
  go_ret
  exact ⟨rfl, hb⟩
set_option maxHeartbeats 1000000 in
theorem eqNodeS_any {w : World} {lo lo2 : Nat} {k k2 : Value} {xs : List NodeD} (hk : SeqAt 6 NodeAt w lo k xs) (hk2 : SeqAt 6 NodeAt w lo2 k2 xs) :
    Calls Try.prog 57 #[k, k2] w fun e w' => e = .returned (.bool true) ∧ Below w.heap.size w w' := by
  obtain ⟨a, cap, rfl, hm, hx⟩ := hk
  obtain ⟨a2, cap2, rfl, _, hx2⟩ := hk2
  unfold maxLen at hm
  have hx' : Hid _ := hx
  have hx2' : Hid _ := hx2
  clear hx hx2
  go_enter Try.func57, Try.ntmps57
  go_wp2_with fail
  go_loopw [5] (fun i wr => ∃ (j : Nat), j ≤ xs.length ∧ i = .int .i64 j ∧ Below w.heap.size w wr) (fun i _ => xs.length - (intOf i).toNat)
  case atStart => exact ⟨0, by omega, rfl, Below.refl _ _⟩
  case round =>
    obtain ⟨j, hj, rfl, hb⟩ := hrel
    by_cases hlt : j < xs.length
    · obtain ⟨b, off, rfl, hlo, hbw, hc⟩ := hx'.out (by omega)
      obtain ⟨b2, off2, rfl, hlo2, hbw2, hc2⟩ := hx2'.out (by omega)
      obtain ⟨cs, hcl, lie, hr⟩ := hc j hlt
      obtain ⟨cs2, hcl2, lie2, hr2⟩ := hc2 j hlt
      have lie1 := Lie.keep (lo := lo) (lo' := lo) lie (.of_below hb) hlo hbw
      have lie3 := Lie.keep (lo := lo2) (lo' := lo2) lie2 (.of_below hb) hlo2 hbw2
      replace hr := NodeAt_stays _ _ _ lo _ _ (.of_below hb.drew) hr
      replace hr2 := NodeAt_stays _ _ _ lo2 _ _ (.of_below hb.drew) hr2
      generalize xs[j] = X at hr hr2
      have hr' : Hid (NodeAt wr.drew lo cs X) := hr
      have hr2' : Hid (NodeAt wr.drew lo2 cs2 X) := hr2
      obtain ⟨k3, k5, rfl, s3, s5, rId, rTag, rParent, rWrapper, _⟩ := hr
      obtain ⟨l3, l5, rfl, t3, t5, _⟩ := hr2
      clear s3 s5 t3 t5 rId rTag rParent rWrapper
      have z0 := lie1 0 (by simp)
      have y0 := lie3 0 (by simp)
      have z1 := lie1 1 (by simp)
      have y1 := lie3 1 (by simp)
      have z2 := lie1 2 (by simp)
      have y2 := lie3 2 (by simp)
      have z3 := lie1 3 (by simp)
      have y3 := lie3 3 (by simp)
      have z4 := lie1 4 (by simp)
      have y4 := lie3 4 (by simp)
      have z5 := lie1 5 (by simp)
      have y5 := lie3 5 (by simp)
      simp only [List.getElem?_cons_zero, List.getElem?_cons_succ, Nat.add_zero] at z0 y0 z1 y1 z2 y2 z3 y3 z4 y4 z5 y5
      have hbr : b < wr.heap.size := by have := hb.size; omega
      have hbr2 : b2 < wr.heap.size := by have := hb.size; omega
      have hlt' : (j : Int) < (xs.length : Int) := by omega
      have h0' : (0 : Int) ≤ (j : Int) := by omega
      clear lie lie2 lie1 lie3 hcl hcl2 hx' hx2' hc hc2
      go_wp2_with fail
      go_region_held3 (fun w' => w'.cell? ⟨b, off + j * 6, none⟩ = some (.int .i64 X.vId) ∧ w'.cell? ⟨b, off + j * 6 + 1, none⟩ = some (.string X.vTag) ∧ w'.cell? ⟨b, off + j * 6 + 2, none⟩ = some (.int .i64 X.vParent) ∧ w'.cell? ⟨b, off + j * 6 + 3, none⟩ = some (k3) ∧ w'.cell? ⟨b, off + j * 6 + 4, none⟩ = some (.int .i64 X.vWrapper) ∧ w'.cell? ⟨b, off + j * 6 + 5, none⟩ = some (k5) ∧ w'.cell? ⟨b2, off2 + j * 6, none⟩ = some (.int .i64 X.vId) ∧ w'.cell? ⟨b2, off2 + j * 6 + 1, none⟩ = some (.string X.vTag) ∧ w'.cell? ⟨b2, off2 + j * 6 + 2, none⟩ = some (.int .i64 X.vParent) ∧ w'.cell? ⟨b2, off2 + j * 6 + 3, none⟩ = some (l3) ∧ w'.cell? ⟨b2, off2 + j * 6 + 4, none⟩ = some (.int .i64 X.vWrapper) ∧ w'.cell? ⟨b2, off2 + j * 6 + 5, none⟩ = some (l5)) (go_keep) (first | (go_at_call 80; refine (eqNode_any (by exact hr'.out) (by exact hr2'.out)).mono ?_; rintro e w1 ⟨rfl, hb1⟩; have z0n := (hb1.cell (p := ⟨b, off + j * 6, none⟩) (by exact hbr)).trans z0; have z1n := (hb1.cell (p := ⟨b, off + j * 6 + 1, none⟩) (by exact hbr)).trans z1; have z2n := (hb1.cell (p := ⟨b, off + j * 6 + 2, none⟩) (by exact hbr)).trans z2; have z3n := (hb1.cell (p := ⟨b, off + j * 6 + 3, none⟩) (by exact hbr)).trans z3; have z4n := (hb1.cell (p := ⟨b, off + j * 6 + 4, none⟩) (by exact hbr)).trans z4; have z5n := (hb1.cell (p := ⟨b, off + j * 6 + 5, none⟩) (by exact hbr)).trans z5; have y0n := (hb1.cell (p := ⟨b2, off2 + j * 6, none⟩) (by exact hbr2)).trans y0; have y1n := (hb1.cell (p := ⟨b2, off2 + j * 6 + 1, none⟩) (by exact hbr2)).trans y1; have y2n := (hb1.cell (p := ⟨b2, off2 + j * 6 + 2, none⟩) (by exact hbr2)).trans y2; have y3n := (hb1.cell (p := ⟨b2, off2 + j * 6 + 3, none⟩) (by exact hbr2)).trans y3; have y4n := (hb1.cell (p := ⟨b2, off2 + j * 6 + 4, none⟩) (by exact hbr2)).trans y4; have y5n := (hb1.cell (p := ⟨b2, off2 + j * 6 + 5, none⟩) (by exact hbr2)).trans y5; have hb' : Below w.heap.size w w1 := hb.drew.trans (hb1.mono hb.size)))
      go_wp2_with fail
      go_roundw
      case rel => exact ⟨j + 1, by omega, by go_num, hb'⟩
      case measure => simp [intOf]; omega
    · go_wp2_with fail
      go_ret
      exact ⟨rfl, hb⟩
set_option maxHeartbeats 1000000 in
theorem eqField_any {w : World} {lo lo2 : Nat} {cs cs2 : List Value} {x : FieldD} (hx : FieldAt w lo cs x) (hx2 : FieldAt w lo2 cs2 x) :
    Calls Try.prog 82 #[.agg cs.toArray, .agg cs2.toArray] w fun e w' => e = .returned (.bool true) ∧ Below w.heap.size w w' := by
  obtain ⟨rfl, rName, rObj, _⟩ := hx
  obtain ⟨rfl, _⟩ := hx2
  have hb : Below w.heap.size w ((w.alloc (.cells (List.toArray [.string x.vName, .int .i64 x.vObj]) 97)).alloc (.cells (List.toArray [.string x.vName, .int .i64 x.vObj]) 97)) := ((Below.refl _ _).alloc (Nat.le_refl _) _).alloc (by simp) _
  go_enter Try.func82, Try.ntmps82
  go_wp2_with fail
  go_ret
  exact ⟨rfl, hb⟩
set_option maxHeartbeats 1000000 in
theorem eqFieldS_any {w : World} {lo lo2 : Nat} {k k2 : Value} {xs : List FieldD} (hk : SeqAt 2 FieldAt w lo k xs) (hk2 : SeqAt 2 FieldAt w lo2 k2 xs) :
    Calls Try.prog 59 #[k, k2] w fun e w' => e = .returned (.bool true) ∧ Below w.heap.size w w' := by
  obtain ⟨a, cap, rfl, hm, hx⟩ := hk
  obtain ⟨a2, cap2, rfl, _, hx2⟩ := hk2
  unfold maxLen at hm
  have hx' : Hid _ := hx
  have hx2' : Hid _ := hx2
  clear hx hx2
  go_enter Try.func59, Try.ntmps59
  go_wp2_with fail
  go_loopw [5] (fun i wr => ∃ (j : Nat), j ≤ xs.length ∧ i = .int .i64 j ∧ Below w.heap.size w wr) (fun i _ => xs.length - (intOf i).toNat)
  case atStart => exact ⟨0, by omega, rfl, Below.refl _ _⟩
  case round =>
    obtain ⟨j, hj, rfl, hb⟩ := hrel
    by_cases hlt : j < xs.length
    · obtain ⟨b, off, rfl, hlo, hbw, hc⟩ := hx'.out (by omega)
      obtain ⟨b2, off2, rfl, hlo2, hbw2, hc2⟩ := hx2'.out (by omega)
      obtain ⟨cs, hcl, lie, hr⟩ := hc j hlt
      obtain ⟨cs2, hcl2, lie2, hr2⟩ := hc2 j hlt
      have lie1 := Lie.keep (lo := lo) (lo' := lo) lie (.of_below hb) hlo hbw
      have lie3 := Lie.keep (lo := lo2) (lo' := lo2) lie2 (.of_below hb) hlo2 hbw2
      replace hr := FieldAt_stays _ _ _ lo _ _ (.of_below hb.drew) hr
      replace hr2 := FieldAt_stays _ _ _ lo2 _ _ (.of_below hb.drew) hr2
      generalize xs[j] = X at hr hr2
      have hr' : Hid (FieldAt wr.drew lo cs X) := hr
      have hr2' : Hid (FieldAt wr.drew lo2 cs2 X) := hr2
      obtain ⟨rfl, rName, rObj, _⟩ := hr
      obtain ⟨rfl, _⟩ := hr2
      clear rName rObj
      have z0 := lie1 0 (by simp)
      have y0 := lie3 0 (by simp)
      have z1 := lie1 1 (by simp)
      have y1 := lie3 1 (by simp)
      simp only [List.getElem?_cons_zero, List.getElem?_cons_succ, Nat.add_zero] at z0 y0 z1 y1
      have hbr : b < wr.heap.size := by have := hb.size; omega
      have hbr2 : b2 < wr.heap.size := by have := hb.size; omega
      have hlt' : (j : Int) < (xs.length : Int) := by omega
      have h0' : (0 : Int) ≤ (j : Int) := by omega
      clear lie lie2 lie1 lie3 hcl hcl2 hx' hx2' hc hc2
      go_wp2_with fail
      go_region_held3 (fun w' => w'.cell? ⟨b, off + j * 2, none⟩ = some (.string X.vName) ∧ w'.cell? ⟨b, off + j * 2 + 1, none⟩ = some (.int .i64 X.vObj) ∧ w'.cell? ⟨b2, off2 + j * 2, none⟩ = some (.string X.vName) ∧ w'.cell? ⟨b2, off2 + j * 2 + 1, none⟩ = some (.int .i64 X.vObj)) (go_keep) (first | (go_at_call 82; refine (eqField_any (by exact hr'.out) (by exact hr2'.out)).mono ?_; rintro e w1 ⟨rfl, hb1⟩; have z0n := (hb1.cell (p := ⟨b, off + j * 2, none⟩) (by exact hbr)).trans z0; have z1n := (hb1.cell (p := ⟨b, off + j * 2 + 1, none⟩) (by exact hbr)).trans z1; have y0n := (hb1.cell (p := ⟨b2, off2 + j * 2, none⟩) (by exact hbr2)).trans y0; have y1n := (hb1.cell (p := ⟨b2, off2 + j * 2 + 1, none⟩) (by exact hbr2)).trans y1; have hb' : Below w.heap.size w w1 := hb.drew.trans (hb1.mono hb.size)))
      go_wp2_with fail
      go_roundw
      case rel => exact ⟨j + 1, by omega, by go_num, hb'⟩
      case measure => simp [intOf]; omega
    · go_wp2_with fail
      go_ret
      exact ⟨rfl, hb⟩
set_option maxHeartbeats 1000000 in
theorem eqObj_any {w : World} {lo lo2 : Nat} {cs cs2 : List Value} {x : ObjD} (hx : ObjAt w lo cs x) (hx2 : ObjAt w lo2 cs2 x) :
    Calls Try.prog 81 #[.agg cs.toArray, .agg cs2.toArray] w fun e w' => e = .returned (.bool true) ∧ Below w.heap.size w w' := by
  obtain ⟨k2, rfl, s2, rId, rNode, _⟩ := hx
  obtain ⟨l2, rfl, t2, _⟩ := hx2
  have s2' : Hid (SeqAt 2 FieldAt w lo k2 x.vFields) := s2
  have t2' : Hid (SeqAt 2 FieldAt w lo2 l2 x.vFields) := t2
  clear s2 t2
  have hb : Below w.heap.size w ((w.alloc (.cells (List.toArray [.int .i64 x.vId, .int .i64 x.vNode, k2]) 73)).alloc (.cells (List.toArray [.int .i64 x.vId, .int .i64 x.vNode, l2]) 73)) := ((Below.refl _ _).alloc (Nat.le_refl _) _).alloc (by simp) _
  have bA : Hid (Box ((w.alloc (.cells (List.toArray [.int .i64 x.vId, .int .i64 x.vNode, k2]) 73)).alloc (.cells (List.toArray [.int .i64 x.vId, .int .i64 x.vNode, l2]) 73)) w.heap.size [.int .i64 x.vId, .int .i64 x.vNode, k2] 73) := (Box.new w _ _).alloc _
  have bB : Hid (Box ((w.alloc (.cells (List.toArray [.int .i64 x.vId, .int .i64 x.vNode, k2]) 73)).alloc (.cells (List.toArray [.int .i64 x.vId, .int .i64 x.vNode, l2]) 73)) (w.heap.size + 1) [.int .i64 x.vId, .int .i64 x.vNode, l2] 73) := by have := Box.new (w.alloc (.cells (List.toArray [.int .i64 x.vId, .int .i64 x.vNode, k2]) 73)) [.int .i64 x.vId, .int .i64 x.vNode, l2] 73; simpa [Hid] using this
  go_enter Try.func81, Try.ntmps81
  go_wp2_with fail
  refine (eqFieldS_any (s2'.out.below FieldAt_stays hb) (t2'.out.below FieldAt_stays hb)).mono ?_
  rintro e u2 ⟨rfl, hbc⟩
  replace hb := hb.trans (hbc.mono hb.size)
  replace bA : Hid (Box u2 w.heap.size [.int .i64 x.vId, .int .i64 x.vNode, k2] 73) := bA.out.below hbc bA.out.lt
  replace bB : Hid (Box u2 (w.heap.size + 1) [.int .i64 x.vId, .int .i64 x.vNode, l2] 73) := bB.out.below hbc bB.out.lt
  have tA2_0 := bA.out.cell 0 rfl
  have tB2_0 := bB.out.cell 0 rfl
  have tA2_1 := bA.out.cell 1 rfl
  have tB2_1 := bB.out.cell 1 rfl
  have tA2_2 := bA.out.cell 2 rfl
  have tB2_2 := bB.out.cell 2 rfl
  clear hbc
  go_wp2_with fail
  go_ret
  exact ⟨rfl, hb⟩
set_option maxHeartbeats 1000000 in
theorem eqObjS_any {w : World} {lo lo2 : Nat} {k k2 : Value} {xs : List ObjD} (hk : SeqAt 3 ObjAt w lo k xs) (hk2 : SeqAt 3 ObjAt w lo2 k2 xs) :
    Calls Try.prog 58 #[k, k2] w fun e w' => e = .returned (.bool true) ∧ Below w.heap.size w w' := by
  obtain ⟨a, cap, rfl, hm, hx⟩ := hk
  obtain ⟨a2, cap2, rfl, _, hx2⟩ := hk2
  unfold maxLen at hm
  have hx' : Hid _ := hx
  have hx2' : Hid _ := hx2
  clear hx hx2
  go_enter Try.func58, Try.ntmps58
  go_wp2_with fail
  go_loopw [5] (fun i wr => ∃ (j : Nat), j ≤ xs.length ∧ i = .int .i64 j ∧ Below w.heap.size w wr) (fun i _ => xs.length - (intOf i).toNat)
  case atStart => exact ⟨0, by omega, rfl, Below.refl _ _⟩
  case round =>
    obtain ⟨j, hj, rfl, hb⟩ := hrel
    by_cases hlt : j < xs.length
    · obtain ⟨b, off, rfl, hlo, hbw, hc⟩ := hx'.out (by omega)
      obtain ⟨b2, off2, rfl, hlo2, hbw2, hc2⟩ := hx2'.out (by omega)
      obtain ⟨cs, hcl, lie, hr⟩ := hc j hlt
      obtain ⟨cs2, hcl2, lie2, hr2⟩ := hc2 j hlt
      have lie1 := Lie.keep (lo := lo) (lo' := lo) lie (.of_below hb) hlo hbw
      have lie3 := Lie.keep (lo := lo2) (lo' := lo2) lie2 (.of_below hb) hlo2 hbw2
      replace hr := ObjAt_stays _ _ _ lo _ _ (.of_below hb.drew) hr
      replace hr2 := ObjAt_stays _ _ _ lo2 _ _ (.of_below hb.drew) hr2
      generalize xs[j] = X at hr hr2
      have hr' : Hid (ObjAt wr.drew lo cs X) := hr
      have hr2' : Hid (ObjAt wr.drew lo2 cs2 X) := hr2
      obtain ⟨k2, rfl, s2, rId, rNode, _⟩ := hr
      obtain ⟨l2, rfl, t2, _⟩ := hr2
      clear s2 t2 rId rNode
      have z0 := lie1 0 (by simp)
      have y0 := lie3 0 (by simp)
      have z1 := lie1 1 (by simp)
      have y1 := lie3 1 (by simp)
      have z2 := lie1 2 (by simp)
      have y2 := lie3 2 (by simp)
      simp only [List.getElem?_cons_zero, List.getElem?_cons_succ, Nat.add_zero] at z0 y0 z1 y1 z2 y2
      have hbr : b < wr.heap.size := by have := hb.size; omega
      have hbr2 : b2 < wr.heap.size := by have := hb.size; omega
      have hlt' : (j : Int) < (xs.length : Int) := by omega
      have h0' : (0 : Int) ≤ (j : Int) := by omega
      clear lie lie2 lie1 lie3 hcl hcl2 hx' hx2' hc hc2
      go_wp2_with fail
      go_region_held3 (fun w' => w'.cell? ⟨b, off + j * 3, none⟩ = some (.int .i64 X.vId) ∧ w'.cell? ⟨b, off + j * 3 + 1, none⟩ = some (.int .i64 X.vNode) ∧ w'.cell? ⟨b, off + j * 3 + 2, none⟩ = some (k2) ∧ w'.cell? ⟨b2, off2 + j * 3, none⟩ = some (.int .i64 X.vId) ∧ w'.cell? ⟨b2, off2 + j * 3 + 1, none⟩ = some (.int .i64 X.vNode) ∧ w'.cell? ⟨b2, off2 + j * 3 + 2, none⟩ = some (l2)) (go_keep) (first | (go_at_call 81; refine (eqObj_any (by exact hr'.out) (by exact hr2'.out)).mono ?_; rintro e w1 ⟨rfl, hb1⟩; have z0n := (hb1.cell (p := ⟨b, off + j * 3, none⟩) (by exact hbr)).trans z0; have z1n := (hb1.cell (p := ⟨b, off + j * 3 + 1, none⟩) (by exact hbr)).trans z1; have z2n := (hb1.cell (p := ⟨b, off + j * 3 + 2, none⟩) (by exact hbr)).trans z2; have y0n := (hb1.cell (p := ⟨b2, off2 + j * 3, none⟩) (by exact hbr2)).trans y0; have y1n := (hb1.cell (p := ⟨b2, off2 + j * 3 + 1, none⟩) (by exact hbr2)).trans y1; have y2n := (hb1.cell (p := ⟨b2, off2 + j * 3 + 2, none⟩) (by exact hbr2)).trans y2; have hb' : Below w.heap.size w w1 := hb.drew.trans (hb1.mono hb.size)))
      go_wp2_with fail
      go_roundw
      case rel => exact ⟨j + 1, by omega, by go_num, hb'⟩
      case measure => simp [intOf]; omega
    · go_wp2_with fail
      go_ret
      exact ⟨rfl, hb⟩
set_option maxHeartbeats 1000000 in
theorem eqHeap_any {w : World} {lo lo2 : Nat} {cs cs2 : List Value} {x : HeapD} (hx : HeapAt w lo cs x) (hx2 : HeapAt w lo2 cs2 x) :
    Calls Try.prog 35 #[.agg cs.toArray, .agg cs2.toArray] w fun e w' => e = .returned (.bool true) ∧ Below w.heap.size w w' := by
  obtain ⟨k2, k3, k4, rfl, s2, s3, s4, rNext, rDoc, _⟩ := hx
  obtain ⟨l2, l3, l4, rfl, t2, t3, t4, _⟩ := hx2
  have s2' : Hid (SeqAt 6 NodeAt w lo k2 x.vNodes) := s2
  have t2' : Hid (SeqAt 6 NodeAt w lo2 l2 x.vNodes) := t2
  clear s2 t2
  have s3' : Hid (SeqAt 3 ObjAt w lo k3 x.vObjs) := s3
  have t3' : Hid (SeqAt 3 ObjAt w lo2 l3 x.vObjs) := t3
  clear s3 t3
  have s4' : Hid (SeqAt 2 FieldAt w lo k4 x.vGlobals) := s4
  have t4' : Hid (SeqAt 2 FieldAt w lo2 l4 x.vGlobals) := t4
  clear s4 t4
  have hb : Below w.heap.size w ((w.alloc (.cells (List.toArray [.int .i64 x.vNext, .int .i64 x.vDoc, k2, k3, k4]) 43)).alloc (.cells (List.toArray [.int .i64 x.vNext, .int .i64 x.vDoc, l2, l3, l4]) 43)) := ((Below.refl _ _).alloc (Nat.le_refl _) _).alloc (by simp) _
  have bA : Hid (Box ((w.alloc (.cells (List.toArray [.int .i64 x.vNext, .int .i64 x.vDoc, k2, k3, k4]) 43)).alloc (.cells (List.toArray [.int .i64 x.vNext, .int .i64 x.vDoc, l2, l3, l4]) 43)) w.heap.size [.int .i64 x.vNext, .int .i64 x.vDoc, k2, k3, k4] 43) := (Box.new w _ _).alloc _
  have bB : Hid (Box ((w.alloc (.cells (List.toArray [.int .i64 x.vNext, .int .i64 x.vDoc, k2, k3, k4]) 43)).alloc (.cells (List.toArray [.int .i64 x.vNext, .int .i64 x.vDoc, l2, l3, l4]) 43)) (w.heap.size + 1) [.int .i64 x.vNext, .int .i64 x.vDoc, l2, l3, l4] 43) := by have := Box.new (w.alloc (.cells (List.toArray [.int .i64 x.vNext, .int .i64 x.vDoc, k2, k3, k4]) 43)) [.int .i64 x.vNext, .int .i64 x.vDoc, l2, l3, l4] 43; simpa [Hid] using this
  go_enter Try.func35, Try.ntmps35
  go_wp2_with fail
  refine (eqNodeS_any (s2'.out.below NodeAt_stays hb) (t2'.out.below NodeAt_stays hb)).mono ?_
  rintro e u2 ⟨rfl, hbc⟩
  replace hb := hb.trans (hbc.mono hb.size)
  replace bA : Hid (Box u2 w.heap.size [.int .i64 x.vNext, .int .i64 x.vDoc, k2, k3, k4] 43) := bA.out.below hbc bA.out.lt
  replace bB : Hid (Box u2 (w.heap.size + 1) [.int .i64 x.vNext, .int .i64 x.vDoc, l2, l3, l4] 43) := bB.out.below hbc bB.out.lt
  have tA2_0 := bA.out.cell 0 rfl
  have tB2_0 := bB.out.cell 0 rfl
  have tA2_1 := bA.out.cell 1 rfl
  have tB2_1 := bB.out.cell 1 rfl
  have tA2_2 := bA.out.cell 2 rfl
  have tB2_2 := bB.out.cell 2 rfl
  have tA2_3 := bA.out.cell 3 rfl
  have tB2_3 := bB.out.cell 3 rfl
  have tA2_4 := bA.out.cell 4 rfl
  have tB2_4 := bB.out.cell 4 rfl
  clear hbc
  go_wp2_with fail
  refine (eqObjS_any (s3'.out.below ObjAt_stays hb) (t3'.out.below ObjAt_stays hb)).mono ?_
  rintro e u3 ⟨rfl, hbc⟩
  replace hb := hb.trans (hbc.mono hb.size)
  replace bA : Hid (Box u3 w.heap.size [.int .i64 x.vNext, .int .i64 x.vDoc, k2, k3, k4] 43) := bA.out.below hbc bA.out.lt
  replace bB : Hid (Box u3 (w.heap.size + 1) [.int .i64 x.vNext, .int .i64 x.vDoc, l2, l3, l4] 43) := bB.out.below hbc bB.out.lt
  clear tA2_0 tB2_0 tA2_1 tB2_1 tA2_2 tB2_2 tA2_3 tB2_3 tA2_4 tB2_4
  have tA3_0 := bA.out.cell 0 rfl
  have tB3_0 := bB.out.cell 0 rfl
  have tA3_1 := bA.out.cell 1 rfl
  have tB3_1 := bB.out.cell 1 rfl
  have tA3_2 := bA.out.cell 2 rfl
  have tB3_2 := bB.out.cell 2 rfl
  have tA3_3 := bA.out.cell 3 rfl
  have tB3_3 := bB.out.cell 3 rfl
  have tA3_4 := bA.out.cell 4 rfl
  have tB3_4 := bB.out.cell 4 rfl
  clear hbc
  go_wp2_with fail
  refine (eqFieldS_any (s4'.out.below FieldAt_stays hb) (t4'.out.below FieldAt_stays hb)).mono ?_
  rintro e u4 ⟨rfl, hbc⟩
  replace hb := hb.trans (hbc.mono hb.size)
  replace bA : Hid (Box u4 w.heap.size [.int .i64 x.vNext, .int .i64 x.vDoc, k2, k3, k4] 43) := bA.out.below hbc bA.out.lt
  replace bB : Hid (Box u4 (w.heap.size + 1) [.int .i64 x.vNext, .int .i64 x.vDoc, l2, l3, l4] 43) := bB.out.below hbc bB.out.lt
  clear tA3_0 tB3_0 tA3_1 tB3_1 tA3_2 tB3_2 tA3_3 tB3_3 tA3_4 tB3_4
  have tA4_0 := bA.out.cell 0 rfl
  have tB4_0 := bB.out.cell 0 rfl
  have tA4_1 := bA.out.cell 1 rfl
  have tB4_1 := bB.out.cell 1 rfl
  have tA4_2 := bA.out.cell 2 rfl
  have tB4_2 := bB.out.cell 2 rfl
  have tA4_3 := bA.out.cell 3 rfl
  have tB4_3 := bB.out.cell 3 rfl
  have tA4_4 := bA.out.cell 4 rfl
  have tB4_4 := bB.out.cell 4 rfl
  clear hbc
  go_wp2_with fail
  go_ret
  exact ⟨rfl, hb⟩
set_option maxHeartbeats 1000000 in
theorem eqHeapS_any {w : World} {lo lo2 : Nat} {k k2 : Value} {xs : List HeapD} (hk : SeqAt 5 HeapAt w lo k xs) (hk2 : SeqAt 5 HeapAt w lo2 k2 xs) :
    Calls Try.prog 19 #[k, k2] w fun e w' => e = .returned (.bool true) ∧ Below w.heap.size w w' := by
  obtain ⟨a, cap, rfl, hm, hx⟩ := hk
  obtain ⟨a2, cap2, rfl, _, hx2⟩ := hk2
  unfold maxLen at hm
  have hx' : Hid _ := hx
  have hx2' : Hid _ := hx2
  clear hx hx2
  go_enter Try.func19, Try.ntmps19
  go_wp2_with fail
  go_loopw [5] (fun i wr => ∃ (j : Nat), j ≤ xs.length ∧ i = .int .i64 j ∧ Below w.heap.size w wr) (fun i _ => xs.length - (intOf i).toNat)
  case atStart => exact ⟨0, by omega, rfl, Below.refl _ _⟩
  case round =>
    obtain ⟨j, hj, rfl, hb⟩ := hrel
    by_cases hlt : j < xs.length
    · obtain ⟨b, off, rfl, hlo, hbw, hc⟩ := hx'.out (by omega)
      obtain ⟨b2, off2, rfl, hlo2, hbw2, hc2⟩ := hx2'.out (by omega)
      obtain ⟨cs, hcl, lie, hr⟩ := hc j hlt
      obtain ⟨cs2, hcl2, lie2, hr2⟩ := hc2 j hlt
      have lie1 := Lie.keep (lo := lo) (lo' := lo) lie (.of_below hb) hlo hbw
      have lie3 := Lie.keep (lo := lo2) (lo' := lo2) lie2 (.of_below hb) hlo2 hbw2
      replace hr := HeapAt_stays _ _ _ lo _ _ (.of_below hb.drew) hr
      replace hr2 := HeapAt_stays _ _ _ lo2 _ _ (.of_below hb.drew) hr2
      generalize xs[j] = X at hr hr2
      have hr' : Hid (HeapAt wr.drew lo cs X) := hr
      have hr2' : Hid (HeapAt wr.drew lo2 cs2 X) := hr2
      obtain ⟨k2, k3, k4, rfl, s2, s3, s4, rNext, rDoc, _⟩ := hr
      obtain ⟨l2, l3, l4, rfl, t2, t3, t4, _⟩ := hr2
      clear s2 s3 s4 t2 t3 t4 rNext rDoc
      have z0 := lie1 0 (by simp)
      have y0 := lie3 0 (by simp)
      have z1 := lie1 1 (by simp)
      have y1 := lie3 1 (by simp)
      have z2 := lie1 2 (by simp)
      have y2 := lie3 2 (by simp)
      have z3 := lie1 3 (by simp)
      have y3 := lie3 3 (by simp)
      have z4 := lie1 4 (by simp)
      have y4 := lie3 4 (by simp)
      simp only [List.getElem?_cons_zero, List.getElem?_cons_succ, Nat.add_zero] at z0 y0 z1 y1 z2 y2 z3 y3 z4 y4
      have hbr : b < wr.heap.size := by have := hb.size; omega
      have hbr2 : b2 < wr.heap.size := by have := hb.size; omega
      have hlt' : (j : Int) < (xs.length : Int) := by omega
      have h0' : (0 : Int) ≤ (j : Int) := by omega
      clear lie lie2 lie1 lie3 hcl hcl2 hx' hx2' hc hc2
      go_wp2_with fail
      go_region_held3 (fun w' => w'.cell? ⟨b, off + j * 5, none⟩ = some (.int .i64 X.vNext) ∧ w'.cell? ⟨b, off + j * 5 + 1, none⟩ = some (.int .i64 X.vDoc) ∧ w'.cell? ⟨b, off + j * 5 + 2, none⟩ = some (k2) ∧ w'.cell? ⟨b, off + j * 5 + 3, none⟩ = some (k3) ∧ w'.cell? ⟨b, off + j * 5 + 4, none⟩ = some (k4) ∧ w'.cell? ⟨b2, off2 + j * 5, none⟩ = some (.int .i64 X.vNext) ∧ w'.cell? ⟨b2, off2 + j * 5 + 1, none⟩ = some (.int .i64 X.vDoc) ∧ w'.cell? ⟨b2, off2 + j * 5 + 2, none⟩ = some (l2) ∧ w'.cell? ⟨b2, off2 + j * 5 + 3, none⟩ = some (l3) ∧ w'.cell? ⟨b2, off2 + j * 5 + 4, none⟩ = some (l4)) (go_keep) (first | (go_at_call 35; refine (eqHeap_any (by exact hr'.out) (by exact hr2'.out)).mono ?_; rintro e w1 ⟨rfl, hb1⟩; have z0n := (hb1.cell (p := ⟨b, off + j * 5, none⟩) (by exact hbr)).trans z0; have z1n := (hb1.cell (p := ⟨b, off + j * 5 + 1, none⟩) (by exact hbr)).trans z1; have z2n := (hb1.cell (p := ⟨b, off + j * 5 + 2, none⟩) (by exact hbr)).trans z2; have z3n := (hb1.cell (p := ⟨b, off + j * 5 + 3, none⟩) (by exact hbr)).trans z3; have z4n := (hb1.cell (p := ⟨b, off + j * 5 + 4, none⟩) (by exact hbr)).trans z4; have y0n := (hb1.cell (p := ⟨b2, off2 + j * 5, none⟩) (by exact hbr2)).trans y0; have y1n := (hb1.cell (p := ⟨b2, off2 + j * 5 + 1, none⟩) (by exact hbr2)).trans y1; have y2n := (hb1.cell (p := ⟨b2, off2 + j * 5 + 2, none⟩) (by exact hbr2)).trans y2; have y3n := (hb1.cell (p := ⟨b2, off2 + j * 5 + 3, none⟩) (by exact hbr2)).trans y3; have y4n := (hb1.cell (p := ⟨b2, off2 + j * 5 + 4, none⟩) (by exact hbr2)).trans y4; have hb' : Below w.heap.size w w1 := hb.drew.trans (hb1.mono hb.size)))
      go_wp2_with fail
      go_roundw
      case rel => exact ⟨j + 1, by omega, by go_num, hb'⟩
      case measure => simp [intOf]; omega
    · go_wp2_with fail
      go_ret
      exact ⟨rfl, hb⟩
end Go.Proofs.Ytbodeijffpepfaa
