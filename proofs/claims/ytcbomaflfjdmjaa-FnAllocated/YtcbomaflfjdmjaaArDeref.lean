/- Deref of the specification and of the program, walked. -/
import Derived.Test.YtcbomaflfjdmjaaArLive
namespace Go.Proofs.Ytcbomaflfjdmjaa
open Go.RowKit
theorem liveB_iff {x : ArenaD} {a g : Int} : liveB x a g = true ↔ Live x a g := by simp [liveB]
/-- what Deref answers -/
noncomputable def derefD (x : ArenaD) (hAt hGen : Int) : ByteArray × Bool := if liveB x hAt hGen then (((x.vSlots[hAt.toNat]?).map (·.vData)).getD ⟨#[]⟩, true) else (⟨#[]⟩, false)
theorem derefD_no {x : ArenaD} {a g : Int} (h : liveB x a g = false) : derefD x a g = (⟨#[]⟩, false) := by simp [derefD, h]
theorem derefD_yes {x : ArenaD} {a g : Int} (h : liveB x a g = true) (hq : a.toNat < x.vSlots.length) : derefD x a g = (x.vSlots[a.toNat].vData, true) := by simp [derefD, h, List.getElem?_eq_getElem hq]
set_option maxRecDepth 100000 in
set_option maxHeartbeats 1000000 in
theorem specDeref_any {w : World} {lo : Nat} {cs : List Value} {x : ArenaD} {hAt hGen : Int} (hx : ArenaAt w lo cs x) :
    Calls Try.prog 24 #[.agg cs.toArray, .agg #[.int .i64 hAt, .int .i64 hGen]] w fun e w' => e = .returned (.tuple #[.string (derefD x hAt hGen).1, .bool (derefD x hAt hGen).2]) ∧ Below w.heap.size w w' := by
  have hx' : Hid (ArenaAt w lo cs x) := hx
  obtain ⟨k0, k1, rfl, s0, s1, _⟩ := hx
  obtain ⟨a0, c0, rfl, hm0, hx0⟩ := s0
  have hx0' : Hid _ := hx0
  obtain ⟨a1, c1, rfl⟩ := s1.form
  unfold maxLen at hm0
  clear hx0 s1
  have hb0 : Below w.heap.size w ((w.alloc (.cells (List.toArray [.slice a0 x.vSlots.length c0, .slice a1 x.vFree.length c1]) 27)).alloc (.cells (List.toArray [.int .i64 hAt, .int .i64 hGen]) 31)) := ((Below.refl _ _).alloc (Nat.le_refl _) _).alloc (by simp) _
  have bx0 : Hid (Box ((w.alloc (.cells (List.toArray [.slice a0 x.vSlots.length c0, .slice a1 x.vFree.length c1]) 27)).alloc (.cells (List.toArray [.int .i64 hAt, .int .i64 hGen]) 31)) w.heap.size [.slice a0 x.vSlots.length c0, .slice a1 x.vFree.length c1] 27) := (Box.new w _ _).alloc _
  have bh0 : Hid (Box ((w.alloc (.cells (List.toArray [.slice a0 x.vSlots.length c0, .slice a1 x.vFree.length c1]) 27)).alloc (.cells (List.toArray [.int .i64 hAt, .int .i64 hGen]) 31)) (w.heap.size + 1) [.int .i64 hAt, .int .i64 hGen] 31) := by have := Box.new (w.alloc (.cells (List.toArray [.slice a0 x.vSlots.length c0, .slice a1 x.vFree.length c1]) 27)) [.int .i64 hAt, .int .i64 hGen] 31; simpa [Hid] using this
  have hxA : Hid (ArenaAt ((w.alloc (.cells (List.toArray [.slice a0 x.vSlots.length c0, .slice a1 x.vFree.length c1]) 27)).alloc (.cells (List.toArray [.int .i64 hAt, .int .i64 hGen]) 31)) lo [.slice a0 x.vSlots.length c0, .slice a1 x.vFree.length c1] x) := ArenaAt_stays _ _ _ lo _ _ (.of_below hb0) hx'.out
  go_enter Try.func24, Try.ntmps24
  go_wp2_with fail
  refine (l11Live_any hxA.out).mono ?_
  rintro e w1 ⟨rfl, hb1⟩
  have hB1 : Below w.heap.size w w1 := hb0.trans (hb1.mono hb0.size)
  have bx1 : Hid (Box w1 w.heap.size [.slice a0 x.vSlots.length c0, .slice a1 x.vFree.length c1] 27) := bx0.out.below hb1 bx0.out.lt
  have bh1 : Hid (Box w1 (w.heap.size + 1) [.int .i64 hAt, .int .i64 hGen] 31) := bh0.out.below hb1 bh0.out.lt
  have y0 := bx1.out.cell 0 rfl
  have y1 := bh1.out.cell 0 rfl
  cases hL : liveB x hAt hGen with
  | false =>
    have HD : Hid _ := derefD_no hL
    clear hx0'
    go_wp2_with fail
    go_ret2
    exact ⟨by rw [HD.out]; rfl, hB1⟩
  | true =>
    obtain ⟨_, hi0, hq, _⟩ := liveB_iff.1 hL
    have HD : Hid _ := derefD_yes hL hq
    obtain ⟨m, rfl⟩ : ∃ m : Nat, hAt = (m : Int) := ⟨hAt.toNat, by omega⟩
    simp only [Int.toNat_natCast] at hq HD
    have hi1 : (m : Int) < (x.vSlots.length : Int) := by omega
    obtain ⟨b, off, rfl, hlo, hbw, hc⟩ := hx0'.out (by omega)
    obtain ⟨cs, hcl, lie, hr⟩ := hc m hq
    have lie1 := Lie.keep (lo := lo) (lo' := lo) lie (.of_below hB1) hlo hbw
    generalize x.vSlots[m] = Y at hr HD
    obtain ⟨rfl, _⟩ := hr
    have z2 := lie1 2 (by simp)
    simp only [List.getElem?_cons_zero, List.getElem?_cons_succ] at z2
    clear lie lie1 hcl hx0' hc
    go_wp2_with fail
    go_ret2
    exact ⟨by rw [HD.out]; rfl, hB1⟩
set_option maxRecDepth 100000 in
set_option maxHeartbeats 1000000 in
theorem implDeref_any {w : World} {lo : Nat} {cs : List Value} {x : ArenaD} {hAt hGen : Int} (hx : ArenaAt w lo cs x) :
    Calls Try.prog 17 #[.agg cs.toArray, .agg #[.int .i64 hAt, .int .i64 hGen]] w fun e w' => e = .returned (.tuple #[.string (derefD x hAt hGen).1, .bool (derefD x hAt hGen).2]) ∧ Below w.heap.size w w' := by
  have hx' : Hid (ArenaAt w lo cs x) := hx
  obtain ⟨k0, k1, rfl, s0, s1, _⟩ := hx
  obtain ⟨a0, c0, rfl, hm0, hx0⟩ := s0
  have hx0' : Hid _ := hx0
  obtain ⟨a1, c1, rfl⟩ := s1.form
  unfold maxLen at hm0
  clear hx0 s1
  have hb0 : Below w.heap.size w ((w.alloc (.cells (List.toArray [.slice a0 x.vSlots.length c0, .slice a1 x.vFree.length c1]) 27)).alloc (.cells (List.toArray [.int .i64 hAt, .int .i64 hGen]) 31)) := ((Below.refl _ _).alloc (Nat.le_refl _) _).alloc (by simp) _
  have bx0 : Hid (Box ((w.alloc (.cells (List.toArray [.slice a0 x.vSlots.length c0, .slice a1 x.vFree.length c1]) 27)).alloc (.cells (List.toArray [.int .i64 hAt, .int .i64 hGen]) 31)) w.heap.size [.slice a0 x.vSlots.length c0, .slice a1 x.vFree.length c1] 27) := (Box.new w _ _).alloc _
  have bh0 : Hid (Box ((w.alloc (.cells (List.toArray [.slice a0 x.vSlots.length c0, .slice a1 x.vFree.length c1]) 27)).alloc (.cells (List.toArray [.int .i64 hAt, .int .i64 hGen]) 31)) (w.heap.size + 1) [.int .i64 hAt, .int .i64 hGen] 31) := by have := Box.new (w.alloc (.cells (List.toArray [.slice a0 x.vSlots.length c0, .slice a1 x.vFree.length c1]) 27)) [.int .i64 hAt, .int .i64 hGen] 31; simpa [Hid] using this
  have hxA : Hid (ArenaAt ((w.alloc (.cells (List.toArray [.slice a0 x.vSlots.length c0, .slice a1 x.vFree.length c1]) 27)).alloc (.cells (List.toArray [.int .i64 hAt, .int .i64 hGen]) 31)) lo [.slice a0 x.vSlots.length c0, .slice a1 x.vFree.length c1] x) := ArenaAt_stays _ _ _ lo _ _ (.of_below hb0) hx'.out
  clear hx0' hm0
  go_enter Try.func17, Try.ntmps17
  go_wp2_with fail
  refine (living_any hxA.out).mono ?_
  rintro e w1 ⟨hA, hb1⟩
  have hB1 : Below w.heap.size w w1 := hb0.trans (hb1.mono hb0.size)
  rcases hA with ⟨hn, u, v, rfl⟩ | ⟨hy, g, k, fk, fs, ffs, b, off, cap, p, rfl, hP, ek, zp⟩
  · have HD : Hid _ := derefD_no (liveB_false hn)
    clear hn
    go_wp2_with fail
    go_ret2
    exact ⟨by rw [HD.out]; rfl, hB1⟩
  · have hyL := liveB_true hy
    obtain ⟨_, hi0, hq, _⟩ := hy
    have HD : Hid _ := derefD_yes hyL hq
    obtain ⟨b2, off2, cap2, p2, e2, z2, hBp, _, _⟩ := hP.slot hq
    rw [ek] at e2
    injection e2 with e3 _ _
    injection e3 with e3
    injection e3 with e4 e5
    subst e4 e5
    rw [zp] at z2
    injection z2 with z2
    injection z2 with z2
    injection z2 with z2
    injection z2 with z2
    subst z2
    have w2 := hBp.cell 2 rfl
    try dsimp only [slotC] at w2
    clear hP ek zp hBp
    go_wp2_with fail
    go_ret2
    exact ⟨by rw [HD.out]; rfl, hB1⟩
end Go.Proofs.Ytcbomaflfjdmjaa
