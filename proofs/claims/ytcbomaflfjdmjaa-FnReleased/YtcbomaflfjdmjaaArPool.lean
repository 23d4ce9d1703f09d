/- A pool of slots in memory, and poolOf of the program, walked. -/
import Derived.Test.YtcbomaflfjdmjaaArSlot
import Derived.Test.YtcbomaflfjdmjaaListCopy
import Derived.Test.YtcbomaflfjdmjaaOwnRecs
namespace Go.Proofs.Ytcbomaflfjdmjaa
open Go.RowKit
def slotC (x : SlotD) : List Value := [.int .i64 x.vGen, .bool x.vUsed, .string x.vData]
/-- a pointer to a slot that stands in a block of its own -/
def PSlot (w : World) (cs : List Value) (x : SlotD) (fs : List Nat) : Prop := ∃ q, cs = [.pointer (some ⟨q, 0, none⟩)] ∧ Box w q (slotC x) 63 ∧ InI x.vGen ∧ x.vData.size ≤ maxLen ∧ fs = [q]
theorem pslot_stays : OwnStays PSlot := by
  intro w w' cs x fs q h
  obtain ⟨b, e, hb, r1, r2, rfl⟩ := h
  exact ⟨b, e, (q b (by simp)).trans hb, r1, r2, rfl⟩
theorem pslot_lt : OwnLt PSlot := by
  intro w cs x fs h b hb
  obtain ⟨q, e, hq, r1, r2, rfl⟩ := h
  simp at hb
  subst hb
  exact hq.lt
/-- a pool: its block, its slots, what is free -/
def PoolAt (w : World) (lo g : Nat) (xs : List SlotD) (fr : List Int) (k fk : Value) (fs ffs : List Nat) : Prop :=
  Box w g [k, fk] 59 ∧ lo ≤ g ∧ SeqOwn 1 PSlot w k xs fs ∧ SeqOwn 1 IntOwn w fk fr ffs ∧ (∀ b ∈ fs, lo ≤ b) ∧ (∀ b ∈ ffs, lo ≤ b) ∧ g ∉ fs ∧ g ∉ ffs ∧ ∀ b ∈ fs, b ∉ ffs
theorem PoolAt.below {w w' : World} {lo g : Nat} {xs : List SlotD} {fr : List Int} {k fk : Value} {fs ffs : List Nat} (h : PoolAt w lo g xs fr k fk fs ffs) (hb : Below w.heap.size w w') : PoolAt w' lo g xs fr k fk fs ffs := by
  obtain ⟨h1, h2, h3, h4, h5⟩ := h
  exact ⟨h1.below hb h1.lt, h2, h3.below pslot_stays pslot_lt hb, h4.below intOwn_stays intOwn_lt hb, h5⟩
theorem infoP : ((Try.prog.info? 61).map fun i => (i.zero, i.size, i.bytes)) = some (some (.pointer none), 1, 8) := by kernel_rfl
set_option maxRecDepth 100000 in
set_option maxHeartbeats 2000000 in
theorem poolOf_any {w : World} {lo : Nat} {cs : List Value} {x : ArenaD} (hx : ArenaAt w lo cs x) (hl0 : x.vSlots.length ≤ 12) (hl1 : x.vFree.length ≤ 12) :
    Calls Try.prog 48 #[.agg cs.toArray] w fun e w' => (∃ g k fk fs ffs, e = .returned (.pointer (some ⟨g, 0, none⟩)) ∧ PoolAt w' w.heap.size g x.vSlots x.vFree k fk fs ffs) ∧ Below w.heap.size w w' := by
  obtain ⟨k0, k1, rfl, s0, s1, _⟩ := hx
  have s1' : Hid (SeqAt 1 IntAt w lo k1 x.vFree) := s1
  obtain ⟨a0, c0, rfl, hm0, hx0⟩ := s0
  have hx0' : Hid _ := hx0
  obtain ⟨a1, c1, rfl⟩ := s1.form
  unfold maxLen at hm0
  clear hx0 s1
  have hb0 : Below w.heap.size w (w.alloc (.cells (List.toArray [.slice a0 x.vSlots.length c0, .slice a1 x.vFree.length c1]) 27)) := (Below.refl _ _).alloc (Nat.le_refl _) _
  have bx0 : Hid (Box (w.alloc (.cells (List.toArray [.slice a0 x.vSlots.length c0, .slice a1 x.vFree.length c1]) 27)) w.heap.size [.slice a0 x.vSlots.length c0, .slice a1 x.vFree.length c1] 27) := Box.new w _ _
  go_enter Try.func48, Try.ntmps48
  go_wp2_with fail
  refine (listCopyI_any (s1'.out.below intAt_stays hb0) (by omega)).mono ?_
  rintro e w1 ⟨⟨fk, rfl, ffs, hF, hFn, hFl⟩, hb1⟩
  obtain ⟨af, cf, rfl⟩ := hF.form
  have hB1 : Below w.heap.size w w1 := hb0.trans (hb1.mono hb0.size)
  have bx1 : Hid (Box w1 w.heap.size [.slice a0 x.vSlots.length c0, .slice a1 x.vFree.length c1] 27) := bx0.out.below hb1 bx0.out.lt
  have y0 := bx1.out.cell 0 rfl
  have hF' : Hid (SeqOwn 1 IntOwn w1 (.slice af x.vFree.length cf) x.vFree ffs) := hF
  have hFl' : Hid (∀ b ∈ ffs, w.heap.size ≤ b ∧ b < w1.heap.size) := fun b q => ⟨by have := hFl b q; simp at this; omega, hF.lt intOwn_lt b q⟩
  have hs1 := hB1.size
  have hz1 : w.heap.size < w1.heap.size := bx1.out.lt
  clear hF hFl bx0 hb1
  obtain ⟨iT, hiT0, hiz⟩ := Option.map_eq_some_iff.1 infoP
  have hiT : Hid (Try.prog.info? 61 = some iT) := hiT0
  have heT : Hid (iT.zero = some (.pointer none) ∧ iT.size = 1 ∧ iT.bytes = 8) := by
    injection hiz with e1 e2
    injection e2 with e2 e3
    exact ⟨e1, e2, e3⟩
  clear hiT0 hiz
  have hBp : Below w.heap.size w (w1.alloc (.cells (List.toArray [.slice none 0 0, .slice af x.vFree.length cf]) 59)) := hB1.alloc hB1.size _
  have bxp : Hid (Box (w1.alloc (.cells (List.toArray [.slice none 0 0, .slice af x.vFree.length cf]) 59)) w1.heap.size [.slice none 0 0, .slice af x.vFree.length cf] 59) := Box.new w1 _ _
  go_wp2_with fail
  go_loopw [14] (fun i wr => ∃ (j : Nat) (v : Value) (bss : List (List Nat)) (css : List (List Value)), j ≤ x.vSlots.length ∧ i = .int .i64 j ∧ Below w.heap.size w wr ∧ Below (w1.heap.size) w1 wr ∧ Hid (Box wr w1.heap.size [v, .slice af x.vFree.length cf] 59) ∧ Hid (GrowOwn 61 1 PSlot (w1.heap.size + 1) wr v (x.vSlots.take j) bss css)) (fun i _ => x.vSlots.length - (intOf i).toNat)
  case atStart => exact ⟨0, _, _, _, by omega, rfl, hBp, (Below.refl _ _).alloc (Nat.le_refl _) _, bxp, GrowOwn.nil⟩
  case round =>
    obtain ⟨j, v, bss, css, hj, rfl, hb, hb1, bx, hgr⟩ := hrel
    have y1 := bx.out.cell 0 rfl
    have hfz := bx.out.unfrozen
    have hsz := hb1.size
    have hlt1 : w1.heap.size < wr.heap.size := bx.out.lt
    by_cases hlt : j < x.vSlots.length
    · obtain ⟨b, off, rfl, hlo, hbw, hc⟩ := hx0'.out (by omega)
      obtain ⟨cs, hcl, lie, hr⟩ := hc j hlt
      have lie1 := Lie.keep (lo := lo) (lo' := lo) lie (.of_below hb) hlo hbw
      have htk : Hid (x.vSlots.take (j + 1) = x.vSlots.take j ++ [x.vSlots[j]]) := List.take_succ_eq_append_getElem hlt
      generalize x.vSlots[j] = X at hr htk
      obtain ⟨rfl, rGen, rData, _⟩ := hr
      have hlt2 : (x.vSlots.take j).length = j := by simp; omega
      obtain ⟨av, cv, rfl⟩ : ∃ a cap, v = .slice a j cap := by obtain ⟨a, cap, e⟩ := hgr.out.len; rw [hlt2] at e; exact ⟨a, cap, e⟩
      have hlt3 : Hid _ := hlt2
      clear hlt2
      have z0 := lie1 0 (by simp)
      have z1 := lie1 1 (by simp)
      have z2 := lie1 2 (by simp)
      simp only [List.getElem?_cons_zero, List.getElem?_cons_succ, Nat.add_zero] at z0 z1 z2
      clear lie lie1 hcl hx0' hc
      have ns : Hid (Box ((wr.alloc (.cells (slotC X).toArray 63)).alloc (.cells #[.pointer (some ⟨wr.heap.size, 0, none⟩)] 61)) wr.heap.size (slotC X) 63) := (Box.new wr _ _).alloc _
      have hb2 : Below wr.heap.size wr ((wr.alloc (.cells (slotC X).toArray 63)).alloc (.cells #[.pointer (some ⟨wr.heap.size, 0, none⟩)] 61)) := ((Below.refl _ _).alloc (Nat.le_refl _) _).alloc (by simp) _
      have bx2 : Hid (Box ((wr.alloc (.cells (slotC X).toArray 63)).alloc (.cells #[.pointer (some ⟨wr.heap.size, 0, none⟩)] 61)) w1.heap.size [.slice av j cv, .slice af x.vFree.length cf] 59) := (bx.out.alloc _).alloc _
      go_wp2_with (at_builtin; refine wpList_append_grow pslot_stays rfl _ _ 57 rfl (w1.heap.size + 1) iT _ _ Try.underlying57 hiT.out heT.out.1 heT.out.2.1 heT.out.2.2 rfl (by decide) (y := X) (fs := [wr.heap.size]) (cs := [.pointer (some ⟨wr.heap.size, 0, none⟩)]) rfl hgr.out hb2 (by omega) _ _ rfl rfl (by intro q u hq; match q, hq with | 0, hq => simp at hq; subst hq; simp [Addr.add]) (by simp [Value.oneCell']) ⟨_, rfl, ns.out, rGen, rData, rfl⟩ (by simp) (by simp) (by simp; omega) (by rw [hlt3.out]; unfold maxLen; omega) (by rw [hlt3.out]; omega) ?_; intro g cap w3 hgr3 hg3 hb3; rw [hlt3.out] at hgr3 ⊢; have bx3 : Hid (Box w3 w1.heap.size [.slice av j cv, .slice af x.vFree.length cf] 59) := (hb3.block _ (by omega)).trans bx2.out; have y3 := bx3.out.cell 0 rfl; have u3 := bx3.out.unfrozen)
      have bx4 : Hid (Box (w3.setCell ⟨w1.heap.size, 0, none⟩ (.slice (some ⟨g, 0, none⟩) (j + 1) cap)) w1.heap.size [.slice (some ⟨g, 0, none⟩) (j + 1) cap, .slice af x.vFree.length cf] 59) := bx3.out.set _
      have hgr4 := hgr3.set pslot_stays (g := w1.heap.size) (i := 0) (u := .slice (some ⟨g, 0, none⟩) (j + 1) cap) (by omega)
      have hb4 : Below (w1.heap.size) w1 w3 := (hb1.trans (hb2.mono (by omega))).trans (hb3.mono (by omega))
      go_roundw
      case rel => exact ⟨j + 1, _, _, _, by omega, by go_num, (hB1.trans (hb4.mono hB1.size)).setCell (by exact hs1) _, hb4.setCell (by exact Nat.le_refl _) _, bx4, by rw [htk.out]; exact hgr4⟩
      case measure => simp [intOf]; omega
    · obtain rfl : j = x.vSlots.length := by omega
      rw [List.take_of_length_le (Nat.le_refl _)] at hgr
      obtain ⟨fs, hS, hSl⟩ := hgr.out.done
      go_wp2_with fail
      go_ret
      refine ⟨⟨w1.heap.size, v, _, fs, ffs, rfl, bx.out, by omega, hS, hF'.out.below intOwn_stays intOwn_lt hb1, fun b q => ?_, fun b q => (hFl'.out b q).1, fun q => ?_, fun q => ?_, fun b q1 q2 => ?_⟩, hb⟩
      · have := hSl b q; omega
      · have := hSl _ q; omega
      · have := (hFl'.out _ q).2; omega
      · have := hSl b q1; have := (hFl'.out b q2).2; omega
end Go.Proofs.Ytcbomaflfjdmjaa
