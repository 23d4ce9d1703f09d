/- What MarkText returns, that of the specification and that of the program. -/
import Derived.Test.YtlcddndpfhdakaaDoorMarkSpec
import Derived.Test.YtlcddndpfhdakaaDoorMtImpl
namespace Go.Proofs.YtlcddndpfhdakaaDoor
open Go.RowKit
set_option maxRecDepth 100000 in
set_option maxHeartbeats 400000 in
theorem specMarkText_any {n : Nat} {w : World} {lo : Nat} {cs : List Value} {x : MarkD} (hx : MarkAt n w lo cs x) :
    Calls Tryd.prog 10 #[.agg cs.toArray] w fun e w' => e = .returned (.string (mtR n x)) ∧ Below w.heap.size w w' := by
  have hx' : Hid (MarkAt n w lo cs x) := hx
  obtain ⟨k2, k3, rfl, _⟩ := MarkAt.opened hx
  have hb0 : Below w.heap.size w (w.alloc (.cells #[.string x.vTag, .string x.vText, k2, k3] 27)) := (Below.refl _ _).alloc (Nat.le_refl _) _
  have bx0 : Hid (Box (w.alloc (.cells #[.string x.vTag, .string x.vText, k2, k3] 27)) w.heap.size [.string x.vTag, .string x.vText, k2, k3] 27) := Box.new w _ _
  go_enter Tryd.func10, Tryd.ntmps10
  go_wp2_with fail
  refine (specMarkOk_any (MarkAt.below hx'.out hb0)).mono ?_
  rintro e w1 ⟨rfl, hb1⟩
  have hB1 : Below w.heap.size w w1 := hb0.trans (hb1.mono hb0.size)
  have bx1 : Hid (Box w1 w.heap.size [.string x.vTag, .string x.vText, k2, k3] 27) := bx0.out.below hb1 bx0.out.lt
  have c0 := bx1.out.cell 0 rfl
  have c1 := bx1.out.cell 1 rfl
  have c2 := bx1.out.cell 2 rfl
  have c3 := bx1.out.cell 3 rfl
  clear hb1
  cases hq : okM (mzD n x 30)
  · have HQ : Hid _ := mtR_no hq
    clear hq
    go_wp2_with fail
    go_ret
    exact ⟨by rw [HQ.out]; rfl, hB1⟩
  · have HQ : Hid _ := mtR_yes hq
    have HL : Hid _ := ok_mt hq
    clear hq
    go_wp2_with fail
    refine (mtS_all n _ lo _ x (MarkAt.below hx'.out hB1) HL.out).mono ?_
    rintro e w2 ⟨⟨r, rfl, hr⟩, hb2⟩
    have hr' : Hid _ := hr
    clear hr
    go_wp2_with fail
    go_ret
    refine ⟨?_, hB1.trans (hb2.mono hB1.size)⟩
    rw [HQ.out, ← hr'.out]; rfl
set_option maxRecDepth 100000 in
set_option maxHeartbeats 400000 in
theorem implMarkText_any {n : Nat} {w : World} {lo : Nat} {cs : List Value} {x : MarkD} (hx : MarkAt n w lo cs x) (hsg : Signs w) :
    Calls Tryd.prog 8 #[.agg cs.toArray] w fun e w' => e = .returned (.string (mtR n x)) ∧ Below w.heap.size w w' := by
  have hx' : Hid (MarkAt n w lo cs x) := hx
  have hsg' : Hid (Signs w) := hsg
  clear hsg
  obtain ⟨k2, k3, rfl, _⟩ := MarkAt.opened hx
  have hb0 : Below w.heap.size w (w.alloc (.cells #[.string x.vTag, .string x.vText, k2, k3] 27)) := (Below.refl _ _).alloc (Nat.le_refl _) _
  have bx0 : Hid (Box (w.alloc (.cells #[.string x.vTag, .string x.vText, k2, k3] 27)) w.heap.size [.string x.vTag, .string x.vText, k2, k3] 27) := Box.new w _ _
  go_enter Tryd.func8, Tryd.ntmps8
  go_wp2_with fail
  refine (implMarkOk_any (MarkAt.below hx'.out hb0)).mono ?_
  rintro e w1 ⟨rfl, hb1⟩
  have hB1 : Below w.heap.size w w1 := hb0.trans (hb1.mono hb0.size)
  have bx1 : Hid (Box w1 w.heap.size [.string x.vTag, .string x.vText, k2, k3] 27) := bx0.out.below hb1 bx0.out.lt
  have c0 := bx1.out.cell 0 rfl
  have c1 := bx1.out.cell 1 rfl
  have c2 := bx1.out.cell 2 rfl
  have c3 := bx1.out.cell 3 rfl
  clear hb1
  cases hq : okM (mzD n x 30)
  · have HQ : Hid _ := mtR_no hq
    clear hq
    go_wp2_with fail
    go_ret
    exact ⟨by rw [HQ.out]; rfl, hB1⟩
  · have HQ : Hid _ := mtR_yes hq
    have HL : Hid ((mtD n x).length ≤ 1048576) := ok_mt hq
    clear hq
    have ho : Hid (OwnB w1 w1.heap.size (.slice none 0 0) []) := World.ownsRow_nil w1 _ _ _
    go_wp2_with fail
    refine (apM_all n w1 w1 lo _ _ x [] (MarkAt.below hx'.out hB1) (Signs.below hsg'.out hB1 (Signs.lt hsg'.out)) (Below.refl _ _) ho.out (by simpa using HL.out)).mono ?_
    rintro e w2 ⟨v2, rfl, ho2, hg2⟩
    have hB2 : Below w1.heap.size w1 w2 := Goes.below hg2 (Below.refl _ _) ho.out
    rw [List.nil_append] at ho2
    rcases ho2.2 with ⟨rfl, hn⟩ | ⟨g, cap, cur, rfl, hg, hh, _⟩
    · have hl0 : mtD n x = [] := List.eq_nil_of_length_eq_zero hn
      have hcv := run_convert_bytes_none w2
      clear ho2 hg2 hn
      have hl0' : Hid _ := hl0
      clear hl0
      go_wp2_with fail
      go_ret
      exact ⟨by rw [HQ.out, hl0'.out]; rfl, hB1.trans (hB2.mono hB1.size)⟩
    · have hcv := run_convert_bytes_back (P := Tryd.prog) w2 22 9 5 ⟨g, 0, none⟩ cap (mtD n x) Tryd.underlying22 Tryd.underlying5 Tryd.underlying9 (fun j hj => World.ownsRow.cells (g := g) ho2 rfl j _ (by simp [byteCells, List.getElem?_eq_getElem hj]))
      clear ho2 hg2 hh
      go_wp2_with fail
      go_ret
      exact ⟨by rw [HQ.out]; rfl, hB1.trans (hB2.mono hB1.size)⟩
end Go.Proofs.YtlcddndpfhdakaaDoor
