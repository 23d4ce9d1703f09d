/- DrawArenaOk and DrawHandlesOf: some arena, which owns its memory. -/
import Derived.Test.YtcbomaflfjdmjaaArDraw
namespace Go.Proofs.Ytcbomaflfjdmjaa
open Go.RowKit Go.Deep
theorem owA_put {Q : Nat → Prop} {wr : World} {k0 k1 : Value} {x : ArenaD} (h : OwA Q wr k0 k1 x) {R : Nat} (hR : ¬ Q R) (vs : List Value) : OwA Q (putCells wr R 0 vs) k0 k1 x := h.keep (fun _ q _ => putCells_other _ _ _ _ _ (fun e => hR (e ▸ q)))
set_option maxHeartbeats 1000000 in
theorem drawArenaOk_any {w : World} {a : Option Addr} {n cap : Nat} (h : CodeAt w a n) :
    Calls Try.prog 41 #[.slice a n cap] w fun e w' => (∃ (k0 k1 : Value) (x : ArenaD), e = .returned (.agg #[k0, k1]) ∧ OwA (fun b => w.heap.size < b) w' k0 k1 x) ∧ Below w.heap.size w w' := by
  have h' : Hid (CodeAt w a n) := h
  clear h
  go_enter Try.func41, Try.ntmps41
  go_wp2_with fail
  have hbR : Hid (Below w.heap.size w (w.alloc (.cells #[.slice none 0 0, .slice none 0 0] 27))) := (Below.refl _ _).alloc (Nat.le_refl _) _
  have bR : Hid (Box (w.alloc (.cells #[.slice none 0 0, .slice none 0 0] 27)) w.heap.size resA 27) := Box.new w _ _
  refine (open_any (CodeAt.below h'.out hbR.out)).mono ?_
  rintro e w1 ⟨g, rfl, hg, hr1, hb1⟩
  have hr1' : Hid (RdAt w1 g a n cap) := hr1
  have hg' : w.heap.size + 1 ≤ g := by simpa using hg
  have hB1 : Hid (Below w.heap.size w w1) := hbR.out.trans (hb1.mono hbR.out.size)
  have bR1 : Hid (Box w1 w.heap.size resA 27) := bR.out.below hb1 bR.out.lt
  have hlt1 := hr1.lt
  clear hr1 hb1 hg
  go_wp2_with fail
  refine (drawArena_any hr1'.out).mono ?_
  rintro e w2 ⟨k0, k1, x, rfl, ho, hr2, hg2⟩
  have ho' : Hid (OwA (fun b => w.heap.size < b) w2 k0 k1 x) := ho.mono (fun b _ q => by omega)
  have hB2 : Hid (Below w.heap.size w w2) := below_grown hB1.out (by omega) hg2
  have bR2 : Hid (Box w2 w.heap.size resA 27) := box_other bR1.out (by omega) hg2
  obtain ⟨p0, d0, p1, d1, rfl, rfl⟩ := ho.form
  have r0 := bR2.out.cell 0 rfl
  have r1 := bR2.out.cell 1 rfl
  have fR := bR2.out.unfrozen
  clear ho hr2 hg2
  go_wp2_with fail
  refine bodyPost_ret (v := .agg (List.toArray [.slice p0 x.vSlots.length d0, .slice p1 x.vFree.length d1])) (by simp [results, Try.results41, go_sem, r0, r1]) rfl ⟨⟨_, _, x, rfl, ?_⟩, ?_⟩
  · exact owA_put ho'.out (Nat.lt_irrefl _) [.slice p0 x.vSlots.length d0, .slice p1 x.vFree.length d1]
  · exact putCells_below [.slice p0 x.vSlots.length d0, .slice p1 x.vFree.length d1] _ _ _ w.heap.size 0 (Nat.le_refl _) hB2.out
set_option maxHeartbeats 1000000 in
theorem drawHandlesOf_any {w : World} {a : Option Addr} {n cap : Nat} (h : CodeAt w a n) :
    Calls Try.prog 25 #[.slice a n cap] w fun e w' => (∃ (k0 k1 : Value) (x : ArenaD), e = .returned (.agg #[k0, k1]) ∧ OwA (fun b => w.heap.size < b) w' k0 k1 x) ∧ Below w.heap.size w w' := by
  have h' : Hid (CodeAt w a n) := h
  clear h
  go_enter Try.func25, Try.ntmps25
  go_wp2_with fail
  have hbR : Hid (Below w.heap.size w (w.alloc (.cells #[.slice none 0 0, .slice none 0 0] 27))) := (Below.refl _ _).alloc (Nat.le_refl _) _
  have bR : Hid (Box (w.alloc (.cells #[.slice none 0 0, .slice none 0 0] 27)) w.heap.size resA 27) := Box.new w _ _
  refine (drawArenaOk_any (CodeAt.below h'.out hbR.out)).mono ?_
  rintro e w2 ⟨⟨k0, k1, x, rfl, ho⟩, hb2⟩
  have ho' : Hid (OwA (fun b => w.heap.size < b) w2 k0 k1 x) := ho.mono (fun b _ q => by simp at q; omega)
  have hB2 : Hid (Below w.heap.size w w2) := hbR.out.trans (hb2.mono hbR.out.size)
  have bR2 : Hid (Box w2 w.heap.size resA 27) := bR.out.below hb2 bR.out.lt
  obtain ⟨p0, d0, p1, d1, rfl, rfl⟩ := ho.form
  have r0 := bR2.out.cell 0 rfl
  have r1 := bR2.out.cell 1 rfl
  have fR := bR2.out.unfrozen
  clear ho hb2
  go_wp2_with fail
  refine bodyPost_ret (v := .agg (List.toArray [.slice p0 x.vSlots.length d0, .slice p1 x.vFree.length d1])) (by simp [results, Try.results25, go_sem, r0, r1]) rfl ⟨⟨_, _, x, rfl, ?_⟩, ?_⟩
  · exact owA_put ho'.out (Nat.lt_irrefl _) [.slice p0 x.vSlots.length d0, .slice p1 x.vFree.length d1]
  · exact putCells_below [.slice p0 x.vSlots.length d0, .slice p1 x.vFree.length d1] _ _ _ w.heap.size 0 (Nat.le_refl _) hB2.out
end Go.Proofs.Ytcbomaflfjdmjaa
