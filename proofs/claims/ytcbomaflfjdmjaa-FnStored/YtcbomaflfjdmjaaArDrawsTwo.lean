/- DrawAllocated, DrawReleased, DrawStored: some arena, a handle, a text. -/
import Derived.Test.YtcbomaflfjdmjaaArDraw
import Derived.Test.YtcbomaflfjdmjaaArDrawH
namespace Go.Proofs.Ytcbomaflfjdmjaa
open Go.RowKit Go.Deep
/-- only these three blocks of what was there have turned -/
def Kp (w3 W : World) (g R1 R2 : Nat) : Prop := W.os = w3.os ∧ W.tape = w3.tape ∧ W.output = w3.output ∧ w3.heap.size ≤ W.heap.size ∧ ∀ b, b < w3.heap.size → b ≠ g → b ≠ R1 → b ≠ R2 → W.heap[b]? = w3.heap[b]?
theorem Kp.refl (w3 : World) (g R1 R2 : Nat) : Kp w3 w3.drew g R1 R2 := ⟨rfl, rfl, rfl, Nat.le_refl _, fun _ _ _ _ _ => rfl⟩
theorem Kp.size {w3 W : World} {g R1 R2 : Nat} (h : Kp w3 W g R1 R2) : w3.heap.size ≤ W.heap.size := h.2.2.2.1
theorem Kp.alloc {w3 W : World} {g R1 R2 : Nat} (h : Kp w3 W g R1 R2) (o : Obj) : Kp w3 (W.alloc o) g R1 R2 := ⟨h.1, h.2.1, h.2.2.1, Nat.le_trans h.size (by simp), fun b q1 q2 q3 q4 => (Below.heap_alloc _ _ _ (Nat.lt_of_lt_of_le q1 h.size)).trans (h.2.2.2.2 b q1 q2 q3 q4)⟩
theorem Kp.grown {w3 W u : World} {g R1 R2 : Nat} (h : Kp w3 W g R1 R2) (hg : W.grownBy u (some g)) : Kp w3 u g R1 R2 := ⟨hg.os.trans h.1, hg.tape.trans h.2.1, hg.output.trans h.2.2.1, Nat.le_trans h.size hg.size, fun b q1 q2 q3 q4 => (hg.block b (Nat.lt_of_lt_of_le q1 h.size) (fun e => q2 (by injection e))).trans (h.2.2.2.2 b q1 q2 q3 q4)⟩
theorem Kp.put {w3 W : World} {g R1 R2 N : Nat} (h : Kp w3 W g R1 R2) (hN : N = R1 ∨ N = R2) (_ : True) (u v : Value) : Kp w3 ((W.setCell ⟨N, 0, none⟩ u).setCell ⟨N, 1, none⟩ v) g R1 R2 := ⟨h.1, h.2.1, h.2.2.1, by rw [set_size, set_size]; exact h.size, fun b q1 q2 q3 q4 => by rw [set_other (by omega), set_other (by omega)]; exact h.2.2.2.2 b q1 q2 q3 q4⟩
theorem Kp.cell {w3 W : World} {g R1 R2 b i : Nat} {v : Value} (h : Kp w3 W g R1 R2) (hc : w3.cell? ⟨b, i, none⟩ = some v) (q2 : b ≠ g) (q3 : b ≠ R1) (q4 : b ≠ R2) : W.cell? ⟨b, i, none⟩ = some v := by
  rw [World.cell?_of_block (w := w3) (w' := W) (h.2.2.2.2 b (World.block_lt_of_cell? _ _ hc) q2 q3 q4)]; exact hc
theorem Kp.ow {w3 W : World} {g R1 R2 : Nat} {Q : Nat → Prop} {k0 k1 : Value} {x : ArenaD} (h : Kp w3 W g R1 R2) (ho : OwA Q w3 k0 k1 x) (hq : ∀ b, Q b → b ≠ g ∧ b ≠ R1 ∧ b ≠ R2) : OwA Q W k0 k1 x := ho.keep (fun b q q1 => h.2.2.2.2 b q1 (hq b q).1 (hq b q).2.1 (hq b q).2.2)
theorem Kp.below {w w3 W : World} {g R1 R2 : Nat} (h : Kp w3 W g R1 R2) (hb : Below w.heap.size w w3) (h1 : w.heap.size ≤ g) (h2 : w.heap.size ≤ R1 ∧ w.heap.size ≤ R2) : Below w.heap.size w W := ⟨h.1.trans hb.os, h.2.1.trans hb.tape, h.2.2.1.trans hb.output, Nat.le_trans hb.size h.size, fun b q => (h.2.2.2.2 b (Nat.lt_of_lt_of_le q hb.size) (by omega) (by omega) (by omega)).trans (hb.block b q)⟩
theorem tabAllocated_pick {w : World} {g i : Nat} (h : Box w g [.string ⟨#[]⟩, .string ⟨#[97]⟩, .string ⟨#[98, 99, 100]⟩, .string ⟨#[10]⟩, .string ⟨#[97, 98, 99, 100, 101, 102, 103, 104, 105, 106, 107]⟩] 9) (hi : i < 5) : ∃ s : ByteArray, w.cell? ⟨g, i, none⟩ = some (.string s) ∧ s.size ≤ 11 := by
  match i, hi with
  | 0, _ => exact ⟨_, h.cell 0 rfl, by decide⟩
  | 1, _ => exact ⟨_, h.cell 1 rfl, by decide⟩
  | 2, _ => exact ⟨_, h.cell 2 rfl, by decide⟩
  | 3, _ => exact ⟨_, h.cell 3 rfl, by decide⟩
  | 4, _ => exact ⟨_, h.cell 4 rfl, by decide⟩
set_option maxRecDepth 100000 in
set_option maxHeartbeats 4000000 in
theorem drawAllocated_any {w : World} {a : Option Addr} {n cap : Nat} (h : CodeAt w a n) :
    Calls Try.prog 8 #[.slice a n cap] w fun e w' => (∃ (k0 k1 : Value) (x : ArenaD) (tg : ByteArray), e = .returned (.tuple #[.agg #[k0, k1], .string tg]) ∧ OwA (fun b => w.heap.size < b) w' k0 k1 x ∧ tg.size ≤ maxLen) ∧ Below w.heap.size w w' := by
  have h' : Hid (CodeAt w a n) := h
  clear h
  go_enter Try.func8, Try.ntmps8
  go_wp2_with fail
  have hbR : Hid (Below w.heap.size w (w.alloc (.cells #[.slice none 0 0, .slice none 0 0] 27))) := (Below.refl _ _).alloc (Nat.le_refl _) _
  have bR : Hid (Box (w.alloc (.cells #[.slice none 0 0, .slice none 0 0] 27)) w.heap.size [.slice none 0 0, .slice none 0 0] 27) := Box.new w _ _
  refine (open_any (CodeAt.below h'.out hbR.out)).mono ?_
  rintro e w1 ⟨g, rfl, hg, hr1, hb1⟩
  have hr1' : Hid (RdAt w1 g a n cap) := hr1
  have hg' : w.heap.size + 1 ≤ g := by simpa using hg
  have hB1 : Hid (Below w.heap.size w w1) := hbR.out.trans (hb1.mono hbR.out.size)
  have bR1 : Hid (Box w1 w.heap.size [.slice none 0 0, .slice none 0 0] 27) := bR.out.below hb1 bR.out.lt
  have hlt1 := hr1.lt
  clear hr1 hb1 hg bR hbR h' 
  go_wp2_with fail
  refine (drawArena_any hr1'.out).mono ?_
  rintro e w2 ⟨k0, k1, x, rfl, ho, hr2, hg2⟩
  obtain ⟨p0, d0, p1, d1, rfl, rfl⟩ := ho.form
  have hbA : Below w2.heap.size w2 (w2.alloc (.cells #[.slice p0 x.vSlots.length d0, .slice p1 x.vFree.length d1] 27)) := (Below.refl _ _).alloc (Nat.le_refl _) _
  have ho3 : Hid (OwA (fun b => w1.heap.size < b ∧ b ≠ w2.heap.size) (w2.alloc (.cells #[.slice p0 x.vSlots.length d0, .slice p1 x.vFree.length d1] 27)) (.slice p0 x.vSlots.length d0) (.slice p1 x.vFree.length d1) x) := (ho.mono (fun b q1 q2 => ⟨q2, by omega⟩)).keep (fun b _ q => hbA.block b q)
  have hB3 : Hid (Below w.heap.size w (w2.alloc (.cells #[.slice p0 x.vSlots.length d0, .slice p1 x.vFree.length d1] 27))) := (below_grown hB1.out (by omega) hg2).trans (hbA.mono (below_grown hB1.out (by omega) hg2).size)
  have bR3 : Hid (Box (w2.alloc (.cells #[.slice p0 x.vSlots.length d0, .slice p1 x.vFree.length d1] 27)) w.heap.size [.slice none 0 0, .slice none 0 0] 27) := (box_other bR1.out (by omega) hg2).alloc _
  have bT3 : Hid (Box (w2.alloc (.cells #[.slice p0 x.vSlots.length d0, .slice p1 x.vFree.length d1] 27)) w2.heap.size [.slice p0 x.vSlots.length d0, .slice p1 x.vFree.length d1] 27) := Box.new w2 _ _
  have rd3 : Hid (RdAt (w2.alloc (.cells #[.slice p0 x.vSlots.length d0, .slice p1 x.vFree.length d1] 27)) g a n cap) := hr2.below hbA
  have hsz2 : w1.heap.size ≤ w2.heap.size := hg2.size
  clear ho hr2 hg2 hbA bR1 hB1 hr1' 
  go_wp2_with fail
  generalize w2.alloc (.cells #[.slice p0 x.vSlots.length d0, .slice p1 x.vFree.length d1] 27) = w3 at *
  generalize w2.heap.size = T at *
  have hK0 := toHid (Kp.refl w3 g w.heap.size w.heap.size)
  have rd0 : Hid (RdAt w3.drew g a n cap) := rd3.out
  have bR0 : Hid (Box w3.drew w.heap.size [.slice none 0 0, .slice none 0 0] 27) := bR3.out
  skip
  have hgl3 : Hid (g < w3.heap.size) := rd3.out.lt
  have ltT3 : T < w3.heap.size := bT3.out.lt
  have ltR3 : w.heap.size < w3.heap.size := bR3.out.lt
  skip
  have hKT : Hid (∀ W, Kp w3 W g w.heap.size w.heap.size → W.cell? ⟨T, 0, none⟩ = some (.slice p0 x.vSlots.length d0) ∧ W.cell? ⟨T, 1, none⟩ = some (.slice p1 x.vFree.length d1)) := fun W hk => ⟨hk.cell (bT3.out.cell 0 rfl) (by omega) (by omega) (by omega), hk.cell (bT3.out.cell 1 rfl) (by omega) (by omega) (by omega)⟩
  refine wp_region_held_drew (S := fun w' => w'.cell? ⟨T, 0, none⟩ = some (.slice p0 x.vSlots.length d0) ∧ w'.cell? ⟨T, 1, none⟩ = some (.slice p1 x.vFree.length d1)) (by kernel_rfl) (hKT.out _ hK0.out) (fun hHeld => ?_)
  refine tq (i := 0) (d := 10) ?_
  simp only [sz, ss]
  refine tq (i := 2) (d := 12) ?_
  simp only [sz, ss]
  refine wpAnyH_ready (rs := [1, 3]) (by kernel_rfl) (by simp) ?_
  refine (AllReadyH.cons rfl (fun K hK => ?_) (AllReadyH.cons rfl (fun K hK => ?_) AllReadyH.nil))
  · go_simp
    have hK1 := toHid (Kp.alloc hK0.out (.cells (List.toArray [.string ⟨#[]⟩, .string ⟨#[97]⟩, .string ⟨#[98, 99, 100]⟩, .string ⟨#[10]⟩, .string ⟨#[97, 98, 99, 100, 101, 102, 103, 104, 105, 106, 107]⟩]) 9))
    have bR1 := toHid (Box.alloc bR0.out (.cells (List.toArray [.string ⟨#[]⟩, .string ⟨#[97]⟩, .string ⟨#[98, 99, 100]⟩, .string ⟨#[10]⟩, .string ⟨#[97, 98, 99, 100, 101, 102, 103, 104, 105, 106, 107]⟩]) 9))
    have rd1 := toHid (RdAt.below rd0.out ((Below.refl _ _).alloc (Nat.le_refl _) (.cells (List.toArray [.string ⟨#[]⟩, .string ⟨#[97]⟩, .string ⟨#[98, 99, 100]⟩, .string ⟨#[10]⟩, .string ⟨#[97, 98, 99, 100, 101, 102, 103, 104, 105, 106, 107]⟩]) 9)))
    have tb1 : Hid (Box (World.alloc w3.drew (.cells (List.toArray [.string ⟨#[]⟩, .string ⟨#[97]⟩, .string ⟨#[98, 99, 100]⟩, .string ⟨#[10]⟩, .string ⟨#[97, 98, 99, 100, 101, 102, 103, 104, 105, 106, 107]⟩]) 9)) (w3.heap.size) [.string ⟨#[]⟩, .string ⟨#[97]⟩, .string ⟨#[98, 99, 100]⟩, .string ⟨#[10]⟩, .string ⟨#[97, 98, 99, 100, 101, 102, 103, 104, 105, 106, 107]⟩] 9) := by have z := Box.new w3.drew [.string ⟨#[]⟩, .string ⟨#[97]⟩, .string ⟨#[98, 99, 100]⟩, .string ⟨#[10]⟩, .string ⟨#[97, 98, 99, 100, 101, 102, 103, 104, 105, 106, 107]⟩] 9; simpa [Hid] using z
    have tbg : Hid (w3.heap.size ≤ w3.heap.size) := Nat.le_refl _
    refine hK.out _ _ (hKT.out _ hK1.out) (fun hHeld => ?_)
    clear hK K
    refine wpAnyH_ready (rs := [3]) (by kernel_rfl) (by simp) ?_
    refine AllReadyH.cons rfl (fun K hK => ?_) AllReadyH.nil
    go_simp
    refine (below_any (by exact rd1.out) 5 (by omega) (by omega)).mono ?_
    rintro e u5 ⟨v5, rfl, v50, v51, hr5, hg5⟩
    obtain ⟨k5, rfl⟩ := Int.eq_ofNat_of_zero_le v50
    have hk5 : k5 < 5 := by omega
    have hK2 := toHid (Kp.grown hK1.out hg5)
    have bR2 := toHid (box_other bR1.out (by omega) hg5)
    have tb2 := toHid (box_other tb1.out (by have := tbg.out; have := hgl3.out; omega) hg5)
    have hz5 : Hid (w3.heap.size ≤ u5.heap.size) := Kp.size hK2.out
    clear hr5 hg5
    refine hK.out _ _ (hKT.out _ hK2.out) (fun hHeld => ?_)
    clear hK K
    refine tq (i := 4) (d := 14) ?_
    simp only [sz, ss]
    refine wpAnyH_ready (rs := [5, 6]) (by kernel_rfl) (by simp) ?_
    refine (AllReadyH.cons rfl (fun K hK => ?_) (AllReadyH.cons rfl (fun K hK => ?_) AllReadyH.nil))
    · obtain ⟨tg, c6, htg0⟩ := tabAllocated_pick tb2.out (i := k5) hk5
      have c6x : u5.cell? ⟨w3.heap.size, k5, none⟩ = some (.string tg) := c6
      have htg : Hid (tg.size ≤ maxLen) := by show _ ≤ _; unfold maxLen; omega
      go_simp
      clear c6 c6x htg0
      refine hK.out _ _ (hKT.out _ hK2.out) (fun hHeld => ?_)
      clear hK K
      refine wpAnyH_ready (rs := [6]) (by kernel_rfl) (by simp) ?_
      refine AllReadyH.cons rfl (fun K hK => ?_) AllReadyH.nil
      have n0 := bR2.out.cell 0 rfl
      have n1 := bR2.out.cell 1 rfl
      have nu := bR2.out.unfrozen
      go_simp
      have hK3 := toHid (Kp.put hK2.out (N := w.heap.size) (by omega) trivial (.slice p0 x.vSlots.length d0) (.slice p1 x.vFree.length d1))
      have bR3 := toHid ((Box.set (i := 0) bR2.out (.slice p0 x.vSlots.length d0)).set (i := 1) (.slice p1 x.vFree.length d1))
      have tb3 := toHid ((Box.other tb2.out (show w3.heap.size ≠ w.heap.size by have := tbg.out; omega) (i := 0) (.slice p0 x.vSlots.length d0)).other (show w3.heap.size ≠ w.heap.size by have := tbg.out; omega) (i := 1) (.slice p1 x.vFree.length d1))
      clear n0 n1 nu
      refine hK.out _ _ (hKT.out _ hK3.out) (fun hHeld => ?_)
      clear hK K
      refine tq (i := 7) (d := 3) ?_
      simp only [sz, ss]
      refine wpAnyH_done (by kernel_rfl) ?_ _
      clear hHeld
      have r0 := bR3.out.cell 0 rfl
      have r1 := bR3.out.cell 1 rfl
      go_wp2_with fail
      refine bodyPost_ret (v := .tuple #[.agg (List.toArray [.slice p0 x.vSlots.length d0, .slice p1 x.vFree.length d1]), .string tg]) (by simp [results, Try.results8, go_sem, r0, r1]) rfl ⟨⟨_, _, x, _, rfl, OwA.mono (Kp.ow hK3.out ho3.out (fun b q => ⟨by omega, by omega, by omega⟩)) (fun b _ q => by omega), htg.out⟩, Kp.below hK3.out hB3.out (by omega) (by omega)⟩
    · have n0 := bR2.out.cell 0 rfl
      have n1 := bR2.out.cell 1 rfl
      have nu := bR2.out.unfrozen
      go_simp
      have hK3 := toHid (Kp.put hK2.out (N := w.heap.size) (by omega) trivial (.slice p0 x.vSlots.length d0) (.slice p1 x.vFree.length d1))
      have bR3 := toHid ((Box.set (i := 0) bR2.out (.slice p0 x.vSlots.length d0)).set (i := 1) (.slice p1 x.vFree.length d1))
      have tb3 := toHid ((Box.other tb2.out (show w3.heap.size ≠ w.heap.size by have := tbg.out; omega) (i := 0) (.slice p0 x.vSlots.length d0)).other (show w3.heap.size ≠ w.heap.size by have := tbg.out; omega) (i := 1) (.slice p1 x.vFree.length d1))
      clear n0 n1 nu
      refine hK.out _ _ (hKT.out _ hK3.out) (fun hHeld => ?_)
      clear hK K
      refine wpAnyH_ready (rs := [5]) (by kernel_rfl) (by simp) ?_
      refine AllReadyH.cons rfl (fun K hK => ?_) AllReadyH.nil
      obtain ⟨tg, c6, htg0⟩ := tabAllocated_pick tb3.out (i := k5) hk5
      have c6x : ((World.setCell u5 ⟨w.heap.size, 0, none⟩ (.slice p0 x.vSlots.length d0)).setCell ⟨w.heap.size, 1, none⟩ (.slice p1 x.vFree.length d1)).cell? ⟨w3.heap.size, k5, none⟩ = some (.string tg) := c6
      have htg : Hid (tg.size ≤ maxLen) := by show _ ≤ _; unfold maxLen; omega
      go_simp
      clear c6 c6x htg0
      refine hK.out _ _ (hKT.out _ hK3.out) (fun hHeld => ?_)
      clear hK K
      refine tq (i := 7) (d := 3) ?_
      simp only [sz, ss]
      refine wpAnyH_done (by kernel_rfl) ?_ _
      clear hHeld
      have r0 := bR3.out.cell 0 rfl
      have r1 := bR3.out.cell 1 rfl
      go_wp2_with fail
      refine bodyPost_ret (v := .tuple #[.agg (List.toArray [.slice p0 x.vSlots.length d0, .slice p1 x.vFree.length d1]), .string tg]) (by simp [results, Try.results8, go_sem, r0, r1]) rfl ⟨⟨_, _, x, _, rfl, OwA.mono (Kp.ow hK3.out ho3.out (fun b q => ⟨by omega, by omega, by omega⟩)) (fun b _ q => by omega), htg.out⟩, Kp.below hK3.out hB3.out (by omega) (by omega)⟩
  · go_simp
    refine (below_any (by exact rd0.out) 5 (by omega) (by omega)).mono ?_
    rintro e u5 ⟨v5, rfl, v50, v51, hr5, hg5⟩
    obtain ⟨k5, rfl⟩ := Int.eq_ofNat_of_zero_le v50
    have hk5 : k5 < 5 := by omega
    have hK1 := toHid (Kp.grown hK0.out hg5)
    have bR1 := toHid (box_other bR0.out (by omega) hg5)
    have hz5 : Hid (w3.heap.size ≤ u5.heap.size) := Kp.size hK1.out
    clear hr5 hg5
    refine hK.out _ _ (hKT.out _ hK1.out) (fun hHeld => ?_)
    clear hK K
    refine wpAnyH_ready (rs := [1, 6]) (by kernel_rfl) (by simp) ?_
    refine (AllReadyH.cons rfl (fun K hK => ?_) (AllReadyH.cons rfl (fun K hK => ?_) AllReadyH.nil))
    · go_simp
      have hK2 := toHid (Kp.alloc hK1.out (.cells (List.toArray [.string ⟨#[]⟩, .string ⟨#[97]⟩, .string ⟨#[98, 99, 100]⟩, .string ⟨#[10]⟩, .string ⟨#[97, 98, 99, 100, 101, 102, 103, 104, 105, 106, 107]⟩]) 9))
      have bR2 := toHid (Box.alloc bR1.out (.cells (List.toArray [.string ⟨#[]⟩, .string ⟨#[97]⟩, .string ⟨#[98, 99, 100]⟩, .string ⟨#[10]⟩, .string ⟨#[97, 98, 99, 100, 101, 102, 103, 104, 105, 106, 107]⟩]) 9))
      have tb2 : Hid (Box (World.alloc u5 (.cells (List.toArray [.string ⟨#[]⟩, .string ⟨#[97]⟩, .string ⟨#[98, 99, 100]⟩, .string ⟨#[10]⟩, .string ⟨#[97, 98, 99, 100, 101, 102, 103, 104, 105, 106, 107]⟩]) 9)) (u5.heap.size) [.string ⟨#[]⟩, .string ⟨#[97]⟩, .string ⟨#[98, 99, 100]⟩, .string ⟨#[10]⟩, .string ⟨#[97, 98, 99, 100, 101, 102, 103, 104, 105, 106, 107]⟩] 9) := by have z := Box.new u5 [.string ⟨#[]⟩, .string ⟨#[97]⟩, .string ⟨#[98, 99, 100]⟩, .string ⟨#[10]⟩, .string ⟨#[97, 98, 99, 100, 101, 102, 103, 104, 105, 106, 107]⟩] 9; simpa [Hid] using z
      have tbg : Hid (w3.heap.size ≤ u5.heap.size) := hz5.out
      refine hK.out _ _ (hKT.out _ hK2.out) (fun hHeld => ?_)
      clear hK K
      refine tq (i := 4) (d := 14) ?_
      simp only [sz, ss]
      refine wpAnyH_ready (rs := [5, 6]) (by kernel_rfl) (by simp) ?_
      refine (AllReadyH.cons rfl (fun K hK => ?_) (AllReadyH.cons rfl (fun K hK => ?_) AllReadyH.nil))
      · obtain ⟨tg, c6, htg0⟩ := tabAllocated_pick tb2.out (i := k5) hk5
        have c6x : (World.alloc u5 (.cells (List.toArray [.string ⟨#[]⟩, .string ⟨#[97]⟩, .string ⟨#[98, 99, 100]⟩, .string ⟨#[10]⟩, .string ⟨#[97, 98, 99, 100, 101, 102, 103, 104, 105, 106, 107]⟩]) 9)).cell? ⟨u5.heap.size, k5, none⟩ = some (.string tg) := c6
        have htg : Hid (tg.size ≤ maxLen) := by show _ ≤ _; unfold maxLen; omega
        go_simp
        clear c6 c6x htg0
        refine hK.out _ _ (hKT.out _ hK2.out) (fun hHeld => ?_)
        clear hK K
        refine wpAnyH_ready (rs := [6]) (by kernel_rfl) (by simp) ?_
        refine AllReadyH.cons rfl (fun K hK => ?_) AllReadyH.nil
        have n0 := bR2.out.cell 0 rfl
        have n1 := bR2.out.cell 1 rfl
        have nu := bR2.out.unfrozen
        go_simp
        have hK3 := toHid (Kp.put hK2.out (N := w.heap.size) (by omega) trivial (.slice p0 x.vSlots.length d0) (.slice p1 x.vFree.length d1))
        have bR3 := toHid ((Box.set (i := 0) bR2.out (.slice p0 x.vSlots.length d0)).set (i := 1) (.slice p1 x.vFree.length d1))
        have tb3 := toHid ((Box.other tb2.out (show u5.heap.size ≠ w.heap.size by have := tbg.out; omega) (i := 0) (.slice p0 x.vSlots.length d0)).other (show u5.heap.size ≠ w.heap.size by have := tbg.out; omega) (i := 1) (.slice p1 x.vFree.length d1))
        clear n0 n1 nu
        refine hK.out _ _ (hKT.out _ hK3.out) (fun hHeld => ?_)
        clear hK K
        refine tq (i := 7) (d := 3) ?_
        simp only [sz, ss]
        refine wpAnyH_done (by kernel_rfl) ?_ _
        clear hHeld
        have r0 := bR3.out.cell 0 rfl
        have r1 := bR3.out.cell 1 rfl
        go_wp2_with fail
        refine bodyPost_ret (v := .tuple #[.agg (List.toArray [.slice p0 x.vSlots.length d0, .slice p1 x.vFree.length d1]), .string tg]) (by simp [results, Try.results8, go_sem, r0, r1]) rfl ⟨⟨_, _, x, _, rfl, OwA.mono (Kp.ow hK3.out ho3.out (fun b q => ⟨by omega, by omega, by omega⟩)) (fun b _ q => by omega), htg.out⟩, Kp.below hK3.out hB3.out (by omega) (by omega)⟩
      · have n0 := bR2.out.cell 0 rfl
        have n1 := bR2.out.cell 1 rfl
        have nu := bR2.out.unfrozen
        go_simp
        have hK3 := toHid (Kp.put hK2.out (N := w.heap.size) (by omega) trivial (.slice p0 x.vSlots.length d0) (.slice p1 x.vFree.length d1))
        have bR3 := toHid ((Box.set (i := 0) bR2.out (.slice p0 x.vSlots.length d0)).set (i := 1) (.slice p1 x.vFree.length d1))
        have tb3 := toHid ((Box.other tb2.out (show u5.heap.size ≠ w.heap.size by have := tbg.out; omega) (i := 0) (.slice p0 x.vSlots.length d0)).other (show u5.heap.size ≠ w.heap.size by have := tbg.out; omega) (i := 1) (.slice p1 x.vFree.length d1))
        clear n0 n1 nu
        refine hK.out _ _ (hKT.out _ hK3.out) (fun hHeld => ?_)
        clear hK K
        refine wpAnyH_ready (rs := [5]) (by kernel_rfl) (by simp) ?_
        refine AllReadyH.cons rfl (fun K hK => ?_) AllReadyH.nil
        obtain ⟨tg, c6, htg0⟩ := tabAllocated_pick tb3.out (i := k5) hk5
        have c6x : ((World.setCell (World.alloc u5 (.cells (List.toArray [.string ⟨#[]⟩, .string ⟨#[97]⟩, .string ⟨#[98, 99, 100]⟩, .string ⟨#[10]⟩, .string ⟨#[97, 98, 99, 100, 101, 102, 103, 104, 105, 106, 107]⟩]) 9)) ⟨w.heap.size, 0, none⟩ (.slice p0 x.vSlots.length d0)).setCell ⟨w.heap.size, 1, none⟩ (.slice p1 x.vFree.length d1)).cell? ⟨u5.heap.size, k5, none⟩ = some (.string tg) := c6
        have htg : Hid (tg.size ≤ maxLen) := by show _ ≤ _; unfold maxLen; omega
        go_simp
        clear c6 c6x htg0
        refine hK.out _ _ (hKT.out _ hK3.out) (fun hHeld => ?_)
        clear hK K
        refine tq (i := 7) (d := 3) ?_
        simp only [sz, ss]
        refine wpAnyH_done (by kernel_rfl) ?_ _
        clear hHeld
        have r0 := bR3.out.cell 0 rfl
        have r1 := bR3.out.cell 1 rfl
        go_wp2_with fail
        refine bodyPost_ret (v := .tuple #[.agg (List.toArray [.slice p0 x.vSlots.length d0, .slice p1 x.vFree.length d1]), .string tg]) (by simp [results, Try.results8, go_sem, r0, r1]) rfl ⟨⟨_, _, x, _, rfl, OwA.mono (Kp.ow hK3.out ho3.out (fun b q => ⟨by omega, by omega, by omega⟩)) (fun b _ q => by omega), htg.out⟩, Kp.below hK3.out hB3.out (by omega) (by omega)⟩
    · have n0 := bR1.out.cell 0 rfl
      have n1 := bR1.out.cell 1 rfl
      have nu := bR1.out.unfrozen
      go_simp
      have hK2 := toHid (Kp.put hK1.out (N := w.heap.size) (by omega) trivial (.slice p0 x.vSlots.length d0) (.slice p1 x.vFree.length d1))
      have bR2 := toHid ((Box.set (i := 0) bR1.out (.slice p0 x.vSlots.length d0)).set (i := 1) (.slice p1 x.vFree.length d1))
      clear n0 n1 nu
      refine hK.out _ _ (hKT.out _ hK2.out) (fun hHeld => ?_)
      clear hK K
      refine wpAnyH_ready (rs := [1]) (by kernel_rfl) (by simp) ?_
      refine AllReadyH.cons rfl (fun K hK => ?_) AllReadyH.nil
      go_simp
      have hK3 := toHid (Kp.alloc hK2.out (.cells (List.toArray [.string ⟨#[]⟩, .string ⟨#[97]⟩, .string ⟨#[98, 99, 100]⟩, .string ⟨#[10]⟩, .string ⟨#[97, 98, 99, 100, 101, 102, 103, 104, 105, 106, 107]⟩]) 9))
      have bR3 := toHid (Box.alloc bR2.out (.cells (List.toArray [.string ⟨#[]⟩, .string ⟨#[97]⟩, .string ⟨#[98, 99, 100]⟩, .string ⟨#[10]⟩, .string ⟨#[97, 98, 99, 100, 101, 102, 103, 104, 105, 106, 107]⟩]) 9))
      have tb3 : Hid (Box (World.alloc ((World.setCell u5 ⟨w.heap.size, 0, none⟩ (.slice p0 x.vSlots.length d0)).setCell ⟨w.heap.size, 1, none⟩ (.slice p1 x.vFree.length d1)) (.cells (List.toArray [.string ⟨#[]⟩, .string ⟨#[97]⟩, .string ⟨#[98, 99, 100]⟩, .string ⟨#[10]⟩, .string ⟨#[97, 98, 99, 100, 101, 102, 103, 104, 105, 106, 107]⟩]) 9)) (u5.heap.size) [.string ⟨#[]⟩, .string ⟨#[97]⟩, .string ⟨#[98, 99, 100]⟩, .string ⟨#[10]⟩, .string ⟨#[97, 98, 99, 100, 101, 102, 103, 104, 105, 106, 107]⟩] 9) := by have z := Box.new ((World.setCell u5 ⟨w.heap.size, 0, none⟩ (.slice p0 x.vSlots.length d0)).setCell ⟨w.heap.size, 1, none⟩ (.slice p1 x.vFree.length d1)) [.string ⟨#[]⟩, .string ⟨#[97]⟩, .string ⟨#[98, 99, 100]⟩, .string ⟨#[10]⟩, .string ⟨#[97, 98, 99, 100, 101, 102, 103, 104, 105, 106, 107]⟩] 9; simpa [Hid] using z
      have tbg : Hid (w3.heap.size ≤ u5.heap.size) := hz5.out
      refine hK.out _ _ (hKT.out _ hK3.out) (fun hHeld => ?_)
      clear hK K
      refine tq (i := 4) (d := 14) ?_
      simp only [sz, ss]
      refine wpAnyH_ready (rs := [5]) (by kernel_rfl) (by simp) ?_
      refine AllReadyH.cons rfl (fun K hK => ?_) AllReadyH.nil
      obtain ⟨tg, c6, htg0⟩ := tabAllocated_pick tb3.out (i := k5) hk5
      have c6x : (World.alloc ((World.setCell u5 ⟨w.heap.size, 0, none⟩ (.slice p0 x.vSlots.length d0)).setCell ⟨w.heap.size, 1, none⟩ (.slice p1 x.vFree.length d1)) (.cells (List.toArray [.string ⟨#[]⟩, .string ⟨#[97]⟩, .string ⟨#[98, 99, 100]⟩, .string ⟨#[10]⟩, .string ⟨#[97, 98, 99, 100, 101, 102, 103, 104, 105, 106, 107]⟩]) 9)).cell? ⟨u5.heap.size, k5, none⟩ = some (.string tg) := c6
      have htg : Hid (tg.size ≤ maxLen) := by show _ ≤ _; unfold maxLen; omega
      go_simp
      clear c6 c6x htg0
      refine hK.out _ _ (hKT.out _ hK3.out) (fun hHeld => ?_)
      clear hK K
      refine tq (i := 7) (d := 3) ?_
      simp only [sz, ss]
      refine wpAnyH_done (by kernel_rfl) ?_ _
      clear hHeld
      have r0 := bR3.out.cell 0 rfl
      have r1 := bR3.out.cell 1 rfl
      go_wp2_with fail
      refine bodyPost_ret (v := .tuple #[.agg (List.toArray [.slice p0 x.vSlots.length d0, .slice p1 x.vFree.length d1]), .string tg]) (by simp [results, Try.results8, go_sem, r0, r1]) rfl ⟨⟨_, _, x, _, rfl, OwA.mono (Kp.ow hK3.out ho3.out (fun b q => ⟨by omega, by omega, by omega⟩)) (fun b _ q => by omega), htg.out⟩, Kp.below hK3.out hB3.out (by omega) (by omega)⟩
set_option maxRecDepth 100000 in
set_option maxHeartbeats 4000000 in
theorem drawReleased_any {w : World} {a : Option Addr} {n cap : Nat} (h : CodeAt w a n) :
    Calls Try.prog 18 #[.slice a n cap] w fun e w' => (∃ (k0 k1 : Value) (x : ArenaD) (hA hX : Int), e = .returned (.tuple #[.agg #[k0, k1], .agg #[.int .i64 hA, .int .i64 hX]]) ∧ OwA (fun b => w.heap.size < b) w' k0 k1 x) ∧ Below w.heap.size w w' := by
  have h' : Hid (CodeAt w a n) := h
  clear h
  go_enter Try.func18, Try.ntmps18
  go_wp2_with fail
  have hbR : Hid (Below w.heap.size w ((w.alloc (.cells #[.slice none 0 0, .slice none 0 0] 27)).alloc (.cells #[.int .i64 0, .int .i64 0] 31))) := ((Below.refl _ _).alloc (Nat.le_refl _) _).alloc (by simp) _
  have bR : Hid (Box ((w.alloc (.cells #[.slice none 0 0, .slice none 0 0] 27)).alloc (.cells #[.int .i64 0, .int .i64 0] 31)) w.heap.size [.slice none 0 0, .slice none 0 0] 27) := (Box.new w _ _).alloc _
  have bRH : Hid (Box ((w.alloc (.cells #[.slice none 0 0, .slice none 0 0] 27)).alloc (.cells #[.int .i64 0, .int .i64 0] 31)) (w.heap.size + 1) [.int .i64 0, .int .i64 0] 31) := by have := Box.new (w.alloc (.cells #[.slice none 0 0, .slice none 0 0] 27)) [.int .i64 0, .int .i64 0] 31; simpa [Hid] using this
  refine (open_any (CodeAt.below h'.out hbR.out)).mono ?_
  rintro e w1 ⟨g, rfl, hg, hr1, hb1⟩
  have hr1' : Hid (RdAt w1 g a n cap) := hr1
  have hg' : w.heap.size + 2 ≤ g := by simpa using hg
  have hB1 : Hid (Below w.heap.size w w1) := hbR.out.trans (hb1.mono hbR.out.size)
  have bR1 : Hid (Box w1 w.heap.size [.slice none 0 0, .slice none 0 0] 27) := bR.out.below hb1 bR.out.lt
  have bRH1 : Hid (Box w1 (w.heap.size + 1) [.int .i64 0, .int .i64 0] 31) := bRH.out.below hb1 bRH.out.lt
  have hlt1 := hr1.lt
  clear hr1 hb1 hg bR hbR h' bRH
  go_wp2_with fail
  refine (drawArena_any hr1'.out).mono ?_
  rintro e w2 ⟨k0, k1, x, rfl, ho, hr2, hg2⟩
  obtain ⟨p0, d0, p1, d1, rfl, rfl⟩ := ho.form
  have hbA : Below w2.heap.size w2 (w2.alloc (.cells #[.slice p0 x.vSlots.length d0, .slice p1 x.vFree.length d1] 27)) := (Below.refl _ _).alloc (Nat.le_refl _) _
  have ho3 : Hid (OwA (fun b => w1.heap.size < b ∧ b ≠ w2.heap.size) (w2.alloc (.cells #[.slice p0 x.vSlots.length d0, .slice p1 x.vFree.length d1] 27)) (.slice p0 x.vSlots.length d0) (.slice p1 x.vFree.length d1) x) := (ho.mono (fun b q1 q2 => ⟨q2, by omega⟩)).keep (fun b _ q => hbA.block b q)
  have hB3 : Hid (Below w.heap.size w (w2.alloc (.cells #[.slice p0 x.vSlots.length d0, .slice p1 x.vFree.length d1] 27))) := (below_grown hB1.out (by omega) hg2).trans (hbA.mono (below_grown hB1.out (by omega) hg2).size)
  have bR3 : Hid (Box (w2.alloc (.cells #[.slice p0 x.vSlots.length d0, .slice p1 x.vFree.length d1] 27)) w.heap.size [.slice none 0 0, .slice none 0 0] 27) := (box_other bR1.out (by omega) hg2).alloc _
  have bRH3 : Hid (Box (w2.alloc (.cells #[.slice p0 x.vSlots.length d0, .slice p1 x.vFree.length d1] 27)) (w.heap.size + 1) [.int .i64 0, .int .i64 0] 31) := (box_other bRH1.out (by omega) hg2).alloc _
  have bT3 : Hid (Box (w2.alloc (.cells #[.slice p0 x.vSlots.length d0, .slice p1 x.vFree.length d1] 27)) w2.heap.size [.slice p0 x.vSlots.length d0, .slice p1 x.vFree.length d1] 27) := Box.new w2 _ _
  have rd3 : Hid (RdAt (w2.alloc (.cells #[.slice p0 x.vSlots.length d0, .slice p1 x.vFree.length d1] 27)) g a n cap) := hr2.below hbA
  have hsz2 : w1.heap.size ≤ w2.heap.size := hg2.size
  clear ho hr2 hg2 hbA bR1 hB1 hr1' bRH1
  go_wp2_with fail
  generalize w2.alloc (.cells #[.slice p0 x.vSlots.length d0, .slice p1 x.vFree.length d1] 27) = w3 at *
  generalize w2.heap.size = T at *
  have hK0 := toHid (Kp.refl w3 g w.heap.size (w.heap.size + 1))
  have rd0 : Hid (RdAt w3.drew g a n cap) := rd3.out
  have bR0 : Hid (Box w3.drew w.heap.size [.slice none 0 0, .slice none 0 0] 27) := bR3.out
  have bRH0 : Hid (Box w3.drew (w.heap.size + 1) [.int .i64 0, .int .i64 0] 31) := bRH3.out
  have hgl3 : Hid (g < w3.heap.size) := rd3.out.lt
  have ltT3 : T < w3.heap.size := bT3.out.lt
  have ltR3 : w.heap.size < w3.heap.size := bR3.out.lt
  have ho3d : Hid (OwA (fun b => w1.heap.size < b ∧ b ≠ T) w3.drew (.slice p0 x.vSlots.length d0) (.slice p1 x.vFree.length d1) x) := ho3.out.keep (fun _ _ _ => rfl)
  have hKT : Hid (∀ W, Kp w3 W g w.heap.size (w.heap.size + 1) → W.cell? ⟨T, 0, none⟩ = some (.slice p0 x.vSlots.length d0) ∧ W.cell? ⟨T, 1, none⟩ = some (.slice p1 x.vFree.length d1)) := fun W hk => ⟨hk.cell (bT3.out.cell 0 rfl) (by omega) (by omega) (by omega), hk.cell (bT3.out.cell 1 rfl) (by omega) (by omega) (by omega)⟩
  refine wp_region_held_drew (S := fun w' => w'.cell? ⟨T, 0, none⟩ = some (.slice p0 x.vSlots.length d0) ∧ w'.cell? ⟨T, 1, none⟩ = some (.slice p1 x.vFree.length d1)) (by kernel_rfl) (hKT.out _ hK0.out) (fun hHeld => ?_)
  refine tq (i := 0) (d := 10) ?_
  simp only [sz, ss]
  refine tq (i := 1) (d := 11) ?_
  simp only [sz, ss]
  refine tq (i := 2) (d := 12) ?_
  simp only [sz, ss]
  refine wpAnyH_ready (rs := [3]) (by kernel_rfl) (by simp) ?_
  refine AllReadyH.cons rfl (fun K hK => ?_) AllReadyH.nil
  go_simp
  refine (handle_any (by exact rd0.out) (by exact ho3d.out.at)).mono ?_
  rintro e u5 ⟨⟨hA, hX, rfl⟩, hr5, hg5⟩
  have hK1 := toHid (Kp.grown hK0.out hg5)
  have bR1 := toHid (box_other bR0.out (by omega) hg5)
  have bRH1 := toHid (box_other bRH0.out (by omega) hg5)
  clear hr5 hg5
  refine hK.out _ _ (hKT.out _ hK1.out) (fun hHeld => ?_)
  clear hK K
  refine wpAnyH_ready (rs := [4]) (by kernel_rfl) (by simp) ?_
  refine AllReadyH.cons rfl (fun K hK => ?_) AllReadyH.nil
  have n0 := bR1.out.cell 0 rfl
  have n1 := bR1.out.cell 1 rfl
  have nu := bR1.out.unfrozen
  go_simp
  have hK2 := toHid (Kp.put hK1.out (N := w.heap.size) (by omega) trivial (.slice p0 x.vSlots.length d0) (.slice p1 x.vFree.length d1))
  have bR2 := toHid ((Box.set (i := 0) bR1.out (.slice p0 x.vSlots.length d0)).set (i := 1) (.slice p1 x.vFree.length d1))
  have bRH2 := toHid ((Box.other bRH1.out (show w.heap.size + 1 ≠ w.heap.size by omega) (i := 0) (.slice p0 x.vSlots.length d0)).other (show w.heap.size + 1 ≠ w.heap.size by omega) (i := 1) (.slice p1 x.vFree.length d1))
  clear n0 n1 nu
  refine hK.out _ _ (hKT.out _ hK2.out) (fun hHeld => ?_)
  clear hK K
  refine wpAnyH_ready (rs := [5]) (by kernel_rfl) (by simp) ?_
  refine AllReadyH.cons rfl (fun K hK => ?_) AllReadyH.nil
  have n0 := bRH2.out.cell 0 rfl
  have n1 := bRH2.out.cell 1 rfl
  have nu := bRH2.out.unfrozen
  go_simp
  have hK3 := toHid (Kp.put hK2.out (N := w.heap.size + 1) (by omega) trivial (.int .i64 hA) (.int .i64 hX))
  have bRH3 := toHid ((Box.set (i := 0) bRH2.out (.int .i64 hA)).set (i := 1) (.int .i64 hX))
  have bR3 := toHid ((Box.other bR2.out (show w.heap.size ≠ w.heap.size + 1 by omega) (i := 0) (.int .i64 hA)).other (show w.heap.size ≠ w.heap.size + 1 by omega) (i := 1) (.int .i64 hX))
  clear n0 n1 nu
  refine hK.out _ _ (hKT.out _ hK3.out) (fun hHeld => ?_)
  clear hK K
  refine wpAnyH_done (by kernel_rfl) ?_ _
  clear hHeld
  have r0 := bR3.out.cell 0 rfl
  have r1 := bR3.out.cell 1 rfl
  have h0 := bRH3.out.cell 0 rfl
  have h1 := bRH3.out.cell 1 rfl
  go_wp2_with fail
  refine bodyPost_ret (v := .tuple #[.agg (List.toArray [.slice p0 x.vSlots.length d0, .slice p1 x.vFree.length d1]), .agg (List.toArray [.int .i64 hA, .int .i64 hX])]) (by simp [results, Try.results18, go_sem, r0, r1, h0, h1]) rfl ⟨⟨_, _, x, _, _, rfl, OwA.mono (Kp.ow hK3.out ho3.out (fun b q => ⟨by omega, by omega, by omega⟩)) (fun b _ q => by omega)⟩, Kp.below hK3.out hB3.out (by omega) (by omega)⟩
theorem tabStored_pick {w : World} {g i : Nat} (h : Box w g [.string ⟨#[]⟩, .string ⟨#[110, 101, 119]⟩, .string ⟨#[10]⟩] 9) (hi : i < 3) : ∃ s : ByteArray, w.cell? ⟨g, i, none⟩ = some (.string s) ∧ s.size ≤ 11 := by
  match i, hi with
  | 0, _ => exact ⟨_, h.cell 0 rfl, by decide⟩
  | 1, _ => exact ⟨_, h.cell 1 rfl, by decide⟩
  | 2, _ => exact ⟨_, h.cell 2 rfl, by decide⟩
set_option maxRecDepth 100000 in
set_option maxHeartbeats 4000000 in
theorem drawStored_any {w : World} {a : Option Addr} {n cap : Nat} (h : CodeAt w a n) :
    Calls Try.prog 21 #[.slice a n cap] w fun e w' => (∃ (k0 k1 : Value) (x : ArenaD) (hA hX : Int) (tg : ByteArray), e = .returned (.tuple #[.agg #[k0, k1], .agg #[.int .i64 hA, .int .i64 hX], .string tg]) ∧ OwA (fun b => w.heap.size < b) w' k0 k1 x ∧ tg.size ≤ maxLen) ∧ Below w.heap.size w w' := by
  have h' : Hid (CodeAt w a n) := h
  clear h
  go_enter Try.func21, Try.ntmps21
  go_wp2_with fail
  have hbR : Hid (Below w.heap.size w ((w.alloc (.cells #[.slice none 0 0, .slice none 0 0] 27)).alloc (.cells #[.int .i64 0, .int .i64 0] 31))) := ((Below.refl _ _).alloc (Nat.le_refl _) _).alloc (by simp) _
  have bR : Hid (Box ((w.alloc (.cells #[.slice none 0 0, .slice none 0 0] 27)).alloc (.cells #[.int .i64 0, .int .i64 0] 31)) w.heap.size [.slice none 0 0, .slice none 0 0] 27) := (Box.new w _ _).alloc _
  have bRH : Hid (Box ((w.alloc (.cells #[.slice none 0 0, .slice none 0 0] 27)).alloc (.cells #[.int .i64 0, .int .i64 0] 31)) (w.heap.size + 1) [.int .i64 0, .int .i64 0] 31) := by have := Box.new (w.alloc (.cells #[.slice none 0 0, .slice none 0 0] 27)) [.int .i64 0, .int .i64 0] 31; simpa [Hid] using this
  refine (open_any (CodeAt.below h'.out hbR.out)).mono ?_
  rintro e w1 ⟨g, rfl, hg, hr1, hb1⟩
  have hr1' : Hid (RdAt w1 g a n cap) := hr1
  have hg' : w.heap.size + 2 ≤ g := by simpa using hg
  have hB1 : Hid (Below w.heap.size w w1) := hbR.out.trans (hb1.mono hbR.out.size)
  have bR1 : Hid (Box w1 w.heap.size [.slice none 0 0, .slice none 0 0] 27) := bR.out.below hb1 bR.out.lt
  have bRH1 : Hid (Box w1 (w.heap.size + 1) [.int .i64 0, .int .i64 0] 31) := bRH.out.below hb1 bRH.out.lt
  have hlt1 := hr1.lt
  clear hr1 hb1 hg bR hbR h' bRH
  go_wp2_with fail
  refine (drawArena_any hr1'.out).mono ?_
  rintro e w2 ⟨k0, k1, x, rfl, ho, hr2, hg2⟩
  obtain ⟨p0, d0, p1, d1, rfl, rfl⟩ := ho.form
  have hbA : Below w2.heap.size w2 (w2.alloc (.cells #[.slice p0 x.vSlots.length d0, .slice p1 x.vFree.length d1] 27)) := (Below.refl _ _).alloc (Nat.le_refl _) _
  have ho3 : Hid (OwA (fun b => w1.heap.size < b ∧ b ≠ w2.heap.size) (w2.alloc (.cells #[.slice p0 x.vSlots.length d0, .slice p1 x.vFree.length d1] 27)) (.slice p0 x.vSlots.length d0) (.slice p1 x.vFree.length d1) x) := (ho.mono (fun b q1 q2 => ⟨q2, by omega⟩)).keep (fun b _ q => hbA.block b q)
  have hB3 : Hid (Below w.heap.size w (w2.alloc (.cells #[.slice p0 x.vSlots.length d0, .slice p1 x.vFree.length d1] 27))) := (below_grown hB1.out (by omega) hg2).trans (hbA.mono (below_grown hB1.out (by omega) hg2).size)
  have bR3 : Hid (Box (w2.alloc (.cells #[.slice p0 x.vSlots.length d0, .slice p1 x.vFree.length d1] 27)) w.heap.size [.slice none 0 0, .slice none 0 0] 27) := (box_other bR1.out (by omega) hg2).alloc _
  have bRH3 : Hid (Box (w2.alloc (.cells #[.slice p0 x.vSlots.length d0, .slice p1 x.vFree.length d1] 27)) (w.heap.size + 1) [.int .i64 0, .int .i64 0] 31) := (box_other bRH1.out (by omega) hg2).alloc _
  have bT3 : Hid (Box (w2.alloc (.cells #[.slice p0 x.vSlots.length d0, .slice p1 x.vFree.length d1] 27)) w2.heap.size [.slice p0 x.vSlots.length d0, .slice p1 x.vFree.length d1] 27) := Box.new w2 _ _
  have rd3 : Hid (RdAt (w2.alloc (.cells #[.slice p0 x.vSlots.length d0, .slice p1 x.vFree.length d1] 27)) g a n cap) := hr2.below hbA
  have hsz2 : w1.heap.size ≤ w2.heap.size := hg2.size
  clear ho hr2 hg2 hbA bR1 hB1 hr1' bRH1
  go_wp2_with fail
  generalize w2.alloc (.cells #[.slice p0 x.vSlots.length d0, .slice p1 x.vFree.length d1] 27) = w3 at *
  generalize w2.heap.size = T at *
  refine (handle_any rd3.out ho3.out.at).mono ?_
  rintro e u4 ⟨⟨hA, hX, rfl⟩, hr4, hg4⟩
  have hz4 := hg4.size
  have hbA : Below u4.heap.size u4 (u4.alloc (.cells #[.int .i64 hA, .int .i64 hX] 31)) := (Below.refl _ _).alloc (Nat.le_refl _) _
  have ltT : T < w3.heap.size := bT3.out.lt
  replace ho3 : Hid (OwA (fun b => w1.heap.size < b ∧ b ≠ T) (u4.alloc (.cells #[.int .i64 hA, .int .i64 hX] 31)) (.slice p0 x.vSlots.length d0) (.slice p1 x.vFree.length d1) x) := (ho3.out.keep (fun b q1 q2 => hg4.block b q2 (fun e => by injection e with e; omega))).keep (fun b _ q => hbA.block b q)
  replace hB3 : Hid (Below w.heap.size w (u4.alloc (.cells #[.int .i64 hA, .int .i64 hX] 31))) := (below_grown hB3.out (by omega) hg4).trans (hbA.mono (below_grown hB3.out (by omega) hg4).size)
  replace bR3 : Hid (Box (u4.alloc (.cells #[.int .i64 hA, .int .i64 hX] 31)) w.heap.size [.slice none 0 0, .slice none 0 0] 27) := (box_other bR3.out (by omega) hg4).alloc _
  replace bRH3 : Hid (Box (u4.alloc (.cells #[.int .i64 hA, .int .i64 hX] 31)) (w.heap.size + 1) [.int .i64 0, .int .i64 0] 31) := (box_other bRH3.out (by omega) hg4).alloc _
  replace bT3 : Hid (Box (u4.alloc (.cells #[.int .i64 hA, .int .i64 hX] 31)) T [.slice p0 x.vSlots.length d0, .slice p1 x.vFree.length d1] 27) := (box_other bT3.out (by omega) hg4).alloc _
  have bTH : Hid (Box (u4.alloc (.cells #[.int .i64 hA, .int .i64 hX] 31)) u4.heap.size [.int .i64 hA, .int .i64 hX] 31) := Box.new u4 _ _
  replace rd3 : Hid (RdAt (u4.alloc (.cells #[.int .i64 hA, .int .i64 hX] 31)) g a n cap) := hr4.below hbA
  clear hr4 hg4 hbA
  go_wp2_with fail
  generalize (u4.alloc (.cells #[.int .i64 hA, .int .i64 hX] 31)) = w3 at *
  generalize hTH : u4.heap.size = TH at *
  have hTHg : TH ≠ g ∧ TH ≠ w.heap.size ∧ TH ≠ w.heap.size + 1 := by omega
  have hK0 := toHid (Kp.refl w3 g w.heap.size (w.heap.size + 1))
  have rd0 : Hid (RdAt w3.drew g a n cap) := rd3.out
  have bR0 : Hid (Box w3.drew w.heap.size [.slice none 0 0, .slice none 0 0] 27) := bR3.out
  have bRH0 : Hid (Box w3.drew (w.heap.size + 1) [.int .i64 0, .int .i64 0] 31) := bRH3.out
  have hgl3 : Hid (g < w3.heap.size) := rd3.out.lt
  have ltT3 : T < w3.heap.size := bT3.out.lt
  have ltR3 : w.heap.size < w3.heap.size := bR3.out.lt
  skip
  have hKT : Hid (∀ W, Kp w3 W g w.heap.size (w.heap.size + 1) → W.cell? ⟨T, 0, none⟩ = some (.slice p0 x.vSlots.length d0) ∧ W.cell? ⟨T, 1, none⟩ = some (.slice p1 x.vFree.length d1) ∧ W.cell? ⟨TH, 0, none⟩ = some (.int .i64 hA) ∧ W.cell? ⟨TH, 1, none⟩ = some (.int .i64 hX)) := fun W hk => ⟨hk.cell (bT3.out.cell 0 rfl) (by omega) (by omega) (by omega), hk.cell (bT3.out.cell 1 rfl) (by omega) (by omega) (by omega), hk.cell (bTH.out.cell 0 rfl) (by omega) (by omega) (by omega), hk.cell (bTH.out.cell 1 rfl) (by omega) (by omega) (by omega)⟩
  refine wp_region_held_drew (S := fun w' => w'.cell? ⟨T, 0, none⟩ = some (.slice p0 x.vSlots.length d0) ∧ w'.cell? ⟨T, 1, none⟩ = some (.slice p1 x.vFree.length d1) ∧ w'.cell? ⟨TH, 0, none⟩ = some (.int .i64 hA) ∧ w'.cell? ⟨TH, 1, none⟩ = some (.int .i64 hX)) (by kernel_rfl) (hKT.out _ hK0.out) (fun hHeld => ?_)
  refine tq (i := 0) (d := 15) ?_
  simp only [sz, ss]
  refine tq (i := 1) (d := 16) ?_
  simp only [sz, ss]
  refine tq (i := 3) (d := 18) ?_
  simp only [sz, ss]
  refine wpAnyH_ready (rs := [2, 4]) (by kernel_rfl) (by simp) ?_
  refine (AllReadyH.cons rfl (fun K hK => ?_) (AllReadyH.cons rfl (fun K hK => ?_) AllReadyH.nil))
  · go_simp
    have hK1 := toHid (Kp.alloc hK0.out (.cells (List.toArray [.string ⟨#[]⟩, .string ⟨#[110, 101, 119]⟩, .string ⟨#[10]⟩]) 9))
    have bR1 := toHid (Box.alloc bR0.out (.cells (List.toArray [.string ⟨#[]⟩, .string ⟨#[110, 101, 119]⟩, .string ⟨#[10]⟩]) 9))
    have bRH1 := toHid (Box.alloc bRH0.out (.cells (List.toArray [.string ⟨#[]⟩, .string ⟨#[110, 101, 119]⟩, .string ⟨#[10]⟩]) 9))
    have rd1 := toHid (RdAt.below rd0.out ((Below.refl _ _).alloc (Nat.le_refl _) (.cells (List.toArray [.string ⟨#[]⟩, .string ⟨#[110, 101, 119]⟩, .string ⟨#[10]⟩]) 9)))
    have tb1 : Hid (Box (World.alloc w3.drew (.cells (List.toArray [.string ⟨#[]⟩, .string ⟨#[110, 101, 119]⟩, .string ⟨#[10]⟩]) 9)) (w3.heap.size) [.string ⟨#[]⟩, .string ⟨#[110, 101, 119]⟩, .string ⟨#[10]⟩] 9) := by have z := Box.new w3.drew [.string ⟨#[]⟩, .string ⟨#[110, 101, 119]⟩, .string ⟨#[10]⟩] 9; simpa [Hid] using z
    have tbg : Hid (w3.heap.size ≤ w3.heap.size) := Nat.le_refl _
    refine hK.out _ _ (hKT.out _ hK1.out) (fun hHeld => ?_)
    clear hK K
    refine wpAnyH_ready (rs := [4]) (by kernel_rfl) (by simp) ?_
    refine AllReadyH.cons rfl (fun K hK => ?_) AllReadyH.nil
    go_simp
    refine (below_any (by exact rd1.out) 3 (by omega) (by omega)).mono ?_
    rintro e u5 ⟨v5, rfl, v50, v51, hr5, hg5⟩
    obtain ⟨k5, rfl⟩ := Int.eq_ofNat_of_zero_le v50
    have hk5 : k5 < 3 := by omega
    have hK2 := toHid (Kp.grown hK1.out hg5)
    have bR2 := toHid (box_other bR1.out (by omega) hg5)
    have bRH2 := toHid (box_other bRH1.out (by omega) hg5)
    have tb2 := toHid (box_other tb1.out (by have := tbg.out; have := hgl3.out; omega) hg5)
    have hz5 : Hid (w3.heap.size ≤ u5.heap.size) := Kp.size hK2.out
    clear hr5 hg5
    refine hK.out _ _ (hKT.out _ hK2.out) (fun hHeld => ?_)
    clear hK K
    refine tq (i := 5) (d := 20) ?_
    simp only [sz, ss]
    refine wpAnyH_ready (rs := [6, 7]) (by kernel_rfl) (by simp) ?_
    refine (AllReadyH.cons rfl (fun K hK => ?_) (AllReadyH.cons rfl (fun K hK => ?_) AllReadyH.nil))
    · obtain ⟨tg, c6, htg0⟩ := tabStored_pick tb2.out (i := k5) hk5
      have c6x : u5.cell? ⟨w3.heap.size, k5, none⟩ = some (.string tg) := c6
      have htg : Hid (tg.size ≤ maxLen) := by show _ ≤ _; unfold maxLen; omega
      go_simp
      clear c6 c6x htg0
      refine hK.out _ _ (hKT.out _ hK2.out) (fun hHeld => ?_)
      clear hK K
      refine wpAnyH_ready (rs := [7]) (by kernel_rfl) (by simp) ?_
      refine AllReadyH.cons rfl (fun K hK => ?_) AllReadyH.nil
      have n0 := bR2.out.cell 0 rfl
      have n1 := bR2.out.cell 1 rfl
      have nu := bR2.out.unfrozen
      go_simp
      have hK3 := toHid (Kp.put hK2.out (N := w.heap.size) (by omega) trivial (.slice p0 x.vSlots.length d0) (.slice p1 x.vFree.length d1))
      have bR3 := toHid ((Box.set (i := 0) bR2.out (.slice p0 x.vSlots.length d0)).set (i := 1) (.slice p1 x.vFree.length d1))
      have bRH3 := toHid ((Box.other bRH2.out (show w.heap.size + 1 ≠ w.heap.size by omega) (i := 0) (.slice p0 x.vSlots.length d0)).other (show w.heap.size + 1 ≠ w.heap.size by omega) (i := 1) (.slice p1 x.vFree.length d1))
      have tb3 := toHid ((Box.other tb2.out (show w3.heap.size ≠ w.heap.size by have := tbg.out; omega) (i := 0) (.slice p0 x.vSlots.length d0)).other (show w3.heap.size ≠ w.heap.size by have := tbg.out; omega) (i := 1) (.slice p1 x.vFree.length d1))
      clear n0 n1 nu
      refine hK.out _ _ (hKT.out _ hK3.out) (fun hHeld => ?_)
      clear hK K
      refine wpAnyH_ready (rs := [8]) (by kernel_rfl) (by simp) ?_
      refine AllReadyH.cons rfl (fun K hK => ?_) AllReadyH.nil
      have n0 := bRH3.out.cell 0 rfl
      have n1 := bRH3.out.cell 1 rfl
      have nu := bRH3.out.unfrozen
      go_simp
      have hK4 := toHid (Kp.put hK3.out (N := w.heap.size + 1) (by omega) trivial (.int .i64 hA) (.int .i64 hX))
      have bRH4 := toHid ((Box.set (i := 0) bRH3.out (.int .i64 hA)).set (i := 1) (.int .i64 hX))
      have bR4 := toHid ((Box.other bR3.out (show w.heap.size ≠ w.heap.size + 1 by omega) (i := 0) (.int .i64 hA)).other (show w.heap.size ≠ w.heap.size + 1 by omega) (i := 1) (.int .i64 hX))
      have tb4 := toHid ((Box.other tb3.out (show w3.heap.size ≠ w.heap.size + 1 by have := tbg.out; omega) (i := 0) (.int .i64 hA)).other (show w3.heap.size ≠ w.heap.size + 1 by have := tbg.out; omega) (i := 1) (.int .i64 hX))
      clear n0 n1 nu
      refine hK.out _ _ (hKT.out _ hK4.out) (fun hHeld => ?_)
      clear hK K
      refine tq (i := 9) (d := 4) ?_
      simp only [sz, ss]
      refine wpAnyH_done (by kernel_rfl) ?_ _
      clear hHeld
      have r0 := bR4.out.cell 0 rfl
      have r1 := bR4.out.cell 1 rfl
      have h0 := bRH4.out.cell 0 rfl
      have h1 := bRH4.out.cell 1 rfl
      go_wp2_with fail
      refine bodyPost_ret (v := .tuple #[.agg (List.toArray [.slice p0 x.vSlots.length d0, .slice p1 x.vFree.length d1]), .agg (List.toArray [.int .i64 hA, .int .i64 hX]), .string tg]) (by simp [results, Try.results21, go_sem, r0, r1, h0, h1]) rfl ⟨⟨_, _, x, _, _, _, rfl, OwA.mono (Kp.ow hK4.out ho3.out (fun b q => ⟨by omega, by omega, by omega⟩)) (fun b _ q => by omega), htg.out⟩, Kp.below hK4.out hB3.out (by omega) (by omega)⟩
    · have n0 := bR2.out.cell 0 rfl
      have n1 := bR2.out.cell 1 rfl
      have nu := bR2.out.unfrozen
      go_simp
      have hK3 := toHid (Kp.put hK2.out (N := w.heap.size) (by omega) trivial (.slice p0 x.vSlots.length d0) (.slice p1 x.vFree.length d1))
      have bR3 := toHid ((Box.set (i := 0) bR2.out (.slice p0 x.vSlots.length d0)).set (i := 1) (.slice p1 x.vFree.length d1))
      have bRH3 := toHid ((Box.other bRH2.out (show w.heap.size + 1 ≠ w.heap.size by omega) (i := 0) (.slice p0 x.vSlots.length d0)).other (show w.heap.size + 1 ≠ w.heap.size by omega) (i := 1) (.slice p1 x.vFree.length d1))
      have tb3 := toHid ((Box.other tb2.out (show w3.heap.size ≠ w.heap.size by have := tbg.out; omega) (i := 0) (.slice p0 x.vSlots.length d0)).other (show w3.heap.size ≠ w.heap.size by have := tbg.out; omega) (i := 1) (.slice p1 x.vFree.length d1))
      clear n0 n1 nu
      refine hK.out _ _ (hKT.out _ hK3.out) (fun hHeld => ?_)
      clear hK K
      refine wpAnyH_ready (rs := [6, 8]) (by kernel_rfl) (by simp) ?_
      refine (AllReadyH.cons rfl (fun K hK => ?_) (AllReadyH.cons rfl (fun K hK => ?_) AllReadyH.nil))
      · obtain ⟨tg, c6, htg0⟩ := tabStored_pick tb3.out (i := k5) hk5
        have c6x : ((World.setCell u5 ⟨w.heap.size, 0, none⟩ (.slice p0 x.vSlots.length d0)).setCell ⟨w.heap.size, 1, none⟩ (.slice p1 x.vFree.length d1)).cell? ⟨w3.heap.size, k5, none⟩ = some (.string tg) := c6
        have htg : Hid (tg.size ≤ maxLen) := by show _ ≤ _; unfold maxLen; omega
        go_simp
        clear c6 c6x htg0
        refine hK.out _ _ (hKT.out _ hK3.out) (fun hHeld => ?_)
        clear hK K
        refine wpAnyH_ready (rs := [8]) (by kernel_rfl) (by simp) ?_
        refine AllReadyH.cons rfl (fun K hK => ?_) AllReadyH.nil
        have n0 := bRH3.out.cell 0 rfl
        have n1 := bRH3.out.cell 1 rfl
        have nu := bRH3.out.unfrozen
        go_simp
        have hK4 := toHid (Kp.put hK3.out (N := w.heap.size + 1) (by omega) trivial (.int .i64 hA) (.int .i64 hX))
        have bRH4 := toHid ((Box.set (i := 0) bRH3.out (.int .i64 hA)).set (i := 1) (.int .i64 hX))
        have bR4 := toHid ((Box.other bR3.out (show w.heap.size ≠ w.heap.size + 1 by omega) (i := 0) (.int .i64 hA)).other (show w.heap.size ≠ w.heap.size + 1 by omega) (i := 1) (.int .i64 hX))
        have tb4 := toHid ((Box.other tb3.out (show w3.heap.size ≠ w.heap.size + 1 by have := tbg.out; omega) (i := 0) (.int .i64 hA)).other (show w3.heap.size ≠ w.heap.size + 1 by have := tbg.out; omega) (i := 1) (.int .i64 hX))
        clear n0 n1 nu
        refine hK.out _ _ (hKT.out _ hK4.out) (fun hHeld => ?_)
        clear hK K
        refine tq (i := 9) (d := 4) ?_
        simp only [sz, ss]
        refine wpAnyH_done (by kernel_rfl) ?_ _
        clear hHeld
        have r0 := bR4.out.cell 0 rfl
        have r1 := bR4.out.cell 1 rfl
        have h0 := bRH4.out.cell 0 rfl
        have h1 := bRH4.out.cell 1 rfl
        go_wp2_with fail
        refine bodyPost_ret (v := .tuple #[.agg (List.toArray [.slice p0 x.vSlots.length d0, .slice p1 x.vFree.length d1]), .agg (List.toArray [.int .i64 hA, .int .i64 hX]), .string tg]) (by simp [results, Try.results21, go_sem, r0, r1, h0, h1]) rfl ⟨⟨_, _, x, _, _, _, rfl, OwA.mono (Kp.ow hK4.out ho3.out (fun b q => ⟨by omega, by omega, by omega⟩)) (fun b _ q => by omega), htg.out⟩, Kp.below hK4.out hB3.out (by omega) (by omega)⟩
      · have n0 := bRH3.out.cell 0 rfl
        have n1 := bRH3.out.cell 1 rfl
        have nu := bRH3.out.unfrozen
        go_simp
        have hK4 := toHid (Kp.put hK3.out (N := w.heap.size + 1) (by omega) trivial (.int .i64 hA) (.int .i64 hX))
        have bRH4 := toHid ((Box.set (i := 0) bRH3.out (.int .i64 hA)).set (i := 1) (.int .i64 hX))
        have bR4 := toHid ((Box.other bR3.out (show w.heap.size ≠ w.heap.size + 1 by omega) (i := 0) (.int .i64 hA)).other (show w.heap.size ≠ w.heap.size + 1 by omega) (i := 1) (.int .i64 hX))
        have tb4 := toHid ((Box.other tb3.out (show w3.heap.size ≠ w.heap.size + 1 by have := tbg.out; omega) (i := 0) (.int .i64 hA)).other (show w3.heap.size ≠ w.heap.size + 1 by have := tbg.out; omega) (i := 1) (.int .i64 hX))
        clear n0 n1 nu
        refine hK.out _ _ (hKT.out _ hK4.out) (fun hHeld => ?_)
        clear hK K
        refine wpAnyH_ready (rs := [6]) (by kernel_rfl) (by simp) ?_
        refine AllReadyH.cons rfl (fun K hK => ?_) AllReadyH.nil
        obtain ⟨tg, c6, htg0⟩ := tabStored_pick tb4.out (i := k5) hk5
        have c6x : ((World.setCell ((World.setCell u5 ⟨w.heap.size, 0, none⟩ (.slice p0 x.vSlots.length d0)).setCell ⟨w.heap.size, 1, none⟩ (.slice p1 x.vFree.length d1)) ⟨w.heap.size + 1, 0, none⟩ (.int .i64 hA)).setCell ⟨w.heap.size + 1, 1, none⟩ (.int .i64 hX)).cell? ⟨w3.heap.size, k5, none⟩ = some (.string tg) := c6
        have htg : Hid (tg.size ≤ maxLen) := by show _ ≤ _; unfold maxLen; omega
        go_simp
        clear c6 c6x htg0
        refine hK.out _ _ (hKT.out _ hK4.out) (fun hHeld => ?_)
        clear hK K
        refine tq (i := 9) (d := 4) ?_
        simp only [sz, ss]
        refine wpAnyH_done (by kernel_rfl) ?_ _
        clear hHeld
        have r0 := bR4.out.cell 0 rfl
        have r1 := bR4.out.cell 1 rfl
        have h0 := bRH4.out.cell 0 rfl
        have h1 := bRH4.out.cell 1 rfl
        go_wp2_with fail
        refine bodyPost_ret (v := .tuple #[.agg (List.toArray [.slice p0 x.vSlots.length d0, .slice p1 x.vFree.length d1]), .agg (List.toArray [.int .i64 hA, .int .i64 hX]), .string tg]) (by simp [results, Try.results21, go_sem, r0, r1, h0, h1]) rfl ⟨⟨_, _, x, _, _, _, rfl, OwA.mono (Kp.ow hK4.out ho3.out (fun b q => ⟨by omega, by omega, by omega⟩)) (fun b _ q => by omega), htg.out⟩, Kp.below hK4.out hB3.out (by omega) (by omega)⟩
  · go_simp
    refine (below_any (by exact rd0.out) 3 (by omega) (by omega)).mono ?_
    rintro e u5 ⟨v5, rfl, v50, v51, hr5, hg5⟩
    obtain ⟨k5, rfl⟩ := Int.eq_ofNat_of_zero_le v50
    have hk5 : k5 < 3 := by omega
    have hK1 := toHid (Kp.grown hK0.out hg5)
    have bR1 := toHid (box_other bR0.out (by omega) hg5)
    have bRH1 := toHid (box_other bRH0.out (by omega) hg5)
    have hz5 : Hid (w3.heap.size ≤ u5.heap.size) := Kp.size hK1.out
    clear hr5 hg5
    refine hK.out _ _ (hKT.out _ hK1.out) (fun hHeld => ?_)
    clear hK K
    refine wpAnyH_ready (rs := [2, 7]) (by kernel_rfl) (by simp) ?_
    refine (AllReadyH.cons rfl (fun K hK => ?_) (AllReadyH.cons rfl (fun K hK => ?_) AllReadyH.nil))
    · go_simp
      have hK2 := toHid (Kp.alloc hK1.out (.cells (List.toArray [.string ⟨#[]⟩, .string ⟨#[110, 101, 119]⟩, .string ⟨#[10]⟩]) 9))
      have bR2 := toHid (Box.alloc bR1.out (.cells (List.toArray [.string ⟨#[]⟩, .string ⟨#[110, 101, 119]⟩, .string ⟨#[10]⟩]) 9))
      have bRH2 := toHid (Box.alloc bRH1.out (.cells (List.toArray [.string ⟨#[]⟩, .string ⟨#[110, 101, 119]⟩, .string ⟨#[10]⟩]) 9))
      have tb2 : Hid (Box (World.alloc u5 (.cells (List.toArray [.string ⟨#[]⟩, .string ⟨#[110, 101, 119]⟩, .string ⟨#[10]⟩]) 9)) (u5.heap.size) [.string ⟨#[]⟩, .string ⟨#[110, 101, 119]⟩, .string ⟨#[10]⟩] 9) := by have z := Box.new u5 [.string ⟨#[]⟩, .string ⟨#[110, 101, 119]⟩, .string ⟨#[10]⟩] 9; simpa [Hid] using z
      have tbg : Hid (w3.heap.size ≤ u5.heap.size) := hz5.out
      refine hK.out _ _ (hKT.out _ hK2.out) (fun hHeld => ?_)
      clear hK K
      refine tq (i := 5) (d := 20) ?_
      simp only [sz, ss]
      refine wpAnyH_ready (rs := [6, 7]) (by kernel_rfl) (by simp) ?_
      refine (AllReadyH.cons rfl (fun K hK => ?_) (AllReadyH.cons rfl (fun K hK => ?_) AllReadyH.nil))
      · obtain ⟨tg, c6, htg0⟩ := tabStored_pick tb2.out (i := k5) hk5
        have c6x : (World.alloc u5 (.cells (List.toArray [.string ⟨#[]⟩, .string ⟨#[110, 101, 119]⟩, .string ⟨#[10]⟩]) 9)).cell? ⟨u5.heap.size, k5, none⟩ = some (.string tg) := c6
        have htg : Hid (tg.size ≤ maxLen) := by show _ ≤ _; unfold maxLen; omega
        go_simp
        clear c6 c6x htg0
        refine hK.out _ _ (hKT.out _ hK2.out) (fun hHeld => ?_)
        clear hK K
        refine wpAnyH_ready (rs := [7]) (by kernel_rfl) (by simp) ?_
        refine AllReadyH.cons rfl (fun K hK => ?_) AllReadyH.nil
        have n0 := bR2.out.cell 0 rfl
        have n1 := bR2.out.cell 1 rfl
        have nu := bR2.out.unfrozen
        go_simp
        have hK3 := toHid (Kp.put hK2.out (N := w.heap.size) (by omega) trivial (.slice p0 x.vSlots.length d0) (.slice p1 x.vFree.length d1))
        have bR3 := toHid ((Box.set (i := 0) bR2.out (.slice p0 x.vSlots.length d0)).set (i := 1) (.slice p1 x.vFree.length d1))
        have bRH3 := toHid ((Box.other bRH2.out (show w.heap.size + 1 ≠ w.heap.size by omega) (i := 0) (.slice p0 x.vSlots.length d0)).other (show w.heap.size + 1 ≠ w.heap.size by omega) (i := 1) (.slice p1 x.vFree.length d1))
        have tb3 := toHid ((Box.other tb2.out (show u5.heap.size ≠ w.heap.size by have := tbg.out; omega) (i := 0) (.slice p0 x.vSlots.length d0)).other (show u5.heap.size ≠ w.heap.size by have := tbg.out; omega) (i := 1) (.slice p1 x.vFree.length d1))
        clear n0 n1 nu
        refine hK.out _ _ (hKT.out _ hK3.out) (fun hHeld => ?_)
        clear hK K
        refine wpAnyH_ready (rs := [8]) (by kernel_rfl) (by simp) ?_
        refine AllReadyH.cons rfl (fun K hK => ?_) AllReadyH.nil
        have n0 := bRH3.out.cell 0 rfl
        have n1 := bRH3.out.cell 1 rfl
        have nu := bRH3.out.unfrozen
        go_simp
        have hK4 := toHid (Kp.put hK3.out (N := w.heap.size + 1) (by omega) trivial (.int .i64 hA) (.int .i64 hX))
        have bRH4 := toHid ((Box.set (i := 0) bRH3.out (.int .i64 hA)).set (i := 1) (.int .i64 hX))
        have bR4 := toHid ((Box.other bR3.out (show w.heap.size ≠ w.heap.size + 1 by omega) (i := 0) (.int .i64 hA)).other (show w.heap.size ≠ w.heap.size + 1 by omega) (i := 1) (.int .i64 hX))
        have tb4 := toHid ((Box.other tb3.out (show u5.heap.size ≠ w.heap.size + 1 by have := tbg.out; omega) (i := 0) (.int .i64 hA)).other (show u5.heap.size ≠ w.heap.size + 1 by have := tbg.out; omega) (i := 1) (.int .i64 hX))
        clear n0 n1 nu
        refine hK.out _ _ (hKT.out _ hK4.out) (fun hHeld => ?_)
        clear hK K
        refine tq (i := 9) (d := 4) ?_
        simp only [sz, ss]
        refine wpAnyH_done (by kernel_rfl) ?_ _
        clear hHeld
        have r0 := bR4.out.cell 0 rfl
        have r1 := bR4.out.cell 1 rfl
        have h0 := bRH4.out.cell 0 rfl
        have h1 := bRH4.out.cell 1 rfl
        go_wp2_with fail
        refine bodyPost_ret (v := .tuple #[.agg (List.toArray [.slice p0 x.vSlots.length d0, .slice p1 x.vFree.length d1]), .agg (List.toArray [.int .i64 hA, .int .i64 hX]), .string tg]) (by simp [results, Try.results21, go_sem, r0, r1, h0, h1]) rfl ⟨⟨_, _, x, _, _, _, rfl, OwA.mono (Kp.ow hK4.out ho3.out (fun b q => ⟨by omega, by omega, by omega⟩)) (fun b _ q => by omega), htg.out⟩, Kp.below hK4.out hB3.out (by omega) (by omega)⟩
      · have n0 := bR2.out.cell 0 rfl
        have n1 := bR2.out.cell 1 rfl
        have nu := bR2.out.unfrozen
        go_simp
        have hK3 := toHid (Kp.put hK2.out (N := w.heap.size) (by omega) trivial (.slice p0 x.vSlots.length d0) (.slice p1 x.vFree.length d1))
        have bR3 := toHid ((Box.set (i := 0) bR2.out (.slice p0 x.vSlots.length d0)).set (i := 1) (.slice p1 x.vFree.length d1))
        have bRH3 := toHid ((Box.other bRH2.out (show w.heap.size + 1 ≠ w.heap.size by omega) (i := 0) (.slice p0 x.vSlots.length d0)).other (show w.heap.size + 1 ≠ w.heap.size by omega) (i := 1) (.slice p1 x.vFree.length d1))
        have tb3 := toHid ((Box.other tb2.out (show u5.heap.size ≠ w.heap.size by have := tbg.out; omega) (i := 0) (.slice p0 x.vSlots.length d0)).other (show u5.heap.size ≠ w.heap.size by have := tbg.out; omega) (i := 1) (.slice p1 x.vFree.length d1))
        clear n0 n1 nu
        refine hK.out _ _ (hKT.out _ hK3.out) (fun hHeld => ?_)
        clear hK K
        refine wpAnyH_ready (rs := [6, 8]) (by kernel_rfl) (by simp) ?_
        refine (AllReadyH.cons rfl (fun K hK => ?_) (AllReadyH.cons rfl (fun K hK => ?_) AllReadyH.nil))
        · obtain ⟨tg, c6, htg0⟩ := tabStored_pick tb3.out (i := k5) hk5
          have c6x : ((World.setCell (World.alloc u5 (.cells (List.toArray [.string ⟨#[]⟩, .string ⟨#[110, 101, 119]⟩, .string ⟨#[10]⟩]) 9)) ⟨w.heap.size, 0, none⟩ (.slice p0 x.vSlots.length d0)).setCell ⟨w.heap.size, 1, none⟩ (.slice p1 x.vFree.length d1)).cell? ⟨u5.heap.size, k5, none⟩ = some (.string tg) := c6
          have htg : Hid (tg.size ≤ maxLen) := by show _ ≤ _; unfold maxLen; omega
          go_simp
          clear c6 c6x htg0
          refine hK.out _ _ (hKT.out _ hK3.out) (fun hHeld => ?_)
          clear hK K
          refine wpAnyH_ready (rs := [8]) (by kernel_rfl) (by simp) ?_
          refine AllReadyH.cons rfl (fun K hK => ?_) AllReadyH.nil
          have n0 := bRH3.out.cell 0 rfl
          have n1 := bRH3.out.cell 1 rfl
          have nu := bRH3.out.unfrozen
          go_simp
          have hK4 := toHid (Kp.put hK3.out (N := w.heap.size + 1) (by omega) trivial (.int .i64 hA) (.int .i64 hX))
          have bRH4 := toHid ((Box.set (i := 0) bRH3.out (.int .i64 hA)).set (i := 1) (.int .i64 hX))
          have bR4 := toHid ((Box.other bR3.out (show w.heap.size ≠ w.heap.size + 1 by omega) (i := 0) (.int .i64 hA)).other (show w.heap.size ≠ w.heap.size + 1 by omega) (i := 1) (.int .i64 hX))
          have tb4 := toHid ((Box.other tb3.out (show u5.heap.size ≠ w.heap.size + 1 by have := tbg.out; omega) (i := 0) (.int .i64 hA)).other (show u5.heap.size ≠ w.heap.size + 1 by have := tbg.out; omega) (i := 1) (.int .i64 hX))
          clear n0 n1 nu
          refine hK.out _ _ (hKT.out _ hK4.out) (fun hHeld => ?_)
          clear hK K
          refine tq (i := 9) (d := 4) ?_
          simp only [sz, ss]
          refine wpAnyH_done (by kernel_rfl) ?_ _
          clear hHeld
          have r0 := bR4.out.cell 0 rfl
          have r1 := bR4.out.cell 1 rfl
          have h0 := bRH4.out.cell 0 rfl
          have h1 := bRH4.out.cell 1 rfl
          go_wp2_with fail
          refine bodyPost_ret (v := .tuple #[.agg (List.toArray [.slice p0 x.vSlots.length d0, .slice p1 x.vFree.length d1]), .agg (List.toArray [.int .i64 hA, .int .i64 hX]), .string tg]) (by simp [results, Try.results21, go_sem, r0, r1, h0, h1]) rfl ⟨⟨_, _, x, _, _, _, rfl, OwA.mono (Kp.ow hK4.out ho3.out (fun b q => ⟨by omega, by omega, by omega⟩)) (fun b _ q => by omega), htg.out⟩, Kp.below hK4.out hB3.out (by omega) (by omega)⟩
        · have n0 := bRH3.out.cell 0 rfl
          have n1 := bRH3.out.cell 1 rfl
          have nu := bRH3.out.unfrozen
          go_simp
          have hK4 := toHid (Kp.put hK3.out (N := w.heap.size + 1) (by omega) trivial (.int .i64 hA) (.int .i64 hX))
          have bRH4 := toHid ((Box.set (i := 0) bRH3.out (.int .i64 hA)).set (i := 1) (.int .i64 hX))
          have bR4 := toHid ((Box.other bR3.out (show w.heap.size ≠ w.heap.size + 1 by omega) (i := 0) (.int .i64 hA)).other (show w.heap.size ≠ w.heap.size + 1 by omega) (i := 1) (.int .i64 hX))
          have tb4 := toHid ((Box.other tb3.out (show u5.heap.size ≠ w.heap.size + 1 by have := tbg.out; omega) (i := 0) (.int .i64 hA)).other (show u5.heap.size ≠ w.heap.size + 1 by have := tbg.out; omega) (i := 1) (.int .i64 hX))
          clear n0 n1 nu
          refine hK.out _ _ (hKT.out _ hK4.out) (fun hHeld => ?_)
          clear hK K
          refine wpAnyH_ready (rs := [6]) (by kernel_rfl) (by simp) ?_
          refine AllReadyH.cons rfl (fun K hK => ?_) AllReadyH.nil
          obtain ⟨tg, c6, htg0⟩ := tabStored_pick tb4.out (i := k5) hk5
          have c6x : ((World.setCell ((World.setCell (World.alloc u5 (.cells (List.toArray [.string ⟨#[]⟩, .string ⟨#[110, 101, 119]⟩, .string ⟨#[10]⟩]) 9)) ⟨w.heap.size, 0, none⟩ (.slice p0 x.vSlots.length d0)).setCell ⟨w.heap.size, 1, none⟩ (.slice p1 x.vFree.length d1)) ⟨w.heap.size + 1, 0, none⟩ (.int .i64 hA)).setCell ⟨w.heap.size + 1, 1, none⟩ (.int .i64 hX)).cell? ⟨u5.heap.size, k5, none⟩ = some (.string tg) := c6
          have htg : Hid (tg.size ≤ maxLen) := by show _ ≤ _; unfold maxLen; omega
          go_simp
          clear c6 c6x htg0
          refine hK.out _ _ (hKT.out _ hK4.out) (fun hHeld => ?_)
          clear hK K
          refine tq (i := 9) (d := 4) ?_
          simp only [sz, ss]
          refine wpAnyH_done (by kernel_rfl) ?_ _
          clear hHeld
          have r0 := bR4.out.cell 0 rfl
          have r1 := bR4.out.cell 1 rfl
          have h0 := bRH4.out.cell 0 rfl
          have h1 := bRH4.out.cell 1 rfl
          go_wp2_with fail
          refine bodyPost_ret (v := .tuple #[.agg (List.toArray [.slice p0 x.vSlots.length d0, .slice p1 x.vFree.length d1]), .agg (List.toArray [.int .i64 hA, .int .i64 hX]), .string tg]) (by simp [results, Try.results21, go_sem, r0, r1, h0, h1]) rfl ⟨⟨_, _, x, _, _, _, rfl, OwA.mono (Kp.ow hK4.out ho3.out (fun b q => ⟨by omega, by omega, by omega⟩)) (fun b _ q => by omega), htg.out⟩, Kp.below hK4.out hB3.out (by omega) (by omega)⟩
    · have n0 := bR1.out.cell 0 rfl
      have n1 := bR1.out.cell 1 rfl
      have nu := bR1.out.unfrozen
      go_simp
      have hK2 := toHid (Kp.put hK1.out (N := w.heap.size) (by omega) trivial (.slice p0 x.vSlots.length d0) (.slice p1 x.vFree.length d1))
      have bR2 := toHid ((Box.set (i := 0) bR1.out (.slice p0 x.vSlots.length d0)).set (i := 1) (.slice p1 x.vFree.length d1))
      have bRH2 := toHid ((Box.other bRH1.out (show w.heap.size + 1 ≠ w.heap.size by omega) (i := 0) (.slice p0 x.vSlots.length d0)).other (show w.heap.size + 1 ≠ w.heap.size by omega) (i := 1) (.slice p1 x.vFree.length d1))
      clear n0 n1 nu
      refine hK.out _ _ (hKT.out _ hK2.out) (fun hHeld => ?_)
      clear hK K
      refine wpAnyH_ready (rs := [2, 8]) (by kernel_rfl) (by simp) ?_
      refine (AllReadyH.cons rfl (fun K hK => ?_) (AllReadyH.cons rfl (fun K hK => ?_) AllReadyH.nil))
      · go_simp
        have hK3 := toHid (Kp.alloc hK2.out (.cells (List.toArray [.string ⟨#[]⟩, .string ⟨#[110, 101, 119]⟩, .string ⟨#[10]⟩]) 9))
        have bR3 := toHid (Box.alloc bR2.out (.cells (List.toArray [.string ⟨#[]⟩, .string ⟨#[110, 101, 119]⟩, .string ⟨#[10]⟩]) 9))
        have bRH3 := toHid (Box.alloc bRH2.out (.cells (List.toArray [.string ⟨#[]⟩, .string ⟨#[110, 101, 119]⟩, .string ⟨#[10]⟩]) 9))
        have tb3 : Hid (Box (World.alloc ((World.setCell u5 ⟨w.heap.size, 0, none⟩ (.slice p0 x.vSlots.length d0)).setCell ⟨w.heap.size, 1, none⟩ (.slice p1 x.vFree.length d1)) (.cells (List.toArray [.string ⟨#[]⟩, .string ⟨#[110, 101, 119]⟩, .string ⟨#[10]⟩]) 9)) (u5.heap.size) [.string ⟨#[]⟩, .string ⟨#[110, 101, 119]⟩, .string ⟨#[10]⟩] 9) := by have z := Box.new ((World.setCell u5 ⟨w.heap.size, 0, none⟩ (.slice p0 x.vSlots.length d0)).setCell ⟨w.heap.size, 1, none⟩ (.slice p1 x.vFree.length d1)) [.string ⟨#[]⟩, .string ⟨#[110, 101, 119]⟩, .string ⟨#[10]⟩] 9; simpa [Hid] using z
        have tbg : Hid (w3.heap.size ≤ u5.heap.size) := hz5.out
        refine hK.out _ _ (hKT.out _ hK3.out) (fun hHeld => ?_)
        clear hK K
        refine tq (i := 5) (d := 20) ?_
        simp only [sz, ss]
        refine wpAnyH_ready (rs := [6, 8]) (by kernel_rfl) (by simp) ?_
        refine (AllReadyH.cons rfl (fun K hK => ?_) (AllReadyH.cons rfl (fun K hK => ?_) AllReadyH.nil))
        · obtain ⟨tg, c6, htg0⟩ := tabStored_pick tb3.out (i := k5) hk5
          have c6x : (World.alloc ((World.setCell u5 ⟨w.heap.size, 0, none⟩ (.slice p0 x.vSlots.length d0)).setCell ⟨w.heap.size, 1, none⟩ (.slice p1 x.vFree.length d1)) (.cells (List.toArray [.string ⟨#[]⟩, .string ⟨#[110, 101, 119]⟩, .string ⟨#[10]⟩]) 9)).cell? ⟨u5.heap.size, k5, none⟩ = some (.string tg) := c6
          have htg : Hid (tg.size ≤ maxLen) := by show _ ≤ _; unfold maxLen; omega
          go_simp
          clear c6 c6x htg0
          refine hK.out _ _ (hKT.out _ hK3.out) (fun hHeld => ?_)
          clear hK K
          refine wpAnyH_ready (rs := [8]) (by kernel_rfl) (by simp) ?_
          refine AllReadyH.cons rfl (fun K hK => ?_) AllReadyH.nil
          have n0 := bRH3.out.cell 0 rfl
          have n1 := bRH3.out.cell 1 rfl
          have nu := bRH3.out.unfrozen
          go_simp
          have hK4 := toHid (Kp.put hK3.out (N := w.heap.size + 1) (by omega) trivial (.int .i64 hA) (.int .i64 hX))
          have bRH4 := toHid ((Box.set (i := 0) bRH3.out (.int .i64 hA)).set (i := 1) (.int .i64 hX))
          have bR4 := toHid ((Box.other bR3.out (show w.heap.size ≠ w.heap.size + 1 by omega) (i := 0) (.int .i64 hA)).other (show w.heap.size ≠ w.heap.size + 1 by omega) (i := 1) (.int .i64 hX))
          have tb4 := toHid ((Box.other tb3.out (show u5.heap.size ≠ w.heap.size + 1 by have := tbg.out; omega) (i := 0) (.int .i64 hA)).other (show u5.heap.size ≠ w.heap.size + 1 by have := tbg.out; omega) (i := 1) (.int .i64 hX))
          clear n0 n1 nu
          refine hK.out _ _ (hKT.out _ hK4.out) (fun hHeld => ?_)
          clear hK K
          refine tq (i := 9) (d := 4) ?_
          simp only [sz, ss]
          refine wpAnyH_done (by kernel_rfl) ?_ _
          clear hHeld
          have r0 := bR4.out.cell 0 rfl
          have r1 := bR4.out.cell 1 rfl
          have h0 := bRH4.out.cell 0 rfl
          have h1 := bRH4.out.cell 1 rfl
          go_wp2_with fail
          refine bodyPost_ret (v := .tuple #[.agg (List.toArray [.slice p0 x.vSlots.length d0, .slice p1 x.vFree.length d1]), .agg (List.toArray [.int .i64 hA, .int .i64 hX]), .string tg]) (by simp [results, Try.results21, go_sem, r0, r1, h0, h1]) rfl ⟨⟨_, _, x, _, _, _, rfl, OwA.mono (Kp.ow hK4.out ho3.out (fun b q => ⟨by omega, by omega, by omega⟩)) (fun b _ q => by omega), htg.out⟩, Kp.below hK4.out hB3.out (by omega) (by omega)⟩
        · have n0 := bRH3.out.cell 0 rfl
          have n1 := bRH3.out.cell 1 rfl
          have nu := bRH3.out.unfrozen
          go_simp
          have hK4 := toHid (Kp.put hK3.out (N := w.heap.size + 1) (by omega) trivial (.int .i64 hA) (.int .i64 hX))
          have bRH4 := toHid ((Box.set (i := 0) bRH3.out (.int .i64 hA)).set (i := 1) (.int .i64 hX))
          have bR4 := toHid ((Box.other bR3.out (show w.heap.size ≠ w.heap.size + 1 by omega) (i := 0) (.int .i64 hA)).other (show w.heap.size ≠ w.heap.size + 1 by omega) (i := 1) (.int .i64 hX))
          have tb4 := toHid ((Box.other tb3.out (show u5.heap.size ≠ w.heap.size + 1 by have := tbg.out; omega) (i := 0) (.int .i64 hA)).other (show u5.heap.size ≠ w.heap.size + 1 by have := tbg.out; omega) (i := 1) (.int .i64 hX))
          clear n0 n1 nu
          refine hK.out _ _ (hKT.out _ hK4.out) (fun hHeld => ?_)
          clear hK K
          refine wpAnyH_ready (rs := [6]) (by kernel_rfl) (by simp) ?_
          refine AllReadyH.cons rfl (fun K hK => ?_) AllReadyH.nil
          obtain ⟨tg, c6, htg0⟩ := tabStored_pick tb4.out (i := k5) hk5
          have c6x : ((World.setCell (World.alloc ((World.setCell u5 ⟨w.heap.size, 0, none⟩ (.slice p0 x.vSlots.length d0)).setCell ⟨w.heap.size, 1, none⟩ (.slice p1 x.vFree.length d1)) (.cells (List.toArray [.string ⟨#[]⟩, .string ⟨#[110, 101, 119]⟩, .string ⟨#[10]⟩]) 9)) ⟨w.heap.size + 1, 0, none⟩ (.int .i64 hA)).setCell ⟨w.heap.size + 1, 1, none⟩ (.int .i64 hX)).cell? ⟨u5.heap.size, k5, none⟩ = some (.string tg) := c6
          have htg : Hid (tg.size ≤ maxLen) := by show _ ≤ _; unfold maxLen; omega
          go_simp
          clear c6 c6x htg0
          refine hK.out _ _ (hKT.out _ hK4.out) (fun hHeld => ?_)
          clear hK K
          refine tq (i := 9) (d := 4) ?_
          simp only [sz, ss]
          refine wpAnyH_done (by kernel_rfl) ?_ _
          clear hHeld
          have r0 := bR4.out.cell 0 rfl
          have r1 := bR4.out.cell 1 rfl
          have h0 := bRH4.out.cell 0 rfl
          have h1 := bRH4.out.cell 1 rfl
          go_wp2_with fail
          refine bodyPost_ret (v := .tuple #[.agg (List.toArray [.slice p0 x.vSlots.length d0, .slice p1 x.vFree.length d1]), .agg (List.toArray [.int .i64 hA, .int .i64 hX]), .string tg]) (by simp [results, Try.results21, go_sem, r0, r1, h0, h1]) rfl ⟨⟨_, _, x, _, _, _, rfl, OwA.mono (Kp.ow hK4.out ho3.out (fun b q => ⟨by omega, by omega, by omega⟩)) (fun b _ q => by omega), htg.out⟩, Kp.below hK4.out hB3.out (by omega) (by omega)⟩
      · have n0 := bRH2.out.cell 0 rfl
        have n1 := bRH2.out.cell 1 rfl
        have nu := bRH2.out.unfrozen
        go_simp
        have hK3 := toHid (Kp.put hK2.out (N := w.heap.size + 1) (by omega) trivial (.int .i64 hA) (.int .i64 hX))
        have bRH3 := toHid ((Box.set (i := 0) bRH2.out (.int .i64 hA)).set (i := 1) (.int .i64 hX))
        have bR3 := toHid ((Box.other bR2.out (show w.heap.size ≠ w.heap.size + 1 by omega) (i := 0) (.int .i64 hA)).other (show w.heap.size ≠ w.heap.size + 1 by omega) (i := 1) (.int .i64 hX))
        clear n0 n1 nu
        refine hK.out _ _ (hKT.out _ hK3.out) (fun hHeld => ?_)
        clear hK K
        refine wpAnyH_ready (rs := [2]) (by kernel_rfl) (by simp) ?_
        refine AllReadyH.cons rfl (fun K hK => ?_) AllReadyH.nil
        go_simp
        have hK4 := toHid (Kp.alloc hK3.out (.cells (List.toArray [.string ⟨#[]⟩, .string ⟨#[110, 101, 119]⟩, .string ⟨#[10]⟩]) 9))
        have bR4 := toHid (Box.alloc bR3.out (.cells (List.toArray [.string ⟨#[]⟩, .string ⟨#[110, 101, 119]⟩, .string ⟨#[10]⟩]) 9))
        have bRH4 := toHid (Box.alloc bRH3.out (.cells (List.toArray [.string ⟨#[]⟩, .string ⟨#[110, 101, 119]⟩, .string ⟨#[10]⟩]) 9))
        have tb4 : Hid (Box (World.alloc ((World.setCell ((World.setCell u5 ⟨w.heap.size, 0, none⟩ (.slice p0 x.vSlots.length d0)).setCell ⟨w.heap.size, 1, none⟩ (.slice p1 x.vFree.length d1)) ⟨w.heap.size + 1, 0, none⟩ (.int .i64 hA)).setCell ⟨w.heap.size + 1, 1, none⟩ (.int .i64 hX)) (.cells (List.toArray [.string ⟨#[]⟩, .string ⟨#[110, 101, 119]⟩, .string ⟨#[10]⟩]) 9)) (u5.heap.size) [.string ⟨#[]⟩, .string ⟨#[110, 101, 119]⟩, .string ⟨#[10]⟩] 9) := by have z := Box.new ((World.setCell ((World.setCell u5 ⟨w.heap.size, 0, none⟩ (.slice p0 x.vSlots.length d0)).setCell ⟨w.heap.size, 1, none⟩ (.slice p1 x.vFree.length d1)) ⟨w.heap.size + 1, 0, none⟩ (.int .i64 hA)).setCell ⟨w.heap.size + 1, 1, none⟩ (.int .i64 hX)) [.string ⟨#[]⟩, .string ⟨#[110, 101, 119]⟩, .string ⟨#[10]⟩] 9; simpa [Hid] using z
        have tbg : Hid (w3.heap.size ≤ u5.heap.size) := hz5.out
        refine hK.out _ _ (hKT.out _ hK4.out) (fun hHeld => ?_)
        clear hK K
        refine tq (i := 5) (d := 20) ?_
        simp only [sz, ss]
        refine wpAnyH_ready (rs := [6]) (by kernel_rfl) (by simp) ?_
        refine AllReadyH.cons rfl (fun K hK => ?_) AllReadyH.nil
        obtain ⟨tg, c6, htg0⟩ := tabStored_pick tb4.out (i := k5) hk5
        have c6x : (World.alloc ((World.setCell ((World.setCell u5 ⟨w.heap.size, 0, none⟩ (.slice p0 x.vSlots.length d0)).setCell ⟨w.heap.size, 1, none⟩ (.slice p1 x.vFree.length d1)) ⟨w.heap.size + 1, 0, none⟩ (.int .i64 hA)).setCell ⟨w.heap.size + 1, 1, none⟩ (.int .i64 hX)) (.cells (List.toArray [.string ⟨#[]⟩, .string ⟨#[110, 101, 119]⟩, .string ⟨#[10]⟩]) 9)).cell? ⟨u5.heap.size, k5, none⟩ = some (.string tg) := c6
        have htg : Hid (tg.size ≤ maxLen) := by show _ ≤ _; unfold maxLen; omega
        go_simp
        clear c6 c6x htg0
        refine hK.out _ _ (hKT.out _ hK4.out) (fun hHeld => ?_)
        clear hK K
        refine tq (i := 9) (d := 4) ?_
        simp only [sz, ss]
        refine wpAnyH_done (by kernel_rfl) ?_ _
        clear hHeld
        have r0 := bR4.out.cell 0 rfl
        have r1 := bR4.out.cell 1 rfl
        have h0 := bRH4.out.cell 0 rfl
        have h1 := bRH4.out.cell 1 rfl
        go_wp2_with fail
        refine bodyPost_ret (v := .tuple #[.agg (List.toArray [.slice p0 x.vSlots.length d0, .slice p1 x.vFree.length d1]), .agg (List.toArray [.int .i64 hA, .int .i64 hX]), .string tg]) (by simp [results, Try.results21, go_sem, r0, r1, h0, h1]) rfl ⟨⟨_, _, x, _, _, _, rfl, OwA.mono (Kp.ow hK4.out ho3.out (fun b q => ⟨by omega, by omega, by omega⟩)) (fun b _ q => by omega), htg.out⟩, Kp.below hK4.out hB3.out (by omega) (by omega)⟩
end Go.Proofs.Ytcbomaflfjdmjaa
