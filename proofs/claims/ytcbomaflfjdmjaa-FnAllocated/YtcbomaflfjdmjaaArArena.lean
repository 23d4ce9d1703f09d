/- The arena of a pool: arena of the program, walked; its answer owns its memory. -/
import Derived.Test.YtcbomaflfjdmjaaArNew
import Derived.Test.YtcbomaflfjdmjaaArRightTwo
namespace Go.Proofs.Ytcbomaflfjdmjaa
open Go.RowKit
theorem cell_grown {w w' : World} {b i : Nat} {v : Value} {r : Option Nat} (h : w.cell? ⟨b, i, none⟩ = some v) (hg : w.grownBy w' r) (hne : r ≠ some b) : w'.cell? ⟨b, i, none⟩ = some v := by
  rw [World.cell?_of_block (w := w) (w' := w') (hg.block b (World.block_lt_of_cell? _ _ h) (fun e => hne e.symm))]; exact h
theorem cell_alloc {w : World} {b i : Nat} {v : Value} (h : w.cell? ⟨b, i, none⟩ = some v) (o : Obj) : (w.alloc o).cell? ⟨b, i, none⟩ = some v := by
  rw [World.cell?_of_block (w := w) (w' := w.alloc o) (Below.heap_alloc _ _ _ (World.block_lt_of_cell? _ _ h))]; exact h
theorem cell_set {w : World} {b i T f : Nat} {v : Value} (h : w.cell? ⟨b, i, none⟩ = some v) (hne : b ≠ T) (u : Value) : (w.setCell ⟨T, f, none⟩ u).cell? ⟨b, i, none⟩ = some v := by
  rw [World.cell?_of_block (w := w) (set_other hne _)]; exact h
/-- one slot of a pool, and how the pool stands when it alone has turned -/
theorem PoolAt.step {w : World} {lo g : Nat} {xs : List SlotD} {fr : List Int} {k fk : Value} {fs ffs : List Nat} (h : PoolAt w lo g xs fr k fk fs ffs) {j : Nat} (hj : j < xs.length) :
    ∃ b off cap q, k = .slice (some ⟨b, off, none⟩) xs.length cap ∧ w.cell? ⟨b, off + j, none⟩ = some (.pointer (some ⟨q, 0, none⟩)) ∧ Box w q (slotC xs[j]) 63 ∧ (InI xs[j].vGen ∧ xs[j].vData.size ≤ maxLen) ∧ (q ∈ fs ∧ q < w.heap.size ∧ lo ≤ q) ∧
      ∀ (w' : World) (y : SlotD), Out [q] w w' → Box w' q (slotC y) 63 → InI y.vGen → y.vData.size ≤ maxLen → PoolAt w' lo g (xs.set j y) fr k fk fs ffs := by
  obtain ⟨h1, h2, hS, h4, h5, h6, h7, h8, h9⟩ := h
  have hS0 := hS
  obtain ⟨a, cap, rfl, hm, _⟩ := hS
  obtain ⟨b, off, C, T, cs, fj, rfl, hrow, hcl, ⟨m1, m2, m3, m4⟩, hr, hclose⟩ := SeqOwn.step pslot_stays pslot_lt hS0 hj
  obtain ⟨q, rfl, hB, r1, r2, rfl⟩ := hr
  have z := hrow.cell 0 rfl
  simp only [Nat.mul_one, Nat.add_zero] at z
  have hq : q ∈ fs := m3 q (by simp)
  have hbq : b ≠ q := fun e => m2 (by simp [e])
  refine ⟨b, off, cap, q, rfl, z, hB, ⟨r1, r2⟩, ⟨hq, hB.lt, h5 q hq⟩, fun w' y ho hB' y1 y2 => ?_⟩
  have keep : ∀ c, c < w.heap.size → c ≠ q → w'.heap[c]? = w.heap[c]? := fun c q1 q2 => ho.keep q1 (by simpa using q2)
  refine ⟨(keep g h1.lt (fun e => h7 (e ▸ hq))).trans h1, h2, ?_, h4.stays intOwn_stays (fun c r => keep c (h4.lt intOwn_lt c r) (fun e => h9 q hq (e ▸ r))), h5, h6, h7, h8, h9⟩
  refine hclose w' [.pointer (some ⟨q, 0, none⟩)] y rfl (hrow.keep (keep b hrow.lt hbq)) (ho.mono (fun c r => List.mem_cons_of_mem _ r)) ⟨q, rfl, hB', y1, y2, rfl⟩
set_option maxRecDepth 100000 in
set_option maxHeartbeats 3000000 in
theorem arena_any {w : World} {lo g : Nat} {xs : List SlotD} {fr : List Int} {k fk : Value} {fs ffs : List Nat} (h : PoolAt w lo g xs fr k fk fs ffs) (hl : xs.length ≤ 12) (hf : fr.length ≤ 13) :
    Calls Try.prog 31 #[.pointer (some ⟨g, 0, none⟩)] w fun e w' => (∃ cs, e = .returned (.agg cs.toArray) ∧ AnsA w w' cs ⟨xs, fr⟩) ∧ Below w.heap.size w w' := by
  have h' : Hid (PoolAt w lo g xs fr k fk fs ffs) := h
  obtain ⟨⟨a, cap, rfl⟩, a1, cap1, rfl⟩ := h.form
  have hb0 : Below w.heap.size w (w.alloc (.cells (List.toArray [.slice none 0 0, .slice none 0 0]) 27)) := (Below.refl _ _).alloc (Nat.le_refl _) _
  have hP0 := h.below hb0
  have hgl : g < w.heap.size := h.1.lt
  have y0 := hP0.1.cell 0 rfl
  have y1 := hP0.1.cell 1 rfl
  have bxr0 : Hid (Box (w.alloc (.cells (List.toArray [.slice none 0 0, .slice none 0 0]) 27)) w.heap.size [.slice none 0 0, .slice none 0 0] 27) := Box.new w _ _
  have hF : Hid (SeqAt 1 IntAt (w.alloc (.cells (List.toArray [.slice none 0 0, .slice none 0 0]) 27)) 0 (.slice a1 fr.length cap1) fr) := hP0.2.2.2.1.at intOwn_at (fun _ _ => Nat.zero_le _)
  obtain ⟨iS, hS0, hS1, hS2, hS3⟩ := infoS2
  have hiS : Hid (Try.prog.info? 63 = some iS) := hS0
  have heS : Hid (iS.zero = some (.agg #[.int .i64 0, .bool false, .string ⟨#[]⟩]) ∧ iS.size = 3 ∧ iS.bytes = 32) := ⟨hS1, hS2, hS3⟩
  clear hS0 hS1 hS2 hS3 h hP0
  go_enter Try.func31, Try.ntmps31
  go_wp2_with fail
  refine (listCopyI_any hF.out (by omega)).mono ?_
  rintro e w1 ⟨⟨fk, rfl, ffs', hFo, hFn, hFl⟩, hb1⟩
  obtain ⟨af, cf, rfl⟩ := hFo.form
  have hB1 : Below w.heap.size w w1 := hb0.trans (hb1.mono hb0.size)
  have bxr1 : Hid (Box w1 w.heap.size [.slice none 0 0, .slice none 0 0] 27) := bxr0.out.below hb1 bxr0.out.lt
  have hz1 : w.heap.size < w1.heap.size := bxr1.out.lt
  have hP1 := h'.out.below hB1
  have yy0 := hP1.1.cell 0 rfl
  have hFo' : Hid (SeqOwn 1 IntOwn w1 (.slice af fr.length cf) fr ffs') := hFo
  have hFl' : Hid (∀ b ∈ ffs', w.heap.size ≤ b ∧ b < w1.heap.size) := fun b q => ⟨by have := hFl b q; simp at this; omega, hFo.lt intOwn_lt b q⟩
  have hw0 : Hid (∀ b ∈ ffs', b ≠ w.heap.size) := fun b q e => by have := hFl b q; simp at this; omega
  clear hFo hFl hP1 y0 y1 hF bxr0 hb1
  have bxa1 : Hid (Box (w1.alloc (.cells (List.toArray [.slice none 0 0, .slice af fr.length cf]) 27)) w1.heap.size [.slice none 0 0, .slice af fr.length cf] 27) := Box.new w1 _ _
  have hba1 : Below w1.heap.size w1 (w1.alloc (.cells (List.toArray [.slice none 0 0, .slice af fr.length cf]) 27)) := (Below.refl _ _).alloc (Nat.le_refl _) _
  have yy2 := (h'.out.below (hB1.trans (hba1.mono hB1.size))).1.cell 0 rfl
  clear yy0
  go_wp2_with fail
  go_loopw [17] (fun i wr => ∃ (j : Nat) (v : Value) (bss : List (List Nat)) (css : List (List Value)), j ≤ xs.length ∧ i = .int .i64 j ∧ Below w1.heap.size w1 wr ∧ Hid (Box wr w1.heap.size [v, .slice af fr.length cf] 27) ∧ Hid (GrowOwn 63 3 SlotOwn (w1.heap.size + 1) wr v (xs.take j) bss css) ∧ Hid (bss.flatten = [])) (fun i _ => xs.length - (intOf i).toNat)
  case atStart => exact ⟨0, _, _, _, by omega, rfl, hba1, bxa1, GrowOwn.nil, rfl⟩
  case round =>
    obtain ⟨j, v, bss, css, hj, rfl, hb1, bx, hgr, hfl⟩ := hrel
    have hlt1 : w1.heap.size < wr.heap.size := bx.out.lt
    have hBr : Below w.heap.size w wr := hB1.trans (hb1.mono hB1.size)
    by_cases hlt : j < xs.length
    · obtain ⟨b, off, cap', p, e, z00, hBp0, ⟨rG, rD⟩, ⟨_, hplt, _⟩, _⟩ := h'.out.step hlt
      injection e with e1 _ e3
      subst e1 e3
      have z0 := (World.cell?_of_block (w := w) (w' := wr) (hBr.block _ (World.block_lt_of_cell? _ _ z00))).trans z00
      have hBp := hBp0.below hBr hplt
      clear z00 hBp0
      have hlt2 : (xs.take j).length = j := by simp; omega
      obtain ⟨av, cv, rfl⟩ : ∃ a cap, v = .slice a j cap := by obtain ⟨a, cap, e⟩ := hgr.out.len; rw [hlt2] at e; exact ⟨a, cap, e⟩
      have hl2 : Hid ((xs.take j).length + 1 = j + 1) := by show _ = _; omega
      have htk : Hid (xs.take (j + 1) = xs.take j ++ [xs[j]]) := List.take_succ_eq_append_getElem hlt
      generalize xs[j] = X at hBp rG rD htk
      have hrG : Hid (InI X.vGen) := rG
      have hrD : Hid (X.vData.size ≤ maxLen) := rD
      have z3 := hBp.cell 0 rfl
      have z4 := hBp.cell 1 rfl
      have z5 := hBp.cell 2 rfl
      try dsimp only [slotC] at z3 z4 z5
      clear hBp rG rD
      obtain ⟨G, U, D⟩ := X
      have hgrD : Hid (GrowOwn 63 3 SlotOwn (w1.heap.size + 1) wr.drew (.slice av j cv) (xs.take j) bss css) := hgr.out.below SlotOwn_stays (Below.refl _ _).drew
      have bTd : Hid (Box wr.drew w1.heap.size [.slice av j cv, .slice af fr.length cf] 27) := bx.out
      have hbWB : Below wr.drew.heap.size wr.drew (wr.drew.alloc (.cells #[.int .i64 G, .bool U, .string D] 63)) := (Below.refl _ _).alloc (Nat.le_refl _) _
      have nbB : Hid (Box (wr.drew.alloc (.cells #[.int .i64 G, .bool U, .string D] 63)) wr.heap.size [.int .i64 G, .bool U, .string D] 63) := Box.new wr.drew _ _
      have hrowB : Hid ((wr.drew.alloc (.cells #[.int .i64 G, .bool U, .string D] 63)).ownsRow (w1.heap.size + 1) 63 3 (.slice av j cv) j css.flatten) := by
        have := row_below hgrD.out.2.2.2.1 hbWB
        rw [hlt2] at this
        exact this
      clear hlt2
      go_wp2_with fail
      refine wp_region_held_drew (S := fun w' => w'.cell? ⟨p, 0, none⟩ = some (.int .i64 G) ∧ w'.cell? ⟨p, 1, none⟩ = some (.bool U) ∧ w'.cell? ⟨p, 2, none⟩ = some (.string D)) (by kernel_rfl) ⟨z3, z4, z5⟩ (fun hHeld => ?_)
      refine tq (i := 0) (d := 21) ?_
      simp only [sz, ss]
      refine tq (i := 2) (d := 23) ?_
      simp only [sz, ss]
      refine tq (i := 3) (d := 24) ?_
      simp only [sz, ss]
      refine tq (i := 4) (d := 25) ?_
      simp only [sz, ss]
      refine wpAnyH_ready (rs := [1, 5]) (by kernel_rfl) (by simp) ?_
      refine (AllReadyH.cons rfl (fun K hK => ?_) (AllReadyH.cons rfl (fun K hK => ?_) AllReadyH.nil))
      · have cT : wr.drew.cell? ⟨w1.heap.size, 0, none⟩ = some (.slice av j cv) := bTd.out.cell 0 rfl
        go_simp
        clear cT
        refine hK.out _ _ hHeld (fun hHeld => ?_)
        clear hK K
        refine wpAnyH_ready (rs := [5]) (by kernel_rfl) (by simp) ?_
        refine AllReadyH.cons rfl (fun K hK => ?_) AllReadyH.nil
        go_simp
        refine hK.out _ _ ⟨cell_alloc hHeld.1 _, cell_alloc hHeld.2.1 _, cell_alloc hHeld.2.2 _⟩ (fun hHeld => ?_)
        clear hK K
        refine wpAnyH_ready (rs := [6]) (by kernel_rfl) (by simp) ?_
        refine AllReadyH.cons rfl (fun K hK => ?_) AllReadyH.nil
        refine step_append_lies (wr.drew.alloc (.cells #[.int .i64 G, .bool U, .string D] 63)) rfl _ _ 24 rfl (w1.heap.size + 1) 63 iS _ 3 32 Try.underlying24 hiS.out heS.out.1 heS.out.2.1 heS.out.2.2 rfl (by decide) (.slice av j cv) j css.flatten rfl (by exact hrowB.out) ⟨wr.heap.size, 0, none⟩ 1 1 [.int .i64 G, .bool U, .string D] rfl rfl (by intro i u hu; match i, hu with | 0, hu => (simp at hu; subst hu; exact nbB.out.cell 0 rfl) | 1, hu => (simp at hu; subst hu; exact nbB.out.cell 1 rfl) | 2, hu => (simp at hu; subst hu; exact nbB.out.cell 2 rfl) | i + 3, hu => simp at hu) (by intro u hu; simp at hu; rcases hu with rfl | rfl | rfl <;> rfl) (by omega) (by unfold maxLen; omega) (by omega) (by simp; omega) _ rfl ?_
        intro g3 capg w5 hown5 hgrow5 hat5 hlt5
        have bT5 : Hid (Box w5 (w1.heap.size) [.slice av j cv, .slice af fr.length cf] 27) := (hgrow5.block (w1.heap.size) (by simp; omega) (by intro e; have := own_block2 hgrD.out.2.2.2.1 _ e.symm; omega)).trans (bTd.out.alloc _)
        go_simp
        refine hK.out _ _ ⟨cell_grown hHeld.1 hgrow5 (by intro e; have := own_block2 hgrD.out.2.2.2.1 _ e; omega), cell_grown hHeld.2.1 hgrow5 (by intro e; have := own_block2 hgrD.out.2.2.2.1 _ e; omega), cell_grown hHeld.2.2 hgrow5 (by intro e; have := own_block2 hgrD.out.2.2.2.1 _ e; omega)⟩ (fun hHeld => ?_)
        clear hK K
        refine tq (i := 7) (d := 28) ?_
        simp only [sz, ss]
        refine wpAnyH_ready (rs := [8]) (by kernel_rfl) (by simp) ?_
        refine AllReadyH.cons rfl (fun K hK => ?_) AllReadyH.nil
        have cT5 := bT5.out.cell 0 rfl
        have fT5 := bT5.out.unfrozen 0
        go_simp
        refine hK.out _ _ ⟨cell_set hHeld.1 (by omega) _, cell_set hHeld.2.1 (by omega) _, cell_set hHeld.2.2 (by omega) _⟩ (fun hHeld => ?_)
        clear hK K
        refine wpAnyH_done (by kernel_rfl) ?_ _
        have hgr5 := GrowOwn.snoc SlotOwn_stays (x := ⟨G, U, D⟩) hgrD.out hbWB (by show w1.heap.size + 1 ≤ wr.heap.size; omega) rfl ⟨rfl, hrG.out, hrD.out, rfl⟩ List.nodup_nil (by simp) (by simp) hl2.out.symm hown5 hgrow5 hat5
        have hgr6 : Hid (GrowOwn 63 3 SlotOwn (w1.heap.size + 1) (w5.setCell ⟨w1.heap.size, 0, none⟩ (.slice (some ⟨g3, 0, none⟩) (j + 1) capg)) (.slice (some ⟨g3, 0, none⟩) (j + 1) capg) (xs.take j ++ [⟨G, U, D⟩]) (bss ++ [[]]) (css ++ [[.int .i64 G, .bool U, .string D]])) := hgr5.set SlotOwn_stays (by omega)
        have bT6 : Hid (Box (w5.setCell ⟨w1.heap.size, 0, none⟩ (.slice (some ⟨g3, 0, none⟩) (j + 1) capg)) (w1.heap.size) [.slice (some ⟨g3, 0, none⟩) (j + 1) capg, .slice af fr.length cf] 27) := bT5.out.set _
        have hb5 : Below (w1.heap.size) w1 w5 := (hb1.drew.trans (hbWB.mono (by show w1.heap.size ≤ wr.heap.size; omega))).trans ((Below.refl _ (wr.drew.alloc (.cells #[.int .i64 G, .bool U, .string D] 63))).grown hgrow5 (by simp; omega) (fun k e => by have := own_block2 hgrD.out.2.2.2.1 k e; omega))
        go_wp2_with fail
        go_roundw
        case rel => exact ⟨j + 1, _, _, _, by omega, by go_num, hb5.setCell (by exact Nat.le_refl _) _, bT6, by rw [htk.out]; exact hgr6, flat_snoc hfl.out⟩
        case measure => simp [intOf]; omega
      · go_simp
        refine hK.out _ _ ⟨cell_alloc hHeld.1 _, cell_alloc hHeld.2.1 _, cell_alloc hHeld.2.2 _⟩ (fun hHeld => ?_)
        clear hK K
        refine wpAnyH_ready (rs := [1]) (by kernel_rfl) (by simp) ?_
        refine AllReadyH.cons rfl (fun K hK => ?_) AllReadyH.nil
        have cT : (wr.alloc (.cells #[.int .i64 G, .bool U, .string D] 63)).drew.cell? ⟨w1.heap.size, 0, none⟩ = some (.slice av j cv) := (show Box _ _ _ _ from bTd.out.alloc _).cell 0 rfl
        go_simp
        clear cT
        refine hK.out _ _ hHeld (fun hHeld => ?_)
        clear hK K
        refine wpAnyH_ready (rs := [6]) (by kernel_rfl) (by simp) ?_
        refine AllReadyH.cons rfl (fun K hK => ?_) AllReadyH.nil
        refine step_append_lies (wr.drew.alloc (.cells #[.int .i64 G, .bool U, .string D] 63)) rfl _ _ 24 rfl (w1.heap.size + 1) 63 iS _ 3 32 Try.underlying24 hiS.out heS.out.1 heS.out.2.1 heS.out.2.2 rfl (by decide) (.slice av j cv) j css.flatten rfl (by exact hrowB.out) ⟨wr.heap.size, 0, none⟩ 1 1 [.int .i64 G, .bool U, .string D] rfl rfl (by intro i u hu; match i, hu with | 0, hu => (simp at hu; subst hu; exact nbB.out.cell 0 rfl) | 1, hu => (simp at hu; subst hu; exact nbB.out.cell 1 rfl) | 2, hu => (simp at hu; subst hu; exact nbB.out.cell 2 rfl) | i + 3, hu => simp at hu) (by intro u hu; simp at hu; rcases hu with rfl | rfl | rfl <;> rfl) (by omega) (by unfold maxLen; omega) (by omega) (by simp; omega) _ rfl ?_
        intro g3 capg w5 hown5 hgrow5 hat5 hlt5
        have bT5 : Hid (Box w5 (w1.heap.size) [.slice av j cv, .slice af fr.length cf] 27) := (hgrow5.block (w1.heap.size) (by simp; omega) (by intro e; have := own_block2 hgrD.out.2.2.2.1 _ e.symm; omega)).trans (bTd.out.alloc _)
        go_simp
        refine hK.out _ _ ⟨cell_grown hHeld.1 hgrow5 (by intro e; have := own_block2 hgrD.out.2.2.2.1 _ e; omega), cell_grown hHeld.2.1 hgrow5 (by intro e; have := own_block2 hgrD.out.2.2.2.1 _ e; omega), cell_grown hHeld.2.2 hgrow5 (by intro e; have := own_block2 hgrD.out.2.2.2.1 _ e; omega)⟩ (fun hHeld => ?_)
        clear hK K
        refine tq (i := 7) (d := 28) ?_
        simp only [sz, ss]
        refine wpAnyH_ready (rs := [8]) (by kernel_rfl) (by simp) ?_
        refine AllReadyH.cons rfl (fun K hK => ?_) AllReadyH.nil
        have cT5 := bT5.out.cell 0 rfl
        have fT5 := bT5.out.unfrozen 0
        go_simp
        refine hK.out _ _ ⟨cell_set hHeld.1 (by omega) _, cell_set hHeld.2.1 (by omega) _, cell_set hHeld.2.2 (by omega) _⟩ (fun hHeld => ?_)
        clear hK K
        refine wpAnyH_done (by kernel_rfl) ?_ _
        have hgr5 := GrowOwn.snoc SlotOwn_stays (x := ⟨G, U, D⟩) hgrD.out hbWB (by show w1.heap.size + 1 ≤ wr.heap.size; omega) rfl ⟨rfl, hrG.out, hrD.out, rfl⟩ List.nodup_nil (by simp) (by simp) hl2.out.symm hown5 hgrow5 hat5
        have hgr6 : Hid (GrowOwn 63 3 SlotOwn (w1.heap.size + 1) (w5.setCell ⟨w1.heap.size, 0, none⟩ (.slice (some ⟨g3, 0, none⟩) (j + 1) capg)) (.slice (some ⟨g3, 0, none⟩) (j + 1) capg) (xs.take j ++ [⟨G, U, D⟩]) (bss ++ [[]]) (css ++ [[.int .i64 G, .bool U, .string D]])) := hgr5.set SlotOwn_stays (by omega)
        have bT6 : Hid (Box (w5.setCell ⟨w1.heap.size, 0, none⟩ (.slice (some ⟨g3, 0, none⟩) (j + 1) capg)) (w1.heap.size) [.slice (some ⟨g3, 0, none⟩) (j + 1) capg, .slice af fr.length cf] 27) := bT5.out.set _
        have hb5 : Below (w1.heap.size) w1 w5 := (hb1.drew.trans (hbWB.mono (by show w1.heap.size ≤ wr.heap.size; omega))).trans ((Below.refl _ (wr.drew.alloc (.cells #[.int .i64 G, .bool U, .string D] 63))).grown hgrow5 (by simp; omega) (fun k e => by have := own_block2 hgrD.out.2.2.2.1 k e; omega))
        go_wp2_with fail
        go_roundw
        case rel => exact ⟨j + 1, _, _, _, by omega, by go_num, hb5.setCell (by exact Nat.le_refl _) _, bT6, by rw [htk.out]; exact hgr6, flat_snoc hfl.out⟩
        case measure => simp [intOf]; omega
    · obtain rfl : j = xs.length := by omega
      rw [List.take_of_length_le (Nat.le_refl _)] at hgr
      obtain ⟨fs2, hS, hSl, hSo⟩ := hgr.out.flat hfl.out
      obtain ⟨p0, d0, e0⟩ := hS.form
      subst e0
      have hFr := hFo'.out.below intOwn_stays intOwn_lt hb1
      have hans : Hid (∀ w', (∀ b, w.heap.size < b → w'.heap[b]? = wr.heap[b]?) → (∀ b ∈ ffs', w'.heap[b]? = wr.heap[b]?) → AnsA w w' [.slice p0 xs.length d0, .slice af fr.length cf] ⟨xs, fr⟩) := fun w' k1 k2 => ansRows (base := w.heap.size) (hS.stays SlotOwn_stays (fun b q => k1 b (by have := hSl b q; omega))) (hFr.stays intOwn_stays k2) (fun b q => by have := hSl b q; omega) (fun b q => (hFl'.out b q).1) (Nat.le_refl _) (fun b q1 q2 => by have h1 := hSl b q1; have h2 := (hFl'.out b q2).2; omega)
      clear hS hSo hFr hgr
      have bxr : Hid (Box wr w.heap.size [.slice none 0 0, .slice none 0 0] 27) := bxr1.out.below hb1 bxr1.out.lt
      have z0 := bxr.out.cell 0 rfl
      have z1 := bxr.out.cell 1 rfl
      have zu := bxr.out.unfrozen
      have t0 := bx.out.cell 0 rfl
      have t1 := bx.out.cell 1 rfl
      go_wp2_with fail
      have bF : Hid (Box (putCells wr w.heap.size 0 [.slice p0 xs.length d0, .slice af fr.length cf]) w.heap.size [.slice p0 xs.length d0, .slice af fr.length cf] 27) := (bxr.out.set _).set _
      have r0 := bF.out.cell 0 rfl
      have r1 := bF.out.cell 1 rfl
      simp only [putCells, Nat.zero_add] at r0 r1
      have hne : Hid (∀ b ∈ ffs', b ≠ w.heap.size) := fun b q e => hw0.out b q e
      refine bodyPost_ret (v := .agg #[.slice p0 xs.length d0, .slice af fr.length cf]) (by simp [results, Try.results31, go_sem, r0, r1]) rfl ⟨⟨[.slice p0 xs.length d0, .slice af fr.length cf], rfl, hans.out _ (fun b q => putCells_other [.slice p0 xs.length d0, .slice af fr.length cf] wr w.heap.size 0 b (by omega)) (fun b q => putCells_other [.slice p0 xs.length d0, .slice af fr.length cf] wr w.heap.size 0 b (hne.out b q))⟩, putCells_below [.slice p0 xs.length d0, .slice af fr.length cf] _ _ _ w.heap.size 0 (Nat.le_refl _) hBr⟩
end Go.Proofs.Ytcbomaflfjdmjaa
