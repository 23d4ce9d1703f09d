/- toTree and toTreeS hand back a copy of a small tree, in new memory. -/
import Derived.Test.YtppgakmmiefabaaTrees
import Derived.Test.YtppgakmmiefabaaRows
import Derived.WalkKit
namespace Go.Proofs.Ytppgakmmiefabaa
open Go.RowKit
theorem infoI : ((Try.prog.info? 29).map fun i => (i.zero, i.bytes, i.size)) = some (some (.agg #[.string ByteArray.empty, .slice none 0 0]), 40, 2) := by kernel_rfl
/-- the cells of n new trees -/
def newTrees (n : Nat) : Array Value := madeCells #[.string ByteArray.empty, .slice none 0 0] (n * 2)
theorem newTrees_size (n : Nat) : (newTrees n).size = n * 2 := size_madeCells _ _
theorem run_newTrees (n : Nat) (h : n ≤ 1048576) (w : World) : Sem.run Try.prog (Instr.makeSlice 27 (.int .i64 (n : Int)) (.int .i64 (n : Int))) w = .ok (.slice (some ⟨w.heap.size, 0, none⟩) n n) (w.alloc (.cells (newTrees n) 29)) := by
  obtain ⟨i, hi, he⟩ := Option.map_eq_some_iff.1 infoI
  simp only [Prod.mk.injEq] at he
  have := run_make (P := Try.prog) w 27 29 i _ Try.underlying27 hi he.1 .i64 .i64 (n : Int) (n : Int) (by omega) (Int.le_refl _) (by rw [he.2.1]; omega) (by omega)
  rw [he.2.2] at this
  simpa [newTrees, Value.cells] using this
/-- what a round of toTreeS leaves -/
def Filled {H : Type} (w wr : World) (ds : List (DataW H)) (n g j : Nat) : Prop := Below w.heap.size w wr ∧ g < wr.heap.size ∧
  ∃ C : Array Value, wr.heap[g]? = some (.cells C 29 (0, 0)) ∧ C.size = ds.length * 2 ∧ ∀ j', j' < j → ∃ t' k', C[j' * 2]? = some t' ∧ C[j' * 2 + 1]? = some k' ∧ TreeAt wr (g + 1) n t' k' (nth ds j')
theorem Filled.start {H : Type} (w : World) (ds : List (DataW H)) (n : Nat) : Filled w (w.alloc (.cells (newTrees ds.length) 29)) ds n w.heap.size 0 :=
  ⟨(Below.refl _ _).alloc (Nat.le_refl _) _, by simp, newTrees ds.length, (MapKept.heap_alloc w _).1, newTrees_size _, fun j' h => absurd h (by omega)⟩
theorem Filled.facts {H : Type} {w wr w1 : World} {ds : List (DataW H)} {n g j : Nat} (h : Filled w wr ds n g j) (hj : j < ds.length) (hb1 : Below wr.heap.size wr w1) :
    (∃ v0, w1.cell? ⟨g, j * 2, none⟩ = some v0) ∧ (∃ v1, w1.cell? ⟨g, j * 2 + 1, none⟩ = some v1) ∧ w1.frozen? ⟨g, j * 2, none⟩ = false ∧ w1.frozen? ⟨g, j * 2 + 1, none⟩ = false := by
  obtain ⟨hb, hg, C, hC, hCs, hall⟩ := h
  have hC1 : w1.heap[g]? = some (.cells C 29 (0, 0)) := (hb1.block g hg).trans hC
  exact ⟨⟨C[j * 2]'(by omega), by rw [blk_cell hC1]; exact Array.getElem?_eq_getElem (by omega)⟩, ⟨C[j * 2 + 1]'(by omega), by rw [blk_cell hC1]; exact Array.getElem?_eq_getElem (by omega)⟩, blk_unfrozen hC1 _, blk_unfrozen hC1 _⟩
theorem Filled.step {H : Type} {w wr w1 : World} {ds : List (DataW H)} {n g j : Nat} {t' k1 : Value} (h : Filled w wr ds n g j) (hj : j < ds.length) (hwg : w.heap.size ≤ g) (hb1 : Below wr.heap.size wr w1)
    (ht1 : TreeAt w1 wr.heap.size n t' k1 (nth ds j)) : Filled w ((w1.setCell ⟨g, j * 2, none⟩ t').setCell ⟨g, j * 2 + 1, none⟩ k1) ds n g (j + 1) := by
  obtain ⟨hb, hg, C, hC, hCs, hall⟩ := h
  have hC1 : w1.heap[g]? = some (.cells C 29 (0, 0)) := (hb1.block g hg).trans hC
  have hC2 := blk_set (i := j * 2) hC1 t'
  have hC3 := blk_set (i := j * 2 + 1) hC2 k1
  have hs1 := hb1.size
  have hsz : ((w1.setCell ⟨g, j * 2, none⟩ t').setCell ⟨g, j * 2 + 1, none⟩ k1).heap.size = w1.heap.size := by simp [World.setCell]
  have hoth : ∀ b, b ≠ g → ((w1.setCell ⟨g, j * 2, none⟩ t').setCell ⟨g, j * 2 + 1, none⟩ k1).heap[b]? = w1.heap[b]? := fun b hne =>
    (Below.heap_setCell _ _ _ _ (by simpa using hne)).trans (Below.heap_setCell _ _ _ _ (by simpa using hne))
  refine ⟨?_, by omega, _, hC3, by simpa using hCs, fun j' hj' => ?_⟩
  · exact ((hb.trans (hb1.mono hb.size)).setCell (by simpa using hwg) _).setCell (by simpa using hwg) _
  · by_cases e : j' = j
    · subst e
      refine ⟨t', k1, ?_, ?_, ?_⟩
      · rw [Array.getElem?_setIfInBounds, if_neg (by omega), Array.getElem?_setIfInBounds, if_pos rfl, if_pos (by omega)]
      · rw [Array.getElem?_setIfInBounds, if_pos rfl, if_pos (by simp; omega)]
      · exact TreeAt.keep (by omega) (by omega) (fun b h1 h2 => hoth b (by omega)) n _ _ _ ht1
    · obtain ⟨t2, k2, c1, c2, r⟩ := hall j' (by omega)
      refine ⟨t2, k2, ?_, ?_, ?_⟩
      · rw [Array.getElem?_setIfInBounds, if_neg (by omega), Array.getElem?_setIfInBounds, if_neg (by omega)]; exact c1
      · rw [Array.getElem?_setIfInBounds, if_neg (by omega), Array.getElem?_setIfInBounds, if_neg (by omega)]; exact c2
      · exact TreeAt.keep (by omega) (Nat.le_refl _) (fun b h1 h2 => (hoth b (by omega)).trans (hb1.block b h2)) n _ _ _ r
theorem Filled.done {H : Type} {w wr : World} {ds : List (DataW H)} {n g : Nat} (h : Filled w wr ds n g ds.length) (hwg : w.heap.size ≤ g) (hm : ds.length ≤ maxLen) :
    RowAt (TreeAt wr w.heap.size n) wr w.heap.size (.slice (some ⟨g, 0, none⟩) ds.length ds.length) ds := by
  obtain ⟨hb, hg, C, hC, hCs, hall⟩ := h
  refine ⟨_, _, rfl, hm, fun _ => ⟨g, 0, rfl, hwg, hg, fun i hi => ?_⟩⟩
  obtain ⟨t', k', c1, c2, r⟩ := hall i hi
  refine ⟨t', k', ?_, ?_, TreeAt.keep (Nat.le_refl _) (by omega) (fun _ _ _ => rfl) n _ _ _ r⟩
  · rw [blk_cell hC]; simpa using c1
  · rw [blk_cell hC]; simpa using c2
def ToT {H : Type} (n : Nat) : Prop := ∀ (w : World) (lo : Nat) (t k : Value) (d : DataW H), TreeAt w lo n t k d → SmallT n d →
  Calls Try.prog 9 #[.agg #[t, k]] w fun e w' => (∃ k', e = .returned (.agg #[t, k']) ∧ TreeAt w' w.heap.size n t k' d) ∧ Below w.heap.size w w'
def ToK {H : Type} (n : Nat) : Prop := ∀ (w : World) (lo : Nat) (k : Value) (ds : List (DataW H)), RowAt (TreeAt w lo n) w lo k ds → SmallK n ds →
  Calls Try.prog 22 #[k] w fun e w' => (∃ k', e = .returned k' ∧ RowAt (TreeAt w' w.heap.size n) w' w.heap.size k' ds) ∧ Below w.heap.size w w'
set_option maxHeartbeats 400000 in
theorem toK_of {H : Type} (n : Nat) (h9 : ToT (H := H) n) : ToK (H := H) n := by
  intro w lo k ds hrow hsm
  obtain ⟨a, cap, rfl, hm, hx⟩ := hrow
  unfold maxLen at hm
  have h9' : Hid (ToT (H := H) n) := h9
  have hsm' : Hid (SmallK n ds) := hsm
  have hx' : Hid _ := hx
  have hl := hsm.1
  clear h9 hsm hx
  have hmk := run_newTrees ds.length hl w
  go_enter Try.func22, Try.ntmps22
  go_wp2_with fail
  go_loopw [4] (fun i wr => ∃ (j : Nat), j ≤ ds.length ∧ i = .int .i64 j ∧ Hid (Filled w wr ds n w.heap.size j)) (fun i _ => ds.length - (intOf i).toNat)
  case atStart => exact ⟨0, by omega, rfl, Filled.start w ds n⟩
  case round =>
    obtain ⟨j, hj, rfl, hfill⟩ := hrel
    have hb := hfill.out.1
    by_cases hlt : j < ds.length
    · obtain ⟨b, off, rfl, hlo, hbw, hc⟩ := hx'.out (by omega)
      obtain ⟨t', k', c1, c2, ht⟩ := hc j hlt
      have hc1 : wr.cell? ⟨b, off + j * 2, none⟩ = some t' := (hb.cell (p := ⟨b, off + j * 2, none⟩) hbw).trans c1
      have hc2 : wr.cell? ⟨b, off + j * 2 + 1, none⟩ = some k' := (hb.cell (p := ⟨b, off + j * 2 + 1, none⟩) hbw).trans c2
      clear hc c1 c2
      have ht' : Hid (TreeAt wr lo n t' k' (nth ds j)) := TreeAt.below ht hb
      clear ht hx' hmk
      go_wp2_with fail
      refine (h9'.out wr lo t' k' (nth ds j) ht'.out (hsm'.out.2 j hlt)).mono ?_
      rintro e w1 ⟨⟨k1, rfl, ht1⟩, hb1⟩
      clear hc1 hc2
      obtain ⟨⟨v0, q0⟩, ⟨v1, q1⟩, f0, f1⟩ := hfill.out.facts hlt hb1
      obtain ⟨⟨s1, rfl⟩, a1, cap1, rfl⟩ := ht1.form
      have ht1' : Hid _ := ht1
      clear ht1
      go_wp2_with fail
      go_roundw
      case rel => exact ⟨j + 1, by omega, by go_num, hfill.out.step hlt (Nat.le_refl _) hb1 ht1'.out⟩
      case measure => simp [intOf]; omega
    · have e : j = ds.length := by omega
      subst e
      go_wp2_with fail
      go_ret
      exact ⟨⟨_, rfl, hfill.out.done (Nat.le_refl _) (by unfold maxLen; omega)⟩, hb⟩
set_option maxHeartbeats 400000 in
theorem toT_of {H : Type} (n : Nat) (h22 : ToK (H := H) n) : ToT (H := H) (n + 1) := by
  intro w lo t k d ht hsm
  obtain ⟨⟨s, rfl, hs, htag⟩, hrow⟩ := ht
  have hrow' : Hid (RowAt (TreeAt w lo n) w lo k (kidsOf d)) := hrow
  have h22' : Hid (ToK (H := H) n) := h22
  obtain ⟨a, cap, rfl, hm, _⟩ := hrow
  have hsm' : Hid _ := hsm
  have htag' : Hid _ := htag
  clear htag h22 hsm
  go_enter Try.func9, Try.ntmps9
  go_wp2_with fail
  have hb0 : Below w.heap.size w (((w.alloc (.cells #[.string s, .slice a (kidsOf d).length cap] 24)).alloc (.cells #[.string ⟨#[]⟩, .slice none 0 0] 29)).alloc (.cells #[.string s, .slice none 0 0] 29)) :=
    (((Below.refl _ _).alloc (Nat.le_refl _) _).alloc (by simp) _).alloc (by simp; omega) _
  refine (h22'.out _ lo _ (kidsOf d) (hrow'.out.below hb0) (SmallT.kids hsm'.out)).mono ?_
  rintro e w1 ⟨⟨k1, rfl, hr1⟩, hb1⟩
  obtain ⟨a1, cap1, rfl, hm1, hx1⟩ := id hr1
  have hr1' : Hid _ := hr1
  have hz1 := hb1.size
  have hB : Hid (Below _ _ w1) := hb1
  obtain ⟨c0, c1⟩ : w1.cell? ⟨w.heap.size + 1, 0, none⟩ = some (.string ⟨#[]⟩) ∧ w1.cell? ⟨w.heap.size + 1, 1, none⟩ = some (.slice none 0 0) := by
    constructor
    · rw [hb1.cell (by simp)]; simp [go_sem]
    · rw [hb1.cell (by simp)]; simp [go_sem]
  obtain ⟨c2, c3⟩ : w1.cell? ⟨w.heap.size + 1 + 1, 0, none⟩ = some (.string s) ∧ w1.cell? ⟨w.heap.size + 1 + 1, 1, none⟩ = some (.slice none 0 0) := by
    constructor
    · rw [hb1.cell (by simp)]; simp [go_sem]
    · rw [hb1.cell (by simp)]; simp [go_sem]
  have f0 : ∀ i, w1.frozen? ⟨w.heap.size + 1, i, none⟩ = false := fun i => by rw [hb1.frozen (by simp)]; simp [go_sem]
  have f1 : ∀ i, w1.frozen? ⟨w.heap.size + 1 + 1, i, none⟩ = false := fun i => by rw [hb1.frozen (by simp)]; simp [go_sem]
  clear hr1 hb1 hx1
  go_wp2_with fail
  have hsz0 : (((w.alloc (.cells #[.string s, .slice a (kidsOf d).length cap] 24)).alloc (.cells #[.string ⟨#[]⟩, .slice none 0 0] 29)).alloc (.cells #[.string s, .slice none 0 0] 29)).heap.size = w.heap.size + 3 := by simp
  refine bodyPost_ret (v := .agg #[.string s, .slice a1 (kidsOf d).length cap1]) (by simp [results, Try.results9, go_sem, c0, c1]) rfl ⟨⟨_, rfl, ⟨s, rfl, hs, htag'.out⟩, ?_⟩, ?_⟩
  · refine RowAt.mono hr1'.out (by rw [set_size, set_size, set_size]; exact Nat.le_refl _) (by rw [hsz0]; omega) (fun b h1 _ => ?_) (fun t k d r => TreeAt.keep (by rw [set_size, set_size, set_size]; exact Nat.le_refl _) (by rw [hsz0]; omega) (fun b h1 _ => ?_) n t k d r)
    all_goals
      rw [hsz0] at h1
      exact ((set_other (by omega) _).trans (set_other (by omega) _)).trans (set_other (by omega) _)
  · exact (((hb0.trans (hB.out.mono hb0.size)).setCell (by simp; omega) _).setCell (by simp) _).setCell (by simp) _
theorem toT_all {H : Type} : ∀ n, ToT (H := H) n ∧ ToK (H := H) n := by
  intro n
  induction n with
  | zero => exact ⟨fun _ _ _ _ _ h _ => h.elim, toK_of 0 (fun _ _ _ _ _ h _ => h.elim)⟩
  | succ n ih => exact ⟨toT_of n ih.2, toK_of (n + 1) (toT_of n ih.2)⟩
end Go.Proofs.Ytppgakmmiefabaa
