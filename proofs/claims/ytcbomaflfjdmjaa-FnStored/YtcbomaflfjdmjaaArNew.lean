/- A new arena: the specification and the program, walked. -/
import Derived.Test.YtcbomaflfjdmjaaArRows
namespace Go.Proofs.Ytcbomaflfjdmjaa
open Go.RowKit
def newS : SlotD := ⟨1, false, ⟨#[]⟩⟩
def newSs (j : Nat) : List SlotD := List.replicate j newS
def newFr (j : Nat) : List Int := (List.range j).map fun (i : Nat) => (i : Int)
theorem newSs_succ (j : Nat) : newSs (j + 1) = newSs j ++ [newS] := by simp [newSs, List.replicate_succ']
theorem newFr_succ (j : Nat) : newFr (j + 1) = newFr j ++ [(j : Int)] := by simp [newFr, List.range_succ]
def newA (n : Int) : ArenaD × Bool := if inB n 1 12 then (⟨newSs n.toNat, newFr n.toNat⟩, true) else (nilA, false)
theorem newA_no {n : Int} (h : inB n 1 12 = false) : newA n = (nilA, false) := by simp [newA, h]
theorem newA_yes {n : Int} (h : inB n 1 12 = true) : newA n = (⟨newSs n.toNat, newFr n.toNat⟩, true) := by simp [newA, h]
theorem newA_few (n : Int) : (newA n).1.vSlots.length ≤ 12 ∧ (newA n).1.vFree.length ≤ 12 := by
  unfold newA
  cases h : inB n 1 12 with
  | false => simp [nilA]
  | true =>
    have : 1 ≤ n ∧ n ≤ 12 := by simpa [inB] using h
    simp [newSs, newFr]
    omega
theorem flat_snoc {bss : List (List Nat)} (h : bss.flatten = []) : (bss ++ [[]]).flatten = [] := by simp [h]
set_option maxRecDepth 100000 in
set_option maxHeartbeats 2000000 in
theorem specArenaNew_any {w : World} {n : Int} : Calls Try.prog 42 #[.int .i64 n] w fun e w' => (∃ cs, e = .returned (.tuple #[.agg cs.toArray, .bool (newA n).2]) ∧ AnsA w w' cs (newA n).1) ∧ Below w.heap.size w w' := by
  have hb0 : Below w.heap.size w (w.alloc (.cells (List.toArray [.slice none 0 0, .slice none 0 0]) 27)) := (Below.refl _ _).alloc (Nat.le_refl _) _
  have r0_ : Hid (Box (w.alloc (.cells (List.toArray [.slice none 0 0, .slice none 0 0]) 27)) w.heap.size [.slice none 0 0, .slice none 0 0] 27) := Box.new w _ _
  go_enter Try.func42, Try.ntmps42
  go_wp2_with fail
  refine (l1In_any _ _ _ _).mono ?_
  rintro e w1 ⟨rfl, rfl⟩
  cases hc : inB n 1 12 with
  | false =>
    have HN : Hid _ := newA_no hc
    go_wp2_with fail
    have r0 := r0_.out.cell 0 rfl
    have r1 := r0_.out.cell 1 rfl
    refine bodyPost_ret (v := .tuple #[.agg #[.slice none 0 0, .slice none 0 0], .bool false]) (by simp [results, Try.results42, go_sem, r0, r1]) rfl ⟨⟨[.slice none 0 0, .slice none 0 0], by rw [HN.out], by rw [HN.out]; exact ansNil⟩, ?_⟩
    first | exact hb0 | exact putCells_below [.slice none 0 0, .slice none 0 0] _ _ _ w.heap.size 0 (Nat.le_refl _) hb0
  | true =>
  have HN : Hid _ := newA_yes hc
  have hn : 1 ≤ n ∧ n ≤ 12 := by simpa [inB] using hc
  clear hc
  obtain ⟨m, rfl⟩ : ∃ m : Nat, n = (m : Int) := ⟨n.toNat, by omega⟩
  have hm : m ≤ 12 := by omega
  rw [Int.toNat_natCast] at HN
  obtain ⟨iS, hS0, hS1, hS2, hS3⟩ := infoS2
  have hiS : Hid (Try.prog.info? 63 = some iS) := hS0
  have heS : Hid (iS.zero = some (.agg #[.int .i64 0, .bool false, .string ⟨#[]⟩]) ∧ iS.size = 3 ∧ iS.bytes = 32) := ⟨hS1, hS2, hS3⟩
  obtain ⟨iI, hI0, hI1, hI2, hI3⟩ := infoI2
  have hiI : Hid (Try.prog.info? 2 = some iI) := hI0
  have heI : Hid (iI.zero = some (.int .i64 0) ∧ iI.size = 1 ∧ iI.bytes = 8) := ⟨hI1, hI2, hI3⟩
  clear hS0 hS1 hS2 hS3 hI0 hI1 hI2 hI3
  have hb1 : Below w.heap.size w ((w.alloc (.cells (List.toArray [.slice none 0 0, .slice none 0 0]) 27)).alloc (.cells (List.toArray [.slice none 0 0, .slice none 0 0]) 27)) := hb0.alloc (by simp) _
  have bxr : Hid (Box ((w.alloc (.cells (List.toArray [.slice none 0 0, .slice none 0 0]) 27)).alloc (.cells (List.toArray [.slice none 0 0, .slice none 0 0]) 27)) w.heap.size [.slice none 0 0, .slice none 0 0] 27) := r0_.out.alloc _
  have bxa : Hid (Box ((w.alloc (.cells (List.toArray [.slice none 0 0, .slice none 0 0]) 27)).alloc (.cells (List.toArray [.slice none 0 0, .slice none 0 0]) 27)) (w.heap.size + 1) [.slice none 0 0, .slice none 0 0] 27) := by have := Box.new (w.alloc (.cells (List.toArray [.slice none 0 0, .slice none 0 0]) 27)) [.slice none 0 0, .slice none 0 0] 27; simpa [Hid] using this
  clear r0_
  go_wp2_with fail
  go_loopw [5] (fun i wr => ∃ (j : Nat) (v0 v1 : Value) (bs0 bs1 : List (List Nat)) (cs0 cs1 : List (List Value)), j ≤ m ∧ i = .int .i64 j ∧ Below w.heap.size w wr ∧ w.heap.size + 2 ≤ wr.heap.size ∧ Hid (Box wr w.heap.size [.slice none 0 0, .slice none 0 0] 27) ∧ Hid (Box wr (w.heap.size + 1) [v0, v1] 27) ∧ Hid (GrowOwn 63 3 SlotOwn (w.heap.size + 2) wr v0 (newSs j) bs0 cs0) ∧ Hid (GrowOwn 2 1 IntOwn (w.heap.size + 2) wr v1 (newFr j) bs1 cs1) ∧ Hid (bs0.flatten = [] ∧ bs1.flatten = [])) (fun i _ => m - (intOf i).toNat)
  case atStart => exact ⟨0, _, _, _, _, _, _, by omega, rfl, hb1, by simp, bxr, bxa, GrowOwn.nil, GrowOwn.nil, ⟨rfl, rfl⟩⟩
  case round =>
    obtain ⟨j, v0, v1, bs0, bs1, cs0, cs1, hj, rfl, hb, hsz, bxr, bxa, hg0, hg1, hfl⟩ := hrel
    have y0 := bxa.out.cell 0 rfl
    have y1 := bxa.out.cell 1 rfl
    by_cases hlt : j < m
    · have hl0 : Hid ((newSs j).length = j) := by show _ = _; simp [newSs]
      have hl1 : Hid ((newFr j).length = j) := by show _ = _; simp [newFr]
      obtain ⟨p0, d0, rfl⟩ : ∃ a cap, v0 = .slice a j cap := by obtain ⟨a, cap, e⟩ := hg0.out.len; rw [hl0.out] at e; exact ⟨a, cap, e⟩
      obtain ⟨p1, d1, rfl⟩ : ∃ a cap, v1 = .slice a j cap := by obtain ⟨a, cap, e⟩ := hg1.out.len; rw [hl1.out] at e; exact ⟨a, cap, e⟩
      have bA : Hid (Box (wr.alloc (.cells #[.int .i64 1, .bool false, .string ⟨#[]⟩] 63)) (w.heap.size + 1) [.slice p0 j d0, .slice p1 j d1] 27) := bxa.out.alloc _
      have bR : Hid (Box (wr.alloc (.cells #[.int .i64 1, .bool false, .string ⟨#[]⟩] 63)) w.heap.size [.slice none 0 0, .slice none 0 0] 27) := bxr.out.alloc _
      have hbB : Below wr.heap.size wr (wr.alloc (.cells #[.int .i64 1, .bool false, .string ⟨#[]⟩] 63)) := (Below.refl _ _).alloc (Nat.le_refl _) _
      have nb : Hid (Box (wr.alloc (.cells #[.int .i64 1, .bool false, .string ⟨#[]⟩] 63)) wr.heap.size [.int .i64 1, .bool false, .string ⟨#[]⟩] 63) := Box.new wr _ _
      go_wp2_with (first
        | (at_builtin; refine wpList_append_grow SlotOwn_stays rfl _ _ 24 rfl (w.heap.size + 2) iS _ _ Try.underlying24 hiS.out heS.out.1 heS.out.2.1 heS.out.2.2 rfl (by decide) (y := newS) (fs := []) (cs := [.int .i64 1, .bool false, .string ⟨#[]⟩]) rfl hg0.out hbB hsz _ _ rfl rfl (by intro z u hz; match z, hz with | 0, hz => simp at hz; subst hz; exact nb.out.cell 0 rfl | 1, hz => simp at hz; subst hz; exact nb.out.cell 1 rfl | 2, hz => simp at hz; subst hz; exact nb.out.cell 2 rfl) (by simp [Value.oneCell']) ⟨rfl, by unfold InI; decide, by decide, rfl⟩ (by simp) (by simp) (by simp) (by rw [hl0.out]; unfold maxLen; omega) (by rw [hl0.out]; omega) ?_; intro g cap w3 hgr3 hg3 hb3; rw [hl0.out] at hgr3 ⊢
           have bx3 : Hid (Box w3 (w.heap.size + 1) [.slice p0 j d0, .slice p1 j d1] 27) := (hb3.block _ (by omega)).trans bA.out
           have y3 := bx3.out.cell 0 rfl
           have y3b := bx3.out.cell 1 rfl
           have u3 := bx3.out.unfrozen
           have bR3 : Hid (Box w3 w.heap.size [.slice none 0 0, .slice none 0 0] 27) := (hb3.block _ (by omega)).trans bR.out
           have bA4 : Hid (Box (w3.setCell ⟨w.heap.size + 1, 0, none⟩ (.slice (some ⟨g, 0, none⟩) (j + 1) cap)) (w.heap.size + 1) [.slice (some ⟨g, 0, none⟩) (j + 1) cap, .slice p1 j d1] 27) := bx3.out.set _
           have bR4 : Hid (Box (w3.setCell ⟨w.heap.size + 1, 0, none⟩ (.slice (some ⟨g, 0, none⟩) (j + 1) cap)) w.heap.size [.slice none 0 0, .slice none 0 0] 27) := bR3.out.other (by omega) _
           have hg0h : Hid (GrowOwn 63 3 SlotOwn (w.heap.size + 2) (w3.setCell ⟨w.heap.size + 1, 0, none⟩ (.slice (some ⟨g, 0, none⟩) (j + 1) cap)) (.slice (some ⟨g, 0, none⟩) (j + 1) cap) (newSs j ++ [newS]) (bs0 ++ [[]]) (cs0 ++ [[.int .i64 1, .bool false, .string ⟨#[]⟩]])) := hgr3.set SlotOwn_stays (g := w.heap.size + 1) (i := 0) (u := .slice (some ⟨g, 0, none⟩) (j + 1) cap) (by omega)
           have hg1h : Hid (GrowOwn 2 1 IntOwn (w.heap.size + 2) (w3.setCell ⟨w.heap.size + 1, 0, none⟩ (.slice (some ⟨g, 0, none⟩) (j + 1) cap)) (.slice p1 j d1) (newFr j) bs1 cs1) := ((hg1.out.below intOwn_stays hbB).apart intFlat (row_below hg0.out.2.2.2.1 hbB) (by decide) hfl.out.2 hg3).set intOwn_stays (g := w.heap.size + 1) (i := 0) (u := .slice (some ⟨g, 0, none⟩) (j + 1) cap) (by omega)
           have s3 : w.heap.size + 2 ≤ w3.heap.size := by have h1 := hb3.size; have h2 := hbB.size; omega
           have hB3 : Below w.heap.size w w3 := (hb.trans (hbB.mono (by omega))).trans (hb3.mono (by omega))
           have s4 : w.heap.size + 2 ≤ (w3.setCell ⟨w.heap.size + 1, 0, none⟩ (.slice (some ⟨g, 0, none⟩) (j + 1) cap)).heap.size := by rw [set_size]; exact s3
           have hbB2 : Below (w3.setCell ⟨w.heap.size + 1, 0, none⟩ (.slice (some ⟨g, 0, none⟩) (j + 1) cap)).heap.size (w3.setCell ⟨w.heap.size + 1, 0, none⟩ (.slice (some ⟨g, 0, none⟩) (j + 1) cap)) ((w3.setCell ⟨w.heap.size + 1, 0, none⟩ (.slice (some ⟨g, 0, none⟩) (j + 1) cap)).alloc (.cells #[.int .i64 (j : Int)] 2)) := (Below.refl _ _).alloc (Nat.le_refl _) _
           have bA5 : Hid (Box ((w3.setCell ⟨w.heap.size + 1, 0, none⟩ (.slice (some ⟨g, 0, none⟩) (j + 1) cap)).alloc (.cells #[.int .i64 (j : Int)] 2)) (w.heap.size + 1) [.slice (some ⟨g, 0, none⟩) (j + 1) cap, .slice p1 j d1] 27) := bA4.out.alloc _
           have bR5 : Hid (Box ((w3.setCell ⟨w.heap.size + 1, 0, none⟩ (.slice (some ⟨g, 0, none⟩) (j + 1) cap)).alloc (.cells #[.int .i64 (j : Int)] 2)) w.heap.size [.slice none 0 0, .slice none 0 0] 27) := bR4.out.alloc _
           have nb2 : Hid (Box ((w3.setCell ⟨w.heap.size + 1, 0, none⟩ (.slice (some ⟨g, 0, none⟩) (j + 1) cap)).alloc (.cells #[.int .i64 (j : Int)] 2)) (w3.setCell ⟨w.heap.size + 1, 0, none⟩ (.slice (some ⟨g, 0, none⟩) (j + 1) cap)).heap.size [.int .i64 (j : Int)] 2) := Box.new (w3.setCell ⟨w.heap.size + 1, 0, none⟩ (.slice (some ⟨g, 0, none⟩) (j + 1) cap)) _ _
           have nb2c : Hid (((w3.setCell ⟨w.heap.size + 1, 0, none⟩ (.slice (some ⟨g, 0, none⟩) (j + 1) cap)).alloc (.cells #[.int .i64 (j : Int)] 2)).cell? ⟨w3.heap.size, 0, none⟩ = some (.int .i64 (j : Int))) := by show _ = _; have h5 := nb2.out.cell 0 rfl; rwa [set_size] at h5
           have y0x := y0
           have y1x := y1
           clear hgr3 y0 y1)
        | (at_builtin; refine wpList_append_grow (w := (w3.setCell ⟨w.heap.size + 1, 0, none⟩ (.slice (some ⟨g, 0, none⟩) (j + 1) cap))) (xs := newFr j) (v := .slice p1 j d1) intOwn_stays rfl _ _ 25 rfl (w.heap.size + 2) iI _ _ Try.underlying25 hiI.out heI.out.1 heI.out.2.1 heI.out.2.2 rfl (by decide) (y := (j : Int)) (fs := []) (cs := [.int .i64 (j : Int)]) rfl hg1h.out hbB2 s4 _ _ rfl rfl (by intro z u hz; match z, hz with | 0, hz => simp at hz; subst hz; exact nb2c.out) (by simp [Value.oneCell']) ⟨rfl, by unfold InI; omega, rfl⟩ (by simp) (by simp) (by simp) (by rw [hl1.out]; unfold maxLen; omega) (by rw [hl1.out]; omega) ?_; intro g2 cap2 w6 hgr6 hg6 hb6; rw [hl1.out] at hgr6 ⊢
           have bx6 : Hid (Box w6 (w.heap.size + 1) [.slice (some ⟨g, 0, none⟩) (j + 1) cap, .slice p1 j d1] 27) := (hb6.block _ (by omega)).trans bA5.out
           have bR6 : Hid (Box w6 w.heap.size [.slice none 0 0, .slice none 0 0] 27) := (hb6.block _ (by omega)).trans bR5.out
           have y6 := bx6.out.cell 0 rfl
           have y6b := bx6.out.cell 1 rfl
           have u6 := bx6.out.unfrozen
           have hg0f : Hid (GrowOwn 63 3 SlotOwn (w.heap.size + 2) (w6.setCell ⟨w.heap.size + 1, 1, none⟩ (.slice (some ⟨g2, 0, none⟩) (j + 1) cap2)) (.slice (some ⟨g, 0, none⟩) (j + 1) cap) (newSs j ++ [newS]) (bs0 ++ [[]]) (cs0 ++ [[.int .i64 1, .bool false, .string ⟨#[]⟩]])) := ((hg0h.out.below SlotOwn_stays hbB2).apart slotFlat (row_below hg1h.out.2.2.2.1 hbB2) (by decide) (flat_snoc hfl.out.1) hg6).set SlotOwn_stays (g := w.heap.size + 1) (i := 1) (u := .slice (some ⟨g2, 0, none⟩) (j + 1) cap2) (by omega)
           have hg1f : Hid (GrowOwn 2 1 IntOwn (w.heap.size + 2) (w6.setCell ⟨w.heap.size + 1, 1, none⟩ (.slice (some ⟨g2, 0, none⟩) (j + 1) cap2)) (.slice (some ⟨g2, 0, none⟩) (j + 1) cap2) (newFr j ++ [(j : Int)]) (bs1 ++ [[]]) (cs1 ++ [[.int .i64 (j : Int)]])) := hgr6.set intOwn_stays (g := w.heap.size + 1) (i := 1) (u := .slice (some ⟨g2, 0, none⟩) (j + 1) cap2) (by omega)
           have bAf : Hid (Box (w6.setCell ⟨w.heap.size + 1, 1, none⟩ (.slice (some ⟨g2, 0, none⟩) (j + 1) cap2)) (w.heap.size + 1) [.slice (some ⟨g, 0, none⟩) (j + 1) cap, .slice (some ⟨g2, 0, none⟩) (j + 1) cap2] 27) := bx6.out.set _
           have bRf : Hid (Box (w6.setCell ⟨w.heap.size + 1, 1, none⟩ (.slice (some ⟨g2, 0, none⟩) (j + 1) cap2)) w.heap.size [.slice none 0 0, .slice none 0 0] 27) := bR6.out.other (by omega) _
           have hB4 : Below w.heap.size w (w3.setCell ⟨w.heap.size + 1, 0, none⟩ (.slice (some ⟨g, 0, none⟩) (j + 1) cap)) := hB3.setCell (by exact Nat.le_succ _) _
           have hB6 : Below w.heap.size w w6 := (hB4.trans (hbB2.mono (by omega))).trans (hb6.mono (by omega))
           have s6 : w.heap.size + 2 ≤ w6.heap.size := (by have h1 := hb6.size; have h2 := hbB2.size; omega)
           clear hgr6))
      go_roundw
      case rel => exact ⟨j + 1, _, _, _, _, _, _, by omega, by go_num, hB6.setCell (by exact Nat.le_succ _) _, by rw [set_size]; exact s6, bRf, bAf, by rw [newSs_succ]; exact hg0f, by rw [newFr_succ]; exact hg1f, ⟨flat_snoc hfl.out.1, flat_snoc hfl.out.2⟩⟩
      case measure => simp [intOf]; omega
    · obtain rfl : j = m := by omega
      obtain ⟨fs, hS, hSl, hSo⟩ := hg0.out.flat hfl.out.1
      obtain ⟨ffs, hF, hFl, hFo⟩ := hg1.out.flat hfl.out.2
      have hap : Hid (∀ b ∈ fs, b ∉ ffs) := fun b q1 q2 => rows_apart hg0.out.2.2.2.1 hg1.out.2.2.2.1 (by decide) (hSo b q1) (hFo b q2)
      have hans : Hid (∀ w', (∀ b, w.heap.size + 2 ≤ b → w'.heap[b]? = wr.heap[b]?) → AnsA w w' [v0, v1] ⟨newSs j, newFr j⟩) := fun w' k => ansRows (hS.stays SlotOwn_stays (fun b q => k b (hSl b q))) (hF.stays intOwn_stays (fun b q => k b (hFl b q))) hSl hFl (by omega) hap.out
      obtain ⟨p0, d0, e0⟩ := hS.form
      obtain ⟨p1, d1, e1⟩ := hF.form
      subst e0 e1
      clear hS hF hg0 hg1 hSo hFo
      have z0 := bxr.out.cell 0 rfl
      have z1 := bxr.out.cell 1 rfl
      have zu := bxr.out.unfrozen
      go_wp2_with fail
      have bF : Hid (Box (putCells wr w.heap.size 0 [.slice p0 (newSs j).length d0, .slice p1 (newFr j).length d1]) w.heap.size [.slice p0 (newSs j).length d0, .slice p1 (newFr j).length d1] 27) := (bxr.out.set _).set _
      have r0 := bF.out.cell 0 rfl
      have r1 := bF.out.cell 1 rfl
      simp only [putCells, Nat.zero_add] at r0 r1
      refine bodyPost_ret (v := .tuple #[.agg #[.slice p0 (newSs j).length d0, .slice p1 (newFr j).length d1], .bool true]) (by simp [results, Try.results42, go_sem, r0, r1]) rfl ⟨⟨[.slice p0 (newSs j).length d0, .slice p1 (newFr j).length d1], by rw [HN.out], by rw [HN.out]; exact hans.out _ (fun b q => putCells_other [.slice p0 (newSs j).length d0, .slice p1 (newFr j).length d1] wr w.heap.size 0 b (by omega))⟩, putCells_below [.slice p0 (newSs j).length d0, .slice p1 (newFr j).length d1] _ _ _ w.heap.size 0 (Nat.le_refl _) hb⟩
end Go.Proofs.Ytcbomaflfjdmjaa
