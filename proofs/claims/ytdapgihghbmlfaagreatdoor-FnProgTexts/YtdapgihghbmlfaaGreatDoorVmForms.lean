/- What formOf of the program returns, where the table of forms lies as it is laid. -/
import Derived.Test.YtdapgihghbmlfaaGreatDoorVmPlain
import Derived.Test.YtdapgihghbmlfaaGreatDoorRows
import Derived.WalkKit
import Derived.Deep.MidRow
import Derived.Deep.DeepCutAuto
namespace Go.Proofs.YtdapgihghbmlfaaGreatDoor
open Go.RowKit
/-- the cells of the form of a kind -/
def formL (k : Int) : List Value := [.int .i64 k, .string (wordT k), .int .i64 (opT k), .int .i64 (takesT k), .int .i64 (givesT k)]
/-- the table -/
def tabL : List Value := formL 1 ++ formL 2 ++ formL 3 ++ formL 4 ++ formL 5 ++ formL 6 ++ formL 7 ++ formL 8 ++ formL 9 ++ formL 10 ++ formL 11 ++ formL 12 ++ formL 13 ++ formL 14 ++ formL 15
def Forms (w : World) : Prop := w.rangeAt 0 0 tabL
theorem Forms.lt {w : World} (h : Forms w) : 0 < w.heap.size := World.block_lt_of_cell? _ _ (h 0 _ rfl)
theorem Forms.keep {w w' : World} (h : Forms w) (hb : w'.heap[0]? = w.heap[0]?) : Forms w' := by
  intro j v hv
  rw [World.cell?_of_block (w := w) (w' := w') hb]; exact h j v hv
theorem Forms.below {w w' : World} {n : Nat} (h : Forms w) (hb : Below n w w') (hn : 0 < n) : Forms w' := h.keep (hb.block 0 hn)
theorem Forms.drew {w : World} (h : Forms w) : Forms w.drew := h.keep rfl
/-- what formOf answers -/
def formV (k : Int) : Value := if 1 ≤ k ∧ k ≤ 15 then .tuple #[.agg #[.int .i64 k, .string (wordT k), .int .i64 (opT k), .int .i64 (takesT k), .int .i64 (givesT k)], .bool true] else .tuple #[.agg #[.int .i64 0, .string ⟨#[]⟩, .int .i64 0, .int .i64 0, .int .i64 0], .bool false]
theorem formV_is {k : Int} (h : 1 ≤ k ∧ k ≤ 15) : formV k = .tuple #[.agg #[.int .i64 k, .string (wordT k), .int .i64 (opT k), .int .i64 (takesT k), .int .i64 (givesT k)], .bool true] := by unfold formV; rw [if_pos h]
theorem formV_no {k : Int} (h : ¬ (1 ≤ k ∧ k ≤ 15)) : formV k = .tuple #[.agg #[.int .i64 0, .string ⟨#[]⟩, .int .i64 0, .int .i64 0, .int .i64 0], .bool false] := by unfold formV; rw [if_neg h]
theorem tab_ix (w : World) (j : Nat) (h : j < 15) : (Instr.index 86 (.agg tabL.toArray) (.int .i64 (j : Int))).run Tryz.prog w = .ok (.agg #[.int .i64 ((j : Int) + 1), .string (wordT ((j : Int) + 1)), .int .i64 (opT ((j : Int) + 1)), .int .i64 (takesT ((j : Int) + 1)), .int .i64 (givesT ((j : Int) + 1))]) w := by
  exact match j, h with
  | 0, _ => by show _ = _; kernel_rfl
  | 1, _ => by show _ = _; kernel_rfl
  | 2, _ => by show _ = _; kernel_rfl
  | 3, _ => by show _ = _; kernel_rfl
  | 4, _ => by show _ = _; kernel_rfl
  | 5, _ => by show _ = _; kernel_rfl
  | 6, _ => by show _ = _; kernel_rfl
  | 7, _ => by show _ = _; kernel_rfl
  | 8, _ => by show _ = _; kernel_rfl
  | 9, _ => by show _ = _; kernel_rfl
  | 10, _ => by show _ = _; kernel_rfl
  | 11, _ => by show _ = _; kernel_rfl
  | 12, _ => by show _ = _; kernel_rfl
  | 13, _ => by show _ = _; kernel_rfl
  | 14, _ => by show _ = _; kernel_rfl
  | n + 15, h => absurd h (by omega)
theorem tab_size : (Tryz.prog.info? 86).map (·.size) = some tabL.length := by kernel_rfl
set_option maxHeartbeats 2000000 in
set_option maxRecDepth 100000 in
theorem formOf_any (k : Int) (w : World) (hs : Forms w) :
    Calls Tryz.prog 29 #[.int .i64 k] w fun e w' => e = .returned (formV k) ∧ Below w.heap.size w w' := by
  have hs' : Hid (∀ o, Forms (w.alloc o)) := fun o => Forms.below hs ((Below.refl _ _).alloc (Nat.le_refl _) o) hs.lt
  have hts : Hid ((Tryz.prog.info? 86).map (·.size) = some tabL.length) := tab_size
  have hb0 : Below w.heap.size w (w.alloc (.cells (List.toArray [.int .i64 0, .string ⟨#[]⟩, .int .i64 0, .int .i64 0, .int .i64 0]) 56)) := (Below.refl _ _).alloc (Nat.le_refl _) _
  have bx0 : Hid (Box (w.alloc (.cells (List.toArray [.int .i64 0, .string ⟨#[]⟩, .int .i64 0, .int .i64 0, .int .i64 0]) 56)) w.heap.size [.int .i64 0, .string ⟨#[]⟩, .int .i64 0, .int .i64 0, .int .i64 0] 56) := Box.new w _ _
  have hb0' : Hid (Below w.heap.size w (w.alloc (.cells (List.toArray [.int .i64 0, .string ⟨#[]⟩, .int .i64 0, .int .i64 0, .int .i64 0]) 56))) := hb0
  clear hb0 hs
  generalize hTL : tabL = TL at hts
  have hTL' : Hid (tabL = TL) := hTL
  clear hTL
  go_enter Tryz.func29, Tryz.ntmps29
  go_wp2_with (refine wpList_load_mid rfl 86 _ rfl 0 0 rfl TL _ (by rw [← hTL'.out]; exact hs'.out _) Tryz.underlying86 rfl hts.out ?_)
  go_loopw [7] (fun i wr => ∃ j : Nat, j ≤ 15 ∧ i = .int .i64 j ∧ Hid (Below w.heap.size w wr) ∧ Hid (Box wr w.heap.size [.int .i64 0, .string ⟨#[]⟩, .int .i64 0, .int .i64 0, .int .i64 0] 56) ∧ Hid (¬ (1 ≤ k ∧ k ≤ j))) (fun i _ => 15 - (intOf i).toNat)
  case atStart => exact ⟨0, by omega, rfl, hb0', bx0, fun h => by omega⟩
  case round =>
    obtain ⟨j, hj, rfl, HB, BX, HN⟩ := hrel
    by_cases hlt : j < 15
    · have hix := tab_ix wr j hlt
      rw [hTL'.out] at hix
      have hlt' : (j : Int) < 15 := by omega
      generalize hwd : wordT ((j : Int) + 1) = wd at hix
      generalize hop : opT ((j : Int) + 1) = op at hix
      generalize htk : takesT ((j : Int) + 1) = tk at hix
      generalize hgv : givesT ((j : Int) + 1) = gv at hix
      have bx1 : Hid (Box (wr.alloc (.cells (List.toArray [.int .i64 ((j : Int) + 1), .string wd, .int .i64 op, .int .i64 tk, .int .i64 gv]) 56)) w.heap.size [.int .i64 0, .string ⟨#[]⟩, .int .i64 0, .int .i64 0, .int .i64 0] 56) := BX.out.alloc _
      have hb1 : Hid (Below w.heap.size w (wr.alloc (.cells (List.toArray [.int .i64 ((j : Int) + 1), .string wd, .int .i64 op, .int .i64 tk, .int .i64 gv]) 56))) := HB.out.alloc HB.out.size _
      have hwr : w.heap.size < wr.heap.size := BX.out.lt
      by_cases hk : (j : Int) + 1 = k
      · have hk0 : Hid ((j : Int) + 1 = k) := hk
        have HV : Hid (formV k = _) := formV_is (k := k) (by omega)
        have hwd' : Hid (wordT k = wd) := hk ▸ hwd
        have hop' : Hid (opT k = op) := hk ▸ hop
        have htk' : Hid (takesT k = tk) := hk ▸ htk
        have hgv' : Hid (givesT k = gv) := hk ▸ hgv
        have HF : Hid (wordT k = wd ∧ opT k = op ∧ takesT k = tk ∧ givesT k = gv) := ⟨hwd'.out, hop'.out, htk'.out, hgv'.out⟩
        have hk' : Hid ((j : Int) + 1 = k) := hk
        have hke : ((j : Int) + 1 == k) = true := by simp [hk]
        clear hwd hop htk hgv hk
        have by1 : Hid (Box (wr.alloc (.cells (List.toArray [.int .i64 ((j : Int) + 1), .string wd, .int .i64 op, .int .i64 tk, .int .i64 gv]) 56)) wr.heap.size [.int .i64 ((j : Int) + 1), .string wd, .int .i64 op, .int .i64 tk, .int .i64 gv] 56) := Box.new wr _ _
        go_upto_region 5 with fail
        generalize (wr.alloc (.cells (List.toArray [.int .i64 ((j : Int) + 1), .string wd, .int .i64 op, .int .i64 tk, .int .i64 gv]) 56)) = wz at bx1 by1 hb1 ⊢
        have u0 := bx1.out.unfrozen 0
        have u1 := bx1.out.unfrozen 1
        have u2 := bx1.out.unfrozen 2
        have u3 := bx1.out.unfrozen 3
        have u4 := bx1.out.unfrozen 4
        have c0 := bx1.out.cell 0 rfl
        have c1 := bx1.out.cell 1 rfl
        have c2 := bx1.out.cell 2 rfl
        have c3 := bx1.out.cell 3 rfl
        have c4 := bx1.out.cell 4 rfl
        have d0 := by1.out.cell 0 rfl
        have d1 := by1.out.cell 1 rfl
        have d2 := by1.out.cell 2 rfl
        have d3 := by1.out.cell 3 rfl
        have d4 := by1.out.cell 4 rfl
        have bx2 := bx1.out.set (i := 0) (.int .i64 ((j : Int) + 1)) |>.set (i := 1) (.string wd) |>.set (i := 2) (.int .i64 op) |>.set (i := 3) (.int .i64 tk) |>.set (i := 4) (.int .i64 gv)
        have bx3 : Hid (Box _ _ _ _) := bx2
        clear bx2
        go_wp2_with fail
        have r0 := bx3.out.cell 0 rfl
        have r1 := bx3.out.cell 1 rfl
        have r2 := bx3.out.cell 2 rfl
        have r3 := bx3.out.cell 3 rfl
        have r4 := bx3.out.cell 4 rfl
        refine bodyPost_ret (v := .tuple #[.agg #[.int .i64 ((j : Int) + 1), .string wd, .int .i64 op, .int .i64 tk, .int .i64 gv], .bool true]) (by simp [results, Tryz.results29, go_sem, r0, r1, r2, r3, r4]) rfl ⟨?_, ?_⟩
        · obtain ⟨e1, e2, e3, e4⟩ := HF.out
          rw [HV.out, e1, e2, e3, e4, hk'.out]
        · exact putCells_below [.int .i64 ((j : Int) + 1), .string wd, .int .i64 op, .int .i64 tk, .int .i64 gv] _ _ _ w.heap.size 0 (Nat.le_refl _) hb1.out
      · have HK : Hid (¬ (j : Int) + 1 = k) := hk
        have hke : ((j : Int) + 1 == k) = false := by simpa using hk
        clear hwd hop htk hgv
        go_wp2_with fail
        go_roundw
        case rel => exact ⟨j + 1, by omega, by go_num, hb1, bx1, fun h => HN.out (by have := HK.out; omega)⟩
        case measure => simp [intOf]; omega
    · have HV : Hid (formV k = _) := formV_no (k := k) (fun h => HN.out (by omega))
      have hlt' : ¬ (j : Int) < 15 := by omega
      have bx2 := BX.out.set (i := 0) (.int .i64 0) |>.set (i := 1) (.string ⟨#[]⟩) |>.set (i := 2) (.int .i64 0) |>.set (i := 3) (.int .i64 0) |>.set (i := 4) (.int .i64 0)
      have u0 := BX.out.unfrozen 0
      have u1 := BX.out.unfrozen 1
      have u2 := BX.out.unfrozen 2
      have u3 := BX.out.unfrozen 3
      have u4 := BX.out.unfrozen 4
      have c0 := BX.out.cell 0 rfl
      have c1 := BX.out.cell 1 rfl
      have c2 := BX.out.cell 2 rfl
      have c3 := BX.out.cell 3 rfl
      have c4 := BX.out.cell 4 rfl
      have bx3 : Hid (Box _ _ _ _) := bx2
      clear bx2
      go_wp2_with fail
      have r0 := bx3.out.cell 0 rfl
      have r1 := bx3.out.cell 1 rfl
      have r2 := bx3.out.cell 2 rfl
      have r3 := bx3.out.cell 3 rfl
      have r4 := bx3.out.cell 4 rfl
      refine bodyPost_ret (v := .tuple #[.agg #[.int .i64 0, .string ⟨#[]⟩, .int .i64 0, .int .i64 0, .int .i64 0], .bool false]) (by simp [results, Tryz.results29, go_sem, r0, r1, r2, r3, r4]) rfl ⟨by rw [HV.out], ?_⟩
      exact putCells_below [.int .i64 0, .string ⟨#[]⟩, .int .i64 0, .int .i64 0, .int .i64 0] _ _ _ w.heap.size 0 (Nat.le_refl _) HB.out
end Go.Proofs.YtdapgihghbmlfaaGreatDoor
