/- The form that bears a word; the tables that a reader of programs wants: walked. -/
import Derived.Test.YtdapgihghbmlfaaGreatDoorRpSmall
namespace Go.Proofs.YtdapgihghbmlfaaGreatDoor
open Go.RowKit Go.Deep
/-- all that a reader of programs wants of the package's variables -/
def Tb (w : World) : Prop := Forms w ∧ Pows w ∧ Errs w
theorem ErrAt.keep {w w' : World} {g : Nat} (h : ErrAt w g) (hb : w'.heap[g]? = w.heap[g]?) : ErrAt w' g := by
  obtain ⟨te, pe, hc⟩ := h
  exact ⟨te, pe, by rw [World.cell?_of_block (w := w) (w' := w') hb]; exact hc⟩
theorem Tb.lt {w : World} (h : Tb w) : 7 ≤ w.heap.size := by
  obtain ⟨_, _, _, te, pe, hc⟩ := h
  exact World.block_lt_of_cell? _ _ hc
theorem Tb.keep {w w' : World} (h : Tb w) (hb : ∀ b, b < 7 → w'.heap[b]? = w.heap[b]?) : Tb w' :=
  ⟨h.1.keep (hb 0 (by omega)), h.2.1.keep (hb 1 (by omega)), h.2.2.1.keep (hb 5 (by omega)), h.2.2.2.keep (hb 6 (by omega))⟩
theorem Tb.below {w w' : World} {n : Nat} (h : Tb w) (hb : Below n w w') (hn : 7 ≤ n) : Tb w' := h.keep fun b q => hb.block b (by omega)
theorem Tb.grown {w w' : World} {g : Nat} (h : Tb w) (hb : w.grownBy w' (some g)) (hg : 7 ≤ g) : Tb w' := h.keep fun b q => hb.block b (by have := h.lt; omega) (fun e => by injection e; omega)
set_option maxHeartbeats 2000000 in
set_option maxRecDepth 100000 in
theorem formCalled_any (t : ByteArray) (w : World) (hs : Forms w) :
    Calls Tryz.prog 52 #[.string t] w fun e w' => e = .returned (formV (wordK t.data.toList)) ∧ Below w.heap.size w w' := by
  have hs' : Hid (∀ o, Forms (w.alloc o)) := fun o => Forms.below hs ((Below.refl _ _).alloc (Nat.le_refl _) o) hs.lt
  have hts : Hid ((Tryz.prog.info? 86).map (·.size) = some tabL.length) := tab_size
  have hb0 : Below w.heap.size w (w.alloc (.cells (List.toArray [.int .i64 0, .string ⟨#[]⟩, .int .i64 0, .int .i64 0, .int .i64 0]) 56)) := (Below.refl _ _).alloc (Nat.le_refl _) _
  have bx0 : Hid (Box (w.alloc (.cells (List.toArray [.int .i64 0, .string ⟨#[]⟩, .int .i64 0, .int .i64 0, .int .i64 0]) 56)) w.heap.size [.int .i64 0, .string ⟨#[]⟩, .int .i64 0, .int .i64 0, .int .i64 0] 56) := Box.new w _ _
  have hb0' : Hid (Below w.heap.size w (w.alloc (.cells (List.toArray [.int .i64 0, .string ⟨#[]⟩, .int .i64 0, .int .i64 0, .int .i64 0]) 56))) := hb0
  clear hb0 hs
  generalize hTL : tabL = TL at hts
  have hTL' : Hid (tabL = TL) := hTL
  clear hTL
  go_enter Tryz.func52, Tryz.ntmps52
  go_wp2_with (refine wpList_load_mid rfl 86 _ rfl 0 0 rfl TL _ (by rw [← hTL'.out]; exact hs'.out _) Tryz.underlying86 rfl hts.out ?_)
  go_loopw [7] (fun i wr => ∃ j : Nat, j ≤ 15 ∧ i = .int .i64 j ∧ Hid (Below w.heap.size w wr) ∧ Hid (Box wr w.heap.size [.int .i64 0, .string ⟨#[]⟩, .int .i64 0, .int .i64 0, .int .i64 0] 56) ∧ Hid (∀ i : Int, 1 ≤ i → i ≤ j → ¬ wordT i = t)) (fun i _ => 15 - (intOf i).toNat)
  case atStart => exact ⟨0, by omega, rfl, hb0', bx0, fun i h1 h2 => by omega⟩
  case round =>
    obtain ⟨j, hj, rfl, HB, BX, HN⟩ := hrel
    by_cases hlt : j < 15
    · have hix := tab_ix wr j hlt
      rw [hTL'.out] at hix
      have hlt' : (j : Int) < 15 := by omega
      generalize hwd : wordT ((j : Int) + 1) = wd at hix
      generalize hop : opT ((j : Int) + 1) = op at hix
      generalize htk : takesT ((j : Int) + 1) = tk at hix
      generalize hgv : givesT ((j : Int) + 1) = gv at hix
      have bx1 : Hid (Box (wr.alloc (.cells (List.toArray [.int .i64 ((j : Int) + 1), .string wd, .int .i64 op, .int .i64 tk, .int .i64 gv]) 56)) w.heap.size [.int .i64 0, .string ⟨#[]⟩, .int .i64 0, .int .i64 0, .int .i64 0] 56) := BX.out.alloc _
      have hb1 : Hid (Below w.heap.size w (wr.alloc (.cells (List.toArray [.int .i64 ((j : Int) + 1), .string wd, .int .i64 op, .int .i64 tk, .int .i64 gv]) 56))) := HB.out.alloc HB.out.size _
      have hwr : w.heap.size < wr.heap.size := BX.out.lt
      by_cases hk : wd = t
      · have hwk : wordK t.data.toList = (j : Int) + 1 := by rw [← hk, ← hwd]; exact wordK_of ⟨by omega, by omega⟩
        have HV : Hid (formV (wordK t.data.toList) = .tuple #[.agg #[.int .i64 ((j : Int) + 1), .string wd, .int .i64 op, .int .i64 tk, .int .i64 gv], .bool true]) := by
          show _ = _
          rw [hwk, formV_is (by omega), hwd, hop, htk, hgv]
        clear hwk hwd hop htk hgv
        subst hk
        have by1 : Hid (Box (wr.alloc (.cells (List.toArray [.int .i64 ((j : Int) + 1), .string wd, .int .i64 op, .int .i64 tk, .int .i64 gv]) 56)) wr.heap.size [.int .i64 ((j : Int) + 1), .string wd, .int .i64 op, .int .i64 tk, .int .i64 gv] 56) := Box.new wr _ _
        go_upto_region 5 with fail
        generalize (wr.alloc (.cells (List.toArray [.int .i64 ((j : Int) + 1), .string wd, .int .i64 op, .int .i64 tk, .int .i64 gv]) 56)) = wz at bx1 by1 hb1 ⊢
        have u0 := bx1.out.unfrozen 0
        have u1 := bx1.out.unfrozen 1
        have u2 := bx1.out.unfrozen 2
        have u3 := bx1.out.unfrozen 3
        have u4 := bx1.out.unfrozen 4
        have c0 := bx1.out.cell 0 rfl
        have c1 := bx1.out.cell 1 rfl
        have c2 := bx1.out.cell 2 rfl
        have c3 := bx1.out.cell 3 rfl
        have c4 := bx1.out.cell 4 rfl
        have d0 := by1.out.cell 0 rfl
        have d1 := by1.out.cell 1 rfl
        have d2 := by1.out.cell 2 rfl
        have d3 := by1.out.cell 3 rfl
        have d4 := by1.out.cell 4 rfl
        have bx2 := bx1.out.set (i := 0) (.int .i64 ((j : Int) + 1)) |>.set (i := 1) (.string wd) |>.set (i := 2) (.int .i64 op) |>.set (i := 3) (.int .i64 tk) |>.set (i := 4) (.int .i64 gv)
        have bx3 : Hid (Box _ _ _ _) := bx2
        clear bx2
        go_wp2_with fail
        have r0 := bx3.out.cell 0 rfl
        have r1 := bx3.out.cell 1 rfl
        have r2 := bx3.out.cell 2 rfl
        have r3 := bx3.out.cell 3 rfl
        have r4 := bx3.out.cell 4 rfl
        refine bodyPost_ret (v := .tuple #[.agg #[.int .i64 ((j : Int) + 1), .string wd, .int .i64 op, .int .i64 tk, .int .i64 gv], .bool true]) (by simp [results, Tryz.results52, go_sem, r0, r1, r2, r3, r4]) rfl ⟨?_, ?_⟩
        · rw [HV.out]
        · exact putCells_below [.int .i64 ((j : Int) + 1), .string wd, .int .i64 op, .int .i64 tk, .int .i64 gv] _ _ _ w.heap.size 0 (Nat.le_refl _) hb1.out
      · have HK : Hid (¬ wd = t) := hk
        have HW : Hid (wordT ((j : Int) + 1) = wd) := hwd
        have hke : (wd.toList == t.toList) = false := by simpa using bd_ne hk
        clear hwd hop htk hgv hk
        go_wp2_with fail
        go_roundw
        case rel => exact ⟨j + 1, by omega, by go_num, hb1, bx1, fun i h1 h2 => by
            by_cases q : i = (j : Int) + 1
            · rw [q, HW.out]; exact HK.out
            · exact HN.out i h1 (by omega)⟩
        case measure => simp [intOf]; omega
    · have HV : Hid (formV (wordK t.data.toList) = .tuple #[.agg #[.int .i64 0, .string ⟨#[]⟩, .int .i64 0, .int .i64 0, .int .i64 0], .bool false]) := by
        show _ = _
        refine formV_no (fun h => ?_)
        have q := wordK_some (t := t.data.toList) (by omega)
        exact HN.out _ q.1.1 (by omega) (ba_of q.2.symm)
      have hlt' : ¬ (j : Int) < 15 := by omega
      have bx2 := BX.out.set (i := 0) (.int .i64 0) |>.set (i := 1) (.string ⟨#[]⟩) |>.set (i := 2) (.int .i64 0) |>.set (i := 3) (.int .i64 0) |>.set (i := 4) (.int .i64 0)
      have u0 := BX.out.unfrozen 0
      have u1 := BX.out.unfrozen 1
      have u2 := BX.out.unfrozen 2
      have u3 := BX.out.unfrozen 3
      have u4 := BX.out.unfrozen 4
      have c0 := BX.out.cell 0 rfl
      have c1 := BX.out.cell 1 rfl
      have c2 := BX.out.cell 2 rfl
      have c3 := BX.out.cell 3 rfl
      have c4 := BX.out.cell 4 rfl
      have bx3 : Hid (Box _ _ _ _) := bx2
      clear bx2
      go_wp2_with fail
      have r0 := bx3.out.cell 0 rfl
      have r1 := bx3.out.cell 1 rfl
      have r2 := bx3.out.cell 2 rfl
      have r3 := bx3.out.cell 3 rfl
      have r4 := bx3.out.cell 4 rfl
      refine bodyPost_ret (v := .tuple #[.agg #[.int .i64 0, .string ⟨#[]⟩, .int .i64 0, .int .i64 0, .int .i64 0], .bool false]) (by simp [results, Tryz.results52, go_sem, r0, r1, r2, r3, r4]) rfl ⟨by rw [HV.out], ?_⟩
      exact putCells_below [.int .i64 0, .string ⟨#[]⟩, .int .i64 0, .int .i64 0, .int .i64 0] _ _ _ w.heap.size 0 (Nat.le_refl _) HB.out
end Go.Proofs.YtdapgihghbmlfaaGreatDoor
