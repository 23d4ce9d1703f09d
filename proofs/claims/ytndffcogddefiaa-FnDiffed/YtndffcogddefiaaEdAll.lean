/- EditedAll of the program and of the specification: walked. -/
import Derived.Test.YtndffcogddefiaaEdTop
namespace Go.Proofs.Ytndffcogddefiaa
open Go.RowKit Go.Deep
/-- edits one behind the other -/
def foldE : List EditD → TD → Option TD
  | [], d => some d
  | e :: es, d => match editedD d e with
    | some y => foldE es y
    | none => none
def allD (d : TD) (l : List EditD) : Option TD := if l.length ≤ 100 ∧ treeB d = true then foldE l d else none
theorem foldE_step {l : List EditD} {j : Nat} (hj : j < l.length) (d : TD) : foldE (l.drop j) d = match editedD d l[j] with
    | some y => foldE (l.drop (j + 1)) y
    | none => none := by rw [List.drop_eq_getElem_cons hj]; rfl
theorem foldE_end (l : List EditD) (d : TD) : foldE (l.drop l.length) d = some d := by rw [List.drop_length]; rfl
theorem EdR.yes {w w' : World} {o : Option TD} {y : TD} {C : List Value} {fs : List Nat} {n : Nat} (h : o = some y) (ht : TreeO n w' C y fs) (hn : fs.Nodup) (hl : ∀ b ∈ fs, w.heap.size ≤ b) (hb : Below w.heap.size w w') : EdR w w' o (.returned (.tuple #[.agg C.toArray, .bool true])) := by
  subst h
  exact ⟨C, fs, n, rfl, ht, hn, hl, hb⟩
theorem cell_al {w : World} {b i : Nat} {v : Value} (h : w.cell? ⟨b, i, none⟩ = some v) (o : Obj) : (w.alloc o).cell? ⟨b, i, none⟩ = some v := by
  rw [World.cell?_of_block (w := w) (w' := w.alloc o) (Below.heap_alloc _ _ _ (World.block_lt_of_cell? _ _ h))]; exact h
theorem cell_st {w : World} {b i T f : Nat} {v : Value} (h : w.cell? ⟨b, i, none⟩ = some v) (hne : b ≠ T) (u : Value) : (w.setCell ⟨T, f, none⟩ u).cell? ⟨b, i, none⟩ = some v := by
  rw [World.cell?_of_block (w := w) (w' := w.setCell ⟨T, f, none⟩ u) (set_other hne u)]; exact h
theorem cell_re {w : World} {o o' : Obj} {b i : Nat} {v : Value} (h : (w.alloc o).cell? ⟨b, i, none⟩ = some v) (hb : b < w.heap.size) : (w.alloc o').cell? ⟨b, i, none⟩ = some v := by
  have h0 : w.cell? ⟨b, i, none⟩ = some v := (World.cell?_of_block (w := w.alloc o) (w' := w) (Below.heap_alloc _ _ _ hb).symm).trans h
  exact cell_al h0 _
set_option maxRecDepth 100000 in
set_option maxHeartbeats 8000000 in
theorem implEditedAll_any {n m : Nat} {w : World} {t k kl : Value} {d : TD} {l : List EditD} (ht0 : TreeAt w 0 n t k d) (hl0 : SeqAt 5 (EditAt m) w 0 kl l) :
    Calls Try.prog 24 #[.agg #[t, k], kl] w fun e1 w' => EdR w w' (allD d l) e1 := by
  obtain ⟨rfl, _⟩ := ht0.tag
  obtain ⟨_, a0, c0, rfl⟩ := ht0.form
  obtain ⟨al, cl, rfl, ⟨hml, _⟩, hx⟩ := hl0
  unfold maxLen at hml
  have hx' : Hid (0 < l.length → ∃ b off, al = some ⟨b, off, none⟩ ∧ 0 ≤ b ∧ b < w.heap.size ∧ ∀ i, (h : i < l.length) → ∃ cs, cs.length = 5 ∧ Lie w b (off + i * 5) cs ∧ EditAt m w 0 cs l[i]) := hx
  have ht : Hid (∀ W, Below w.heap.size w W → TreeAt W 0 n (.string (strT d)) (.slice a0 (kidsOf d).length c0) d) := fun W hb => ht0.below hb
  have had : Hid (allD d l = if l.length ≤ 100 ∧ treeB d = true then foldE l d else none) := rfl
  clear ht0 hx
  have hB0 : Hid (Below w.heap.size w ((w.alloc (.cells #[.string (strT d), .slice a0 (kidsOf d).length c0] 26)).alloc (.cells #[.string ⟨#[]⟩, .slice none 0 0] 26))) := ((Below.refl _ _).alloc (Nat.le_refl _) _).alloc (by simp) _
  have bT0 : Hid (Box ((w.alloc (.cells #[.string (strT d), .slice a0 (kidsOf d).length c0] 26)).alloc (.cells #[.string ⟨#[]⟩, .slice none 0 0] 26)) w.heap.size [.string (strT d), .slice a0 (kidsOf d).length c0] 26) := (Box.new w [.string (strT d), .slice a0 (kidsOf d).length c0] 26).alloc _
  have bR0 : Hid (Box ((w.alloc (.cells #[.string (strT d), .slice a0 (kidsOf d).length c0] 26)).alloc (.cells #[.string ⟨#[]⟩, .slice none 0 0] 26)) (w.heap.size + 1) [.string ⟨#[]⟩, .slice none 0 0] 26) := by
    have q := Box.new (w.alloc (.cells #[.string (strT d), .slice a0 (kidsOf d).length c0] 26)) [.string ⟨#[]⟩, .slice none 0 0] 26
    simpa only [World.size_alloc, Hid] using q
  go_enter Try.func24, Try.ntmps24
  have t0 := bT0.out.cell 0 rfl
  have t1 := bT0.out.cell 1 rfl
  by_cases hbig : 100 < (l.length : Int)
  · have hno : Hid (allD d l = none) := by show _ = _; rw [had.out, if_neg (by omega)]
    have r0 := bR0.out.cell 0 rfl
    have r1 := bR0.out.cell 1 rfl
    have fR := bR0.out.unfrozen
    go_wp2_with fail
    exact bodyPost_ret (v := .tuple #[.agg #[.string ⟨#[]⟩, .slice none 0 0], .bool false]) (by simp [results, Try.results24, go_sem]) rfl (EdR.no hno.out hB0.out)
  have hle : Hid (l.length ≤ 100) := by show _ ≤ _; omega
  go_wp2_with fail
  refine (implOk_any (ht.out _ hB0.out)).mono ?_
  rintro e1 w1 ⟨rfl, hb1⟩
  have hB1 : Hid (Below w.heap.size w w1) := hB0.out.trans (hb1.mono hB0.out.size)
  have bT1 : Hid (Box w1 w.heap.size [.string (strT d), .slice a0 (kidsOf d).length c0] 26) := bT0.out.below hb1 bT0.out.lt
  have bR1 : Hid (Box w1 (w.heap.size + 1) [.string ⟨#[]⟩, .slice none 0 0] 26) := bR0.out.below hb1 bR0.out.lt
  clear hb1 t0 t1 bT0 bR0 hB0
  rcases (by cases treeB d <;> simp : treeB d = false ∨ treeB d = true) with hf | hf
  · have hno : Hid (allD d l = none) := by show _ = _; rw [had.out, if_neg (by simp [hf])]
    rw [hf]
    clear hf
    have r0 := bR1.out.cell 0 rfl
    have r1 := bR1.out.cell 1 rfl
    have fR := bR1.out.unfrozen
    go_wp2_with fail
    have z := Box.set (i := 1) (Box.set (i := 0) bR1.out (.string ⟨#[]⟩)) (.slice none 0 0)
    have z0 := z.cell 0 rfl
    have z1 := z.cell 1 rfl
    refine bodyPost_ret (v := .tuple #[.agg #[.string ⟨#[]⟩, .slice none 0 0], .bool false]) (by simp [results, Try.results24, go_sem, z0, z1]) rfl ?_
    exact EdR.no hno.out (putCells_below [.string ⟨#[]⟩, .slice none 0 0] _ _ _ (w.heap.size + 1) 0 (by omega) hB1.out)
  have hd : Hid (treeB d = true) := hf
  have hall : Hid (allD d l = foldE l d) := by show _ = _; rw [had.out, if_pos ⟨hle.out, hf⟩]
  rw [hf]
  clear hf had
  have t0 := bT1.out.cell 0 rfl
  have t1 := bT1.out.cell 1 rfl
  have fT := bT1.out.unfrozen
  go_wp2_with fail
  refine (cpI_all n _ 0 _ _ d (ht.out _ hB1.out) (treeB_right hd.out)).mono ?_
  rintro e1 w3 ⟨⟨cs3, fs3, rfl, ho3, nd3, lo3⟩, hb3⟩
  obtain ⟨k3, rfl, hs3, _⟩ := ho3.opened
  obtain ⟨a3, c3, rfl⟩ := hs3.form
  have hB3 : Hid (Below w.heap.size w w3) := hB1.out.trans (hb3.mono hB1.out.size)
  have bT3 : Hid (Box w3 w.heap.size [.string (strT d), .slice a0 (kidsOf d).length c0] 26) := bT1.out.below hb3 bT1.out.lt
  have bR3 : Hid (Box w3 (w.heap.size + 1) [.string ⟨#[]⟩, .slice none 0 0] 26) := bR1.out.below hb3 bR1.out.lt
  have lo3h : Hid (∀ b ∈ fs3, w.heap.size + 1 < b) := fun b hb => by have h1 := lo3 b hb; have h2 := bR1.out.lt; omega
  have ho3h : Hid (TreeO n w3 [.string (strT d), .slice a3 (kidsOf d).length c3] d fs3) := ho3
  have nd3h : Hid (fs3.Nodup) := nd3
  clear hb3 t0 t1 fT bT1 bR1 ho3 hs3 nd3 lo3
  have bT4 : Hid (Box ((w3.setCell ⟨w.heap.size, 0, none⟩ (.string (strT d))).setCell ⟨w.heap.size, 1, none⟩ (.slice a3 (kidsOf d).length c3)) w.heap.size [.string (strT d), .slice a3 (kidsOf d).length c3] 26) := (bT3.out.set (i := 0) _).set (i := 1) _
  have bR4 : Hid (Box ((w3.setCell ⟨w.heap.size, 0, none⟩ (.string (strT d))).setCell ⟨w.heap.size, 1, none⟩ (.slice a3 (kidsOf d).length c3)) (w.heap.size + 1) [.string ⟨#[]⟩, .slice none 0 0] 26) := (bR3.out.other (by omega) _).other (by omega) _
  have hB4 : Hid (Below w.heap.size w ((w3.setCell ⟨w.heap.size, 0, none⟩ (.string (strT d))).setCell ⟨w.heap.size, 1, none⟩ (.slice a3 (kidsOf d).length c3))) := (hB3.out.setCell (p := ⟨w.heap.size, 0, none⟩) (by exact Nat.le_refl _) _).setCell (p := ⟨w.heap.size, 1, none⟩) (by exact Nat.le_refl _) _
  have ho4 : Hid (TreeO n ((w3.setCell ⟨w.heap.size, 0, none⟩ (.string (strT d))).setCell ⟨w.heap.size, 1, none⟩ (.slice a3 (kidsOf d).length c3)) [.string (strT d), .slice a3 (kidsOf d).length c3] d fs3) := TreeO_stays n _ _ _ _ _ (fun b hb => (set_other (by have := lo3h.out b hb; omega) _).trans (set_other (by have := lo3h.out b hb; omega) _)) ho3h.out
  have s0 := bT3.out.cell 0 rfl
  have s1 := bT3.out.cell 1 rfl
  have fS := bT3.out.unfrozen
  go_wp2_with fail
  clear s0 s1 fS bT3 bR3 ho3h hB3 hB1
  generalize ((w3.setCell ⟨w.heap.size, 0, none⟩ (.string (strT d))).setCell ⟨w.heap.size, 1, none⟩ (.slice a3 (kidsOf d).length c3)) = w4 at bT4 bR4 hB4 ho4
  go_loopw [23] (fun i wr => ∃ (j : Nat) (D : TD) (aj : Option Addr) (cj nj : Nat) (fs : List Nat), j ≤ l.length ∧ i = .int .i64 j ∧ Hid (foldE l d = foldE (l.drop j) D) ∧ Hid (Box wr w.heap.size [.string (strT D), .slice aj (kidsOf D).length cj] 26) ∧ Hid (Box wr (w.heap.size + 1) [.string ⟨#[]⟩, .slice none 0 0] 26) ∧ Hid (TreeO nj wr [.string (strT D), .slice aj (kidsOf D).length cj] D fs) ∧ Hid (fs.Nodup) ∧ Hid (∀ b ∈ fs, w.heap.size + 1 < b) ∧ Hid (Below w.heap.size w wr)) (fun i _ => l.length - (intOf i).toNat)
  case atStart => exact ⟨0, d, a3, c3, n, fs3, by omega, rfl, rfl, bT4, bR4, ho4, nd3h, lo3h, hB4⟩
  case round =>
    obtain ⟨j, D, aj, cj, nj, fs, hj, rfl, hfo, bT, bR, ho, hnd, hlo, hB⟩ := hrel
    by_cases hlt : j < l.length
    · obtain ⟨bl, ol, rfl, _, hbl, hc⟩ := hx'.out (by omega)
      obtain ⟨csE, _, lie, hE⟩ := hc j hlt
      have hst : Hid (foldE (l.drop j) D = match editedD D l[j] with
        | some y => foldE (l.drop (j + 1)) y
        | none => none) := foldE_step hlt D
      generalize l[j] = E at hE hst
      have lie1 := Lie.keep (lo := 0) (lo' := 0) lie (.of_below hB.out) (Nat.zero_le _) hbl
      have hEr := EditAt.stays _ _ 0 0 _ _ (.of_below hB.out) hE
      obtain ⟨ep, ec, ea, ecc, rfl, _, _, _⟩ := hEr.form
      have hE1 : Hid (∀ W, Below wr.heap.size wr W → EditAt m W 0 [.int .i64 E.vKind, .slice ep E.vPath.length ec, .string E.vTag, .string (strT E.vTree), .slice ea (kidsOf E.vTree).length ecc] E) := fun W hb => EditAt.stays _ _ _ _ _ _ (.of_below hb) hEr
      have l0 := lie1 0 (by simp)
      have l1 := lie1 1 (by simp)
      have l2 := lie1 2 (by simp)
      have l3 := lie1 3 (by simp)
      have l4 := lie1 4 (by simp)
      simp only [List.getElem?_cons_zero, List.getElem?_cons_succ, Nat.add_zero] at l0 l1 l2 l3 l4
      have hltI : (j : Int) < (l.length : Int) := by omega
      have hj0 : (0 : Int) ≤ (j : Int) := by omega
      clear lie lie1 hE hEr hc
      have hbE : Hid (Below wr.heap.size wr (wr.alloc (.cells #[.int .i64 E.vKind, .slice ep E.vPath.length ec, .string E.vTag, .string (strT E.vTree), .slice ea (kidsOf E.vTree).length ecc] 29))) := (Below.refl _ _).alloc (Nat.le_refl _) _
      have bE : Hid (Box (wr.alloc (.cells #[.int .i64 E.vKind, .slice ep E.vPath.length ec, .string E.vTag, .string (strT E.vTree), .slice ea (kidsOf E.vTree).length ecc] 29)) wr.heap.size [.int .i64 E.vKind, .slice ep E.vPath.length ec, .string E.vTag, .string (strT E.vTree), .slice ea (kidsOf E.vTree).length ecc] 29) := Box.new wr _ _
      have bTe : Hid (Box (wr.alloc (.cells #[.int .i64 E.vKind, .slice ep E.vPath.length ec, .string E.vTag, .string (strT E.vTree), .slice ea (kidsOf E.vTree).length ecc] 29)) w.heap.size [.string (strT D), .slice aj (kidsOf D).length cj] 26) := bT.out.alloc _
      have bRe : Hid (Box (wr.alloc (.cells #[.int .i64 E.vKind, .slice ep E.vPath.length ec, .string E.vTag, .string (strT E.vTree), .slice ea (kidsOf E.vTree).length ecc] 29)) (w.heap.size + 1) [.string ⟨#[]⟩, .slice none 0 0] 26) := bR.out.alloc _
      have hoe : Hid (TreeO nj (wr.alloc (.cells #[.int .i64 E.vKind, .slice ep E.vPath.length ec, .string E.vTag, .string (strT E.vTree), .slice ea (kidsOf E.vTree).length ecc] 29)) [.string (strT D), .slice aj (kidsOf D).length cj] D fs) := TreeO_stays nj _ _ _ _ _ (fun b hb => hbE.out.block b (TreeO_lt _ _ _ _ _ ho.out b hb)) ho.out
      have q0 := bE.out.cell 0 rfl
      have q1 := bE.out.cell 1 rfl
      have q2 := bE.out.cell 2 rfl
      have q3 := bE.out.cell 3 rfl
      have q4 := bE.out.cell 4 rfl
      have u0 := bTe.out.cell 0 rfl
      have u1 := bTe.out.cell 1 rfl
      go_wp2_with fail
      refine (implEdited_any (treeO_ta hoe.out) (hE1.out _ hbE.out)).mono ?_
      rintro e1 w5 ⟨cs5, fs5, n5, rfl, ho5, nd5, lo5, hb5⟩
      have hB5 : Hid (Below w.heap.size w w5) := hB.out.trans ((hbE.out.trans (hb5.mono hbE.out.size)).mono hB.out.size)
      have bT5 : Hid (Box w5 w.heap.size [.string (strT D), .slice aj (kidsOf D).length cj] 26) := bTe.out.below hb5 bTe.out.lt
      have bR5 : Hid (Box w5 (w.heap.size + 1) [.string ⟨#[]⟩, .slice none 0 0] 26) := bRe.out.below hb5 bRe.out.lt
      have lo5h : Hid (∀ b ∈ fs5, w.heap.size + 1 < b) := fun b hb => by have h1 := lo5 b hb; have h2 := bRe.out.lt; omega
      have nd5h : Hid (fs5.Nodup) := nd5
      clear q0 q1 q2 q3 q4 u0 u1 l0 l1 l2 l3 l4 hb5 lo5 nd5 bE bTe bRe hoe hbE
      cases hed : editedD D E with
      | none =>
        rw [hed] at ho5
        have hno : Hid (allD d l = none) := by show _ = _; rw [hall.out, hfo.out, hst.out, hed]
        obtain ⟨k5, rfl, hs5, _⟩ := ho5.opened
        obtain ⟨a5, c5, rfl⟩ := hs5.form
        have hB6 : Hid (∀ o, Below w.heap.size w (w5.alloc o)) := fun o => hB5.out.alloc hB5.out.size o
        have bR6 : Hid (Box (w5.alloc (.cells #[.string (strT (resTd none)), .slice a5 (kidsOf (resTd none)).length c5] 26)) (w.heap.size + 1) [.string ⟨#[]⟩, .slice none 0 0] 26) := bR5.out.alloc _
        clear hed ho5 hs5
        simp only [Option.isSome_none]
        have r0 := bR6.out.cell 0 rfl
        have r1 := bR6.out.cell 1 rfl
        have fR := bR6.out.unfrozen
        go_wp2_with fail
        have z := Box.set (i := 1) (Box.set (i := 0) bR6.out (.string ⟨#[]⟩)) (.slice none 0 0)
        have z0 := z.cell 0 rfl
        have z1 := z.cell 1 rfl
        refine bodyPost_ret (v := .tuple #[.agg #[.string ⟨#[]⟩, .slice none 0 0], .bool false]) (by simp [results, Try.results24, go_sem, z0, z1]) rfl ?_
        exact EdR.no hno.out (putCells_below [.string ⟨#[]⟩, .slice none 0 0] _ _ _ (w.heap.size + 1) 0 (by omega) (hB6.out _))
      | some y =>
        rw [hed] at ho5
        have ho5' : TreeO n5 w5 cs5 y fs5 := ho5
        have hfy : Hid (foldE l d = foldE (l.drop (j + 1)) y) := by show _ = _; rw [hfo.out, hst.out, hed]
        obtain ⟨k5, rfl, hs5, _⟩ := ho5'.opened
        obtain ⟨a5, c5, rfl⟩ := hs5.form
        have ho5h : Hid (TreeO n5 w5 [.string (strT y), .slice a5 (kidsOf y).length c5] y fs5) := ho5'
        clear hed ho5 ho5' hs5
        have hb6 : Hid (Below w5.heap.size w5 (w5.alloc (.cells #[.string (strT y), .slice a5 (kidsOf y).length c5] 26))) := (Below.refl _ _).alloc (Nat.le_refl _) _
        have bY6 : Hid (Box (w5.alloc (.cells #[.string (strT y), .slice a5 (kidsOf y).length c5] 26)) w5.heap.size [.string (strT y), .slice a5 (kidsOf y).length c5] 26) := Box.new w5 _ _
        have bT6 : Hid (Box (w5.alloc (.cells #[.string (strT y), .slice a5 (kidsOf y).length c5] 26)) w.heap.size [.string (strT D), .slice aj (kidsOf D).length cj] 26) := bT5.out.alloc _
        have bR6 : Hid (Box (w5.alloc (.cells #[.string (strT y), .slice a5 (kidsOf y).length c5] 26)) (w.heap.size + 1) [.string ⟨#[]⟩, .slice none 0 0] 26) := bR5.out.alloc _
        have y0 := bY6.out.cell 0 rfl
        have y1 := bY6.out.cell 1 rfl
        have u0 := bT6.out.cell 0 rfl
        have u1 := bT6.out.cell 1 rfl
        have fT := bT6.out.unfrozen
        simp only [Option.isSome_some]
        go_wp2_with fail
        go_roundw
        case rel =>
          refine ⟨j + 1, y, a5, c5, n5, fs5, by omega, by go_num, hfy, (bT6.out.set (i := 0) _).set (i := 1) _, (bR6.out.other (by omega) _).other (by omega) _, TreeO_stays n5 _ _ _ _ _ (fun b hb => ((set_other (by have := lo5h.out b hb; omega) _).trans (set_other (by have := lo5h.out b hb; omega) _)).trans (hb6.out.block b (TreeO_lt _ _ _ _ _ ho5h.out b hb))) ho5h.out, nd5h, lo5h, ?_⟩
          exact ((hB5.out.trans (hb6.out.mono hB5.out.size)).setCell (p := ⟨w.heap.size, 0, none⟩) (by exact Nat.le_refl _) _).setCell (p := ⟨w.heap.size, 1, none⟩) (by exact Nat.le_refl _) _
        case measure => simp [intOf]; omega
    · obtain rfl : j = l.length := by omega
      have hso : Hid (allD d l = some D) := by show _ = _; rw [hall.out, hfo.out, foldE_end]
      have u0 := bT.out.cell 0 rfl
      have u1 := bT.out.cell 1 rfl
      have hn1 : ¬ ((l.length : Int) < (l.length : Int)) := by omega
      have r0 := bR.out.cell 0 rfl
      have r1 := bR.out.cell 1 rfl
      have fR := bR.out.unfrozen
      go_wp2_with fail
      have z := Box.set (i := 1) (Box.set (i := 0) bR.out (.string (strT D))) (.slice aj (kidsOf D).length cj)
      have z0 := z.cell 0 rfl
      have z1 := z.cell 1 rfl
      refine bodyPost_ret (v := .tuple #[.agg #[.string (strT D), .slice aj (kidsOf D).length cj], .bool true]) (by simp [results, Try.results24, go_sem, z0, z1]) rfl ?_
      exact EdR.yes (C := [.string (strT D), .slice aj (kidsOf D).length cj]) hso.out (TreeO_stays nj _ _ _ _ _ (fun b hb => putCells_other [.string (strT D), .slice aj (kidsOf D).length cj] wr (w.heap.size + 1) 0 b (by have := hlo.out b hb; omega)) ho.out) hnd.out (fun b hb => by have := hlo.out b hb; omega) (putCells_below [.string (strT D), .slice aj (kidsOf D).length cj] _ _ _ (w.heap.size + 1) 0 (by omega) hB.out)
set_option maxRecDepth 100000 in
set_option maxHeartbeats 8000000 in
theorem specEditedAll_any {n m : Nat} {w : World} {t k kl : Value} {d : TD} {l : List EditD} (ht0 : TreeAt w 0 n t k d) (hl0 : SeqAt 5 (EditAt m) w 0 kl l) :
    Calls Try.prog 26 #[.agg #[t, k], kl] w fun e1 w' => EdR w w' (allD d l) e1 := by
  obtain ⟨rfl, _⟩ := ht0.tag
  obtain ⟨_, a0, c0, rfl⟩ := ht0.form
  obtain ⟨al, cl, rfl, ⟨hml, _⟩, hx⟩ := hl0
  unfold maxLen at hml
  have hx' : Hid (0 < l.length → ∃ b off, al = some ⟨b, off, none⟩ ∧ 0 ≤ b ∧ b < w.heap.size ∧ ∀ i, (h : i < l.length) → ∃ cs, cs.length = 5 ∧ Lie w b (off + i * 5) cs ∧ EditAt m w 0 cs l[i]) := hx
  have ht : Hid (∀ W, Below w.heap.size w W → TreeAt W 0 n (.string (strT d)) (.slice a0 (kidsOf d).length c0) d) := fun W hb => ht0.below hb
  have had : Hid (allD d l = if l.length ≤ 100 ∧ treeB d = true then foldE l d else none) := rfl
  clear ht0 hx
  have hB0 : Hid (Below w.heap.size w ((w.alloc (.cells #[.string (strT d), .slice a0 (kidsOf d).length c0] 26)).alloc (.cells #[.string ⟨#[]⟩, .slice none 0 0] 26))) := ((Below.refl _ _).alloc (Nat.le_refl _) _).alloc (by simp) _
  have bT0 : Hid (Box ((w.alloc (.cells #[.string (strT d), .slice a0 (kidsOf d).length c0] 26)).alloc (.cells #[.string ⟨#[]⟩, .slice none 0 0] 26)) w.heap.size [.string (strT d), .slice a0 (kidsOf d).length c0] 26) := (Box.new w [.string (strT d), .slice a0 (kidsOf d).length c0] 26).alloc _
  have bR0 : Hid (Box ((w.alloc (.cells #[.string (strT d), .slice a0 (kidsOf d).length c0] 26)).alloc (.cells #[.string ⟨#[]⟩, .slice none 0 0] 26)) (w.heap.size + 1) [.string ⟨#[]⟩, .slice none 0 0] 26) := by
    have q := Box.new (w.alloc (.cells #[.string (strT d), .slice a0 (kidsOf d).length c0] 26)) [.string ⟨#[]⟩, .slice none 0 0] 26
    simpa only [World.size_alloc, Hid] using q
  go_enter Try.func26, Try.ntmps26
  have t0 := bT0.out.cell 0 rfl
  have t1 := bT0.out.cell 1 rfl
  go_wp2_with fail
  refine (specOk_any (ht.out _ hB0.out)).mono ?_
  rintro e1 w1 ⟨rfl, hb1⟩
  have hB1 : Hid (Below w.heap.size w w1) := hB0.out.trans (hb1.mono hB0.out.size)
  have bT1 : Hid (Box w1 w.heap.size [.string (strT d), .slice a0 (kidsOf d).length c0] 26) := bT0.out.below hb1 bT0.out.lt
  have bR1 : Hid (Box w1 (w.heap.size + 1) [.string ⟨#[]⟩, .slice none 0 0] 26) := bR0.out.below hb1 bR0.out.lt
  clear hb1 t0 t1 bT0 bR0 hB0
  rcases (by cases treeB d <;> simp : treeB d = false ∨ treeB d = true) with hf | hf
  · have hno : Hid (allD d l = none) := by show _ = _; rw [had.out, if_neg (by simp [hf])]
    rw [hf]
    clear hf
    have r0 := bR1.out.cell 0 rfl
    have r1 := bR1.out.cell 1 rfl
    have fR := bR1.out.unfrozen
    go_wp2_with fail
    have z := Box.set (i := 1) (Box.set (i := 0) bR1.out (.string ⟨#[]⟩)) (.slice none 0 0)
    have z0 := z.cell 0 rfl
    have z1 := z.cell 1 rfl
    refine bodyPost_ret (v := .tuple #[.agg #[.string ⟨#[]⟩, .slice none 0 0], .bool false]) (by simp [results, Try.results26, go_sem, z0, z1]) rfl ?_
    exact EdR.no hno.out (putCells_below [.string ⟨#[]⟩, .slice none 0 0] _ _ _ (w.heap.size + 1) 0 (by omega) hB1.out)
  have hd : Hid (treeB d = true) := hf
  rw [hf]
  clear hf
  by_cases hbig : 100 < (l.length : Int)
  · have hno : Hid (allD d l = none) := by show _ = _; rw [had.out, if_neg (by omega)]
    have r0 := bR1.out.cell 0 rfl
    have r1 := bR1.out.cell 1 rfl
    have fR := bR1.out.unfrozen
    go_wp2_with fail
    have z := Box.set (i := 1) (Box.set (i := 0) bR1.out (.string ⟨#[]⟩)) (.slice none 0 0)
    have z0 := z.cell 0 rfl
    have z1 := z.cell 1 rfl
    refine bodyPost_ret (v := .tuple #[.agg #[.string ⟨#[]⟩, .slice none 0 0], .bool false]) (by simp [results, Try.results26, go_sem, z0, z1]) rfl ?_
    exact EdR.no hno.out (putCells_below [.string ⟨#[]⟩, .slice none 0 0] _ _ _ (w.heap.size + 1) 0 (by omega) hB1.out)
  have hall : Hid (allD d l = foldE l d) := by show _ = _; rw [had.out, if_pos ⟨by omega, hd.out⟩]
  clear had
  have t0 := bT1.out.cell 0 rfl
  have t1 := bT1.out.cell 1 rfl
  go_wp2_with fail
  refine (cpS_all n _ 0 _ _ d (ht.out _ hB1.out) (treeB_right hd.out)).mono ?_
  rintro e1 w3 ⟨⟨cs3, fs3, rfl, ho3, nd3, lo3⟩, hb3⟩
  obtain ⟨k3, rfl, hs3, _⟩ := ho3.opened
  obtain ⟨a3, c3, rfl⟩ := hs3.form
  have hB3 : Hid (Below w.heap.size w w3) := hB1.out.trans (hb3.mono hB1.out.size)
  have bR3 : Hid (Box w3 (w.heap.size + 1) [.string ⟨#[]⟩, .slice none 0 0] 26) := bR1.out.below hb3 bR1.out.lt
  have hf3 : ∀ b ∈ fs3, b < w3.heap.size := TreeO_lt _ _ _ _ _ ho3
  have lo3h : Hid (∀ b ∈ fs3, w.heap.size + 1 < b ∧ b ≠ w3.heap.size) := fun b hb => by have h1 := lo3 b hb; have h2 := bR1.out.lt; have h3 := hf3 b hb; omega
  have hb4 : Below w3.heap.size w3 (w3.alloc (.cells #[.string (strT d), .slice a3 (kidsOf d).length c3] 26)) := (Below.refl _ _).alloc (Nat.le_refl _) _
  have ho4 : Hid (TreeO n (w3.alloc (.cells #[.string (strT d), .slice a3 (kidsOf d).length c3] 26)) [.string (strT d), .slice a3 (kidsOf d).length c3] d fs3) := TreeO_stays n _ _ _ _ _ (fun b hb => hb4.block b (hf3 b hb)) ho3
  have nd3h : Hid (fs3.Nodup) := nd3
  have bT4 : Hid (Box (w3.alloc (.cells #[.string (strT d), .slice a3 (kidsOf d).length c3] 26)) w3.heap.size [.string (strT d), .slice a3 (kidsOf d).length c3] 26) := Box.new w3 _ _
  have bR4 : Hid (Box (w3.alloc (.cells #[.string (strT d), .slice a3 (kidsOf d).length c3] 26)) (w.heap.size + 1) [.string ⟨#[]⟩, .slice none 0 0] 26) := bR3.out.alloc _
  have hB4 : Hid (Below w.heap.size w (w3.alloc (.cells #[.string (strT d), .slice a3 (kidsOf d).length c3] 26))) := hB3.out.trans (hb4.mono hB3.out.size)
  have hGl : w.heap.size + 1 < w3.heap.size := bR3.out.lt
  clear hb3 t0 t1 bT1 bR1 ho3 hs3 nd3 lo3 hf3 hb4 bR3 hB3
  go_wp2_with fail
  generalize (w3.alloc (.cells #[.string (strT d), .slice a3 (kidsOf d).length c3] 26)) = w4 at bT4 bR4 hB4 ho4
  generalize hGG : w3.heap.size = G at bT4 lo3h hGl ⊢
  clear hGG
  go_loopw [7] (fun i wr => ∃ (j : Nat) (D : TD) (aj : Option Addr) (cj nj : Nat) (fs : List Nat), j ≤ l.length ∧ i = .int .i64 j ∧ Hid (foldE l d = foldE (l.drop j) D) ∧ Hid (Box wr G [.string (strT D), .slice aj (kidsOf D).length cj] 26) ∧ Hid (Box wr (w.heap.size + 1) [.string ⟨#[]⟩, .slice none 0 0] 26) ∧ Hid (TreeO nj wr [.string (strT D), .slice aj (kidsOf D).length cj] D fs) ∧ Hid (fs.Nodup) ∧ Hid (∀ b ∈ fs, w.heap.size + 1 < b ∧ b ≠ G) ∧ Hid (Below w.heap.size w wr)) (fun i _ => l.length - (intOf i).toNat)
  case atStart => exact ⟨0, d, a3, c3, n, fs3, by omega, rfl, rfl, bT4, bR4, ho4, nd3h, lo3h, hB4⟩
  case round =>
    obtain ⟨j, D, aj, cj, nj, fs, hj, rfl, hfo, bT, bR, ho, hnd, hlo, hB⟩ := hrel
    by_cases hlt : j < l.length
    · obtain ⟨bl, ol, rfl, _, hbl, hc⟩ := hx'.out (by omega)
      obtain ⟨csE, _, lie, hE⟩ := hc j hlt
      have hst : Hid (foldE (l.drop j) D = match editedD D l[j] with
        | some y => foldE (l.drop (j + 1)) y
        | none => none) := foldE_step hlt D
      generalize l[j] = E at hE hst
      have lie1 := Lie.keep (lo := 0) (lo' := 0) lie (.of_below hB.out) (Nat.zero_le _) hbl
      have hEr := EditAt.stays _ _ 0 0 _ _ (.of_below hB.out) hE
      obtain ⟨ep, ec, ea, ecc, rfl, _, _, _⟩ := hEr.form
      have hE1 : Hid (∀ W, Below wr.heap.size wr W → EditAt m W 0 [.int .i64 E.vKind, .slice ep E.vPath.length ec, .string E.vTag, .string (strT E.vTree), .slice ea (kidsOf E.vTree).length ecc] E) := fun W hb => EditAt.stays _ _ _ _ _ _ (.of_below hb) hEr
      have hT1 : Hid (∀ W, Below wr.heap.size wr W → TreeAt W 0 nj (.string (strT D)) (.slice aj (kidsOf D).length cj) D) := fun W hb => (treeO_ta ho.out).below hb
      have l0 := lie1 0 (by simp)
      have l1 := lie1 1 (by simp)
      have l2 := lie1 2 (by simp)
      have l3 := lie1 3 (by simp)
      have l4 := lie1 4 (by simp)
      simp only [List.getElem?_cons_zero, List.getElem?_cons_succ, Nat.add_zero] at l0 l1 l2 l3 l4
      have hltI : (j : Int) < (l.length : Int) := by omega
      have hj0 : (0 : Int) ≤ (j : Int) := by omega
      have hblr : bl < wr.heap.size := Nat.lt_of_lt_of_le hbl hB.out.size
      have hGr : G < wr.heap.size := bT.out.lt
      clear lie lie1 hE hEr hc
      generalize hYS : editedD D E = oo at hst
      have hYS' : Hid (editedD D E = oo) := hYS
      clear hYS
      go_upto_region 7 with fail
      go_cut [8, 9] (fun sP sB wx => ∃ (gz : Nat) (aY : Option Addr) (cY : Nat), sP = .pointer (some ⟨gz, 0, none⟩) ∧ sB = .bool oo.isSome ∧ Hid (Below wr.heap.size wr wx) ∧ Hid (Box wx gz [.string (strT (resTd oo)), .slice aY (kidsOf (resTd oo)).length cY] 26) ∧ wr.heap.size ≤ gz ∧ Hid (∃ fz nz, TreeO nz wx [.string (strT (resTd oo)), .slice aY (kidsOf (resTd oo)).length cY] (resTd oo) fz ∧ fz.Nodup ∧ ∀ b ∈ fz, wr.heap.size ≤ b ∧ b ≠ gz))
      case first =>
        have kp0 : Hid (Below wr.heap.size wr wr.drew) := (Below.refl _ _).drew
        refine wp_region_held_drew (S := fun w' => w'.cell? ⟨G, 0, none⟩ = some (.string (strT D)) ∧ w'.cell? ⟨G, 1, none⟩ = some (.slice aj (kidsOf D).length cj) ∧ w'.cell? ⟨bl, ol + j * 5, none⟩ = some (.int .i64 E.vKind) ∧ w'.cell? ⟨bl, ol + j * 5 + 1, none⟩ = some (.slice ep E.vPath.length ec) ∧ w'.cell? ⟨bl, ol + j * 5 + 2, none⟩ = some (.string E.vTag) ∧ w'.cell? ⟨bl, ol + j * 5 + 3, none⟩ = some (.string (strT E.vTree)) ∧ w'.cell? ⟨bl, ol + j * 5 + 4, none⟩ = some (.slice ea (kidsOf E.vTree).length ecc)) (by kernel_rfl) ⟨bT.out.cell 0 rfl, bT.out.cell 1 rfl, l0, l1, l2, l3, l4⟩ (fun hHeld => ?_)
        refine tq (i := 0) (d := 28) ?_
        simp only [sz, ss]
        refine tq (i := 1) (d := 29) ?_
        simp only [sz, ss]
        refine tq (i := 2) (d := 30) ?_
        simp only [sz, ss]
        refine tq (i := 3) (d := 31) ?_
        simp only [sz, ss]
        refine tq (i := 4) (d := 32) ?_
        simp only [sz, ss]
        refine wpAnyH_ready (rs := [5, 9]) (by kernel_rfl) (by simp) ?_
        refine (AllReadyH.cons rfl (fun K hK => ?_) (AllReadyH.cons rfl (fun K hK => ?_) AllReadyH.nil))
        · go_simp
          refine (specEdited_any (by exact hT1.out _ kp0.out) (by exact hE1.out _ kp0.out)).mono ?_
          rw [hYS'.out]
          rintro e1 w5 ⟨csW, fW, nW, rfl, hoW0, hndW0, hlW0, hbc⟩
          have hlW : Hid (∀ b ∈ fW, wr.heap.size ≤ b) := fun b m => Nat.le_trans kp0.out.size (hlW0 b m)
          have hndW : Hid (fW.Nodup) := hndW0
          obtain ⟨kY, rfl, ss, _⟩ := hoW0.opened
          obtain ⟨aY, cY, rfl⟩ := ss.form
          have anW : Hid (TreeO nW w5 [.string (strT (resTd oo)), .slice aY (kidsOf (resTd oo)).length cY] (resTd oo) fW) := hoW0
          clear hoW0 hlW0 hndW0 ss
          have kp1 : Hid (Below wr.heap.size wr w5) := kp0.out.trans (Below.mono (hbc) kp0.out.size)
          refine hK.out _ _ ⟨cell_on hbc hHeld.1, cell_on hbc hHeld.2.1, cell_on hbc hHeld.2.2.1, cell_on hbc hHeld.2.2.2.1, cell_on hbc hHeld.2.2.2.2.1, cell_on hbc hHeld.2.2.2.2.2.1, cell_on hbc hHeld.2.2.2.2.2.2⟩ (fun hHeld => ?_)
          clear hK K
          refine tq (i := 6) (d := 27) ?_
          simp only [sz, ss]
          refine tq (i := 7) (d := 34) ?_
          simp only [sz, ss]
          refine tq (i := 8) (d := 35) ?_
          simp only [sz, ss]
          refine wpAnyH_ready (rs := [9]) (by kernel_rfl) (by simp) ?_
          refine AllReadyH.cons rfl (fun K hK => ?_) AllReadyH.nil
          go_simp
          have kp2 : Hid (Below wr.heap.size wr (World.alloc w5 (.cells (List.toArray [.string ⟨#[]⟩, .slice none 0 0]) 26))) := kp1.out.trans (Below.mono ((Below.refl (World.heap w5).size w5).alloc (Nat.le_refl _) _) kp1.out.size)
          have an2 : Hid (TreeO nW (World.alloc w5 (.cells (List.toArray [.string ⟨#[]⟩, .slice none 0 0]) 26)) [.string (strT (resTd oo)), .slice aY (kidsOf (resTd oo)).length cY] (resTd oo) fW) := TreeO_stays _ _ _ _ _ _ (fun b m => Below.block ((Below.refl (World.heap w5).size w5).alloc (Nat.le_refl _) _) b (TreeO_lt _ _ _ _ _ anW.out b m)) anW.out
          have bz2 : Hid (Box (World.alloc w5 (.cells (List.toArray [.string ⟨#[]⟩, .slice none 0 0]) 26)) (World.heap w5).size [.string ⟨#[]⟩, .slice none 0 0] 26) := Box.new w5 _ _
          have gz2 : wr.heap.size ≤ (World.heap w5).size := kp1.out.size
          have nzW : Hid (∀ b ∈ fW, b ≠ (World.heap w5).size) := fun b m e => Nat.lt_irrefl _ (e ▸ TreeO_lt _ _ _ _ _ anW.out b m)
          refine hK.out _ _ ⟨cell_al hHeld.1 _, cell_al hHeld.2.1 _, cell_al hHeld.2.2.1 _, cell_al hHeld.2.2.2.1 _, cell_al hHeld.2.2.2.2.1 _, cell_al hHeld.2.2.2.2.2.1 _, cell_al hHeld.2.2.2.2.2.2 _⟩ (fun hHeld => ?_)
          clear hK K
          refine wpAnyH_ready (rs := [10]) (by kernel_rfl) (by simp) ?_
          refine AllReadyH.cons rfl (fun K hK => ?_) AllReadyH.nil
          have hgz : wr.heap.size ≤ (World.heap w5).size := gz2
          have lp_ : wr.heap.size ≤ (World.heap w5).size := kp1.out.size
          go_simp
          refine hK.out _ _ ⟨cell_re hHeld.1 (by omega), cell_re hHeld.2.1 (by omega), cell_re hHeld.2.2.1 (by omega), cell_re hHeld.2.2.2.1 (by omega), cell_re hHeld.2.2.2.2.1 (by omega), cell_re hHeld.2.2.2.2.2.1 (by omega), cell_re hHeld.2.2.2.2.2.2 (by omega)⟩ (fun hHeld => ?_)
          clear hK K
          refine tq (i := 11) (d := 9) ?_
          simp only [sz, ss]
          refine wpAnyH_done (by kernel_rfl) ?_ _
          have bF : Hid (Box (World.alloc w5 (.cells (List.toArray [.string (strT (resTd oo)), .slice aY (kidsOf (resTd oo)).length cY]) 26)) ((World.heap w5).size) [.string (strT (resTd oo)), .slice aY (kidsOf (resTd oo)).length cY] 26) := Box.new w5 _ _
          have kF : Hid (Below wr.heap.size wr (World.alloc w5 (.cells (List.toArray [.string (strT (resTd oo)), .slice aY (kidsOf (resTd oo)).length cY]) 26))) := kp1.out.alloc lp_ _
          have aF : Hid (∃ fz nz, TreeO nz (World.alloc w5 (.cells (List.toArray [.string (strT (resTd oo)), .slice aY (kidsOf (resTd oo)).length cY]) 26)) [.string (strT (resTd oo)), .slice aY (kidsOf (resTd oo)).length cY] (resTd oo) fz ∧ fz.Nodup ∧ ∀ b ∈ fz, wr.heap.size ≤ b ∧ b ≠ (World.heap w5).size) := ⟨fW, nW, TreeO_stays _ _ _ _ _ _ (fun b m => Below.heap_alloc _ _ _ (TreeO_lt _ _ _ _ _ anW.out b m)) anW.out, hndW.out, fun b m => ⟨hlW.out b m, nzW.out b m⟩⟩
          go_wp2_with fail
          go_meet
          exact ⟨_, aY, cY, rfl, rfl, kF, bF, hgz, aF⟩
        · go_simp
          have kp1 : Hid (Below wr.heap.size wr (World.alloc wr.drew (.cells (List.toArray [.string ⟨#[]⟩, .slice none 0 0]) 26))) := kp0.out.trans (Below.mono ((Below.refl (World.heap wr.drew).size wr.drew).alloc (Nat.le_refl _) _) kp0.out.size)
          have bz1 : Hid (Box (World.alloc wr.drew (.cells (List.toArray [.string ⟨#[]⟩, .slice none 0 0]) 26)) wr.heap.size [.string ⟨#[]⟩, .slice none 0 0] 26) := Box.new wr.drew _ _
          have gz1 : wr.heap.size ≤ wr.heap.size := kp0.out.size
          refine hK.out _ _ ⟨cell_al hHeld.1 _, cell_al hHeld.2.1 _, cell_al hHeld.2.2.1 _, cell_al hHeld.2.2.2.1 _, cell_al hHeld.2.2.2.2.1 _, cell_al hHeld.2.2.2.2.2.1 _, cell_al hHeld.2.2.2.2.2.2 _⟩ (fun hHeld => ?_)
          clear hK K
          refine wpAnyH_ready (rs := [5]) (by kernel_rfl) (by simp) ?_
          refine AllReadyH.cons rfl (fun K hK => ?_) AllReadyH.nil
          go_simp
          refine (specEdited_any (by exact hT1.out _ kp1.out) (by exact hE1.out _ kp1.out)).mono ?_
          rw [hYS'.out]
          rintro e1 w5 ⟨csW, fW, nW, rfl, hoW0, hndW0, hlW0, hbc⟩
          have hlW : Hid (∀ b ∈ fW, wr.heap.size ≤ b) := fun b m => Nat.le_trans kp1.out.size (hlW0 b m)
          have hndW : Hid (fW.Nodup) := hndW0
          have nzW : Hid (∀ b ∈ fW, b ≠ wr.heap.size) := fun b m e => Nat.lt_irrefl _ (Nat.lt_of_lt_of_le (Box.lt bz1.out) (e ▸ hlW0 b m))
          obtain ⟨kY, rfl, ss, _⟩ := hoW0.opened
          obtain ⟨aY, cY, rfl⟩ := ss.form
          have anW : Hid (TreeO nW w5 [.string (strT (resTd oo)), .slice aY (kidsOf (resTd oo)).length cY] (resTd oo) fW) := hoW0
          clear hoW0 hlW0 hndW0 ss
          have kp2 : Hid (Below wr.heap.size wr w5) := kp1.out.trans (Below.mono (hbc) kp1.out.size)
          have bz2 : Hid (Box w5 wr.heap.size [.string ⟨#[]⟩, .slice none 0 0] 26) := Box.below bz1.out (hbc) bz1.out.lt
          refine hK.out _ _ ⟨cell_on hbc hHeld.1, cell_on hbc hHeld.2.1, cell_on hbc hHeld.2.2.1, cell_on hbc hHeld.2.2.2.1, cell_on hbc hHeld.2.2.2.2.1, cell_on hbc hHeld.2.2.2.2.2.1, cell_on hbc hHeld.2.2.2.2.2.2⟩ (fun hHeld => ?_)
          clear hK K
          refine tq (i := 6) (d := 27) ?_
          simp only [sz, ss]
          refine tq (i := 7) (d := 34) ?_
          simp only [sz, ss]
          refine tq (i := 8) (d := 35) ?_
          simp only [sz, ss]
          refine wpAnyH_ready (rs := [10]) (by kernel_rfl) (by simp) ?_
          refine AllReadyH.cons rfl (fun K hK => ?_) AllReadyH.nil
          have hgz : wr.heap.size ≤ wr.heap.size := gz1
          have u0_ := bz2.out.cell 0 rfl
          have u1_ := bz2.out.cell 1 rfl
          have uf_ := bz2.out.unfrozen
          go_simp
          refine hK.out _ _ ⟨cell_st (T := wr.heap.size) (cell_st (T := wr.heap.size) hHeld.1 (by omega) _) (by omega) _, cell_st (T := wr.heap.size) (cell_st (T := wr.heap.size) hHeld.2.1 (by omega) _) (by omega) _, cell_st (T := wr.heap.size) (cell_st (T := wr.heap.size) hHeld.2.2.1 (by omega) _) (by omega) _, cell_st (T := wr.heap.size) (cell_st (T := wr.heap.size) hHeld.2.2.2.1 (by omega) _) (by omega) _, cell_st (T := wr.heap.size) (cell_st (T := wr.heap.size) hHeld.2.2.2.2.1 (by omega) _) (by omega) _, cell_st (T := wr.heap.size) (cell_st (T := wr.heap.size) hHeld.2.2.2.2.2.1 (by omega) _) (by omega) _, cell_st (T := wr.heap.size) (cell_st (T := wr.heap.size) hHeld.2.2.2.2.2.2 (by omega) _) (by omega) _⟩ (fun hHeld => ?_)
          clear hK K
          refine tq (i := 11) (d := 9) ?_
          simp only [sz, ss]
          refine wpAnyH_done (by kernel_rfl) ?_ _
          have bF : Hid (Box (putCells w5 (wr.heap.size) 0 [.string (strT (resTd oo)), .slice aY (kidsOf (resTd oo)).length cY]) (wr.heap.size) [.string (strT (resTd oo)), .slice aY (kidsOf (resTd oo)).length cY] 26) := (bz2.out.set _).set _
          have kF : Hid (Below wr.heap.size wr (putCells w5 (wr.heap.size) 0 [.string (strT (resTd oo)), .slice aY (kidsOf (resTd oo)).length cY])) := putCells_below _ _ _ _ _ _ hgz kp2.out
          have aF : Hid (∃ fz nz, TreeO nz (putCells w5 (wr.heap.size) 0 [.string (strT (resTd oo)), .slice aY (kidsOf (resTd oo)).length cY]) [.string (strT (resTd oo)), .slice aY (kidsOf (resTd oo)).length cY] (resTd oo) fz ∧ fz.Nodup ∧ ∀ b ∈ fz, wr.heap.size ≤ b ∧ b ≠ wr.heap.size) := ⟨fW, nW, TreeO_stays _ _ _ _ _ _ (fun b m => putCells_other _ _ _ _ _ (nzW.out b m)) anW.out, hndW.out, fun b m => ⟨hlW.out b m, nzW.out b m⟩⟩
          go_wp2_with fail
          go_meet
          exact ⟨_, aY, cY, rfl, rfl, kF, bF, hgz, aF⟩
      case rest =>
      obtain ⟨gz, aY, cY, rfl, rfl, hk, bY, hgz, hF⟩ := hcut
      obtain ⟨fz, nz, hoz, ndz, loz⟩ := hF.out
      have hBc : Hid (Below w.heap.size w wc) := hB.out.trans (hk.out.mono hB.out.size)
      have bTc : Hid (Box wc G [.string (strT D), .slice aj (kidsOf D).length cj] 26) := bT.out.below hk.out bT.out.lt
      have bRc : Hid (Box wc (w.heap.size + 1) [.string ⟨#[]⟩, .slice none 0 0] 26) := bR.out.below hk.out bR.out.lt
      have hRr : w.heap.size + 1 < wr.heap.size := bR.out.lt
      cases oo with
      | none =>
        have hno : Hid (allD d l = none) := by show _ = _; rw [hall.out, hfo.out, hst.out]
        clear hoz ndz loz hF bY l0 l1 l2 l3 l4
        simp only [Option.isSome_none]
        have r0 := bRc.out.cell 0 rfl
        have r1 := bRc.out.cell 1 rfl
        have fR := bRc.out.unfrozen
        go_wp2_with fail
        have z := Box.set (i := 1) (Box.set (i := 0) bRc.out (.string ⟨#[]⟩)) (.slice none 0 0)
        have z0 := z.cell 0 rfl
        have z1 := z.cell 1 rfl
        refine bodyPost_ret (v := .tuple #[.agg #[.string ⟨#[]⟩, .slice none 0 0], .bool false]) (by simp [results, Try.results26, go_sem, z0, z1]) rfl ?_
        exact EdR.no hno.out (putCells_below [.string ⟨#[]⟩, .slice none 0 0] _ _ _ (w.heap.size + 1) 0 (by omega) hBc.out)
      | some y =>
        have hfy : Hid (foldE l d = foldE (l.drop (j + 1)) y) := by show _ = _; rw [hfo.out, hst.out]
        have hozh : Hid (TreeO nz wc [.string (strT y), .slice aY (kidsOf y).length cY] y fz) := hoz
        have ndzh : Hid (fz.Nodup) := ndz
        have lozh : Hid (∀ b ∈ fz, w.heap.size + 1 < b ∧ b ≠ G) := fun b hb => by have h1 := (loz b hb).1; omega
        have bYh : Hid (Box wc gz [.string (strT y), .slice aY (kidsOf y).length cY] 26) := bY.out
        clear hoz ndz loz hF bY l0 l1 l2 l3 l4
        have y0 := bYh.out.cell 0 rfl
        have y1 := bYh.out.cell 1 rfl
        have u0 := bTc.out.cell 0 rfl
        have u1 := bTc.out.cell 1 rfl
        have fT := bTc.out.unfrozen
        simp only [Option.isSome_some]
        go_wp2_with fail
        go_roundw
        case rel =>
          refine ⟨j + 1, y, aY, cY, nz, fz, by omega, by go_num, hfy, (bTc.out.set (i := 0) _).set (i := 1) _, (bRc.out.other (by omega) _).other (by omega) _, TreeO_stays nz _ _ _ _ _ (fun b hb => (set_other (by have := (lozh.out b hb).2; omega) _).trans (set_other (by have := (lozh.out b hb).2; omega) _)) hozh.out, ndzh, lozh, ?_⟩
          exact (hBc.out.setCell (p := ⟨G, 0, none⟩) (by show _ ≤ G; omega) _).setCell (p := ⟨G, 1, none⟩) (by show _ ≤ G; omega) _
        case measure => simp [intOf]; omega
    · obtain rfl : j = l.length := by omega
      have hso : Hid (allD d l = some D) := by show _ = _; rw [hall.out, hfo.out, foldE_end]
      have u0 := bT.out.cell 0 rfl
      have u1 := bT.out.cell 1 rfl
      have hn1 : ¬ ((l.length : Int) < (l.length : Int)) := by omega
      have r0 := bR.out.cell 0 rfl
      have r1 := bR.out.cell 1 rfl
      have fR := bR.out.unfrozen
      go_wp2_with fail
      have z := Box.set (i := 1) (Box.set (i := 0) bR.out (.string (strT D))) (.slice aj (kidsOf D).length cj)
      have z0 := z.cell 0 rfl
      have z1 := z.cell 1 rfl
      refine bodyPost_ret (v := .tuple #[.agg #[.string (strT D), .slice aj (kidsOf D).length cj], .bool true]) (by simp [results, Try.results26, go_sem, z0, z1]) rfl ?_
      exact EdR.yes (C := [.string (strT D), .slice aj (kidsOf D).length cj]) hso.out (TreeO_stays nj _ _ _ _ _ (fun b hb => putCells_other [.string (strT D), .slice aj (kidsOf D).length cj] wr (w.heap.size + 1) 0 b (by have := (hlo.out b hb).1; omega)) ho.out) hnd.out (fun b hb => by have := (hlo.out b hb).1; omega) (putCells_below [.string (strT D), .slice aj (kidsOf D).length cj] _ _ _ (w.heap.size + 1) 0 (by omega) hB.out)
end Go.Proofs.Ytndffcogddefiaa
