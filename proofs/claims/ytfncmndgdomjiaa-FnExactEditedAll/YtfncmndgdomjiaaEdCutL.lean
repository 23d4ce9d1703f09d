/- What the law of EditedAll needs besides. -/
import Derived.Test.YtfncmndgdomjiaaEdMark
import Derived.Test.YtfncmndgdomjiaaEdAll
namespace Go.Proofs.Ytfncmndgdomjiaa
open Go.RowKit Go.ChangeShapes
theorem EditL.mono {n m : Nat} (h : n ≤ m) {w : World} {lo : Nat} {cs : List Value} {x : EditD} (q : EditL n w lo cs x) : EditL m w lo cs x := by
  obtain ⟨kp, kk, e, h1, h2, h3, h4⟩ := q
  exact ⟨kp, kk, e, h1, h2, h3, TreeL.mono h h4⟩
theorem editsMore {n : Nat} {w : World} {lo : Nat} {k : Value} {xs : List EditD} (h : SeqAt 5 (EditL n) w lo k xs) : SeqAt 5 (EditL (n + 1)) w lo k xs := h.imply (fun _ _ r => EditL.mono (Nat.le_succ _) r)
theorem editsL {n : Nat} {w : World} {k : Value} {xs : List EditD} {fs : List Nat} (h : SeqOwn 5 (EditO n) w k xs fs) : SeqAt 5 (EditL n) w 0 k xs := h.at (fun _ _ _ _ r q => EditO_at r q) (fun _ _ => Nat.zero_le _)
theorem editsAt {n : Nat} {w : World} {k : Value} {xs : List EditD} {fs : List Nat} (h : SeqOwn 5 (EditO n) w k xs fs) : SeqAt 5 (EditAt n) w 0 k xs := (editsL h).imply (fun _ _ r => r.at)
theorem pos_bound {α : Type} {cnt : α → Nat} {B : Nat} {xs : List α} (h : ∀ i, (hi : i < xs.length) → cnt xs[i] ≤ B) : ∀ j, j ≤ xs.length → pos cnt xs j ≤ j * B := by
  intro j
  induction j with
  | zero => intro _; rw [pos_zero]; omega
  | succ j ih =>
    intro hj
    rw [pos_succ (by omega), Nat.succ_mul]
    have h1 := ih (by omega)
    have h2 := h j (by omega)
    omega
theorem cntEd_bound {m : Nat} {l : List EditD} (h : AllS (smallE (m + 1)) l) : (cntL (cntEd m) l : Int) ≤ 1048576 * 2097155 := by
  have h1 := pos_bound (cnt := cntEd m) (B := 2097155) (xs := l) (fun i hi => by
    obtain ⟨q1, _, q3⟩ := h.2 i hi
    simp only [belowN] at q3
    unfold cntEd
    rw [cntL_int]
    omega) l.length (Nat.le_refl _)
  have h2 := h.1
  unfold cntL
  have h3 := Nat.mul_le_mul_right 2097155 h2
  omega
theorem allCnt (d : TD) (l : List EditD) (L : Nat) : cntL (cntTree L) (kidsOf (resT (allD d l))) ≤ 30 := by
  have key : ∀ (l : List EditD) (d : TD), treeB d = true → ∀ y, foldE l d = some y → treeB y = true := by
    intro l
    induction l with
    | nil => intro d hd y h; injection h with h; rw [← h]; exact hd
    | cons e es ih =>
      intro d hd y h
      have h' : (match editedD d e with
        | some y => foldE es y
        | none => none) = some y := h
      cases hc : editedD d e with
      | none => rw [hc] at h'; cases h'
      | some z => rw [hc] at h'; exact ih z (edited_right hc).2.2 y h'
  cases h : allD d l with
  | none => show cntL (cntTree L) [] ≤ 30; rw [cntL_nil]; omega
  | some y =>
    unfold allD at h
    by_cases hc : l.length ≤ 100 ∧ treeB d = true
    · rw [if_pos hc] at h
      exact (treeB_right (key l d hc.2 y h)).cnt L
    · rw [if_neg hc] at h; cases h
set_option maxRecDepth 100000 in
theorem EditL_of_trodN {H : Type} {enc : TypeId × Value → H} {w : World} {spare : Nat → Bool} {held : Bool} (n : Nat) (cs : List Value) (y : DataW H × List MemPlace) (h : DataW.trod enc Try.prog w 0 spare held n 27 cs = some y) : ∃ x, EditL n w 0 cs x := by
  obtain ⟨xs, m, rfl, rfl, hl, hlen, hf⟩ := DataW.trod_struct Try.underlying27 h
  have hl' : cs.length = 5 := hl.trans (by kernel_rfl)
  have hlen' : xs.length = 4 := hlen
  match cs, hl', xs, hlen' with
  | [c0, c1, c2, c3, c4], _, [y0, y1, y2, y3], _ =>
    have g0 : DataW.trod enc Try.prog w 0 spare held m 2 [c0] = some y0 := hf 0 _ rfl
    obtain ⟨x0, e0, _, w0⟩ := DataW.trod_int Try.underlying2 g0
    injection e0 with e0 _
    subst e0
    have g1 : DataW.trod enc Try.prog w 0 spare held m 25 [c1] = some y1 := hf 1 _ rfl
    obtain ⟨k1, x1, e1, s1⟩ := seqAt_of_trod (R := IntAt) Try.underlying25 (show Try.prog.cellsOf 2 = 1 from by kernel_rfl) (by decide) intAt_of_trod g1
    injection e1 with e1 _
    subst e1
    have g2 : DataW.trod enc Try.prog w 0 spare held m 9 [c2] = some y2 := hf 2 _ rfl
    obtain ⟨x2, e2, _, w2⟩ := DataW.trod_string Try.underlying9 g2
    injection e2 with e2 _
    subst e2
    have g3 : DataW.trod enc Try.prog w 0 spare held m 24 [c3, c4] = some y3 := hf 3 _ rfl
    obtain ⟨x3, s3⟩ := TreeL_of_trod m _ _ g3
    obtain ⟨k3, e3, _, _⟩ := s3.opened
    simp only [List.cons.injEq, and_true] at e3
    obtain ⟨e3, e4⟩ := e3
    subst e3 e4
    exact ⟨⟨x0, x1, x2, x3⟩, _, _, rfl, inI_of_wf w0, s1, w2, TreeL.mono (Nat.le_succ _) s3⟩
theorem edits_of_trod {H : Type} {enc : TypeId × Value → H} {w : World} {spare : Nat → Bool} {held : Bool} {n : Nat} {cs : List Value} {y : DataW H × List MemPlace} (h : DataW.trod enc Try.prog w 0 spare held n 45 cs = some y) : ∃ k xs, cs = [k] ∧ SeqAt 5 (EditL n) w 0 k xs := by
  refine seqAt_of_trod_at Try.underlying45 (show Try.prog.cellsOf 27 = 5 from by kernel_rfl) (by decide) (fun j cs y hj hy => ?_) h
  obtain ⟨x, r⟩ := EditL_of_trodN j cs y hy
  exact ⟨x, r.mono (by omega)⟩
end Go.Proofs.Ytfncmndgdomjiaa
