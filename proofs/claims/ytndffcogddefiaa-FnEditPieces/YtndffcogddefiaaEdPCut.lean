/- A row of edits cut, and one that grows at its front: plain. -/
import Derived.Test.YtndffcogddefiaaEdPieces
import Derived.Test.YtndffcogddefiaaEdDAll
import Derived.Test.YtndffcogddefiaaAppendRows
import Derived.Test.YtndffcogddefiaaTakeLit
namespace Go.Proofs.Ytndffcogddefiaa
open Go.RowKit
theorem EditAt.mono {n m : Nat} (h : n ≤ m) {w : World} {lo : Nat} {cs : List Value} {e : EditD} (q : EditAt n w lo cs e) : EditAt m w lo cs e := by
  obtain ⟨kp, t, k, e, h1, h2, h3, h4⟩ := q
  exact ⟨kp, t, k, e, h1, h2, h3, TreeAt.mono h h4⟩
theorem row_mono {n m : Nat} (h : n ≤ m) {w : World} {lo : Nat} {v : Value} {l : List EditD} (q : SeqAt 5 (EditAt n) w lo v l) : SeqAt 5 (EditAt m) w lo v l := by
  obtain ⟨a, cap, hk, hm, hx⟩ := q
  refine ⟨a, cap, hk, hm, fun h0 => ?_⟩
  obtain ⟨b, off, e, q1, q2, hc⟩ := hx h0
  exact ⟨b, off, e, q1, q2, fun i hi => by obtain ⟨cs, c1, c2, c3⟩ := hc i hi; exact ⟨cs, c1, c2, c3.mono h⟩⟩
theorem sl_to_ed (al : Option Addr) (n cap k : Nat) (h : k ≤ cap) (w : World) : (Instr.slice 44 (.slice al n cap) none (some (.int .i64 (k : Int))) none).run Try.prog w = .ok (.slice al k cap) w := by
  have h1 : (0 : Int) ≤ (k : Int) := by omega
  have h2 : (k : Int) ≤ (cap : Int) := by omega
  simp [go_sem, Try.underlying44, h1, h2]
theorem seq_take {α : Type} {R : World → Nat → List Value → α → Prop} {w : World} {lo : Nat} {al : Option Addr} {cap k : Nat} {l : List α} (h : SeqAt 5 R w lo (.slice al l.length cap) l) (hk : k ≤ l.length) : SeqAt 5 R w lo (.slice al k cap) (l.take k) := by
  obtain ⟨a, c, e, hm, hx⟩ := h
  injection e with e1 e2 e3
  subst e1 e3
  have hl : (l.take k).length = k := by rw [List.length_take]; omega
  refine ⟨al, cap, by rw [hl], by omega, fun h0 => ?_⟩
  obtain ⟨b, off, e, q1, q2, hc⟩ := hx (by omega)
  refine ⟨b, off, e, q1, q2, fun i hi => ?_⟩
  obtain ⟨cs, c1, c2, c3⟩ := hc i (by omega)
  exact ⟨cs, c1, c2, by rw [List.getElem_take]; exact c3⟩
theorem sl_from_ed (al : Option Addr) (n cap k : Nat) (h : k ≤ n) (hn : n ≤ cap) : ∃ al' c', (∀ w : World, (Instr.slice 44 (.slice al n cap) (some (.int .i64 (k : Int))) none none).run Try.prog w = .ok (.slice al' (n - k) c') w) ∧ n - k ≤ c' ∧ (0 < n - k → ∀ b off, al = some ⟨b, off, none⟩ → al' = some ⟨b, off + k * 5, none⟩) := by
  have h1 : (0 : Int) ≤ (k : Int) := by omega
  have h2 : (k : Int) ≤ (n : Int) := by omega
  by_cases e : k = cap
  · refine ⟨al, 0, fun w => ?_, by omega, fun q => by omega⟩
    have en : n = cap := by omega
    subst e en
    cases al <;> simp [go_sem, Try.underlying44, h1]
  · refine ⟨al.map (fun a => a.add (k * 5)), cap - k, fun w => ?_, by omega, fun _ b off e => by rw [e]; show some (Addr.add ⟨b, off, none⟩ (k * 5)) = _; rw [add_lit]⟩
    cases al with
    | none => simp [go_sem, Try.underlying44, h1, h2]
    | some a => simp [go_sem, Try.underlying44, h1, h2]; intro q; omega
theorem seq_drop {α : Type} {R : World → Nat → List Value → α → Prop} {w : World} {lo : Nat} {al al' : Option Addr} {cap c' k : Nat} {l : List α} (h : SeqAt 5 R w lo (.slice al l.length cap) l) (hk : k ≤ l.length) (hc : l.length - k ≤ c') (ha : 0 < l.length - k → ∀ b off, al = some ⟨b, off, none⟩ → al' = some ⟨b, off + k * 5, none⟩) : SeqAt 5 R w lo (.slice al' (l.length - k) c') (l.drop k) := by
  obtain ⟨a, c, e, hm, hx⟩ := h
  injection e with e1 e2 e3
  subst e1 e3
  have hl : (l.drop k).length = l.length - k := by rw [List.length_drop]
  refine ⟨al', c', by rw [hl], by omega, fun h0 => ?_⟩
  obtain ⟨b, off, e, q1, q2, hc⟩ := hx (by omega)
  refine ⟨b, off + k * 5, ha (by omega) b off e, q1, q2, fun i hi => ?_⟩
  obtain ⟨cs, c1, c2, c3⟩ := hc (k + i) (by omega)
  exact ⟨cs, c1, by rw [show off + k * 5 + i * 5 = off + (k + i) * 5 by omega]; exact c2, by rw [List.getElem_drop]; exact c3⟩
theorem backs_snoc : ∀ (m : List EditD) {d D D2 : TD} {e : EditD}, foldE m d = some D → editedD D e = some D2 → backs (m ++ [e]) d = backD D e :: backs m d := by
  intro m
  induction m with
  | nil =>
    intro d D D2 e h1 h2
    injection h1 with h1
    subst h1
    show (match editedD d e with | some y => backs [] y ++ [backD d e] | none => []) = _
    rw [h2]; rfl
  | cons x m ih =>
    intro d D D2 e h1 h2
    have h1' : (match editedD d x with | some y => foldE m y | none => none) = some D := h1
    cases q : editedD d x with
    | none => rw [q] at h1'; cases h1'
    | some y =>
      rw [q] at h1'
      have e1 : backs (x :: m ++ [e]) d = backs (m ++ [e]) y ++ [backD d x] := by show (match editedD d x with | some y => backs (m ++ [e]) y ++ [backD d x] | none => []) = _; rw [q]
      have e2 : backs (x :: m) d = backs m y ++ [backD d x] := by show (match editedD d x with | some y => backs m y ++ [backD d x] | none => []) = _; rw [q]
      rw [e1, e2, ih h1' h2]; rfl
theorem fold_take {l : List EditD} {j : Nat} {d D D2 : TD} (hj : j < l.length) (h : foldE (l.take j) d = some D) (h2 : editedD D l[j] = some D2) : foldE (l.take (j + 1)) d = some D2 ∧ backs (l.take (j + 1)) d = backD D l[j] :: backs (l.take j) d := by
  have e : l.take (j + 1) = l.take j ++ [l[j]] := by rw [List.take_append_getElem hj]
  rw [e]
  refine ⟨?_, backs_snoc _ h h2⟩
  rw [foldE_append, h]
  show foldE [l[j]] D = _
  show (match editedD D l[j] with | some y => foldE [] y | none => none) = _
  rw [h2]; rfl
/-- all undone: what the row of edits that leads back makes -/
theorem allD_backs {l : List EditD} {d u : TD} (hl : l.length ≤ 6) (hd : treeB d = true) (h : foldE l d = some u) : ∃ v, allD u (backs l d) = some v ∧ ∀ n, Sim n v d := by
  obtain ⟨v, h1, h2⟩ := backs_plain h
  refine ⟨v, ?_, h2⟩
  unfold allD
  rw [if_pos ⟨by have := backs_len l d; omega, foldE_right hd h⟩]
  exact h1
/-- a row that a call has made, of records that lie there -/
theorem seq_of_own {α : Type} {R : World → Nat → List Value → α → Prop} {w : World} {lo base T : Nat} {v : Value} {l : List α} {css : List (List Value)} (ro : w.ownsRow base T 5 v l.length css.flatten) (h1 : css.length = l.length) (h3 : ∀ cs ∈ css, cs.length = 5) (el : ∀ i, (h : i < l.length) → (h1 : i < css.length) → R w lo css[i] l[i]) (hv : v ≠ .slice none 0 0) (hm : l.length ≤ maxLen) (hlo : lo ≤ base) : SeqAt 5 R w lo v l := by
  obtain ⟨hl, ho⟩ := ro
  rcases ho with ⟨rfl, hn⟩ | ⟨b, c, cur, rfl, hg, hh, q1, q2, q3, q4⟩
  · exact absurd rfl hv
  · have hlt := (Array.getElem?_eq_some_iff.1 hh).1
    refine ⟨_, _, rfl, ⟨hm, q1⟩, fun h0 => ⟨b, 0, rfl, Nat.le_trans hlo hg, hlt, fun i hi => ⟨css[i]'(by omega), h3 _ (List.getElem_mem _), fun m hm => ?_, el i hi (by omega)⟩⟩⟩
    have hm' : m < 5 := by rw [h3 _ (List.getElem_mem _)] at hm; exact hm
    have e : (cur.toList.take (l.length * 5))[i * 5 + m]? = (css[i]'(by omega))[m]? := by rw [q4]; exact flat_get h3 (by omega) hm'
    have hlt : i * 5 + m < l.length * 5 := by omega
    rw [List.getElem?_take_of_lt hlt] at e
    rw [Nat.zero_add, blk_cell hh]
    simpa using e
theorem CssAt.below {n : Nat} {w w' : World} {lo : Nat} {a : Option Addr} {xs : List EditD} {css : List (List Value)} (h : CssAt 5 (EditAt n) w lo a xs css) (q : Below w.heap.size w w') : CssAt 5 (EditAt n) w' lo a xs css :=
  ⟨h.1, h.2.1, fun i h1 h2 => EditAt.stays _ _ _ _ _ _ (.of_below q) (h.2.2.1 i h1 h2), h.2.2.2.1, fun ad e j u hu => cell_on q (h.2.2.2.2 ad e j u hu)⟩
theorem edit_cells {n : Nat} {w : World} {lo : Nat} {cs : List Value} {e : EditD} (h : EditAt n w lo cs e) : ∀ u ∈ cs, u.oneCell' = true := by
  obtain ⟨_, _, _, _, rfl, _, _, _⟩ := h.form
  intro u hu
  simp only [List.mem_cons, List.not_mem_nil, or_false] at hu
  rcases hu with rfl | rfl | rfl | rfl | rfl <;> rfl
theorem CssAt.ones {n : Nat} {w : World} {lo : Nat} {a : Option Addr} {xs : List EditD} {css : List (List Value)} (h : CssAt 5 (EditAt n) w lo a xs css) : ∀ cs ∈ css, ∀ u ∈ cs, u.oneCell' = true := fun cs hc => by
  obtain ⟨i, hi, rfl⟩ := List.getElem_of_mem hc
  exact edit_cells (h.2.2.1 i hi (by rw [← h.1]; exact hi))
/-- a row of one, and the row behind it: both lie there -/
theorem seq_front {n m : Nat} {w w' : World} {lo base T : Nat} {v : Value} {x : EditD} {C : List Value} {l : List EditD} {css : List (List Value)} {a : Option Addr} (ro : w'.ownsRow base T 5 v (x :: l).length (C :: css).flatten) (hC : C.length = 5) (hx : EditAt n w lo C x) (h : CssAt 5 (EditAt m) w lo a l css) (q : Below w.heap.size w w') (hv : v ≠ .slice none 0 0) (hm : (x :: l).length ≤ maxLen) (hlo : lo ≤ base) : SeqAt 5 (EditAt (n + m)) w' lo v (x :: l) := by
  refine seq_of_own ro (by rw [List.length_cons, List.length_cons, h.1]) (fun cs hc => ?_) (fun i h1 h2 => ?_) hv hm hlo
  · rcases List.mem_cons.1 hc with rfl | hc
    · exact hC
    · exact h.2.1 cs hc
  · cases i with
    | zero => exact EditAt.stays _ _ _ _ _ _ (.of_below q) (hx.mono (Nat.le_add_right _ _))
    | succ i => exact EditAt.stays _ _ _ _ _ _ (.of_below q) ((h.2.2.1 i (by simpa using h2) (by simpa using h1)).mono (Nat.le_add_left _ _))
end Go.Proofs.Ytndffcogddefiaa
