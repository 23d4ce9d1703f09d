/- A row that was copied and is filled anew, each record turned where it stands. -/
import Derived.Test.YtdhjaokanllcgaaFillOver
namespace Go.Proofs.Ytdhjaokanllcgaa
open Go.RowKit Go.Deep
theorem FilledC.turn {α : Type} {T c : Nat} {R : World → List Value → α → List Nat → Prop} {O : List Value → α → Prop} (hR : OwnStays R) {base : Nat} {w wr : World} {xs : List α} {g j : Nat} {bss : List (List Nat)} (h : FilledC T c R O base w wr xs g j bss) (hj : j < xs.length) (hwg : base ≤ g) (hbw : base ≤ wr.heap.size) :
    ∃ C cs, cs.length = c ∧ RowIs wr g (j * c) C T cs ∧ O cs xs[j] ∧ ∀ (w' : World) (cs' : List Value) (fs : List Nat), cs'.length = c → RowIs w' g (j * c) C T cs' → Out [g] wr w' → R w' cs' xs[j] fs → (∀ b ∈ fs, wr.heap.size ≤ b) → (∀ b ∈ fs, b < w'.heap.size) → fs.Nodup → FilledC T c R O base w w' xs g (j + 1) (bss ++ [fs]) := by
  obtain ⟨hb, hg, hbl, hbn, hbb, C, hC, hCs, hall, horig⟩ := h
  have hjc := idx_le (c := c) hj
  obtain ⟨cs, hl, hc, ho⟩ := horig j hj (Nat.le_refl _)
  refine ⟨C, cs, hl, ⟨C, hC, rfl, by omega, fun _ _ => rfl, fun m hm => hc m (by omega)⟩, ho, ?_⟩
  intro w' cs' fs hcl hrow hout hr hlo hhi hnd
  obtain ⟨C', g1, g2, g3, g4, g5⟩ := hrow
  have hs1 := hout.2.2.2.1
  have hfl : (bss ++ [fs]).flatten = bss.flatten ++ fs := by simp
  have hbel : Below base wr w' := hout.below hbw (by simpa using hwg)
  refine ⟨hb.trans hbel, by omega, by simp [hbl], ?_, ?_, C', g1, by omega, fun j' hj' hlt => ?_, fun j' hj' hle => ?_⟩
  · rw [hfl]
    rw [List.nodup_cons] at hbn ⊢
    refine ⟨?_, List.nodup_append.2 ⟨hbn.2, hnd, fun a ha b hb' e => ?_⟩⟩
    · intro hm
      rcases List.mem_append.1 hm with q | q
      · exact hbn.1 q
      · have := hlo g q; omega
    · subst e
      have h1 := (hbb a ha).2
      have h2 := hlo a hb'
      omega
  · rw [hfl]
    intro b hm
    rcases List.mem_append.1 hm with q | q
    · have := hbb b q; omega
    · have h1 := hlo b q; have h2 := hhi b q; omega
  · by_cases e : j' = j
    · subst e
      have eb : (bss ++ [fs])[j'] = fs := by rw [List.getElem_append_right (by omega)]; simp [hbl]
      refine ⟨cs', hcl, fun m hm => g5 m (by omega), ?_⟩
      rw [eb]
      exact hr
    · have hlt' : j' < bss.length := by simp at hlt; omega
      have eb : (bss ++ [fs])[j'] = bss[j'] := List.getElem_append_left hlt'
      obtain ⟨cs', hl', hc', r⟩ := hall j' hj' hlt'
      refine ⟨cs', hl', fun m hm => ?_, ?_⟩
      · rw [← hc' m hm]
        have := idx_apart e hm
        exact g4 _ (by omega)
      · rw [eb]
        refine hR _ _ _ _ _ (fun b q => ?_) r
        have hq := hbb b (flat_mem hlt' q)
        exact hout.keep hq.2 (by simp; omega)
  · obtain ⟨cs', hl', hc', r⟩ := horig j' hj' (by omega)
    refine ⟨cs', hl', fun m hm => ?_, r⟩
    rw [← hc' m hm]
    have := idx_apart (j := j) (j' := j') (c := c) (m := m) (by omega) hm
    exact g4 _ (by omega)
/-- the like of a slice, an empty one too -/
def FillV {α : Type} (T c : Nat) (R : World → List Value → α → List Nat → Prop) (O : List Value → α → Prop) (base : Nat) (w wr : World) (v : Value) (xs : List α) (j : Nat) : Prop :=
  Below base w wr ∧ base ≤ wr.heap.size ∧ ((xs.length = 0 ∧ v = .slice none 0 0) ∨ ∃ g cap bss, v = .slice (some ⟨g, 0, none⟩) xs.length cap ∧ xs.length ≤ cap ∧ base ≤ g ∧ FilledC T c R O base w wr xs g j bss)
theorem FillV.form {α : Type} {T c : Nat} {R : World → List Value → α → List Nat → Prop} {O : List Value → α → Prop} {base : Nat} {w wr : World} {v : Value} {xs : List α} {j : Nat} (h : FillV T c R O base w wr v xs j) : ∃ a cap, v = .slice a xs.length cap := by
  obtain ⟨_, _, ⟨h1, h2⟩ | ⟨g, cap, bss, h2, _⟩⟩ := h
  · exact ⟨none, 0, by rw [h2, h1]⟩
  · exact ⟨_, cap, h2⟩
theorem FillV.turn {α : Type} {T c : Nat} {R : World → List Value → α → List Nat → Prop} {O : List Value → α → Prop} (hR : OwnStays R) {base : Nat} {w wr : World} {a : Option Addr} {n cap : Nat} {xs : List α} {j : Nat} (h : FillV T c R O base w wr (.slice a n cap) xs j) (hj : j < xs.length) :
    ∃ g C cs, a = some ⟨g, 0, none⟩ ∧ base ≤ g ∧ g < wr.heap.size ∧ cs.length = c ∧ RowIs wr g (j * c) C T cs ∧ O cs xs[j] ∧ ∀ (w' : World) (cs' : List Value) (fs : List Nat), cs'.length = c → RowIs w' g (j * c) C T cs' → Out [g] wr w' → R w' cs' xs[j] fs → (∀ b ∈ fs, wr.heap.size ≤ b) → (∀ b ∈ fs, b < w'.heap.size) → fs.Nodup → FillV T c R O base w w' (.slice a n cap) xs (j + 1) := by
  obtain ⟨hb, hz, ⟨h1, _⟩ | ⟨g, cap', bss, h2, h3, h4, h5⟩⟩ := h
  · omega
  · injection h2 with e1 e2 e3
    subst e1 e2 e3
    obtain ⟨C, cs, q1, q2, q3, q4⟩ := h5.turn hR hj h4 hz
    exact ⟨g, C, cs, rfl, h4, h5.2.1, q1, q2, q3, fun w' cs' fs p1 p2 p3 p4 p5 p6 p7 => ⟨hb.trans (p3.below hz (by simpa using h4)), Nat.le_trans hz p3.2.2.2.1, Or.inr ⟨g, cap, _, rfl, h3, h4, q4 w' cs' fs p1 p2 p3 p4 p5 p6 p7⟩⟩⟩
theorem FillV.done {α : Type} {T c : Nat} {R : World → List Value → α → List Nat → Prop} {O : List Value → α → Prop} {base : Nat} {w wr : World} {v : Value} {xs : List α} (h : FillV T c R O base w wr v xs xs.length) (hm : xs.length ≤ maxLen) : ∃ fs, SeqOwn c R wr v xs fs ∧ (∀ b ∈ fs, base ≤ b) := by
  obtain ⟨hb, hz, ⟨h1, h2⟩ | ⟨g, cap, bss, h2, h3, h4, h5⟩⟩ := h
  · exact ⟨[], ⟨none, 0, by rw [h2, h1], by omega, Or.inl ⟨h1, rfl⟩⟩, by simp⟩
  · subst h2
    have q := h5.done h4 hm h3
    exact ⟨_, q.1, q.2⟩
theorem FillV.start {α : Type} {T c : Nat} {R : World → List Value → α → List Nat → Prop} {O : List Value → α → Prop} {base : Nat} {w : World} {v : Value} {xs : List α} {css : List (List Value)} (hz : base ≤ w.heap.size) (hown : w.ownsRow base T c v xs.length css.flatten)
    (hl : css.length = xs.length) (hc : ∀ cs ∈ css, cs.length = c) (hO : ∀ i, (h : i < css.length) → (h1 : i < xs.length) → O css[i] xs[i]) : FillV T c R O base w w v xs 0 := by
  refine ⟨Below.refl _ _, hz, ?_⟩
  rcases hown.2 with ⟨e, hn⟩ | ⟨g, cap, cur, e, hg, hh, q1, q2, q3, q4⟩
  · exact Or.inl ⟨hn, e⟩
  · subst e
    have q := FilledC.start (R := R) (O := O) (Below.refl base w) hown hl hc (fun i h h1 => hO i h1 h)
    exact Or.inr ⟨g, cap, [], rfl, q1, q.2, q.1⟩
/-- the same behind a turn of a block that is elder -/
theorem FillV.elder {α : Type} {T c : Nat} {R : World → List Value → α → List Nat → Prop} {O : List Value → α → Prop} {base : Nat} {w w' : World} {v : Value} {xs : List α} (h : FillV T c R O base w w v xs 0) (hk : ∀ b, base ≤ b → w'.heap[b]? = w.heap[b]?) (hs : w'.heap.size = w.heap.size) : FillV T c R O base w' w' v xs 0 := by
  obtain ⟨hb, hz, h⟩ := h
  refine ⟨Below.refl _ _, by omega, ?_⟩
  rcases h with h | ⟨g, cap, bss, e, h3, h4, h5⟩
  · exact Or.inl h
  · obtain ⟨_, q2, q3, q4, q5, C, q6, q7, q8, q9⟩ := h5
    have hb0 : bss = [] := List.eq_nil_of_length_eq_zero q3
    subst hb0
    exact Or.inr ⟨g, cap, [], e, h3, h4, Below.refl _ _, by omega, rfl, by simp, by simp, C, (hk g h4).trans q6, q7, fun j' _ h => absurd h (by simp), q9⟩
end Go.Proofs.Ytdhjaokanllcgaa
