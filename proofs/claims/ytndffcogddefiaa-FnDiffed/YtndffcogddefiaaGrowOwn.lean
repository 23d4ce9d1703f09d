/- Rows of records in memory: what it means that a slice holds these data, and that it stays so while other blocks turn; the filling of a new row. -/
import Derived.WalkKit
import Derived.ProofKit
import Derived.Deep.Slices
import Derived.Deep.AppendLies
namespace Go.Proofs.Ytndffcogddefiaa
open Go.RowKit Go.Deep
theorem blk_cell {w : World} {g : Nat} {cs : Array Value} {t : TypeId} {fr : Nat × Nat} (h : w.heap[g]? = some (.cells cs t fr)) (i : Nat) : w.cell? ⟨g, i, none⟩ = cs[i]? := by simp [World.cell?, h]
theorem blk_unfrozen {w : World} {g : Nat} {cs : Array Value} {t : TypeId} (h : w.heap[g]? = some (.cells cs t (0, 0))) (i : Nat) : w.frozen? ⟨g, i, none⟩ = false := by simp [World.frozen?, h]
theorem blk_set {w : World} {g i : Nat} {cs : Array Value} {t : TypeId} {fr : Nat × Nat} (h : w.heap[g]? = some (.cells cs t fr)) (v : Value) : (w.setCell ⟨g, i, none⟩ v).heap[g]? = some (.cells (cs.setIfInBounds i v) t fr) := by
  simp [World.setCell, Array.getElem?_modify, h]
theorem set_other {w : World} {g i b : Nat} (h : b ≠ g) (v : Value) : (w.setCell ⟨g, i, none⟩ v).heap[b]? = w.heap[b]? := Below.heap_setCell _ _ _ _ (by simpa using h)
theorem set_size {w : World} {g i : Nat} (v : Value) : (w.setCell ⟨g, i, none⟩ v).heap.size = w.heap.size := by simp [World.setCell]
theorem undrew {wr w1 : World} (h : Below wr.drew.heap.size wr.drew w1) : Below wr.heap.size wr w1 := ⟨h.os, h.tape, h.output, h.size, h.block⟩
theorem addr_of_cell {w : World} {a : Addr} {v : Value} (h : w.cell? a = some v) : a = ⟨a.block, a.off, none⟩ ∧ a.block < w.heap.size := by
  unfold World.cell? at h
  split at h
  · rename_i c _ _ hc
    refine ⟨?_, ?_⟩
    · obtain ⟨b, o, s⟩ := a
      cases s with
      | none => rfl
      | some s => simp at h
    · rcases Nat.lt_or_ge a.block w.heap.size with hlt | hge
      · exact hlt
      · rw [Array.getElem?_eq_none hge] at hc; cases hc
  · cases h
/-- an int64 -/
def InI (n : Int) : Prop := -9223372036854775808 ≤ n ∧ n ≤ 9223372036854775807
/-- of the blocks from lo on nothing has turned; lo' is no higher -/
def Kept (w w' : World) (lo lo' : Nat) : Prop := w.heap.size ≤ w'.heap.size ∧ lo' ≤ lo ∧ ∀ b, lo ≤ b → b < w.heap.size → w'.heap[b]? = w.heap[b]?
theorem Kept.of_below {w w' : World} {lo : Nat} (h : Below w.heap.size w w') : Kept w w' lo lo := ⟨h.size, Nat.le_refl _, fun b _ h2 => h.block b h2⟩
theorem Kept.lower {w : World} {lo lo' : Nat} (h : lo' ≤ lo) : Kept w w lo lo' := ⟨Nat.le_refl _, h, fun _ _ _ => rfl⟩
theorem Kept.cell {w w' : World} {lo lo' b o : Nat} {v : Value} (h : Kept w w' lo lo') (h1 : lo ≤ b) (h2 : b < w.heap.size) (hc : w.cell? ⟨b, o, none⟩ = some v) : w'.cell? ⟨b, o, none⟩ = some v := by
  rw [World.cell?_of_block (w := w) (w' := w') (h.2.2 b h1 h2)]; exact hc
/-- a reading of a record's cells that stays while its blocks stay -/
def Stays {α : Type} (R : World → Nat → List Value → α → Prop) : Prop := ∀ (w w' : World) (lo lo' : Nat) (cs : List Value) (x : α), Kept w w' lo lo' → R w lo cs x → R w' lo' cs x
/-- these cells lie in a block from an offset on -/
def Lie (w : World) (b o : Nat) (cs : List Value) : Prop := ∀ m, m < cs.length → w.cell? ⟨b, o + m, none⟩ = cs[m]?
theorem Lie.keep {w w' : World} {lo lo' b o : Nat} {cs : List Value} (h : Lie w b o cs) (k : Kept w w' lo lo') (h1 : lo ≤ b) (h2 : b < w.heap.size) : Lie w' b o cs := fun m hm => by
  rw [World.cell?_of_block (w := w) (w' := w') (k.2.2 b h1 h2)]; exact h m hm
/-- a slice of records, c cells each, lies in memory, each as R says, its row in a block from lo on -/
def SeqAt {α : Type} (c : Nat) (R : World → Nat → List Value → α → Prop) (w : World) (lo : Nat) (k : Value) (xs : List α) : Prop :=
  ∃ a cap, k = .slice a xs.length cap ∧ (xs.length ≤ maxLen ∧ xs.length ≤ cap) ∧ (0 < xs.length → ∃ b off, a = some ⟨b, off, none⟩ ∧ lo ≤ b ∧ b < w.heap.size ∧
    ∀ i, (h : i < xs.length) → ∃ cs, cs.length = c ∧ Lie w b (off + i * c) cs ∧ R w lo cs xs[i])
theorem SeqAt.keep {α : Type} {c : Nat} {R : World → Nat → List Value → α → Prop} (hR : Stays R) {w w' : World} {lo lo' : Nat} {k : Value} {xs : List α} (h : SeqAt c R w lo k xs) (q : Kept w w' lo lo') : SeqAt c R w' lo' k xs := by
  obtain ⟨a, cap, hk, hm, hx⟩ := h
  refine ⟨a, cap, hk, hm, fun h0 => ?_⟩
  obtain ⟨b, off, ha, h1, h2, hc⟩ := hx h0
  have q1 := q.1
  have q2 := q.2.1
  refine ⟨b, off, ha, by omega, by omega, fun i hi => ?_⟩
  obtain ⟨cs, hl, lie, r⟩ := hc i hi
  exact ⟨cs, hl, lie.keep q h1 h2, hR _ _ _ _ _ _ q r⟩
theorem SeqAt.below {α : Type} {c : Nat} {R : World → Nat → List Value → α → Prop} (hR : Stays R) {w w' : World} {lo : Nat} {k : Value} {xs : List α} (h : SeqAt c R w lo k xs) (q : Below w.heap.size w w') : SeqAt c R w' lo k xs := h.keep hR (.of_below q)
theorem SeqAt.form {α : Type} {c : Nat} {R : World → Nat → List Value → α → Prop} {w : World} {lo : Nat} {k : Value} {xs : List α} (h : SeqAt c R w lo k xs) : ∃ a cap, k = .slice a xs.length cap := by
  obtain ⟨a, cap, hk, _⟩ := h; exact ⟨a, cap, hk⟩
/-- the first i of a row -/
theorem SeqAt.take {α : Type} {c : Nat} {R : World → Nat → List Value → α → Prop} {w : World} {lo : Nat} {a : Option Addr} {cap : Nat} {xs : List α} (h : SeqAt c R w lo (.slice a xs.length cap) xs) (i : Nat) (hi : i ≤ xs.length) : SeqAt c R w lo (.slice a i cap) (xs.take i) := by
  obtain ⟨a', cap', hk, hm, hx⟩ := h
  injection hk with e1 _ e3
  subst e1 e3
  have hl : (xs.take i).length = i := by simp; omega
  refine ⟨a, cap, by rw [hl], by rw [hl]; omega, fun h0 => ?_⟩
  obtain ⟨b, off, ha, h1, h2, hc⟩ := hx (by omega)
  refine ⟨b, off, ha, h1, h2, fun j hj => ?_⟩
  obtain ⟨cs, hcl, lie, r⟩ := hc j (by omega)
  exact ⟨cs, hcl, lie, by rw [List.getElem_take]; exact r⟩
/-- a cell that holds an int64 -/
def IntAt (_ : World) (_ : Nat) (cs : List Value) (x : Int) : Prop := cs = [.int .i64 x] ∧ InI x
theorem intAt_stays : Stays IntAt := fun _ _ _ _ _ _ _ h => h
/-- of a list all elements -/
def AllS {α : Type} (p : α → Prop) (xs : List α) : Prop := xs.length ≤ 1048576 ∧ ∀ i, (h : i < xs.length) → p xs[i]
/-! ### a list out of its elements -/
theorem list_of {α : Type} {n : Nat} {p : Nat → α → Prop} (h : ∀ i, i < n → ∃ x, p i x) : ∃ xs : List α, xs.length = n ∧ ∀ i, (h : i < xs.length) → p i xs[i] := by
  induction n with
  | zero => exact ⟨[], rfl, fun i h => absurd h (by simp)⟩
  | succ n ih =>
    obtain ⟨xs, hl, hx⟩ := ih (fun i hi => h i (by omega))
    obtain ⟨x, hp⟩ := h n (by omega)
    refine ⟨xs ++ [x], by simp [hl], fun i hi => ?_⟩
    by_cases e : i < xs.length
    · rw [List.getElem_append_left e]; exact hx i e
    · have e' : i = n := by simp at hi; omega
      subst e'
      rw [List.getElem_append_right (by omega)]
      simpa [hl] using hp
/-- a reading of a slice is a row of records -/
theorem seqAt_of_trod {α : Type} {H : Type} {enc : TypeId × Value → H} {P : Program} {w : World} {spare : Nat → Bool} {held : Bool} {T S : TypeId} {c : Nat} {R : World → Nat → List Value → α → Prop} (hS : P.underlying S = some (.slice T)) (cT : P.cellsOf T = c)
    (hc0 : 0 < c) (hR : ∀ (m : Nat) (cs : List Value) (y : DataW H × List MemPlace), DataW.trod enc P w 0 spare held m T cs = some y → ∃ x, R w 0 cs x) {n : Nat} {cs : List Value} {y : DataW H × List MemPlace}
    (h : DataW.trod enc P w 0 spare held n S cs = some y) : ∃ k xs, cs = [k] ∧ SeqAt c R w 0 k xs := by
  rcases DataW.trod_slice hS h with ⟨rfl, rfl⟩ | ⟨a, len, cap, elems, rest, m, rfl, rfl, rfl, _, hl, hm, hlen, hel, _, _⟩
  · exact ⟨_, [], rfl, none, 0, rfl, ⟨Nat.zero_le _, Nat.zero_le _⟩, fun h0 => absurd h0 (by simp)⟩
  · obtain ⟨xs, hxl, hxs⟩ := list_of (n := len) (p := fun i x => ∃ cs, w.cells? 0 (a.add (i * c)) c = some cs ∧ R w 0 cs x) (fun i hi => by
      have e := hel i hi
      rw [cT, List.getElem?_eq_getElem (by omega)] at e
      obtain ⟨cs', h1, h2⟩ := Option.bind_eq_some_iff.1 e
      obtain ⟨x, r⟩ := hR m cs' _ h2
      exact ⟨x, cs', h1, r⟩)
    refine ⟨_, xs, rfl, some a, cap, by rw [hxl], by omega, fun h0 => ?_⟩
    obtain ⟨cs0, h1, _⟩ := hxs 0 h0
    have hcell0 : ∃ v, w.cell? a = some v := by
      obtain ⟨_, hl0, hc⟩ := World.cells?_some h1
      refine ⟨cs0[0]'(by omega), ?_⟩
      have := hc 0 (by omega)
      rw [List.getElem?_eq_getElem (by omega)] at this
      simpa [Addr.add] using this
    obtain ⟨v0, hv0⟩ := hcell0
    have ha := addr_of_cell hv0
    refine ⟨a.block, a.off, by rw [← ha.1], Nat.zero_le _, ha.2, fun i hi => ?_⟩
    obtain ⟨cs', h1, r⟩ := hxs i hi
    obtain ⟨_, hl1, hc⟩ := World.cells?_some h1
    refine ⟨cs', hl1, fun j hj => ?_, r⟩
    have := hc j (by omega)
    rw [← this]
    congr 1
    rw [ha.1, add_add]
    unfold Addr.add
    by_cases e : i * c + j = 0
    · rw [if_pos e]
      obtain ⟨e1, e2⟩ : i * c = 0 ∧ j = 0 := by omega
      simp [e1, e2]
    · rw [if_neg e]; simp
/-! ### storing a record -/
/-- these values stored, one behind the other -/
def putCells (w : World) (g o : Nat) : List Value → World
  | [] => w
  | v :: vs => putCells (w.setCell ⟨g, o, none⟩ v) g (o + 1) vs
theorem putCells_block (vs : List Value) : ∀ (w : World) (g o : Nat) (C : Array Value) (T : TypeId), w.heap[g]? = some (.cells C T (0, 0)) → o + vs.length ≤ C.size →
    ∃ C', (putCells w g o vs).heap[g]? = some (.cells C' T (0, 0)) ∧ C'.size = C.size ∧ (∀ i, i < o ∨ o + vs.length ≤ i → C'[i]? = C[i]?) ∧ ∀ m, m < vs.length → C'[o + m]? = vs[m]? := by
  induction vs with
  | nil => intro w g o C T h _; exact ⟨C, h, rfl, fun _ _ => rfl, fun m hm => absurd hm (by simp)⟩
  | cons v vs ih =>
    intro w g o C T h hl
    simp only [List.length_cons] at hl
    obtain ⟨C', h1, h2, h3, h4⟩ := ih (w.setCell ⟨g, o, none⟩ v) g (o + 1) (C.setIfInBounds o v) T (blk_set h v) (by simp; omega)
    refine ⟨C', h1, by simpa using h2, fun i hi => ?_, fun m hm => ?_⟩
    · simp only [List.length_cons] at hi
      rw [h3 i (by omega), Array.getElem?_setIfInBounds, if_neg (by omega)]
    · cases m with
      | zero =>
        rw [Nat.add_zero, h3 o (by omega), Array.getElem?_setIfInBounds, if_pos rfl, if_pos (by omega)]; rfl
      | succ m =>
        simp only [List.length_cons] at hm
        have := h4 m (by omega)
        rw [show o + (m + 1) = o + 1 + m by omega, this]; rfl
theorem putCells_other (vs : List Value) : ∀ (w : World) (g o b : Nat), b ≠ g → (putCells w g o vs).heap[b]? = w.heap[b]? := by
  induction vs with
  | nil => intro w g o b _; rfl
  | cons v vs ih => intro w g o b h; exact (ih _ g (o + 1) b h).trans (set_other h v)
theorem putCells_size (vs : List Value) : ∀ (w : World) (g o : Nat), (putCells w g o vs).heap.size = w.heap.size := by
  induction vs with
  | nil => intro w g o; rfl
  | cons v vs ih => intro w g o; exact (ih _ g (o + 1)).trans (set_size v)
theorem putCells_below (vs : List Value) : ∀ (B : Nat) (a w : World) (g o : Nat), B ≤ g → Below B a w → Below B a (putCells w g o vs) := by
  induction vs with
  | nil => intro B a w g o _ h; exact h
  | cons v vs ih => intro B a w g o hg h; exact ih B a _ g (o + 1) hg (h.setCell (by exact hg) v)
theorem kept_put {w : World} {g o lo : Nat} {vs : List Value} (h : g < lo) : Kept w (putCells w g o vs) lo lo :=
  ⟨by rw [putCells_size]; exact Nat.le_refl _, Nat.le_refl _, fun b h1 _ => putCells_other _ _ _ _ _ (by omega)⟩
/-! ### a new row that is filled from its head on -/
def Filled {α : Type} (T c : Nat) (R : World → Nat → List Value → α → Prop) (w wr : World) (xs : List α) (g j : Nat) : Prop := Below w.heap.size w wr ∧ g < wr.heap.size ∧
  ∃ C : Array Value, wr.heap[g]? = some (.cells C T (0, 0)) ∧ C.size = xs.length * c ∧ ∀ j', (h : j' < xs.length) → j' < j → ∃ cs, cs.length = c ∧ (∀ m, m < c → C[j' * c + m]? = cs[m]?) ∧ R wr (g + 1) cs xs[j']
theorem idx_le {j n c : Nat} (h : j < n) : j * c + c ≤ n * c := by
  have := Nat.mul_le_mul_right c (show j + 1 ≤ n from h)
  rwa [Nat.add_mul, Nat.one_mul] at this
theorem idx_apart {j j' c m : Nat} (h : j' ≠ j) (hm : m < c) : j' * c + m < j * c ∨ j * c + c ≤ j' * c + m := by
  rcases Nat.lt_or_gt_of_ne h with h | h
  · have := idx_le (c := c) h; omega
  · have := idx_le (c := c) h; omega
theorem Filled.start {α : Type} {T c : Nat} {R : World → Nat → List Value → α → Prop} {w : World} {xs : List α} {C : Array Value} (hC : C.size = xs.length * c) : Filled T c R w (w.alloc (.cells C T)) xs w.heap.size 0 :=
  ⟨(Below.refl _ _).alloc (Nat.le_refl _) _, by simp, C, (MapKept.heap_alloc w _).1, hC, fun j' _ h => absurd h (by omega)⟩
theorem Filled.facts {α : Type} {T c : Nat} {R : World → Nat → List Value → α → Prop} {w wr w1 : World} {xs : List α} {g j : Nat} (h : Filled T c R w wr xs g j) (hj : j < xs.length) (hb1 : Below wr.heap.size wr w1) :
    (∀ m, m < c → ∃ v, w1.cell? ⟨g, j * c + m, none⟩ = some v) ∧ ∀ i, w1.frozen? ⟨g, i, none⟩ = false := by
  obtain ⟨hb, hg, C, hC, hCs, hall⟩ := h
  have hC1 : w1.heap[g]? = some (.cells C T (0, 0)) := (hb1.block g hg).trans hC
  have := idx_le (c := c) hj
  exact ⟨fun m hm => ⟨C[j * c + m]'(by omega), by rw [blk_cell hC1]; exact Array.getElem?_eq_getElem (by omega)⟩, fun i => blk_unfrozen hC1 i⟩
theorem Filled.step {α : Type} {T c : Nat} {R : World → Nat → List Value → α → Prop} (hR : Stays R) {w wr w1 : World} {xs : List α} {g j : Nat} (h : Filled T c R w wr xs g j) (hj : j < xs.length) (hwg : w.heap.size ≤ g) (hb1 : Below wr.heap.size wr w1)
    {cs : List Value} (hcl : cs.length = c) (hr : R w1 wr.heap.size cs xs[j]) : Filled T c R w (putCells w1 g (j * c) cs) xs g (j + 1) := by
  obtain ⟨hb, hg, C, hC, hCs, hall⟩ := h
  have hC1 : w1.heap[g]? = some (.cells C T (0, 0)) := (hb1.block g hg).trans hC
  have hjc := idx_le (c := c) hj
  obtain ⟨C', hC', hs', hold, hnew⟩ := putCells_block cs w1 g (j * c) C T hC1 (by omega)
  have hs1 := hb1.size
  have hsz := putCells_size cs w1 g (j * c)
  refine ⟨putCells_below cs _ _ _ g _ hwg (hb.trans (hb1.mono hb.size)), by omega, C', hC', by omega, fun j' hj' hlt => ?_⟩
  by_cases e : j' = j
  · subst e
    refine ⟨cs, hcl, fun m hm => hnew m (by omega), hR _ _ _ _ _ _ ⟨by omega, by omega, fun b h1 h2 => putCells_other _ _ _ _ _ (by omega)⟩ hr⟩
  · obtain ⟨cs', hl', hc', r⟩ := hall j' hj' (by omega)
    refine ⟨cs', hl', fun m hm => ?_, hR _ _ _ _ _ _ ⟨by omega, Nat.le_refl _, fun b h1 h2 => (putCells_other _ _ _ _ _ (by omega)).trans (hb1.block b h2)⟩ r⟩
    rw [← hc' m hm]
    have := idx_apart e hm
    exact hold _ (by omega)
theorem Filled.done {α : Type} {T c : Nat} {R : World → Nat → List Value → α → Prop} (hR : Stays R) {w wr : World} {xs : List α} {g : Nat} (h : Filled T c R w wr xs g xs.length) (hwg : w.heap.size ≤ g) (hm : xs.length ≤ maxLen) :
    SeqAt c R wr w.heap.size (.slice (some ⟨g, 0, none⟩) xs.length xs.length) xs := by
  obtain ⟨hb, hg, C, hC, hCs, hall⟩ := h
  refine ⟨_, _, rfl, ⟨hm, Nat.le_refl _⟩, fun _ => ⟨g, 0, rfl, hwg, hg, fun i hi => ?_⟩⟩
  obtain ⟨cs, hl, hc, r⟩ := hall i hi hi
  refine ⟨cs, hl, fun m hm => ?_, hR _ _ _ _ _ _ ⟨Nat.le_refl _, by omega, fun _ _ _ => rfl⟩ r⟩
  rw [blk_cell hC, Nat.zero_add]
  exact hc m (by omega)
/-! ### a block that is known whole -/
def Box (w : World) (g : Nat) (cs : List Value) (T : TypeId) : Prop := w.heap[g]? = some (.cells cs.toArray T (0, 0))
theorem Box.new (w : World) (cs : List Value) (T : TypeId) : Box (w.alloc (.cells cs.toArray T)) w.heap.size cs T := (MapKept.heap_alloc w _).1
theorem Box.below {w w' : World} {g B : Nat} {cs : List Value} {T : TypeId} (h : Box w g cs T) (hb : Below B w w') (hg : g < B) : Box w' g cs T := (hb.block g hg).trans h
theorem Box.set {w : World} {g i : Nat} {cs : List Value} {T : TypeId} (h : Box w g cs T) (v : Value) : Box (w.setCell ⟨g, i, none⟩ v) g (cs.set i v) T := by
  have := blk_set (i := i) h v
  unfold Box
  rw [this]; simp
theorem Box.other {w : World} {g g' i : Nat} {cs : List Value} {T : TypeId} (h : Box w g cs T) (hne : g ≠ g') (v : Value) : Box (w.setCell ⟨g', i, none⟩ v) g cs T := (set_other hne v).trans h
theorem Box.cell {w : World} {g : Nat} {cs : List Value} {T : TypeId} (h : Box w g cs T) (i : Nat) {v : Value} (hv : cs[i]? = some v) : w.cell? ⟨g, i, none⟩ = some v := by
  rw [blk_cell h]; simpa using hv
theorem Box.unfrozen {w : World} {g : Nat} {cs : List Value} {T : TypeId} (h : Box w g cs T) (i : Nat) : w.frozen? ⟨g, i, none⟩ = false := blk_unfrozen h i
theorem Box.lt {w : World} {g : Nat} {cs : List Value} {T : TypeId} (h : Box w g cs T) : g < w.heap.size := by
  rcases Nat.lt_or_ge g w.heap.size with hlt | hge
  · exact hlt
  · unfold Box at h; rw [Array.getElem?_eq_none hge] at h; cases h
theorem Box.alloc {w : World} {g : Nat} {cs : List Value} {T : TypeId} (h : Box w g cs T) (o : Obj) : Box (w.alloc o) g cs T := (Below.heap_alloc w o g h.lt).trans h
end Go.Proofs.Ytndffcogddefiaa
namespace Go.Proofs.Ytndffcogddefiaa
open Go.RowKit Go.Deep
/-- of the blocks that were there only these may have turned -/
def Out (fs : List Nat) (w w' : World) : Prop := w'.os = w.os ∧ w'.tape = w.tape ∧ w'.output = w.output ∧ w.heap.size ≤ w'.heap.size ∧ ∀ b, b < w.heap.size → b ∉ fs → w'.heap[b]? = w.heap[b]?
theorem Out.refl (fs : List Nat) (w : World) : Out fs w w := ⟨rfl, rfl, rfl, Nat.le_refl _, fun _ _ _ => rfl⟩
theorem Out.trans {fs : List Nat} {a b c : World} (h : Out fs a b) (k : Out fs b c) : Out fs a c :=
  ⟨k.1.trans h.1, k.2.1.trans h.2.1, k.2.2.1.trans h.2.2.1, Nat.le_trans h.2.2.2.1 k.2.2.2.1, fun x h1 h2 => (k.2.2.2.2 x (Nat.lt_of_lt_of_le h1 h.2.2.2.1) h2).trans (h.2.2.2.2 x h1 h2)⟩
theorem Out.mono {fs gs : List Nat} {w w' : World} (h : Out fs w w') (hs : ∀ b ∈ fs, b ∈ gs) : Out gs w w' :=
  ⟨h.1, h.2.1, h.2.2.1, h.2.2.2.1, fun b h1 h2 => h.2.2.2.2 b h1 fun h3 => h2 (hs b h3)⟩
theorem Out.of_below {fs : List Nat} {w w' : World} (h : Below w.heap.size w w') : Out fs w w' := ⟨h.os, h.tape, h.output, h.size, fun b h1 _ => h.block b h1⟩
theorem Out.set {fs : List Nat} {a w : World} {b i : Nat} (h : Out fs a w) (hb : b ∈ fs) (v : Value) : Out fs a (w.setCell ⟨b, i, none⟩ v) := by
  refine h.trans ⟨rfl, rfl, rfl, by rw [set_size]; exact Nat.le_refl _, fun x _ h2 => set_other (fun e : x = b => h2 (by rw [e]; exact hb)) v⟩
theorem Out.below {fs : List Nat} {w w' : World} {B : Nat} (h : Out fs w w') (hB : B ≤ w.heap.size) (hs : ∀ b ∈ fs, B ≤ b) : Below B w w' :=
  ⟨h.1, h.2.1, h.2.2.1, h.2.2.2.1, fun k hk => h.2.2.2.2 k (by omega) fun h3 => by have := hs k h3; omega⟩
theorem Out.keep {fs : List Nat} {w w' : World} {b : Nat} (h : Out fs w w') (h1 : b < w.heap.size) (h2 : b ∉ fs) : w'.heap[b]? = w.heap[b]? := h.2.2.2.2 b h1 h2
/-- in this row, from o on, these cells; all others as in C0 -/
def RowIs (w : World) (b o : Nat) (C0 : Array Value) (T : TypeId) (cs : List Value) : Prop :=
  ∃ C : Array Value, w.heap[b]? = some (.cells C T (0, 0)) ∧ C.size = C0.size ∧ o + cs.length ≤ C.size ∧ (∀ i, i < o ∨ o + cs.length ≤ i → C[i]? = C0[i]?) ∧ ∀ m, m < cs.length → C[o + m]? = cs[m]?
theorem RowIs.set {w : World} {b o m : Nat} {C0 : Array Value} {T : TypeId} {cs : List Value} (h : RowIs w b o C0 T cs) (hm : m < cs.length) (v : Value) : RowIs (w.setCell ⟨b, o + m, none⟩ v) b o C0 T (cs.set m v) := by
  obtain ⟨C, h1, h2, h3, h4, h5⟩ := h
  refine ⟨C.setIfInBounds (o + m) v, blk_set h1 v, by simpa using h2, by simpa using h3, fun i hi => ?_, fun q hq => ?_⟩
  · simp only [List.length_set] at hi
    rw [Array.getElem?_setIfInBounds, if_neg (by omega)]; exact h4 i (by omega)
  · simp only [List.length_set] at hq
    rw [Array.getElem?_setIfInBounds, List.getElem?_set]
    by_cases e : m = q
    · subst e; rw [if_pos rfl, if_pos rfl, if_pos (by omega), if_pos (by omega)]
    · rw [if_neg (by omega), if_neg e]; exact h5 q hq
theorem RowIs.keep {w w' : World} {b o : Nat} {C0 : Array Value} {T : TypeId} {cs : List Value} (h : RowIs w b o C0 T cs) (e : w'.heap[b]? = w.heap[b]?) : RowIs w' b o C0 T cs := by
  obtain ⟨C, h1, r⟩ := h
  exact ⟨C, e.trans h1, r⟩
theorem RowIs.lt {w : World} {b o : Nat} {C0 : Array Value} {T : TypeId} {cs : List Value} (h : RowIs w b o C0 T cs) : b < w.heap.size := by
  obtain ⟨C, h1, _⟩ := h
  exact (Array.getElem?_eq_some_iff.1 h1).1
theorem RowIs.below {w w' : World} {b o : Nat} {C0 : Array Value} {T : TypeId} {cs : List Value} (h : RowIs w b o C0 T cs) (hb : Below w.heap.size w w') : RowIs w' b o C0 T cs := h.keep (hb.block b h.lt)
theorem RowIs.out {w w' : World} {b o : Nat} {C0 : Array Value} {T : TypeId} {cs : List Value} {fs : List Nat} (h : RowIs w b o C0 T cs) (hb : Out fs w w') (hn : b ∉ fs) : RowIs w' b o C0 T cs := h.keep (hb.keep h.lt hn)
theorem RowIs.cell {w : World} {b o : Nat} {C0 : Array Value} {T : TypeId} {cs : List Value} (h : RowIs w b o C0 T cs) (m : Nat) {v : Value} (hv : cs[m]? = some v) : w.cell? ⟨b, o + m, none⟩ = some v := by
  obtain ⟨C, h1, _, _, _, h5⟩ := h
  have hm : m < cs.length := by
    rcases Nat.lt_or_ge m cs.length with h | h
    · exact h
    · rw [List.getElem?_eq_none h] at hv; cases hv
  rw [blk_cell h1, h5 m hm]; exact hv
theorem RowIs.unfrozen {w : World} {b o : Nat} {C0 : Array Value} {T : TypeId} {cs : List Value} (h : RowIs w b o C0 T cs) (i : Nat) : w.frozen? ⟨b, i, none⟩ = false := by
  obtain ⟨C, h1, _⟩ := h
  exact blk_unfrozen h1 i
/-- a reading that stays while its own blocks stay -/
def OwnStays {α : Type} (R : World → List Value → α → List Nat → Prop) : Prop := ∀ (w w' : World) (cs : List Value) (x : α) (fs : List Nat), (∀ b ∈ fs, w'.heap[b]? = w.heap[b]?) → R w cs x fs → R w' cs x fs
def OwnLt {α : Type} (R : World → List Value → α → List Nat → Prop) : Prop := ∀ (w : World) (cs : List Value) (x : α) (fs : List Nat), R w cs x fs → ∀ b ∈ fs, b < w.heap.size
def RowOwn {α : Type} (c : Nat) (R : World → List Value → α → List Nat → Prop) (w : World) (b off : Nat) (xs : List α) (fs : List Nat) : Prop :=
  ∃ (C : Array Value) (T : TypeId) (bss : List (List Nat)), w.heap[b]? = some (.cells C T (0, 0)) ∧ off + xs.length * c ≤ C.size ∧ bss.length = xs.length ∧ fs = b :: bss.flatten ∧ fs.Nodup ∧
    ∀ i, (h : i < xs.length) → (h' : i < bss.length) → ∃ cs, cs.length = c ∧ (∀ m, m < c → C[off + i * c + m]? = cs[m]?) ∧ R w cs xs[i] bss[i]
/-- a slice of records that owns its blocks: these -/
def SeqOwn {α : Type} (c : Nat) (R : World → List Value → α → List Nat → Prop) (w : World) (k : Value) (xs : List α) (fs : List Nat) : Prop :=
  ∃ a cap, k = .slice a xs.length cap ∧ (xs.length ≤ maxLen ∧ xs.length ≤ cap) ∧ ((xs.length = 0 ∧ fs = []) ∨ ∃ b off, a = some ⟨b, off, none⟩ ∧ RowOwn c R w b off xs fs)
theorem flat_apart {bss : List (List Nat)} (h : bss.flatten.Nodup) {i j : Nat} (hi : i < bss.length) (hj : j < bss.length) (hne : i ≠ j) {x : Nat} (hx : x ∈ bss[i]) : x ∉ bss[j] := by
  have hp := (List.pairwise_flatten.1 h).2
  rw [List.pairwise_iff_getElem] at hp
  intro hy
  rcases Nat.lt_or_gt_of_ne hne with e | e
  · exact hp i j hi hj e x hx x hy rfl
  · exact hp j i hj hi e x hy x hx rfl
theorem flat_nodup {bss : List (List Nat)} (h : bss.flatten.Nodup) {i : Nat} (hi : i < bss.length) : bss[i].Nodup := (List.pairwise_flatten.1 h).1 _ (List.getElem_mem hi)
theorem flat_mem {bss : List (List Nat)} {i : Nat} (hi : i < bss.length) {x : Nat} (hx : x ∈ bss[i]) : x ∈ bss.flatten := List.mem_flatten.2 ⟨_, List.getElem_mem hi, hx⟩
theorem RowOwn.stays {α : Type} {c : Nat} {R : World → List Value → α → List Nat → Prop} (hR : OwnStays R) {w w' : World} {b off : Nat} {xs : List α} {fs : List Nat} (h : RowOwn c R w b off xs fs) (hk : ∀ b ∈ fs, w'.heap[b]? = w.heap[b]?) : RowOwn c R w' b off xs fs := by
  obtain ⟨C, T, bss, h1, h2, h3, rfl, h5, h6⟩ := h
  refine ⟨C, T, bss, (hk b List.mem_cons_self).trans h1, h2, h3, rfl, h5, fun i hi hi' => ?_⟩
  obtain ⟨cs, hc, hl, r⟩ := h6 i hi hi'
  exact ⟨cs, hc, hl, hR _ _ _ _ _ (fun x hx => hk x (List.mem_cons_of_mem _ (flat_mem hi' hx))) r⟩
theorem SeqOwn.stays {α : Type} {c : Nat} {R : World → List Value → α → List Nat → Prop} (hR : OwnStays R) {w w' : World} {k : Value} {xs : List α} {fs : List Nat} (h : SeqOwn c R w k xs fs) (hk : ∀ b ∈ fs, w'.heap[b]? = w.heap[b]?) : SeqOwn c R w' k xs fs := by
  obtain ⟨a, cap, e, hm, h⟩ := h
  refine ⟨a, cap, e, hm, ?_⟩
  rcases h with h | ⟨b, off, e, h⟩
  · exact Or.inl h
  · exact Or.inr ⟨b, off, e, h.stays hR hk⟩
theorem RowOwn.lt {α : Type} {c : Nat} {R : World → List Value → α → List Nat → Prop} (hR : OwnLt R) {w : World} {b off : Nat} {xs : List α} {fs : List Nat} (h : RowOwn c R w b off xs fs) : ∀ x ∈ fs, x < w.heap.size := by
  obtain ⟨C, T, bss, h1, h2, h3, rfl, h5, h6⟩ := h
  intro x hx
  rcases List.mem_cons.1 hx with rfl | hx
  · exact (Array.getElem?_eq_some_iff.1 h1).1
  · obtain ⟨l, hl, hxl⟩ := List.mem_flatten.1 hx
    obtain ⟨i, hi, rfl⟩ := List.getElem_of_mem hl
    obtain ⟨cs, _, _, r⟩ := h6 i (by omega) hi
    exact hR _ _ _ _ r x hxl
theorem SeqOwn.lt {α : Type} {c : Nat} {R : World → List Value → α → List Nat → Prop} (hR : OwnLt R) {w : World} {k : Value} {xs : List α} {fs : List Nat} (h : SeqOwn c R w k xs fs) : ∀ x ∈ fs, x < w.heap.size := by
  obtain ⟨a, cap, e, hm, h⟩ := h
  rcases h with ⟨_, rfl⟩ | ⟨b, off, e, h⟩
  · intro x hx; cases hx
  · exact h.lt hR
theorem SeqOwn.nodup {α : Type} {c : Nat} {R : World → List Value → α → List Nat → Prop} {w : World} {k : Value} {xs : List α} {fs : List Nat} (h : SeqOwn c R w k xs fs) : fs.Nodup := by
  obtain ⟨a, cap, e, hm, h⟩ := h
  rcases h with ⟨_, rfl⟩ | ⟨b, off, e, C, T, bss, h1, h2, h3, h4, h5, h6⟩
  · exact List.nodup_nil
  · exact h5
theorem SeqOwn.form {α : Type} {c : Nat} {R : World → List Value → α → List Nat → Prop} {w : World} {k : Value} {xs : List α} {fs : List Nat} (h : SeqOwn c R w k xs fs) : ∃ a cap, k = .slice a xs.length cap := by
  obtain ⟨a, cap, e, _⟩ := h; exact ⟨a, cap, e⟩
/-- one record of a row, and how the row stands when it alone has turned -/
theorem RowOwn.at {α : Type} {c : Nat} {R : World → List Value → α → List Nat → Prop} (hR : OwnStays R) (hL : OwnLt R) {w : World} {b off : Nat} {ys : List α} {fs : List Nat} (h : RowOwn c R w b off ys fs) {j : Nat} (hj : j < ys.length) :
    ∃ C T cs fj, RowIs w b (off + j * c) C T cs ∧ cs.length = c ∧ (b ∈ fs ∧ b ∉ fj ∧ (∀ x ∈ fj, x ∈ fs) ∧ fj.Nodup) ∧ R w cs ys[j] fj ∧
      ∀ (w' : World) (cs' : List Value) (y : α), cs'.length = c → RowIs w' b (off + j * c) C T cs' → Out (b :: fj) w w' → R w' cs' y fj → RowOwn c R w' b off (ys.set j y) fs := by
  have hlt := h.lt hL
  obtain ⟨C, T, bss, h1, h2, h3, rfl, h5, h6⟩ := h
  have hj' : j < bss.length := by omega
  have hfn : bss.flatten.Nodup := (List.nodup_cons.1 h5).2
  have hbn : b ∉ bss.flatten := (List.nodup_cons.1 h5).1
  obtain ⟨cs, hc, hl, r⟩ := h6 j hj hj'
  have hjc := idx_le (c := c) hj
  refine ⟨C, T, cs, bss[j], ⟨C, h1, rfl, by omega, fun _ _ => rfl, fun m hm => hl m (by omega)⟩, hc, ⟨List.mem_cons_self, fun hb => hbn (flat_mem hj' hb), fun x hx => List.mem_cons_of_mem _ (flat_mem hj' hx), flat_nodup hfn hj'⟩, r, ?_⟩
  intro w' cs' y hc' hrow hout hr
  obtain ⟨C', g1, g2, g3, g4, g5⟩ := hrow
  refine ⟨C', T, bss, g1, by simp; omega, by simpa using h3, rfl, h5, fun i hi hi' => ?_⟩
  simp only [List.length_set] at hi
  by_cases e : i = j
  · subst e
    exact ⟨cs', hc', fun m hm => g5 m (by omega), by simpa using hr⟩
  · obtain ⟨ci, hci, hli, ri⟩ := h6 i hi hi'
    refine ⟨ci, hci, fun m hm => ?_, ?_⟩
    · have := idx_apart e hm
      rw [g4 _ (by omega)]; exact hli m hm
    · rw [List.getElem_set_ne (fun q => e q.symm)]
      refine hR _ _ _ _ _ (fun x hx => hout.keep (hlt x (List.mem_cons_of_mem _ (flat_mem hi' hx))) ?_) ri
      intro hm
      rcases List.mem_cons.1 hm with rfl | hm
      · exact hbn (flat_mem hi' hx)
      · exact flat_apart hfn hi' hj' e hx hm
/-- the same of a slice -/
theorem SeqOwn.step {α : Type} {c : Nat} {R : World → List Value → α → List Nat → Prop} (hR : OwnStays R) (hL : OwnLt R) {w : World} {a : Option Addr} {n cap : Nat} {ys : List α} {fs : List Nat} (h : SeqOwn c R w (.slice a n cap) ys fs) {j : Nat} (hj : j < ys.length) :
    ∃ b off C T cs fj, a = some ⟨b, off, none⟩ ∧ RowIs w b (off + j * c) C T cs ∧ cs.length = c ∧ (b ∈ fs ∧ b ∉ fj ∧ (∀ x ∈ fj, x ∈ fs) ∧ fj.Nodup) ∧ R w cs ys[j] fj ∧
      ∀ (w' : World) (cs' : List Value) (y : α), cs'.length = c → RowIs w' b (off + j * c) C T cs' → Out (b :: fj) w w' → R w' cs' y fj → SeqOwn c R w' (.slice a n cap) (ys.set j y) fs := by
  obtain ⟨a', cap', e, hm, h⟩ := h
  injection e with e1 e2 e3
  subst e1 e2 e3
  rcases h with ⟨h, _⟩ | ⟨b, off, rfl, h⟩
  · omega
  · obtain ⟨C, T, cs, fj, h1, h2, h3, h4, h5⟩ := h.at hR hL hj
    exact ⟨b, off, C, T, cs, fj, rfl, h1, h2, h3, h4, fun w' cs' y q1 q2 q3 q4 => ⟨some ⟨b, off, none⟩, cap, by simp, by simpa using hm, Or.inr ⟨b, off, rfl, h5 w' cs' y q1 q2 q3 q4⟩⟩⟩
/-- a cell that holds an int64, of no row of its own -/
def IntOwn (_ : World) (cs : List Value) (x : Int) (fs : List Nat) : Prop := cs = [.int .i64 x] ∧ InI x ∧ fs = []
theorem intOwn_stays : OwnStays IntOwn := fun _ _ _ _ _ _ h => h
theorem intOwn_lt : OwnLt IntOwn := fun _ _ _ _ h b hb => by rw [h.2.2] at hb; cases hb
/-- what owns its memory lies there -/
theorem SeqOwn.at {α : Type} {c : Nat} {R : World → List Value → α → List Nat → Prop} {R' : World → Nat → List Value → α → Prop} {lo : Nat} (hR : ∀ (w : World) (cs : List Value) (x : α) (fs : List Nat), R w cs x fs → (∀ b ∈ fs, lo ≤ b) → R' w lo cs x) {w : World} {k : Value} {xs : List α} {fs : List Nat} (h : SeqOwn c R w k xs fs) (hlo : ∀ b ∈ fs, lo ≤ b) : SeqAt c R' w lo k xs := by
  obtain ⟨a, cap, e, hm, h⟩ := h
  refine ⟨a, cap, e, hm, fun h0 => ?_⟩
  rcases h with ⟨h, _⟩ | ⟨b, off, e, C, T, bss, h1, h2, h3, rfl, h5, h6⟩
  · omega
  · refine ⟨b, off, e, hlo b List.mem_cons_self, (Array.getElem?_eq_some_iff.1 h1).1, fun i hi => ?_⟩
    obtain ⟨cs, hc, hl, r⟩ := h6 i hi (by omega)
    refine ⟨cs, hc, fun m hm => ?_, hR _ _ _ _ r fun x hx => hlo x (List.mem_cons_of_mem _ (flat_mem _ hx))⟩
    rw [blk_cell h1]; exact hl m (by omega)
theorem intOwn_at {lo : Nat} (w : World) (cs : List Value) (x : Int) (fs : List Nat) (h : IntOwn w cs x fs) (_ : ∀ b ∈ fs, lo ≤ b) : IntAt w lo cs x := ⟨h.1, h.2.1⟩
/-! ### lists of which the head has turned -/
def mix {α : Type} (A xs : List α) (j : Nat) : List α := A.take j ++ xs.drop j
theorem mix_zero {α : Type} (A xs : List α) : mix A xs 0 = xs := by simp [mix]
theorem mix_full {α : Type} {A xs : List α} (h : A.length = xs.length) : mix A xs xs.length = A := by simp [mix, ← h]
theorem mix_length {α : Type} {A xs : List α} (h : A.length = xs.length) {j : Nat} (hj : j ≤ xs.length) : (mix A xs j).length = xs.length := by simp [mix]; omega
theorem mix_get {α : Type} {A xs : List α} (h : A.length = xs.length) {j : Nat} (hj : j < xs.length) (hj' : j < (mix A xs j).length) : (mix A xs j)[j] = xs[j] := by
  have hl : (A.take j).length = j := by simp; omega
  have : (A.take j ++ xs.drop j)[j]? = some xs[j] := by
    rw [List.getElem?_append_right (by omega), hl, Nat.sub_self, List.getElem?_drop, Nat.add_zero, List.getElem?_eq_getElem hj]
  have h2 : (mix A xs j)[j]? = some xs[j] := this
  rw [List.getElem?_eq_getElem hj'] at h2
  exact Option.some.inj h2
theorem mix_set {α : Type} {A xs : List α} (h : A.length = xs.length) {j : Nat} (hj : j < xs.length) : (mix A xs j).set j (A[j]'(by omega)) = mix A xs (j + 1) := by
  have hl : (A.take j).length = j := by simp; omega
  have h1 : (mix A xs j).set j (A[j]'(by omega)) = A.take j ++ (xs.drop j).set 0 (A[j]'(by omega)) := by
    unfold mix
    rw [List.set_append]
    rw [if_neg (by omega), hl, Nat.sub_self]
  rw [h1, List.drop_eq_getElem_cons hj, List.set_cons_zero]
  unfold mix
  rw [List.take_succ_eq_append_getElem (show j < A.length by omega), List.append_assoc]
  rfl
/-! ### marks -/
def pos {α : Type} (cnt : α → Nat) (xs : List α) (j : Nat) : Nat := ((xs.take j).map cnt).sum
theorem pos_zero {α : Type} (cnt : α → Nat) (xs : List α) : pos cnt xs 0 = 0 := by simp [pos]
theorem pos_succ {α : Type} {cnt : α → Nat} {xs : List α} {j : Nat} (h : j < xs.length) : pos cnt xs (j + 1) = pos cnt xs j + cnt xs[j] := by
  unfold pos; rw [List.take_succ_eq_append_getElem h, List.map_append, List.sum_append]; simp
theorem pos_le {α : Type} {cnt : α → Nat} {xs : List α} : ∀ {j i : Nat}, j ≤ i → i ≤ xs.length → pos cnt xs j ≤ pos cnt xs i := by
  intro j i h
  induction h with
  | refl => intro _; exact Nat.le_refl _
  | step h ih => intro hi; have := ih (by omega); rw [pos_succ (by omega)]; omega
def cntL {α : Type} (cnt : α → Nat) (xs : List α) : Nat := pos cnt xs xs.length
def mkL {α : Type} (cnt : α → Nat) (mk : α → Int → α) (xs : List α) (m : Int) : List α := xs.mapIdx fun j x => mk x (m + (pos cnt xs j : Int))
theorem mkL_length {α : Type} {cnt : α → Nat} {mk : α → Int → α} {xs : List α} {m : Int} : (mkL cnt mk xs m).length = xs.length := by simp [mkL]
theorem mkL_get {α : Type} {cnt : α → Nat} {mk : α → Int → α} {xs : List α} {m : Int} {j : Nat} (h : j < (mkL cnt mk xs m).length) : (mkL cnt mk xs m)[j] = mk (xs[j]'(by rw [mkL_length] at h; exact h)) (m + (pos cnt xs j : Int)) := by simp [mkL]
end Go.Proofs.Ytndffcogddefiaa
namespace Go.Proofs.Ytndffcogddefiaa
open Go.RowKit Go.Deep
theorem SeqOwn.below {α : Type} {c : Nat} {R : World → List Value → α → List Nat → Prop} (hR : OwnStays R) (hL : OwnLt R) {w w' : World} {k : Value} {xs : List α} {fs : List Nat} (h : SeqOwn c R w k xs fs) (hb : Below w.heap.size w w') : SeqOwn c R w' k xs fs :=
  h.stays hR fun b q => hb.block b (h.lt hL b q)
theorem SeqOwn.put {α : Type} {c : Nat} {R : World → List Value → α → List Nat → Prop} (hR : OwnStays R) {w : World} {g o : Nat} {vs : List Value} {k : Value} {xs : List α} {fs : List Nat} (h : SeqOwn c R w k xs fs) (hg : ∀ b ∈ fs, b ≠ g) : SeqOwn c R (putCells w g o vs) k xs fs :=
  h.stays hR fun b q => putCells_other _ _ _ _ _ (hg b q)
def FilledO {α : Type} (T c : Nat) (R : World → List Value → α → List Nat → Prop) (w wr : World) (xs : List α) (g j : Nat) (bss : List (List Nat)) : Prop :=
  Below w.heap.size w wr ∧ g < wr.heap.size ∧ bss.length = j ∧ (g :: bss.flatten).Nodup ∧ (∀ b ∈ bss.flatten, g < b ∧ b < wr.heap.size) ∧
  ∃ C : Array Value, wr.heap[g]? = some (.cells C T (0, 0)) ∧ C.size = xs.length * c ∧ ∀ j', (h : j' < xs.length) → (h' : j' < bss.length) → ∃ cs, cs.length = c ∧ (∀ m, m < c → C[j' * c + m]? = cs[m]?) ∧ R wr cs xs[j'] bss[j']
theorem FilledO.start {α : Type} {T c : Nat} {R : World → List Value → α → List Nat → Prop} {w : World} {xs : List α} {C : Array Value} (hC : C.size = xs.length * c) : FilledO T c R w (w.alloc (.cells C T)) xs w.heap.size 0 [] :=
  ⟨(Below.refl _ _).alloc (Nat.le_refl _) _, by simp, rfl, by simp, by simp, C, (MapKept.heap_alloc w _).1, hC, fun j' _ h => absurd h (by simp)⟩
theorem FilledO.facts {α : Type} {T c : Nat} {R : World → List Value → α → List Nat → Prop} {w wr w1 : World} {xs : List α} {g j : Nat} {bss : List (List Nat)} (h : FilledO T c R w wr xs g j bss) (hj : j < xs.length) (hb1 : Below wr.heap.size wr w1) :
    (∀ m, m < c → ∃ v, w1.cell? ⟨g, j * c + m, none⟩ = some v) ∧ ∀ i, w1.frozen? ⟨g, i, none⟩ = false := by
  obtain ⟨hb, hg, _, _, _, C, hC, hCs, hall⟩ := h
  have hC1 : w1.heap[g]? = some (.cells C T (0, 0)) := (hb1.block g hg).trans hC
  have := idx_le (c := c) hj
  exact ⟨fun m hm => ⟨C[j * c + m]'(by omega), by rw [blk_cell hC1]; exact Array.getElem?_eq_getElem (by omega)⟩, fun i => blk_unfrozen hC1 i⟩
theorem FilledO.step {α : Type} {T c : Nat} {R : World → List Value → α → List Nat → Prop} (hR : OwnStays R) {w wr w1 : World} {xs : List α} {g j : Nat} {bss : List (List Nat)} (h : FilledO T c R w wr xs g j bss) (hj : j < xs.length) (hwg : w.heap.size ≤ g) (hb1 : Below wr.heap.size wr w1)
    {cs : List Value} {fs : List Nat} (hcl : cs.length = c) (hr : R w1 cs xs[j] fs) (hlo : ∀ b ∈ fs, wr.heap.size ≤ b) (hhi : ∀ b ∈ fs, b < w1.heap.size) (hnd : fs.Nodup) : FilledO T c R w (putCells w1 g (j * c) cs) xs g (j + 1) (bss ++ [fs]) := by
  obtain ⟨hb, hg, hbl, hbn, hbb, C, hC, hCs, hall⟩ := h
  have hC1 : w1.heap[g]? = some (.cells C T (0, 0)) := (hb1.block g hg).trans hC
  have hjc := idx_le (c := c) hj
  obtain ⟨C', hC', hs', hold, hnew⟩ := putCells_block cs w1 g (j * c) C T hC1 (by omega)
  have hs1 := hb1.size
  have hsz := putCells_size cs w1 g (j * c)
  have hfl : (bss ++ [fs]).flatten = bss.flatten ++ fs := by simp
  refine ⟨putCells_below cs _ _ _ g _ hwg (hb.trans (hb1.mono hb.size)), by omega, by simp [hbl], ?_, ?_, C', hC', by omega, fun j' hj' hlt => ?_⟩
  · rw [hfl]
    rw [List.nodup_cons] at hbn ⊢
    refine ⟨?_, List.nodup_append.2 ⟨hbn.2, hnd, fun a ha b hb' e => ?_⟩⟩
    · intro hm
      rcases List.mem_append.1 hm with q | q
      · exact hbn.1 q
      · have := hlo g q; omega
    · subst e
      have h1 := (hbb a ha).2
      have h2 := hlo a hb'
      omega
  · rw [hfl, hsz]
    intro b hm
    rcases List.mem_append.1 hm with q | q
    · have := hbb b q; omega
    · have h1 := hlo b q; have h2 := hhi b q; omega
  · by_cases e : j' = j
    · subst e
      have eb : (bss ++ [fs])[j'] = fs := by rw [List.getElem_append_right (by omega)]; simp [hbl]
      refine ⟨cs, hcl, fun m hm => hnew m (by omega), ?_⟩
      rw [eb]
      exact hR _ _ _ _ _ (fun b q => putCells_other _ _ _ _ _ (by have := hlo b q; omega)) hr
    · have hlt' : j' < bss.length := by simp at hlt; omega
      have eb : (bss ++ [fs])[j'] = bss[j'] := List.getElem_append_left hlt'
      obtain ⟨cs', hl', hc', r⟩ := hall j' hj' hlt'
      refine ⟨cs', hl', fun m hm => ?_, ?_⟩
      · rw [← hc' m hm]
        have := idx_apart e hm
        exact hold _ (by omega)
      · rw [eb]
        refine hR _ _ _ _ _ (fun b q => ?_) r
        have hq := hbb b (flat_mem hlt' q)
        exact (putCells_other _ _ _ _ _ (by omega)).trans (hb1.block b hq.2)
theorem FilledO.done {α : Type} {T c : Nat} {R : World → List Value → α → List Nat → Prop} {w wr : World} {xs : List α} {g : Nat} {bss : List (List Nat)} (h : FilledO T c R w wr xs g xs.length bss) (hwg : w.heap.size ≤ g) (hm : xs.length ≤ maxLen) :
    SeqOwn c R wr (.slice (some ⟨g, 0, none⟩) xs.length xs.length) xs (g :: bss.flatten) ∧ ∀ b ∈ g :: bss.flatten, w.heap.size ≤ b := by
  obtain ⟨hb, hg, hbl, hbn, hbb, C, hC, hCs, hall⟩ := h
  refine ⟨⟨_, _, rfl, ⟨hm, Nat.le_refl _⟩, Or.inr ⟨g, 0, rfl, C, T, bss, hC, by omega, hbl, rfl, hbn, fun i hi hi' => ?_⟩⟩, fun b hq => ?_⟩
  · obtain ⟨cs, hl, hc, r⟩ := hall i hi hi'
    exact ⟨cs, hl, fun m hm => by rw [Nat.zero_add]; exact hc m hm, r⟩
  · rcases List.mem_cons.1 hq with e | e
    · omega
    · have := hbb b e; omega
theorem nodup_two {f1 f2 : List Nat} {q : Nat} (h1 : f1.Nodup) (h2 : f2.Nodup) (l1 : ∀ b ∈ f1, b < q) (l2 : ∀ b ∈ f2, q ≤ b) : (f1 ++ f2).Nodup :=
  List.nodup_append.2 ⟨h1, h2, fun a ha b hb e => by subst e; have := l1 a ha; have := l2 a hb; omega⟩
end Go.Proofs.Ytndffcogddefiaa
namespace Go.Proofs.Ytndffcogddefiaa
open Go.RowKit Go.Deep
theorem flat_len {css : List (List Value)} {c : Nat} (h : ∀ cs ∈ css, cs.length = c) : css.flatten.length = css.length * c := by
  induction css with
  | nil => simp
  | cons x xs ih =>
    have h1 := h x (by simp)
    have h2 := ih (fun cs q => h cs (List.mem_cons_of_mem _ q))
    simp only [List.flatten_cons, List.length_append, List.length_cons, h1, h2, Nat.add_mul, Nat.one_mul]
    omega
theorem flat_get {css : List (List Value)} {c : Nat} (h : ∀ cs ∈ css, cs.length = c) : ∀ {i m : Nat}, (hi : i < css.length) → m < c → css.flatten[i * c + m]? = css[i][m]? := by
  induction css with
  | nil => intro i m hi; simp at hi
  | cons x xs ih =>
    intro i m hi hm
    have h1 := h x (by simp)
    cases i with
    | zero => simp only [List.flatten_cons, Nat.zero_mul, Nat.zero_add, List.getElem_cons_zero]; rw [List.getElem?_append_left (by omega)]
    | succ i =>
      simp only [List.flatten_cons, List.getElem_cons_succ]
      rw [List.getElem?_append_right (by rw [Nat.add_mul, Nat.one_mul]; omega), show (i + 1) * c + m - x.length = i * c + m by rw [Nat.add_mul, Nat.one_mul]; omega]
      exact ih (fun cs q => h cs (List.mem_cons_of_mem _ q)) (by simp at hi; omega) hm
def GrowOwn {α : Type} (T c : Nat) (R : World → List Value → α → List Nat → Prop) (base : Nat) (w : World) (v : Value) (xs : List α) (bss : List (List Nat)) (css : List (List Value)) : Prop :=
  css.length = xs.length ∧ bss.length = xs.length ∧ (∀ cs ∈ css, cs.length = c) ∧ w.ownsRow base T c v xs.length css.flatten ∧ (∀ i, (h : i < xs.length) → (h1 : i < css.length) → (h2 : i < bss.length) → R w css[i] xs[i] bss[i]) ∧ bss.flatten.Nodup ∧ ∀ b ∈ bss.flatten, base ≤ b ∧ b < w.heap.size ∧ v.ownBlock ≠ some b
theorem GrowOwn.nil {α : Type} {T c : Nat} {R : World → List Value → α → List Nat → Prop} {base : Nat} {w : World} : GrowOwn T c R base w (.slice none 0 0) ([] : List α) [] [] :=
  ⟨rfl, rfl, by simp, World.ownsRow_nil _ _ _ _, fun i h => absurd h (by simp), by simp, by simp⟩
theorem row_lt {w : World} {base e size n : Nat} {v : Value} {xs : List Value} (h : w.ownsRow base e size v n xs) : ∀ k, v.ownBlock = some k → k < w.heap.size := by
  intro k hk
  rcases h.2 with ⟨rfl, _⟩ | ⟨g, cap, cur, rfl, _, hh, _⟩
  · cases hk
  · simp only [Value.ownBlock, Option.some.injEq] at hk
    subst hk
    exact (Array.getElem?_eq_some_iff.1 hh).1
theorem row_below {w w' : World} {base e size n : Nat} {v : Value} {xs : List Value} (h : w.ownsRow base e size v n xs) (hb : Below w.heap.size w w') : w'.ownsRow base e size v n xs := by
  refine ⟨h.1, ?_⟩
  rcases h.2 with h2 | ⟨g, cap, cur, hv, hg, hh, r⟩
  · exact Or.inl h2
  · exact Or.inr ⟨g, cap, cur, hv, hg, (hb.block g (Array.getElem?_eq_some_iff.1 hh).1).trans hh, r⟩
theorem GrowOwn.below {α : Type} {T c : Nat} {R : World → List Value → α → List Nat → Prop} (hR : OwnStays R) {base : Nat} {w w' : World} {v : Value} {xs : List α} {bss : List (List Nat)} {css : List (List Value)} (h : GrowOwn T c R base w v xs bss css) (hb : Below w.heap.size w w') : GrowOwn T c R base w' v xs bss css := by
  obtain ⟨h1, h2, h3, h4, h5, h6, h7⟩ := h
  refine ⟨h1, h2, h3, row_below h4 hb, fun i q q1 q2 => hR _ _ _ _ _ (fun b hq => hb.block b (h7 b (flat_mem q2 hq)).2.1) (h5 i q q1 q2), h6, fun b q => ?_⟩
  have := h7 b q
  have := hb.size
  exact ⟨by omega, by omega, (h7 b q).2.2⟩
theorem GrowOwn.set {α : Type} {T c : Nat} {R : World → List Value → α → List Nat → Prop} (hR : OwnStays R) {base : Nat} {w : World} {v u : Value} {g i : Nat} {xs : List α} {bss : List (List Nat)} {css : List (List Value)} (h : GrowOwn T c R base w v xs bss css) (hg : g < base) : GrowOwn T c R base (w.setCell ⟨g, i, none⟩ u) v xs bss css := by
  obtain ⟨h1, h2, h3, h4, h5, h6, h7⟩ := h
  refine ⟨h1, h2, h3, ?_, fun j q q1 q2 => hR _ _ _ _ _ (fun b hq => set_other (by have := (h7 b (flat_mem q2 hq)).1; omega) u) (h5 j q q1 q2), h6, fun b q => by rw [set_size]; exact h7 b q⟩
  refine ⟨h4.1, ?_⟩
  rcases h4.2 with q | ⟨g', cap, cur, hv, hg', hh, r⟩
  · exact Or.inl q
  · exact Or.inr ⟨g', cap, cur, hv, hg', (set_other (by omega) u).trans hh, r⟩
/-- one more -/
theorem GrowOwn.snoc {α : Type} {T c : Nat} {R : World → List Value → α → List Nat → Prop} (hR : OwnStays R) {base : Nat} {w w2 w3 : World} {v : Value} {xs : List α} {bss : List (List Nat)} {css : List (List Value)} {x : α} {fs : List Nat} {cs : List Value} {g n1 cap : Nat}
    (h : GrowOwn T c R base w v xs bss css) (hb2 : Below w.heap.size w w2) (hbase : base ≤ w.heap.size) (hcl : cs.length = c) (hr : R w2 cs x fs) (hnd : fs.Nodup) (hlo : ∀ b ∈ fs, w.heap.size ≤ b) (hhi : ∀ b ∈ fs, b < w2.heap.size)
    (hn1 : n1 = xs.length + 1) (hown : w3.ownsRow base T c (.slice (some ⟨g, 0, none⟩) n1 cap) n1 (css.flatten ++ cs)) (hgrow : w2.grownBy w3 v.ownBlock) (hat : v.ownBlock = some g ∨ g = w2.heap.size) :
    GrowOwn T c R base w3 (.slice (some ⟨g, 0, none⟩) n1 cap) (xs ++ [x]) (bss ++ [fs]) (css ++ [cs]) := by
  subst hn1
  have hrow := h.2.2.2.1
  obtain ⟨h1, h2, h3, h4, h5, h6, h7⟩ := h
  have hs2 := hb2.size
  have hvlt := row_lt hrow
  have hfl : (bss ++ [fs]).flatten = bss.flatten ++ fs := by simp
  have keep : ∀ b, b < w2.heap.size → v.ownBlock ≠ some b → w3.heap[b]? = w2.heap[b]? := fun b q1 q2 => hgrow.block b q1 (fun e => q2 e.symm)
  have fsne : ∀ b ∈ fs, v.ownBlock ≠ some b := fun b q e => by have := hvlt b e; have := hlo b q; omega
  refine ⟨by simp [h1], by simp [h2], fun z hz => ?_, by simpa using hown, fun i q q1 q2 => ?_, ?_, fun b q => ?_⟩
  · rcases List.mem_append.1 hz with e | e
    · exact h3 z e
    · simp at e; subst e; exact hcl
  · by_cases e : i < xs.length
    · rw [List.getElem_append_left (by omega), List.getElem_append_left e, List.getElem_append_left (by omega)]
      refine hR _ _ _ _ _ (fun b hq => ?_) (h5 i e (by omega) (by omega))
      have hm := h7 b (flat_mem (by omega) hq)
      exact (keep b (by omega) hm.2.2).trans (hb2.block b hm.2.1)
    · have e' : i = xs.length := by simp at q; omega
      subst e'
      rw [List.getElem_append_right (by omega), List.getElem_append_right (Nat.le_refl _), List.getElem_append_right (by omega)]
      simp only [h1, h2, Nat.sub_self, List.getElem_cons_zero]
      exact hR _ _ _ _ _ (fun b hq => keep b (hhi b hq) (fsne b hq)) hr
  · rw [hfl]
    exact nodup_two (q := w.heap.size) h6 hnd (fun b q => (h7 b q).2.1) hlo
  · rw [hfl] at q
    have hs3 := hgrow.size
    rcases List.mem_append.1 q with e | e
    · have hm := h7 b e
      refine ⟨hm.1, by omega, fun q' => ?_⟩
      simp only [Value.ownBlock, Option.some.injEq] at q'
      rcases hat with k | k
      · exact hm.2.2 (by rw [k, q'])
      · omega
    · have l1 := hlo b e
      have l2 := hhi b e
      refine ⟨by omega, by omega, fun q' => ?_⟩
      simp only [Value.ownBlock, Option.some.injEq] at q'
      rcases hat with k | k
      · exact fsne b e (by rw [k, q'])
      · omega
theorem GrowOwn.done {α : Type} {T c : Nat} {R : World → List Value → α → List Nat → Prop} {base : Nat} {w : World} {v : Value} {xs : List α} {bss : List (List Nat)} {css : List (List Value)} (h : GrowOwn T c R base w v xs bss css) : ∃ fs, SeqOwn c R w v xs fs ∧ ∀ b ∈ fs, base ≤ b := by
  obtain ⟨h1, h2, h3, h4, h5, h6, h7⟩ := h
  obtain ⟨hl, ho⟩ := h4
  rcases ho with ⟨rfl, hn⟩ | ⟨g, cap, cur, rfl, hg, hh, q1, q2, q3, q4⟩
  · exact ⟨[], ⟨none, 0, by rw [hn], ⟨by omega, by omega⟩, Or.inl ⟨hn, rfl⟩⟩, by simp⟩
  · refine ⟨g :: bss.flatten, ⟨_, _, rfl, ⟨Nat.le_trans q1 q2, q1⟩, Or.inr ⟨g, 0, rfl, cur, T, bss, hh, ?_, h2, rfl, ?_, fun i hi hi' => ⟨css[i], h3 _ (List.getElem_mem _), fun m hm => ?_, h5 i hi (by omega) hi'⟩⟩⟩, fun b q => ?_⟩
    · rw [q3, Nat.zero_add]; exact Nat.mul_le_mul_right c q1
    · rw [List.nodup_cons]
      exact ⟨fun q => (h7 g q).2.2 rfl, h6⟩
    · have e : (cur.toList.take (xs.length * c))[i * c + m]? = css[i][m]? := by rw [q4]; exact flat_get h3 (by omega) hm
      have hlt : i * c + m < xs.length * c := by have := idx_le (c := c) hi; omega
      rw [List.getElem?_take_of_lt hlt] at e
      rw [Nat.zero_add]
      simpa using e
    · rcases List.mem_cons.1 q with e | e
      · omega
      · exact (h7 b e).1
end Go.Proofs.Ytndffcogddefiaa
