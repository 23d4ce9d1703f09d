/- Rows of records in memory: what it means that a slice holds these data, and that it stays so while other blocks turn; the filling of a new row. -/
import Derived.WalkKit
import Derived.ProofKit
import Derived.Deep.Slices
namespace Go.Proofs.Ytbodeijffpepfaa
open Go.RowKit Go.Deep
theorem blk_cell {w : World} {g : Nat} {cs : Array Value} {t : TypeId} {fr : Nat × Nat} (h : w.heap[g]? = some (.cells cs t fr)) (i : Nat) : w.cell? ⟨g, i, none⟩ = cs[i]? := by simp [World.cell?, h]
theorem blk_unfrozen {w : World} {g : Nat} {cs : Array Value} {t : TypeId} (h : w.heap[g]? = some (.cells cs t (0, 0))) (i : Nat) : w.frozen? ⟨g, i, none⟩ = false := by simp [World.frozen?, h]
theorem blk_set {w : World} {g i : Nat} {cs : Array Value} {t : TypeId} {fr : Nat × Nat} (h : w.heap[g]? = some (.cells cs t fr)) (v : Value) : (w.setCell ⟨g, i, none⟩ v).heap[g]? = some (.cells (cs.setIfInBounds i v) t fr) := by
  simp [World.setCell, Array.getElem?_modify, h]
theorem set_other {w : World} {g i b : Nat} (h : b ≠ g) (v : Value) : (w.setCell ⟨g, i, none⟩ v).heap[b]? = w.heap[b]? := Below.heap_setCell _ _ _ _ (by simpa using h)
theorem set_size {w : World} {g i : Nat} (v : Value) : (w.setCell ⟨g, i, none⟩ v).heap.size = w.heap.size := by simp [World.setCell]
theorem undrew {wr w1 : World} (h : Below wr.drew.heap.size wr.drew w1) : Below wr.heap.size wr w1 := ⟨h.os, h.tape, h.output, h.size, h.block⟩
theorem addr_of_cell {w : World} {a : Addr} {v : Value} (h : w.cell? a = some v) : a = ⟨a.block, a.off, none⟩ ∧ a.block < w.heap.size := by
  unfold World.cell? at h
  split at h
  · rename_i c _ _ hc
    refine ⟨?_, ?_⟩
    · obtain ⟨b, o, s⟩ := a
      cases s with
      | none => rfl
      | some s => simp at h
    · rcases Nat.lt_or_ge a.block w.heap.size with hlt | hge
      · exact hlt
      · rw [Array.getElem?_eq_none hge] at hc; cases hc
  · cases h
/-- an int64 -/
def InI (n : Int) : Prop := -9223372036854775808 ≤ n ∧ n ≤ 9223372036854775807
/-- of the blocks from lo on nothing has turned; lo' is no higher -/
def Kept (w w' : World) (lo lo' : Nat) : Prop := w.heap.size ≤ w'.heap.size ∧ lo' ≤ lo ∧ ∀ b, lo ≤ b → b < w.heap.size → w'.heap[b]? = w.heap[b]?
theorem Kept.of_below {w w' : World} {lo : Nat} (h : Below w.heap.size w w') : Kept w w' lo lo := ⟨h.size, Nat.le_refl _, fun b _ h2 => h.block b h2⟩
theorem Kept.lower {w : World} {lo lo' : Nat} (h : lo' ≤ lo) : Kept w w lo lo' := ⟨Nat.le_refl _, h, fun _ _ _ => rfl⟩
theorem Kept.cell {w w' : World} {lo lo' b o : Nat} {v : Value} (h : Kept w w' lo lo') (h1 : lo ≤ b) (h2 : b < w.heap.size) (hc : w.cell? ⟨b, o, none⟩ = some v) : w'.cell? ⟨b, o, none⟩ = some v := by
  rw [World.cell?_of_block (w := w) (w' := w') (h.2.2 b h1 h2)]; exact hc
/-- a reading of a record's cells that stays while its blocks stay -/
def Stays {α : Type} (R : World → Nat → List Value → α → Prop) : Prop := ∀ (w w' : World) (lo lo' : Nat) (cs : List Value) (x : α), Kept w w' lo lo' → R w lo cs x → R w' lo' cs x
/-- these cells lie in a block from an offset on -/
def Lie (w : World) (b o : Nat) (cs : List Value) : Prop := ∀ m, m < cs.length → w.cell? ⟨b, o + m, none⟩ = cs[m]?
theorem Lie.keep {w w' : World} {lo lo' b o : Nat} {cs : List Value} (h : Lie w b o cs) (k : Kept w w' lo lo') (h1 : lo ≤ b) (h2 : b < w.heap.size) : Lie w' b o cs := fun m hm => by
  rw [World.cell?_of_block (w := w) (w' := w') (k.2.2 b h1 h2)]; exact h m hm
/-- a slice of records, c cells each, lies in memory, each as R says, its row in a block from lo on -/
def SeqAt {α : Type} (c : Nat) (R : World → Nat → List Value → α → Prop) (w : World) (lo : Nat) (k : Value) (xs : List α) : Prop :=
  ∃ a cap, k = .slice a xs.length cap ∧ (xs.length ≤ maxLen ∧ xs.length ≤ cap) ∧ (0 < xs.length → ∃ b off, a = some ⟨b, off, none⟩ ∧ lo ≤ b ∧ b < w.heap.size ∧
    ∀ i, (h : i < xs.length) → ∃ cs, cs.length = c ∧ Lie w b (off + i * c) cs ∧ R w lo cs xs[i])
theorem SeqAt.keep {α : Type} {c : Nat} {R : World → Nat → List Value → α → Prop} (hR : Stays R) {w w' : World} {lo lo' : Nat} {k : Value} {xs : List α} (h : SeqAt c R w lo k xs) (q : Kept w w' lo lo') : SeqAt c R w' lo' k xs := by
  obtain ⟨a, cap, hk, hm, hx⟩ := h
  refine ⟨a, cap, hk, hm, fun h0 => ?_⟩
  obtain ⟨b, off, ha, h1, h2, hc⟩ := hx h0
  have q1 := q.1
  have q2 := q.2.1
  refine ⟨b, off, ha, by omega, by omega, fun i hi => ?_⟩
  obtain ⟨cs, hl, lie, r⟩ := hc i hi
  exact ⟨cs, hl, lie.keep q h1 h2, hR _ _ _ _ _ _ q r⟩
theorem SeqAt.below {α : Type} {c : Nat} {R : World → Nat → List Value → α → Prop} (hR : Stays R) {w w' : World} {lo : Nat} {k : Value} {xs : List α} (h : SeqAt c R w lo k xs) (q : Below w.heap.size w w') : SeqAt c R w' lo k xs := h.keep hR (.of_below q)
theorem SeqAt.form {α : Type} {c : Nat} {R : World → Nat → List Value → α → Prop} {w : World} {lo : Nat} {k : Value} {xs : List α} (h : SeqAt c R w lo k xs) : ∃ a cap, k = .slice a xs.length cap := by
  obtain ⟨a, cap, hk, _⟩ := h; exact ⟨a, cap, hk⟩
/-- the first i of a row -/
theorem SeqAt.take {α : Type} {c : Nat} {R : World → Nat → List Value → α → Prop} {w : World} {lo : Nat} {a : Option Addr} {cap : Nat} {xs : List α} (h : SeqAt c R w lo (.slice a xs.length cap) xs) (i : Nat) (hi : i ≤ xs.length) : SeqAt c R w lo (.slice a i cap) (xs.take i) := by
  obtain ⟨a', cap', hk, hm, hx⟩ := h
  injection hk with e1 _ e3
  subst e1 e3
  have hl : (xs.take i).length = i := by simp; omega
  refine ⟨a, cap, by rw [hl], by rw [hl]; omega, fun h0 => ?_⟩
  obtain ⟨b, off, ha, h1, h2, hc⟩ := hx (by omega)
  refine ⟨b, off, ha, h1, h2, fun j hj => ?_⟩
  obtain ⟨cs, hcl, lie, r⟩ := hc j (by omega)
  exact ⟨cs, hcl, lie, by rw [List.getElem_take]; exact r⟩
/-- a cell that holds an int64 -/
def IntAt (_ : World) (_ : Nat) (cs : List Value) (x : Int) : Prop := cs = [.int .i64 x] ∧ InI x
theorem intAt_stays : Stays IntAt := fun _ _ _ _ _ _ _ h => h
/-- of a list all elements -/
def AllS {α : Type} (p : α → Prop) (xs : List α) : Prop := xs.length ≤ 1048576 ∧ ∀ i, (h : i < xs.length) → p xs[i]
/-! ### a list out of its elements -/
theorem list_of {α : Type} {n : Nat} {p : Nat → α → Prop} (h : ∀ i, i < n → ∃ x, p i x) : ∃ xs : List α, xs.length = n ∧ ∀ i, (h : i < xs.length) → p i xs[i] := by
  induction n with
  | zero => exact ⟨[], rfl, fun i h => absurd h (by simp)⟩
  | succ n ih =>
    obtain ⟨xs, hl, hx⟩ := ih (fun i hi => h i (by omega))
    obtain ⟨x, hp⟩ := h n (by omega)
    refine ⟨xs ++ [x], by simp [hl], fun i hi => ?_⟩
    by_cases e : i < xs.length
    · rw [List.getElem_append_left e]; exact hx i e
    · have e' : i = n := by simp at hi; omega
      subst e'
      rw [List.getElem_append_right (by omega)]
      simpa [hl] using hp
/-- a reading of a slice is a row of records -/
theorem seqAt_of_trod {α : Type} {H : Type} {enc : TypeId × Value → H} {P : Program} {w : World} {spare : Nat → Bool} {held : Bool} {T S : TypeId} {c : Nat} {R : World → Nat → List Value → α → Prop} (hS : P.underlying S = some (.slice T)) (cT : P.cellsOf T = c)
    (hc0 : 0 < c) (hR : ∀ (m : Nat) (cs : List Value) (y : DataW H × List MemPlace), DataW.trod enc P w 0 spare held m T cs = some y → ∃ x, R w 0 cs x) {n : Nat} {cs : List Value} {y : DataW H × List MemPlace}
    (h : DataW.trod enc P w 0 spare held n S cs = some y) : ∃ k xs, cs = [k] ∧ SeqAt c R w 0 k xs := by
  rcases DataW.trod_slice hS h with ⟨rfl, rfl⟩ | ⟨a, len, cap, elems, rest, m, rfl, rfl, rfl, _, hl, hm, hlen, hel, _, _⟩
  · exact ⟨_, [], rfl, none, 0, rfl, ⟨Nat.zero_le _, Nat.zero_le _⟩, fun h0 => absurd h0 (by simp)⟩
  · obtain ⟨xs, hxl, hxs⟩ := list_of (n := len) (p := fun i x => ∃ cs, w.cells? 0 (a.add (i * c)) c = some cs ∧ R w 0 cs x) (fun i hi => by
      have e := hel i hi
      rw [cT, List.getElem?_eq_getElem (by omega)] at e
      obtain ⟨cs', h1, h2⟩ := Option.bind_eq_some_iff.1 e
      obtain ⟨x, r⟩ := hR m cs' _ h2
      exact ⟨x, cs', h1, r⟩)
    refine ⟨_, xs, rfl, some a, cap, by rw [hxl], by omega, fun h0 => ?_⟩
    obtain ⟨cs0, h1, _⟩ := hxs 0 h0
    have hcell0 : ∃ v, w.cell? a = some v := by
      obtain ⟨_, hl0, hc⟩ := World.cells?_some h1
      refine ⟨cs0[0]'(by omega), ?_⟩
      have := hc 0 (by omega)
      rw [List.getElem?_eq_getElem (by omega)] at this
      simpa [Addr.add] using this
    obtain ⟨v0, hv0⟩ := hcell0
    have ha := addr_of_cell hv0
    refine ⟨a.block, a.off, by rw [← ha.1], Nat.zero_le _, ha.2, fun i hi => ?_⟩
    obtain ⟨cs', h1, r⟩ := hxs i hi
    obtain ⟨_, hl1, hc⟩ := World.cells?_some h1
    refine ⟨cs', hl1, fun j hj => ?_, r⟩
    have := hc j (by omega)
    rw [← this]
    congr 1
    rw [ha.1, add_add]
    unfold Addr.add
    by_cases e : i * c + j = 0
    · rw [if_pos e]
      obtain ⟨e1, e2⟩ : i * c = 0 ∧ j = 0 := by omega
      simp [e1, e2]
    · rw [if_neg e]; simp
/-! ### storing a record -/
/-- these values stored, one behind the other -/
def putCells (w : World) (g o : Nat) : List Value → World
  | [] => w
  | v :: vs => putCells (w.setCell ⟨g, o, none⟩ v) g (o + 1) vs
theorem putCells_block (vs : List Value) : ∀ (w : World) (g o : Nat) (C : Array Value) (T : TypeId), w.heap[g]? = some (.cells C T (0, 0)) → o + vs.length ≤ C.size →
    ∃ C', (putCells w g o vs).heap[g]? = some (.cells C' T (0, 0)) ∧ C'.size = C.size ∧ (∀ i, i < o ∨ o + vs.length ≤ i → C'[i]? = C[i]?) ∧ ∀ m, m < vs.length → C'[o + m]? = vs[m]? := by
  induction vs with
  | nil => intro w g o C T h _; exact ⟨C, h, rfl, fun _ _ => rfl, fun m hm => absurd hm (by simp)⟩
  | cons v vs ih =>
    intro w g o C T h hl
    simp only [List.length_cons] at hl
    obtain ⟨C', h1, h2, h3, h4⟩ := ih (w.setCell ⟨g, o, none⟩ v) g (o + 1) (C.setIfInBounds o v) T (blk_set h v) (by simp; omega)
    refine ⟨C', h1, by simpa using h2, fun i hi => ?_, fun m hm => ?_⟩
    · simp only [List.length_cons] at hi
      rw [h3 i (by omega), Array.getElem?_setIfInBounds, if_neg (by omega)]
    · cases m with
      | zero =>
        rw [Nat.add_zero, h3 o (by omega), Array.getElem?_setIfInBounds, if_pos rfl, if_pos (by omega)]; rfl
      | succ m =>
        simp only [List.length_cons] at hm
        have := h4 m (by omega)
        rw [show o + (m + 1) = o + 1 + m by omega, this]; rfl
theorem putCells_other (vs : List Value) : ∀ (w : World) (g o b : Nat), b ≠ g → (putCells w g o vs).heap[b]? = w.heap[b]? := by
  induction vs with
  | nil => intro w g o b _; rfl
  | cons v vs ih => intro w g o b h; exact (ih _ g (o + 1) b h).trans (set_other h v)
theorem putCells_size (vs : List Value) : ∀ (w : World) (g o : Nat), (putCells w g o vs).heap.size = w.heap.size := by
  induction vs with
  | nil => intro w g o; rfl
  | cons v vs ih => intro w g o; exact (ih _ g (o + 1)).trans (set_size v)
theorem putCells_below (vs : List Value) : ∀ (B : Nat) (a w : World) (g o : Nat), B ≤ g → Below B a w → Below B a (putCells w g o vs) := by
  induction vs with
  | nil => intro B a w g o _ h; exact h
  | cons v vs ih => intro B a w g o hg h; exact ih B a _ g (o + 1) hg (h.setCell (by exact hg) v)
theorem kept_put {w : World} {g o lo : Nat} {vs : List Value} (h : g < lo) : Kept w (putCells w g o vs) lo lo :=
  ⟨by rw [putCells_size]; exact Nat.le_refl _, Nat.le_refl _, fun b h1 _ => putCells_other _ _ _ _ _ (by omega)⟩
/-! ### a new row that is filled from its head on -/
def Filled {α : Type} (T c : Nat) (R : World → Nat → List Value → α → Prop) (w wr : World) (xs : List α) (g j : Nat) : Prop := Below w.heap.size w wr ∧ g < wr.heap.size ∧
  ∃ C : Array Value, wr.heap[g]? = some (.cells C T (0, 0)) ∧ C.size = xs.length * c ∧ ∀ j', (h : j' < xs.length) → j' < j → ∃ cs, cs.length = c ∧ (∀ m, m < c → C[j' * c + m]? = cs[m]?) ∧ R wr (g + 1) cs xs[j']
theorem idx_le {j n c : Nat} (h : j < n) : j * c + c ≤ n * c := by
  have := Nat.mul_le_mul_right c (show j + 1 ≤ n from h)
  rwa [Nat.add_mul, Nat.one_mul] at this
theorem idx_apart {j j' c m : Nat} (h : j' ≠ j) (hm : m < c) : j' * c + m < j * c ∨ j * c + c ≤ j' * c + m := by
  rcases Nat.lt_or_gt_of_ne h with h | h
  · have := idx_le (c := c) h; omega
  · have := idx_le (c := c) h; omega
theorem Filled.start {α : Type} {T c : Nat} {R : World → Nat → List Value → α → Prop} {w : World} {xs : List α} {C : Array Value} (hC : C.size = xs.length * c) : Filled T c R w (w.alloc (.cells C T)) xs w.heap.size 0 :=
  ⟨(Below.refl _ _).alloc (Nat.le_refl _) _, by simp, C, (MapKept.heap_alloc w _).1, hC, fun j' _ h => absurd h (by omega)⟩
theorem Filled.facts {α : Type} {T c : Nat} {R : World → Nat → List Value → α → Prop} {w wr w1 : World} {xs : List α} {g j : Nat} (h : Filled T c R w wr xs g j) (hj : j < xs.length) (hb1 : Below wr.heap.size wr w1) :
    (∀ m, m < c → ∃ v, w1.cell? ⟨g, j * c + m, none⟩ = some v) ∧ ∀ i, w1.frozen? ⟨g, i, none⟩ = false := by
  obtain ⟨hb, hg, C, hC, hCs, hall⟩ := h
  have hC1 : w1.heap[g]? = some (.cells C T (0, 0)) := (hb1.block g hg).trans hC
  have := idx_le (c := c) hj
  exact ⟨fun m hm => ⟨C[j * c + m]'(by omega), by rw [blk_cell hC1]; exact Array.getElem?_eq_getElem (by omega)⟩, fun i => blk_unfrozen hC1 i⟩
theorem Filled.step {α : Type} {T c : Nat} {R : World → Nat → List Value → α → Prop} (hR : Stays R) {w wr w1 : World} {xs : List α} {g j : Nat} (h : Filled T c R w wr xs g j) (hj : j < xs.length) (hwg : w.heap.size ≤ g) (hb1 : Below wr.heap.size wr w1)
    {cs : List Value} (hcl : cs.length = c) (hr : R w1 wr.heap.size cs xs[j]) : Filled T c R w (putCells w1 g (j * c) cs) xs g (j + 1) := by
  obtain ⟨hb, hg, C, hC, hCs, hall⟩ := h
  have hC1 : w1.heap[g]? = some (.cells C T (0, 0)) := (hb1.block g hg).trans hC
  have hjc := idx_le (c := c) hj
  obtain ⟨C', hC', hs', hold, hnew⟩ := putCells_block cs w1 g (j * c) C T hC1 (by omega)
  have hs1 := hb1.size
  have hsz := putCells_size cs w1 g (j * c)
  refine ⟨putCells_below cs _ _ _ g _ hwg (hb.trans (hb1.mono hb.size)), by omega, C', hC', by omega, fun j' hj' hlt => ?_⟩
  by_cases e : j' = j
  · subst e
    refine ⟨cs, hcl, fun m hm => hnew m (by omega), hR _ _ _ _ _ _ ⟨by omega, by omega, fun b h1 h2 => putCells_other _ _ _ _ _ (by omega)⟩ hr⟩
  · obtain ⟨cs', hl', hc', r⟩ := hall j' hj' (by omega)
    refine ⟨cs', hl', fun m hm => ?_, hR _ _ _ _ _ _ ⟨by omega, Nat.le_refl _, fun b h1 h2 => (putCells_other _ _ _ _ _ (by omega)).trans (hb1.block b h2)⟩ r⟩
    rw [← hc' m hm]
    have := idx_apart e hm
    exact hold _ (by omega)
theorem Filled.done {α : Type} {T c : Nat} {R : World → Nat → List Value → α → Prop} (hR : Stays R) {w wr : World} {xs : List α} {g : Nat} (h : Filled T c R w wr xs g xs.length) (hwg : w.heap.size ≤ g) (hm : xs.length ≤ maxLen) :
    SeqAt c R wr w.heap.size (.slice (some ⟨g, 0, none⟩) xs.length xs.length) xs := by
  obtain ⟨hb, hg, C, hC, hCs, hall⟩ := h
  refine ⟨_, _, rfl, ⟨hm, Nat.le_refl _⟩, fun _ => ⟨g, 0, rfl, hwg, hg, fun i hi => ?_⟩⟩
  obtain ⟨cs, hl, hc, r⟩ := hall i hi hi
  refine ⟨cs, hl, fun m hm => ?_, hR _ _ _ _ _ _ ⟨Nat.le_refl _, by omega, fun _ _ _ => rfl⟩ r⟩
  rw [blk_cell hC, Nat.zero_add]
  exact hc m (by omega)
/-! ### a block that is known whole -/
def Box (w : World) (g : Nat) (cs : List Value) (T : TypeId) : Prop := w.heap[g]? = some (.cells cs.toArray T (0, 0))
theorem Box.new (w : World) (cs : List Value) (T : TypeId) : Box (w.alloc (.cells cs.toArray T)) w.heap.size cs T := (MapKept.heap_alloc w _).1
theorem Box.below {w w' : World} {g B : Nat} {cs : List Value} {T : TypeId} (h : Box w g cs T) (hb : Below B w w') (hg : g < B) : Box w' g cs T := (hb.block g hg).trans h
theorem Box.set {w : World} {g i : Nat} {cs : List Value} {T : TypeId} (h : Box w g cs T) (v : Value) : Box (w.setCell ⟨g, i, none⟩ v) g (cs.set i v) T := by
  have := blk_set (i := i) h v
  unfold Box
  rw [this]; simp
theorem Box.other {w : World} {g g' i : Nat} {cs : List Value} {T : TypeId} (h : Box w g cs T) (hne : g ≠ g') (v : Value) : Box (w.setCell ⟨g', i, none⟩ v) g cs T := (set_other hne v).trans h
theorem Box.cell {w : World} {g : Nat} {cs : List Value} {T : TypeId} (h : Box w g cs T) (i : Nat) {v : Value} (hv : cs[i]? = some v) : w.cell? ⟨g, i, none⟩ = some v := by
  rw [blk_cell h]; simpa using hv
theorem Box.unfrozen {w : World} {g : Nat} {cs : List Value} {T : TypeId} (h : Box w g cs T) (i : Nat) : w.frozen? ⟨g, i, none⟩ = false := blk_unfrozen h i
theorem Box.lt {w : World} {g : Nat} {cs : List Value} {T : TypeId} (h : Box w g cs T) : g < w.heap.size := by
  rcases Nat.lt_or_ge g w.heap.size with hlt | hge
  · exact hlt
  · unfold Box at h; rw [Array.getElem?_eq_none hge] at h; cases h
theorem Box.alloc {w : World} {g : Nat} {cs : List Value} {T : TypeId} (h : Box w g cs T) (o : Obj) : Box (w.alloc o) g cs T := (Below.heap_alloc w o g h.lt).trans h
end Go.Proofs.Ytbodeijffpepfaa
