/- Rows of records that own their memory: which blocks are theirs, that no two are one, and that they stay while other blocks turn. -/
import Derived.Test.YtbodeijffpepfaaSeq
namespace Go.Proofs.Ytbodeijffpepfaa
open Go.RowKit Go.Deep
/-- of the blocks that were there only these may have turned -/
def Out (fs : List Nat) (w w' : World) : Prop := w'.os = w.os ∧ w'.tape = w.tape ∧ w'.output = w.output ∧ w.heap.size ≤ w'.heap.size ∧ ∀ b, b < w.heap.size → b ∉ fs → w'.heap[b]? = w.heap[b]?
theorem Out.refl (fs : List Nat) (w : World) : Out fs w w := ⟨rfl, rfl, rfl, Nat.le_refl _, fun _ _ _ => rfl⟩
theorem Out.trans {fs : List Nat} {a b c : World} (h : Out fs a b) (k : Out fs b c) : Out fs a c :=
  ⟨k.1.trans h.1, k.2.1.trans h.2.1, k.2.2.1.trans h.2.2.1, Nat.le_trans h.2.2.2.1 k.2.2.2.1, fun x h1 h2 => (k.2.2.2.2 x (Nat.lt_of_lt_of_le h1 h.2.2.2.1) h2).trans (h.2.2.2.2 x h1 h2)⟩
theorem Out.mono {fs gs : List Nat} {w w' : World} (h : Out fs w w') (hs : ∀ b ∈ fs, b ∈ gs) : Out gs w w' :=
  ⟨h.1, h.2.1, h.2.2.1, h.2.2.2.1, fun b h1 h2 => h.2.2.2.2 b h1 fun h3 => h2 (hs b h3)⟩
theorem Out.of_below {fs : List Nat} {w w' : World} (h : Below w.heap.size w w') : Out fs w w' := ⟨h.os, h.tape, h.output, h.size, fun b h1 _ => h.block b h1⟩
theorem Out.set {fs : List Nat} {a w : World} {b i : Nat} (h : Out fs a w) (hb : b ∈ fs) (v : Value) : Out fs a (w.setCell ⟨b, i, none⟩ v) := by
  refine h.trans ⟨rfl, rfl, rfl, by rw [set_size]; exact Nat.le_refl _, fun x _ h2 => set_other (fun e : x = b => h2 (by rw [e]; exact hb)) v⟩
theorem Out.below {fs : List Nat} {w w' : World} {B : Nat} (h : Out fs w w') (hB : B ≤ w.heap.size) (hs : ∀ b ∈ fs, B ≤ b) : Below B w w' :=
  ⟨h.1, h.2.1, h.2.2.1, h.2.2.2.1, fun k hk => h.2.2.2.2 k (by omega) fun h3 => by have := hs k h3; omega⟩
theorem Out.keep {fs : List Nat} {w w' : World} {b : Nat} (h : Out fs w w') (h1 : b < w.heap.size) (h2 : b ∉ fs) : w'.heap[b]? = w.heap[b]? := h.2.2.2.2 b h1 h2
/-- in this row, from o on, these cells; all others as in C0 -/
def RowIs (w : World) (b o : Nat) (C0 : Array Value) (T : TypeId) (cs : List Value) : Prop :=
  ∃ C : Array Value, w.heap[b]? = some (.cells C T (0, 0)) ∧ C.size = C0.size ∧ o + cs.length ≤ C.size ∧ (∀ i, i < o ∨ o + cs.length ≤ i → C[i]? = C0[i]?) ∧ ∀ m, m < cs.length → C[o + m]? = cs[m]?
theorem RowIs.set {w : World} {b o m : Nat} {C0 : Array Value} {T : TypeId} {cs : List Value} (h : RowIs w b o C0 T cs) (hm : m < cs.length) (v : Value) : RowIs (w.setCell ⟨b, o + m, none⟩ v) b o C0 T (cs.set m v) := by
  obtain ⟨C, h1, h2, h3, h4, h5⟩ := h
  refine ⟨C.setIfInBounds (o + m) v, blk_set h1 v, by simpa using h2, by simpa using h3, fun i hi => ?_, fun q hq => ?_⟩
  · simp only [List.length_set] at hi
    rw [Array.getElem?_setIfInBounds, if_neg (by omega)]; exact h4 i (by omega)
  · simp only [List.length_set] at hq
    rw [Array.getElem?_setIfInBounds, List.getElem?_set]
    by_cases e : m = q
    · subst e; rw [if_pos rfl, if_pos rfl, if_pos (by omega), if_pos (by omega)]
    · rw [if_neg (by omega), if_neg e]; exact h5 q hq
theorem RowIs.keep {w w' : World} {b o : Nat} {C0 : Array Value} {T : TypeId} {cs : List Value} (h : RowIs w b o C0 T cs) (e : w'.heap[b]? = w.heap[b]?) : RowIs w' b o C0 T cs := by
  obtain ⟨C, h1, r⟩ := h
  exact ⟨C, e.trans h1, r⟩
theorem RowIs.lt {w : World} {b o : Nat} {C0 : Array Value} {T : TypeId} {cs : List Value} (h : RowIs w b o C0 T cs) : b < w.heap.size := by
  obtain ⟨C, h1, _⟩ := h
  exact (Array.getElem?_eq_some_iff.1 h1).1
theorem RowIs.below {w w' : World} {b o : Nat} {C0 : Array Value} {T : TypeId} {cs : List Value} (h : RowIs w b o C0 T cs) (hb : Below w.heap.size w w') : RowIs w' b o C0 T cs := h.keep (hb.block b h.lt)
theorem RowIs.out {w w' : World} {b o : Nat} {C0 : Array Value} {T : TypeId} {cs : List Value} {fs : List Nat} (h : RowIs w b o C0 T cs) (hb : Out fs w w') (hn : b ∉ fs) : RowIs w' b o C0 T cs := h.keep (hb.keep h.lt hn)
theorem RowIs.cell {w : World} {b o : Nat} {C0 : Array Value} {T : TypeId} {cs : List Value} (h : RowIs w b o C0 T cs) (m : Nat) {v : Value} (hv : cs[m]? = some v) : w.cell? ⟨b, o + m, none⟩ = some v := by
  obtain ⟨C, h1, _, _, _, h5⟩ := h
  have hm : m < cs.length := by
    rcases Nat.lt_or_ge m cs.length with h | h
    · exact h
    · rw [List.getElem?_eq_none h] at hv; cases hv
  rw [blk_cell h1, h5 m hm]; exact hv
theorem RowIs.unfrozen {w : World} {b o : Nat} {C0 : Array Value} {T : TypeId} {cs : List Value} (h : RowIs w b o C0 T cs) (i : Nat) : w.frozen? ⟨b, i, none⟩ = false := by
  obtain ⟨C, h1, _⟩ := h
  exact blk_unfrozen h1 i
/-- a reading that stays while its own blocks stay -/
def OwnStays {α : Type} (R : World → List Value → α → List Nat → Prop) : Prop := ∀ (w w' : World) (cs : List Value) (x : α) (fs : List Nat), (∀ b ∈ fs, w'.heap[b]? = w.heap[b]?) → R w cs x fs → R w' cs x fs
def OwnLt {α : Type} (R : World → List Value → α → List Nat → Prop) : Prop := ∀ (w : World) (cs : List Value) (x : α) (fs : List Nat), R w cs x fs → ∀ b ∈ fs, b < w.heap.size
def RowOwn {α : Type} (c : Nat) (R : World → List Value → α → List Nat → Prop) (w : World) (b off : Nat) (xs : List α) (fs : List Nat) : Prop :=
  ∃ (C : Array Value) (T : TypeId) (bss : List (List Nat)), w.heap[b]? = some (.cells C T (0, 0)) ∧ off + xs.length * c ≤ C.size ∧ bss.length = xs.length ∧ fs = b :: bss.flatten ∧ fs.Nodup ∧
    ∀ i, (h : i < xs.length) → (h' : i < bss.length) → ∃ cs, cs.length = c ∧ (∀ m, m < c → C[off + i * c + m]? = cs[m]?) ∧ R w cs xs[i] bss[i]
/-- a slice of records that owns its blocks: these -/
def SeqOwn {α : Type} (c : Nat) (R : World → List Value → α → List Nat → Prop) (w : World) (k : Value) (xs : List α) (fs : List Nat) : Prop :=
  ∃ a cap, k = .slice a xs.length cap ∧ (xs.length ≤ maxLen ∧ xs.length ≤ cap) ∧ ((xs.length = 0 ∧ fs = []) ∨ ∃ b off, a = some ⟨b, off, none⟩ ∧ RowOwn c R w b off xs fs)
theorem flat_apart {bss : List (List Nat)} (h : bss.flatten.Nodup) {i j : Nat} (hi : i < bss.length) (hj : j < bss.length) (hne : i ≠ j) {x : Nat} (hx : x ∈ bss[i]) : x ∉ bss[j] := by
  have hp := (List.pairwise_flatten.1 h).2
  rw [List.pairwise_iff_getElem] at hp
  intro hy
  rcases Nat.lt_or_gt_of_ne hne with e | e
  · exact hp i j hi hj e x hx x hy rfl
  · exact hp j i hj hi e x hy x hx rfl
theorem flat_nodup {bss : List (List Nat)} (h : bss.flatten.Nodup) {i : Nat} (hi : i < bss.length) : bss[i].Nodup := (List.pairwise_flatten.1 h).1 _ (List.getElem_mem hi)
theorem flat_mem {bss : List (List Nat)} {i : Nat} (hi : i < bss.length) {x : Nat} (hx : x ∈ bss[i]) : x ∈ bss.flatten := List.mem_flatten.2 ⟨_, List.getElem_mem hi, hx⟩
theorem RowOwn.stays {α : Type} {c : Nat} {R : World → List Value → α → List Nat → Prop} (hR : OwnStays R) {w w' : World} {b off : Nat} {xs : List α} {fs : List Nat} (h : RowOwn c R w b off xs fs) (hk : ∀ b ∈ fs, w'.heap[b]? = w.heap[b]?) : RowOwn c R w' b off xs fs := by
  obtain ⟨C, T, bss, h1, h2, h3, rfl, h5, h6⟩ := h
  refine ⟨C, T, bss, (hk b List.mem_cons_self).trans h1, h2, h3, rfl, h5, fun i hi hi' => ?_⟩
  obtain ⟨cs, hc, hl, r⟩ := h6 i hi hi'
  exact ⟨cs, hc, hl, hR _ _ _ _ _ (fun x hx => hk x (List.mem_cons_of_mem _ (flat_mem hi' hx))) r⟩
theorem SeqOwn.stays {α : Type} {c : Nat} {R : World → List Value → α → List Nat → Prop} (hR : OwnStays R) {w w' : World} {k : Value} {xs : List α} {fs : List Nat} (h : SeqOwn c R w k xs fs) (hk : ∀ b ∈ fs, w'.heap[b]? = w.heap[b]?) : SeqOwn c R w' k xs fs := by
  obtain ⟨a, cap, e, hm, h⟩ := h
  refine ⟨a, cap, e, hm, ?_⟩
  rcases h with h | ⟨b, off, e, h⟩
  · exact Or.inl h
  · exact Or.inr ⟨b, off, e, h.stays hR hk⟩
theorem RowOwn.lt {α : Type} {c : Nat} {R : World → List Value → α → List Nat → Prop} (hR : OwnLt R) {w : World} {b off : Nat} {xs : List α} {fs : List Nat} (h : RowOwn c R w b off xs fs) : ∀ x ∈ fs, x < w.heap.size := by
  obtain ⟨C, T, bss, h1, h2, h3, rfl, h5, h6⟩ := h
  intro x hx
  rcases List.mem_cons.1 hx with rfl | hx
  · exact (Array.getElem?_eq_some_iff.1 h1).1
  · obtain ⟨l, hl, hxl⟩ := List.mem_flatten.1 hx
    obtain ⟨i, hi, rfl⟩ := List.getElem_of_mem hl
    obtain ⟨cs, _, _, r⟩ := h6 i (by omega) hi
    exact hR _ _ _ _ r x hxl
theorem SeqOwn.lt {α : Type} {c : Nat} {R : World → List Value → α → List Nat → Prop} (hR : OwnLt R) {w : World} {k : Value} {xs : List α} {fs : List Nat} (h : SeqOwn c R w k xs fs) : ∀ x ∈ fs, x < w.heap.size := by
  obtain ⟨a, cap, e, hm, h⟩ := h
  rcases h with ⟨_, rfl⟩ | ⟨b, off, e, h⟩
  · intro x hx; cases hx
  · exact h.lt hR
theorem SeqOwn.nodup {α : Type} {c : Nat} {R : World → List Value → α → List Nat → Prop} {w : World} {k : Value} {xs : List α} {fs : List Nat} (h : SeqOwn c R w k xs fs) : fs.Nodup := by
  obtain ⟨a, cap, e, hm, h⟩ := h
  rcases h with ⟨_, rfl⟩ | ⟨b, off, e, C, T, bss, h1, h2, h3, h4, h5, h6⟩
  · exact List.nodup_nil
  · exact h5
theorem SeqOwn.form {α : Type} {c : Nat} {R : World → List Value → α → List Nat → Prop} {w : World} {k : Value} {xs : List α} {fs : List Nat} (h : SeqOwn c R w k xs fs) : ∃ a cap, k = .slice a xs.length cap := by
  obtain ⟨a, cap, e, _⟩ := h; exact ⟨a, cap, e⟩
/-- one record of a row, and how the row stands when it alone has turned -/
theorem RowOwn.at {α : Type} {c : Nat} {R : World → List Value → α → List Nat → Prop} (hR : OwnStays R) (hL : OwnLt R) {w : World} {b off : Nat} {ys : List α} {fs : List Nat} (h : RowOwn c R w b off ys fs) {j : Nat} (hj : j < ys.length) :
    ∃ C T cs fj, RowIs w b (off + j * c) C T cs ∧ cs.length = c ∧ (b ∈ fs ∧ b ∉ fj ∧ (∀ x ∈ fj, x ∈ fs) ∧ fj.Nodup) ∧ R w cs ys[j] fj ∧
      ∀ (w' : World) (cs' : List Value) (y : α), cs'.length = c → RowIs w' b (off + j * c) C T cs' → Out (b :: fj) w w' → R w' cs' y fj → RowOwn c R w' b off (ys.set j y) fs := by
  have hlt := h.lt hL
  obtain ⟨C, T, bss, h1, h2, h3, rfl, h5, h6⟩ := h
  have hj' : j < bss.length := by omega
  have hfn : bss.flatten.Nodup := (List.nodup_cons.1 h5).2
  have hbn : b ∉ bss.flatten := (List.nodup_cons.1 h5).1
  obtain ⟨cs, hc, hl, r⟩ := h6 j hj hj'
  have hjc := idx_le (c := c) hj
  refine ⟨C, T, cs, bss[j], ⟨C, h1, rfl, by omega, fun _ _ => rfl, fun m hm => hl m (by omega)⟩, hc, ⟨List.mem_cons_self, fun hb => hbn (flat_mem hj' hb), fun x hx => List.mem_cons_of_mem _ (flat_mem hj' hx), flat_nodup hfn hj'⟩, r, ?_⟩
  intro w' cs' y hc' hrow hout hr
  obtain ⟨C', g1, g2, g3, g4, g5⟩ := hrow
  refine ⟨C', T, bss, g1, by simp; omega, by simpa using h3, rfl, h5, fun i hi hi' => ?_⟩
  simp only [List.length_set] at hi
  by_cases e : i = j
  · subst e
    exact ⟨cs', hc', fun m hm => g5 m (by omega), by simpa using hr⟩
  · obtain ⟨ci, hci, hli, ri⟩ := h6 i hi hi'
    refine ⟨ci, hci, fun m hm => ?_, ?_⟩
    · have := idx_apart e hm
      rw [g4 _ (by omega)]; exact hli m hm
    · rw [List.getElem_set_ne (fun q => e q.symm)]
      refine hR _ _ _ _ _ (fun x hx => hout.keep (hlt x (List.mem_cons_of_mem _ (flat_mem hi' hx))) ?_) ri
      intro hm
      rcases List.mem_cons.1 hm with rfl | hm
      · exact hbn (flat_mem hi' hx)
      · exact flat_apart hfn hi' hj' e hx hm
/-- the same of a slice -/
theorem SeqOwn.step {α : Type} {c : Nat} {R : World → List Value → α → List Nat → Prop} (hR : OwnStays R) (hL : OwnLt R) {w : World} {a : Option Addr} {n cap : Nat} {ys : List α} {fs : List Nat} (h : SeqOwn c R w (.slice a n cap) ys fs) {j : Nat} (hj : j < ys.length) :
    ∃ b off C T cs fj, a = some ⟨b, off, none⟩ ∧ RowIs w b (off + j * c) C T cs ∧ cs.length = c ∧ (b ∈ fs ∧ b ∉ fj ∧ (∀ x ∈ fj, x ∈ fs) ∧ fj.Nodup) ∧ R w cs ys[j] fj ∧
      ∀ (w' : World) (cs' : List Value) (y : α), cs'.length = c → RowIs w' b (off + j * c) C T cs' → Out (b :: fj) w w' → R w' cs' y fj → SeqOwn c R w' (.slice a n cap) (ys.set j y) fs := by
  obtain ⟨a', cap', e, hm, h⟩ := h
  injection e with e1 e2 e3
  subst e1 e2 e3
  rcases h with ⟨h, _⟩ | ⟨b, off, rfl, h⟩
  · omega
  · obtain ⟨C, T, cs, fj, h1, h2, h3, h4, h5⟩ := h.at hR hL hj
    exact ⟨b, off, C, T, cs, fj, rfl, h1, h2, h3, h4, fun w' cs' y q1 q2 q3 q4 => ⟨some ⟨b, off, none⟩, cap, by simp, by simpa using hm, Or.inr ⟨b, off, rfl, h5 w' cs' y q1 q2 q3 q4⟩⟩⟩
/-- a cell that holds an int64, of no row of its own -/
def IntOwn (_ : World) (cs : List Value) (x : Int) (fs : List Nat) : Prop := cs = [.int .i64 x] ∧ InI x ∧ fs = []
theorem intOwn_stays : OwnStays IntOwn := fun _ _ _ _ _ _ h => h
theorem intOwn_lt : OwnLt IntOwn := fun _ _ _ _ h b hb => by rw [h.2.2] at hb; cases hb
/-- what owns its memory lies there -/
theorem SeqOwn.at {α : Type} {c : Nat} {R : World → List Value → α → List Nat → Prop} {R' : World → Nat → List Value → α → Prop} {lo : Nat} (hR : ∀ (w : World) (cs : List Value) (x : α) (fs : List Nat), R w cs x fs → (∀ b ∈ fs, lo ≤ b) → R' w lo cs x) {w : World} {k : Value} {xs : List α} {fs : List Nat} (h : SeqOwn c R w k xs fs) (hlo : ∀ b ∈ fs, lo ≤ b) : SeqAt c R' w lo k xs := by
  obtain ⟨a, cap, e, hm, h⟩ := h
  refine ⟨a, cap, e, hm, fun h0 => ?_⟩
  rcases h with ⟨h, _⟩ | ⟨b, off, e, C, T, bss, h1, h2, h3, rfl, h5, h6⟩
  · omega
  · refine ⟨b, off, e, hlo b List.mem_cons_self, (Array.getElem?_eq_some_iff.1 h1).1, fun i hi => ?_⟩
    obtain ⟨cs, hc, hl, r⟩ := h6 i hi (by omega)
    refine ⟨cs, hc, fun m hm => ?_, hR _ _ _ _ r fun x hx => hlo x (List.mem_cons_of_mem _ (flat_mem _ hx))⟩
    rw [blk_cell h1]; exact hl m (by omega)
theorem intOwn_at {lo : Nat} (w : World) (cs : List Value) (x : Int) (fs : List Nat) (h : IntOwn w cs x fs) (_ : ∀ b ∈ fs, lo ≤ b) : IntAt w lo cs x := ⟨h.1, h.2.1⟩
/-! ### lists of which the head has turned -/
def mix {α : Type} (A xs : List α) (j : Nat) : List α := A.take j ++ xs.drop j
theorem mix_zero {α : Type} (A xs : List α) : mix A xs 0 = xs := by simp [mix]
theorem mix_full {α : Type} {A xs : List α} (h : A.length = xs.length) : mix A xs xs.length = A := by simp [mix, ← h]
theorem mix_length {α : Type} {A xs : List α} (h : A.length = xs.length) {j : Nat} (hj : j ≤ xs.length) : (mix A xs j).length = xs.length := by simp [mix]; omega
theorem mix_get {α : Type} {A xs : List α} (h : A.length = xs.length) {j : Nat} (hj : j < xs.length) (hj' : j < (mix A xs j).length) : (mix A xs j)[j] = xs[j] := by
  have hl : (A.take j).length = j := by simp; omega
  have : (A.take j ++ xs.drop j)[j]? = some xs[j] := by
    rw [List.getElem?_append_right (by omega), hl, Nat.sub_self, List.getElem?_drop, Nat.add_zero, List.getElem?_eq_getElem hj]
  have h2 : (mix A xs j)[j]? = some xs[j] := this
  rw [List.getElem?_eq_getElem hj'] at h2
  exact Option.some.inj h2
theorem mix_set {α : Type} {A xs : List α} (h : A.length = xs.length) {j : Nat} (hj : j < xs.length) : (mix A xs j).set j (A[j]'(by omega)) = mix A xs (j + 1) := by
  have hl : (A.take j).length = j := by simp; omega
  have h1 : (mix A xs j).set j (A[j]'(by omega)) = A.take j ++ (xs.drop j).set 0 (A[j]'(by omega)) := by
    unfold mix
    rw [List.set_append]
    rw [if_neg (by omega), hl, Nat.sub_self]
  rw [h1, List.drop_eq_getElem_cons hj, List.set_cons_zero]
  unfold mix
  rw [List.take_succ_eq_append_getElem (show j < A.length by omega), List.append_assoc]
  rfl
/-! ### marks -/
def pos {α : Type} (cnt : α → Nat) (xs : List α) (j : Nat) : Nat := ((xs.take j).map cnt).sum
theorem pos_zero {α : Type} (cnt : α → Nat) (xs : List α) : pos cnt xs 0 = 0 := by simp [pos]
theorem pos_succ {α : Type} {cnt : α → Nat} {xs : List α} {j : Nat} (h : j < xs.length) : pos cnt xs (j + 1) = pos cnt xs j + cnt xs[j] := by
  unfold pos; rw [List.take_succ_eq_append_getElem h, List.map_append, List.sum_append]; simp
theorem pos_le {α : Type} {cnt : α → Nat} {xs : List α} : ∀ {j i : Nat}, j ≤ i → i ≤ xs.length → pos cnt xs j ≤ pos cnt xs i := by
  intro j i h
  induction h with
  | refl => intro _; exact Nat.le_refl _
  | step h ih => intro hi; have := ih (by omega); rw [pos_succ (by omega)]; omega
def cntL {α : Type} (cnt : α → Nat) (xs : List α) : Nat := pos cnt xs xs.length
def mkL {α : Type} (cnt : α → Nat) (mk : α → Int → α) (xs : List α) (m : Int) : List α := xs.mapIdx fun j x => mk x (m + (pos cnt xs j : Int))
theorem mkL_length {α : Type} {cnt : α → Nat} {mk : α → Int → α} {xs : List α} {m : Int} : (mkL cnt mk xs m).length = xs.length := by simp [mkL]
theorem mkL_get {α : Type} {cnt : α → Nat} {mk : α → Int → α} {xs : List α} {m : Int} {j : Nat} (h : j < (mkL cnt mk xs m).length) : (mkL cnt mk xs m)[j] = mk (xs[j]'(by rw [mkL_length] at h; exact h)) (m + (pos cnt xs j : Int)) := by simp [mkL]
end Go.Proofs.Ytbodeijffpepfaa
