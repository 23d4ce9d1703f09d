/- A row of records that own their memory, of which some are taken out in place: plain facts; 'clear' of a row of records. -/
import Derived.Test.YtndffcogddefiaaGrowOwn
import Derived.Lib.SliceRun
import Derived.Laws.IdiomCopy
import Derived.WalkKit
namespace Go.Proofs.Ytndffcogddefiaa
open Go.RowKit
theorem setCells_put : ∀ (vs : List Value) (w : World) (g o : Nat), w.setCells g o vs = putCells w g o vs := by
  intro vs
  induction vs with
  | nil => intro w g o; rfl
  | cons v vs ih => intro w g o; exact ih _ _ _
theorem sub_flat {l1 l2 : List (List Nat)} (h : l1.Sublist l2) : l1.flatten.Sublist l2.flatten := by
  induction h with
  | slnil => exact List.Sublist.refl _
  | cons a _ ih => rw [List.flatten_cons]; exact ih.trans (List.sublist_append_right _ _)
  | cons_cons a _ ih => rw [List.flatten_cons, List.flatten_cons]; exact List.Sublist.append (List.Sublist.refl _) ih
abbrev It (α : Type) := List Value × α × List Nat
/-- the records of a row, with their cells and their blocks -/
def Items {α : Type} (c : Nat) (R : World → List Value → α → List Nat → Prop) (w : World) (g off : Nat) (T : TypeId) (C : Array Value) (es : List (It α)) (xs : List α) (fs : List Nat) : Prop :=
  es.map (·.2.1) = xs ∧ w.heap[g]? = some (.cells C T (0, 0)) ∧ off + xs.length * c ≤ C.size ∧ fs = g :: (es.map (·.2.2)).flatten ∧ fs.Nodup ∧ ∀ i, (h : i < es.length) → es[i].1.length = c ∧ (∀ m, m < c → C[off + i * c + m]? = es[i].1[m]?) ∧ R w es[i].1 es[i].2.1 es[i].2.2
theorem RowOwn.items {α : Type} {c : Nat} {R : World → List Value → α → List Nat → Prop} {w : World} {g off : Nat} {xs : List α} {fs : List Nat} (h : RowOwn c R w g off xs fs) : ∃ T C es, Items c R w g off T C es xs fs := by
  obtain ⟨C, T, bss, h1, h2, h3, rfl, h5, h6⟩ := h
  obtain ⟨es, hl, hp⟩ := list_of (n := xs.length) (p := fun i (e : It α) => ∃ (hi : i < xs.length) (hi' : i < bss.length), e.2.1 = xs[i] ∧ e.2.2 = bss[i] ∧ e.1.length = c ∧ (∀ m, m < c → C[off + i * c + m]? = e.1[m]?) ∧ R w e.1 e.2.1 e.2.2) (fun i hi => by
    obtain ⟨cs, q1, q2, q3⟩ := h6 i hi (by omega)
    exact ⟨(cs, xs[i], bss[i]'(by omega)), hi, by omega, rfl, rfl, q1, q2, q3⟩)
  have e1 : es.map (·.2.1) = xs := by
    apply List.ext_getElem
    · simpa using hl
    · intro i q1 q2
      obtain ⟨_, _, e, _⟩ := hp i (by omega)
      simpa using e
  have e2 : es.map (·.2.2) = bss := by
    apply List.ext_getElem
    · simp [hl, h3]
    · intro i q1 q2
      obtain ⟨_, _, _, e, _⟩ := hp i (by simpa using q1)
      simpa using e
  refine ⟨T, C, es, e1, h1, h2, by rw [e2], h5, fun i hi => ?_⟩
  obtain ⟨_, _, _, _, q3, q4, q5⟩ := hp i hi
  exact ⟨q3, q4, q5⟩
/-- what is kept of the first j -/
def kp {α : Type} (p : α → Bool) (es : List (It α)) (j : Nat) : List (It α) := (es.take j).filter fun e => !p e.2.1
theorem kp_le {α : Type} (p : α → Bool) (es : List (It α)) (j : Nat) : (kp p es j).length ≤ j := Nat.le_trans (List.length_filter_le _ _) (by simp; omega)
theorem kp_succ {α : Type} (p : α → Bool) (es : List (It α)) {j : Nat} (h : j < es.length) : kp p es (j + 1) = if p es[j].2.1 = true then kp p es j else kp p es j ++ [es[j]] := by
  unfold kp
  rw [List.take_succ_eq_append_getElem h, List.filter_append]
  cases hp : p es[j].2.1 <;> simp [hp]
/-- the row while it is gone through -/
def Del {α : Type} (c : Nat) (p : α → Bool) (w wr : World) (g off : Nat) (T : TypeId) (C0 : Array Value) (es : List (It α)) (j : Nat) : Prop :=
  Out [g] w wr ∧ ∃ C : Array Value, wr.heap[g]? = some (.cells C T (0, 0)) ∧ C.size = C0.size ∧ (∀ k, j ≤ k → (h : k < es.length) → ∀ m, m < c → C[off + k * c + m]? = es[k].1[m]?) ∧ ∀ k, (h : k < (kp p es j).length) → ∀ m, m < c → C[off + k * c + m]? = (kp p es j)[k].1[m]?
theorem Del.start {α : Type} {c : Nat} {R : World → List Value → α → List Nat → Prop} {p : α → Bool} {w wr : World} {g off : Nat} {T : TypeId} {C : Array Value} {es : List (It α)} {xs : List α} {fs : List Nat} (h : Items c R w g off T C es xs fs) (hb : Below w.heap.size w wr) {i : Nat} (hi : i < xs.length) (hp : p xs[i] = true) (hn : ∀ k, (q : k < i) → (q2 : k < xs.length) → p xs[k] = false) :
    Del c p w wr g off T C es (i + 1) ∧ (kp p es (i + 1)).length = i := by
  obtain ⟨rfl, h1, h2, h3, h4, h5⟩ := h
  simp only [List.length_map] at hi
  simp only [List.getElem_map] at hp hn
  have hk : kp p es (i + 1) = es.take i := by
    rw [kp_succ p es hi, if_pos hp]
    unfold kp
    rw [List.filter_eq_self]
    intro e he
    obtain ⟨k, hk, rfl⟩ := List.getElem_of_mem he
    simp at hk
    have := hn k (by omega) (by simp; omega)
    simp [this]
  have hg : g < w.heap.size := (Array.getElem?_eq_some_iff.1 h1).1
  refine ⟨⟨Out.of_below hb, C, (hb.block g hg).trans h1, rfl, fun k _ hk2 => (h5 k hk2).2.1, ?_⟩, by rw [hk]; simp; omega⟩
  rw [hk]
  intro k hk2 m hm
  simp at hk2
  rw [(h5 k (by omega)).2.1 m hm]
  simp
theorem Del.cells {α : Type} {c : Nat} {p : α → Bool} {w wr : World} {g off : Nat} {T : TypeId} {C0 : Array Value} {es : List (It α)} {j : Nat} (h : Del c p w wr g off T C0 es j) (hj : j < es.length) : ∀ m v, m < c → es[j].1[m]? = some v → wr.cell? ⟨g, off + j * c + m, none⟩ = some v := by
  obtain ⟨_, C, h1, _, h3, _⟩ := h
  intro m v hm hv
  rw [blk_cell h1, h3 j (Nat.le_refl _) hj m hm]
  exact hv
theorem Del.room {α : Type} {c : Nat} {p : α → Bool} {w wr w1 : World} {g off : Nat} {T : TypeId} {C0 : Array Value} {es : List (It α)} {j : Nat} (h : Del c p w wr g off T C0 es j) (hC : off + es.length * c ≤ C0.size) (hb : Below wr.heap.size wr w1) {k : Nat} (hk : k < es.length) : (∀ m, m < c → ∃ v, w1.cell? ⟨g, off + k * c + m, none⟩ = some v) ∧ ∀ i, w1.frozen? ⟨g, i, none⟩ = false := by
  obtain ⟨_, C, h1, h2, _⟩ := h
  have hC1 : w1.heap[g]? = some (.cells C T (0, 0)) := (hb.block g (Array.getElem?_eq_some_iff.1 h1).1).trans h1
  have := idx_le (c := c) hk
  exact ⟨fun m hm => ⟨C[off + k * c + m]'(by omega), by rw [blk_cell hC1]; exact Array.getElem?_eq_getElem (by omega)⟩, fun i => blk_unfrozen hC1 i⟩
theorem Del.skip {α : Type} {c : Nat} {p : α → Bool} {w wr w1 : World} {g off : Nat} {T : TypeId} {C0 : Array Value} {es : List (It α)} {j : Nat} (h : Del c p w wr g off T C0 es j) (hj : j < es.length) (hp : p es[j].2.1 = true) (hb : Below wr.heap.size wr w1) : Del c p w w1 g off T C0 es (j + 1) := by
  obtain ⟨ho, C, h1, h2, h3, h4⟩ := h
  refine ⟨ho.trans (Out.of_below hb), C, (hb.block g (Array.getElem?_eq_some_iff.1 h1).1).trans h1, h2, fun k q1 q2 => h3 k (by omega) q2, ?_⟩
  rw [kp_succ p es hj, if_pos hp]
  exact h4
theorem Del.keep {α : Type} {c : Nat} {p : α → Bool} {w wr w1 : World} {g off : Nat} {T : TypeId} {C0 : Array Value} {es : List (It α)} {j : Nat} (h : Del c p w wr g off T C0 es j) (hj : j < es.length) (hp : p es[j].2.1 = false) (hb : Below wr.heap.size wr w1) (hC : off + es.length * c ≤ C0.size) (hcl : es[j].1.length = c) :
    Del c p w (putCells w1 g (off + (kp p es j).length * c) es[j].1) g off T C0 es (j + 1) ∧ (kp p es (j + 1)).length = (kp p es j).length + 1 := by
  obtain ⟨ho, C, h1, h2, h3, h4⟩ := h
  have hC1 : w1.heap[g]? = some (.cells C T (0, 0)) := (hb.block g (Array.getElem?_eq_some_iff.1 h1).1).trans h1
  have hi := kp_le p es j
  have hbd := idx_le (c := c) (show (kp p es j).length < es.length by omega)
  obtain ⟨C', g1, g2, g3, g4⟩ := putCells_block es[j].1 w1 g (off + (kp p es j).length * c) C T hC1 (by omega)
  have hk : kp p es (j + 1) = kp p es j ++ [es[j]] := by rw [kp_succ p es hj, if_neg (by simp [hp])]
  refine ⟨⟨⟨?_, ?_, ?_, ?_, ?_⟩, C', g1, by omega, fun k q1 q2 m hm => ?_, ?_⟩, by rw [hk]; simp⟩
  · exact (putCells_below _ 0 w1 w1 _ _ (Nat.zero_le _) (Below.refl _ _)).os.trans (hb.os.trans ho.1)
  · exact (putCells_below _ 0 w1 w1 _ _ (Nat.zero_le _) (Below.refl _ _)).tape.trans (hb.tape.trans ho.2.1)
  · exact (putCells_below _ 0 w1 w1 _ _ (Nat.zero_le _) (Below.refl _ _)).output.trans (hb.output.trans ho.2.2.1)
  · rw [putCells_size]; exact Nat.le_trans ho.2.2.2.1 hb.size
  · intro b q1 q2
    have h0 := ho.2.2.2.1
    rw [putCells_other _ _ _ _ _ (by simpa using q2), hb.block b (by omega), ho.keep q1 q2]
  · have := idx_apart (j := (kp p es j).length) (j' := k) (c := c) (m := m) (by omega) hm
    rw [g3 _ (by omega)]
    exact h3 k (by omega) q2 m hm
  · rw [hk]
    intro k q m hm
    simp at q
    by_cases e : k = (kp p es j).length
    · subst e
      rw [g4 m (by omega)]
      simp
    · have := idx_apart (j := (kp p es j).length) (j' := k) (c := c) (m := m) e hm
      rw [g3 _ (by omega), List.getElem_append_left (by omega)]
      exact h4 k (by omega) m hm
/-- all gone through, the rest cleared: the row that is left -/
theorem Del.done {α : Type} {c : Nat} {R : World → List Value → α → List Nat → Prop} (hR : OwnStays R) (hL : OwnLt R) {p : α → Bool} {w wr w1 : World} {g off cap : Nat} {T : TypeId} {C : Array Value} {es : List (It α)} {xs : List α} {fs : List Nat} (h : Items c R w g off T C es xs fs) (hd : Del c p w wr g off T C es es.length) (hm : xs.length ≤ maxLen) (hcap : xs.length ≤ cap)
    (ho1 : Out [g] wr w1) {C1 : Array Value} (hC1 : w1.heap[g]? = some (.cells C1 T (0, 0))) (hs1 : C1.size = C.size) (hk1 : ∀ C2, wr.heap[g]? = some (.cells C2 T (0, 0)) → ∀ i, i < off + (kp p es es.length).length * c → C1[i]? = C2[i]?) :
    (kp p es es.length).length = (xs.filter fun x => !p x).length ∧ ∃ fs', SeqOwn c R w1 (.slice (some ⟨g, off, none⟩) (xs.filter fun x => !p x).length cap) (xs.filter fun x => !p x) fs' ∧ ∀ b ∈ fs', b ∈ fs := by
  obtain ⟨rfl, h1, h2, rfl, h4, h5⟩ := h
  obtain ⟨ho, C2, g1, g2, g3, g4⟩ := hd
  have hkp : kp p es es.length = es.filter fun e => !p e.2.1 := by unfold kp; rw [List.take_length]
  have hfx : (es.map (·.2.1)).filter (fun x => !p x) = (kp p es es.length).map (·.2.1) := by
    rw [hkp, List.filter_map]
    rfl
  have hsub : (kp p es es.length).Sublist es := by rw [hkp]; exact List.filter_sublist
  have hle : (kp p es es.length).length ≤ es.length := hsub.length_le
  have hfl : ((kp p es es.length).map (·.2.2)).flatten.Sublist (es.map (·.2.2)).flatten := sub_flat (hsub.map _)
  rw [hfx]
  refine ⟨by simp, g :: ((kp p es es.length).map (·.2.2)).flatten, ⟨_, _, rfl, ?_, Or.inr ⟨g, off, rfl, C1, T, (kp p es es.length).map (·.2.2), hC1, ?_, by simp, rfl, ?_, fun i hi hi' => ?_⟩⟩, fun b hb => ?_⟩
  · simp at hm hcap ⊢; omega
  · simp at h2 ⊢
    have := Nat.mul_le_mul_right c hle
    omega
  · rw [List.nodup_cons] at h4 ⊢
    exact ⟨fun q => h4.1 (hfl.subset q), hfl.nodup h4.2⟩
  · simp at hi
    have hmem : (kp p es es.length)[i] ∈ es := hsub.subset (List.getElem_mem hi)
    obtain ⟨j, hj, ej⟩ := List.getElem_of_mem hmem
    obtain ⟨q1, q2, q3⟩ := h5 j hj
    rw [ej] at q1 q3
    refine ⟨(kp p es es.length)[i].1, q1, fun m hm' => ?_, ?_⟩
    · have hx := idx_le (c := c) hi
      rw [hk1 C2 g1 _ (by omega)]
      exact g4 i hi m hm'
    · simp only [List.getElem_map]
      refine hR _ _ _ _ _ (fun b hb => ?_) q3
      have hbf : b ∈ (es.map (·.2.2)).flatten := List.mem_flatten.2 ⟨_, List.mem_map.2 ⟨_, hmem, rfl⟩, hb⟩
      have hne : b ≠ g := fun e => (List.nodup_cons.1 h4).1 (e ▸ hbf)
      have hlt := hL _ _ _ _ q3 b hb
      have h0 := ho.2.2.2.1
      rw [ho1.keep (by omega) (by simpa using hne), ho.keep hlt (by simpa using hne)]
  · rcases List.mem_cons.1 hb with e | e
    · rw [e]; exact List.mem_cons_self
    · exact List.mem_cons_of_mem _ (hfl.subset e)
theorem out_put {w : World} {g o : Nat} {vs : List Value} : Out [g] w (putCells w g o vs) := by
  have h := putCells_below vs 0 w w g o (Nat.zero_le _) (Below.refl _ _)
  exact ⟨h.os, h.tape, h.output, h.size, fun b _ q => putCells_other _ _ _ _ _ (by simpa using q)⟩
theorem zero_cells {zc : Array Value} {n c : Nat} (hz : zc.size = c) : (Builtin.zeroCells zc n).toList.length = n * c := by
  simp [Builtin.zeroCells, hz]
/-- 'clear' of a row of records -/
theorem run_clear_rows {P : Program} (w : World) (t e : TypeId) (z : Value) (c : Nat) (ht : P.underlying t = some (.slice e)) (hv : ∀ w, (zeroValue e).run P w = .ok z w) (hz : z.cells.size = c) (h1 : ∀ v ∈ z.cells, v.oneCell' = true) (b o n cap : Nat) (hn : 0 < n)
    (hc : ∀ j, j < n * c → (w.cell? ⟨b, o + j, none⟩).isSome = true) (hf : ∀ j, w.frozen? ⟨b, j, none⟩ = false) :
    ∃ vs : List Value, vs.length = n * c ∧ ∀ ty, (Builtin.clear_ #[t] ty #[.slice (some ⟨b, o, none⟩) n cap]).run P w = .ok (.tuple #[]) (putCells w b o vs) := by
  refine ⟨(Builtin.zeroCells z.cells n).toList, zero_cells hz, fun ty => ?_⟩
  have hst := run_storeCells_cells (P := P) b o (Builtin.zeroCells z.cells n).toList 0 w (by rw [zero_cells hz]; simpa using hc) (fun j _ => hf _) (by
    intro v hv'
    simp only [Builtin.zeroCells] at hv'
    simp at hv'
    obtain ⟨i, hi, rfl⟩ := hv'
    have hp : 0 < z.cells.size := by
      rcases Nat.eq_zero_or_pos z.cells.size with q | q
      · rw [q] at hi; omega
      · exact q
    rw [getElem!_pos z.cells _ (Nat.mod_lt _ hp)]
    exact h1 _ (Array.getElem_mem _))
  simp only [Nat.add_zero] at hst
  obtain ⟨m, rfl⟩ : ∃ m, n = m + 1 := ⟨n - 1, by omega⟩
  simp [Builtin.clear_, run_underlying ht, hv, hst, setCells_put]
theorem wpList_clear {P : Program} {w w' : World} {ops : Array Oper} {rest : List Oper} {o : Oper} {a : Act} {Q : Exit → Act → World → Prop} (hgd : o.guard = none) (x : Operand) (t : TypeId) (ho : o.op = .call { callee := .builtin .clear, args := #[x], argTypes := #[t] }) (v : Value) (hx : a.eval x = v) (hr : ∀ ty, (Builtin.clear_ #[t] ty #[v]).run P w = .ok (.tuple #[]) w')
    (h : wpList P ops Q rest (a.put o.dst (.tuple #[])) w') : wpList P ops Q (o :: rest) a w := by
  refine wpList_plain hgd fun K hK => ?_
  unfold Oper.wp execOp
  simp only [ho, resolve, invoke, builtin, Sem.run_bind, Sem.run_pure, Result.andThen_ok, List.map_toArray, List.map_cons, List.map_nil, hx, hr]
  exact hK _ _ h
end Go.Proofs.Ytndffcogddefiaa
