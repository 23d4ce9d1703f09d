/- A row of records that own their memory, of which some are taken out in place: plain facts; 'clear' of a row of records. -/
import Derived.Test.YtnonfehmbabfhaaGreatOwnRows
import Derived.Lib.SliceRun
import Derived.Laws.IdiomCopy
import Derived.WalkKit
import Derived.Test.YtnonfehmbabfhaaGreatCntPlain
import Derived.Test.YtnonfehmbabfhaaGreatImplOne
import Derived.Test.YtnonfehmbabfhaaGreatTakeLit
namespace Go.Proofs.YtnonfehmbabfhaaGreat
open Go.RowKit
theorem setCells_put : ∀ (vs : List Value) (w : World) (g o : Nat), w.setCells g o vs = putCells w g o vs := by
  intro vs
  induction vs with
  | nil => intro w g o; rfl
  | cons v vs ih => intro w g o; exact ih _ _ _
theorem sub_flat {l1 l2 : List (List Nat)} (h : l1.Sublist l2) : l1.flatten.Sublist l2.flatten := by
  induction h with
  | slnil => exact List.Sublist.refl _
  | cons a _ ih => rw [List.flatten_cons]; exact ih.trans (List.sublist_append_right _ _)
  | cons_cons a _ ih => rw [List.flatten_cons, List.flatten_cons]; exact List.Sublist.append (List.Sublist.refl _) ih
abbrev It (α : Type) := List Value × α × List Nat
/-- the records of a row, with their cells and their blocks -/
def Items {α : Type} (c : Nat) (R : World → List Value → α → List Nat → Prop) (w : World) (g off : Nat) (T : TypeId) (C : Array Value) (es : List (It α)) (xs : List α) (fs : List Nat) : Prop :=
  es.map (·.2.1) = xs ∧ w.heap[g]? = some (.cells C T (0, 0)) ∧ off + xs.length * c ≤ C.size ∧ fs = g :: (es.map (·.2.2)).flatten ∧ fs.Nodup ∧ ∀ i, (h : i < es.length) → es[i].1.length = c ∧ (∀ m, m < c → C[off + i * c + m]? = es[i].1[m]?) ∧ R w es[i].1 es[i].2.1 es[i].2.2
theorem RowOwn.items {α : Type} {c : Nat} {R : World → List Value → α → List Nat → Prop} {w : World} {g off : Nat} {xs : List α} {fs : List Nat} (h : RowOwn c R w g off xs fs) : ∃ T C es, Items c R w g off T C es xs fs := by
  obtain ⟨C, T, bss, h1, h2, h3, rfl, h5, h6⟩ := h
  obtain ⟨es, hl, hp⟩ := list_of (n := xs.length) (p := fun i (e : It α) => ∃ (hi : i < xs.length) (hi' : i < bss.length), e.2.1 = xs[i] ∧ e.2.2 = bss[i] ∧ e.1.length = c ∧ (∀ m, m < c → C[off + i * c + m]? = e.1[m]?) ∧ R w e.1 e.2.1 e.2.2) (fun i hi => by
    obtain ⟨cs, q1, q2, q3⟩ := h6 i hi (by omega)
    exact ⟨(cs, xs[i], bss[i]'(by omega)), hi, by omega, rfl, rfl, q1, q2, q3⟩)
  have e1 : es.map (·.2.1) = xs := by
    apply List.ext_getElem
    · simpa using hl
    · intro i q1 q2
      obtain ⟨_, _, e, _⟩ := hp i (by omega)
      simpa using e
  have e2 : es.map (·.2.2) = bss := by
    apply List.ext_getElem
    · simp [hl, h3]
    · intro i q1 q2
      obtain ⟨_, _, _, e, _⟩ := hp i (by simpa using q1)
      simpa using e
  refine ⟨T, C, es, e1, h1, h2, by rw [e2], h5, fun i hi => ?_⟩
  obtain ⟨_, _, _, _, q3, q4, q5⟩ := hp i hi
  exact ⟨q3, q4, q5⟩
/-- what is kept of the first j -/
def kp {α : Type} (p : α → Bool) (es : List (It α)) (j : Nat) : List (It α) := (es.take j).filter fun e => !p e.2.1
theorem kp_le {α : Type} (p : α → Bool) (es : List (It α)) (j : Nat) : (kp p es j).length ≤ j := Nat.le_trans (List.length_filter_le _ _) (by simp; omega)
theorem kp_succ {α : Type} (p : α → Bool) (es : List (It α)) {j : Nat} (h : j < es.length) : kp p es (j + 1) = if p es[j].2.1 = true then kp p es j else kp p es j ++ [es[j]] := by
  unfold kp
  rw [List.take_succ_eq_append_getElem h, List.filter_append]
  cases hp : p es[j].2.1 <;> simp [hp]
/-- the row while it is gone through -/
def Del {α : Type} (c : Nat) (p : α → Bool) (w wr : World) (g off : Nat) (T : TypeId) (C0 : Array Value) (es : List (It α)) (j : Nat) : Prop :=
  Out [g] w wr ∧ ∃ C : Array Value, wr.heap[g]? = some (.cells C T (0, 0)) ∧ C.size = C0.size ∧ (∀ k, j ≤ k → (h : k < es.length) → ∀ m, m < c → C[off + k * c + m]? = es[k].1[m]?) ∧ ∀ k, (h : k < (kp p es j).length) → ∀ m, m < c → C[off + k * c + m]? = (kp p es j)[k].1[m]?
theorem Del.start {α : Type} {c : Nat} {R : World → List Value → α → List Nat → Prop} {p : α → Bool} {w wr : World} {g off : Nat} {T : TypeId} {C : Array Value} {es : List (It α)} {xs : List α} {fs : List Nat} (h : Items c R w g off T C es xs fs) (hb : Below w.heap.size w wr) {i : Nat} (hi : i < xs.length) (hp : p xs[i] = true) (hn : ∀ k, (q : k < i) → (q2 : k < xs.length) → p xs[k] = false) :
    Del c p w wr g off T C es (i + 1) ∧ (kp p es (i + 1)).length = i := by
  obtain ⟨rfl, h1, h2, h3, h4, h5⟩ := h
  simp only [List.length_map] at hi
  simp only [List.getElem_map] at hp hn
  have hk : kp p es (i + 1) = es.take i := by
    rw [kp_succ p es hi, if_pos hp]
    unfold kp
    rw [List.filter_eq_self]
    intro e he
    obtain ⟨k, hk, rfl⟩ := List.getElem_of_mem he
    simp at hk
    have := hn k (by omega) (by simp; omega)
    simp [this]
  have hg : g < w.heap.size := (Array.getElem?_eq_some_iff.1 h1).1
  refine ⟨⟨Out.of_below hb, C, (hb.block g hg).trans h1, rfl, fun k _ hk2 => (h5 k hk2).2.1, ?_⟩, by rw [hk]; simp; omega⟩
  rw [hk]
  intro k hk2 m hm
  simp at hk2
  rw [(h5 k (by omega)).2.1 m hm]
  simp
theorem Del.cells {α : Type} {c : Nat} {p : α → Bool} {w wr : World} {g off : Nat} {T : TypeId} {C0 : Array Value} {es : List (It α)} {j : Nat} (h : Del c p w wr g off T C0 es j) (hj : j < es.length) : ∀ m v, m < c → es[j].1[m]? = some v → wr.cell? ⟨g, off + j * c + m, none⟩ = some v := by
  obtain ⟨_, C, h1, _, h3, _⟩ := h
  intro m v hm hv
  rw [blk_cell h1, h3 j (Nat.le_refl _) hj m hm]
  exact hv
theorem Del.room {α : Type} {c : Nat} {p : α → Bool} {w wr w1 : World} {g off : Nat} {T : TypeId} {C0 : Array Value} {es : List (It α)} {j : Nat} (h : Del c p w wr g off T C0 es j) (hC : off + es.length * c ≤ C0.size) (hb : Below wr.heap.size wr w1) {k : Nat} (hk : k < es.length) : (∀ m, m < c → ∃ v, w1.cell? ⟨g, off + k * c + m, none⟩ = some v) ∧ ∀ i, w1.frozen? ⟨g, i, none⟩ = false := by
  obtain ⟨_, C, h1, h2, _⟩ := h
  have hC1 : w1.heap[g]? = some (.cells C T (0, 0)) := (hb.block g (Array.getElem?_eq_some_iff.1 h1).1).trans h1
  have := idx_le (c := c) hk
  exact ⟨fun m hm => ⟨C[off + k * c + m]'(by omega), by rw [blk_cell hC1]; exact Array.getElem?_eq_getElem (by omega)⟩, fun i => blk_unfrozen hC1 i⟩
theorem Del.skip {α : Type} {c : Nat} {p : α → Bool} {w wr w1 : World} {g off : Nat} {T : TypeId} {C0 : Array Value} {es : List (It α)} {j : Nat} (h : Del c p w wr g off T C0 es j) (hj : j < es.length) (hp : p es[j].2.1 = true) (hb : Below wr.heap.size wr w1) : Del c p w w1 g off T C0 es (j + 1) := by
  obtain ⟨ho, C, h1, h2, h3, h4⟩ := h
  refine ⟨ho.trans (Out.of_below hb), C, (hb.block g (Array.getElem?_eq_some_iff.1 h1).1).trans h1, h2, fun k q1 q2 => h3 k (by omega) q2, ?_⟩
  rw [kp_succ p es hj, if_pos hp]
  exact h4
theorem Del.keep {α : Type} {c : Nat} {p : α → Bool} {w wr w1 : World} {g off : Nat} {T : TypeId} {C0 : Array Value} {es : List (It α)} {j : Nat} (h : Del c p w wr g off T C0 es j) (hj : j < es.length) (hp : p es[j].2.1 = false) (hb : Below wr.heap.size wr w1) (hC : off + es.length * c ≤ C0.size) (hcl : es[j].1.length = c) :
    Del c p w (putCells w1 g (off + (kp p es j).length * c) es[j].1) g off T C0 es (j + 1) ∧ (kp p es (j + 1)).length = (kp p es j).length + 1 := by
  obtain ⟨ho, C, h1, h2, h3, h4⟩ := h
  have hC1 : w1.heap[g]? = some (.cells C T (0, 0)) := (hb.block g (Array.getElem?_eq_some_iff.1 h1).1).trans h1
  have hi := kp_le p es j
  have hbd := idx_le (c := c) (show (kp p es j).length < es.length by omega)
  obtain ⟨C', g1, g2, g3, g4⟩ := putCells_block es[j].1 w1 g (off + (kp p es j).length * c) C T hC1 (by omega)
  have hk : kp p es (j + 1) = kp p es j ++ [es[j]] := by rw [kp_succ p es hj, if_neg (by simp [hp])]
  refine ⟨⟨⟨?_, ?_, ?_, ?_, ?_⟩, C', g1, by omega, fun k q1 q2 m hm => ?_, ?_⟩, by rw [hk]; simp⟩
  · exact (putCells_below _ 0 w1 w1 _ _ (Nat.zero_le _) (Below.refl _ _)).os.trans (hb.os.trans ho.1)
  · exact (putCells_below _ 0 w1 w1 _ _ (Nat.zero_le _) (Below.refl _ _)).tape.trans (hb.tape.trans ho.2.1)
  · exact (putCells_below _ 0 w1 w1 _ _ (Nat.zero_le _) (Below.refl _ _)).output.trans (hb.output.trans ho.2.2.1)
  · rw [putCells_size]; exact Nat.le_trans ho.2.2.2.1 hb.size
  · intro b q1 q2
    have h0 := ho.2.2.2.1
    rw [putCells_other _ _ _ _ _ (by simpa using q2), hb.block b (by omega), ho.keep q1 q2]
  · have := idx_apart (j := (kp p es j).length) (j' := k) (c := c) (m := m) (by omega) hm
    rw [g3 _ (by omega)]
    exact h3 k (by omega) q2 m hm
  · rw [hk]
    intro k q m hm
    simp at q
    by_cases e : k = (kp p es j).length
    · subst e
      rw [g4 m (by omega)]
      simp
    · have := idx_apart (j := (kp p es j).length) (j' := k) (c := c) (m := m) e hm
      rw [g3 _ (by omega), List.getElem_append_left (by omega)]
      exact h4 k (by omega) m hm
/-- all gone through, the rest cleared: the row that is left -/
theorem Del.done {α : Type} {c : Nat} {R : World → List Value → α → List Nat → Prop} (hR : OwnStays R) (hL : OwnLt R) {p : α → Bool} {w wr w1 : World} {g off cap : Nat} {T : TypeId} {C : Array Value} {es : List (It α)} {xs : List α} {fs : List Nat} (h : Items c R w g off T C es xs fs) (hd : Del c p w wr g off T C es es.length) (hm : xs.length ≤ maxLen) (hcap : xs.length ≤ cap)
    (ho1 : Out [g] wr w1) {C1 : Array Value} (hC1 : w1.heap[g]? = some (.cells C1 T (0, 0))) (hs1 : C1.size = C.size) (hk1 : ∀ C2, wr.heap[g]? = some (.cells C2 T (0, 0)) → ∀ i, i < off + (kp p es es.length).length * c → C1[i]? = C2[i]?) :
    (kp p es es.length).length = (xs.filter fun x => !p x).length ∧ ∃ fs', SeqOwn c R w1 (.slice (some ⟨g, off, none⟩) (xs.filter fun x => !p x).length cap) (xs.filter fun x => !p x) fs' ∧ ∀ b ∈ fs', b ∈ fs := by
  obtain ⟨rfl, h1, h2, rfl, h4, h5⟩ := h
  obtain ⟨ho, C2, g1, g2, g3, g4⟩ := hd
  have hkp : kp p es es.length = es.filter fun e => !p e.2.1 := by unfold kp; rw [List.take_length]
  have hfx : (es.map (·.2.1)).filter (fun x => !p x) = (kp p es es.length).map (·.2.1) := by
    rw [hkp, List.filter_map]
    rfl
  have hsub : (kp p es es.length).Sublist es := by rw [hkp]; exact List.filter_sublist
  have hle : (kp p es es.length).length ≤ es.length := hsub.length_le
  have hfl : ((kp p es es.length).map (·.2.2)).flatten.Sublist (es.map (·.2.2)).flatten := sub_flat (hsub.map _)
  rw [hfx]
  refine ⟨by simp, g :: ((kp p es es.length).map (·.2.2)).flatten, ⟨_, _, rfl, ?_, Or.inr ⟨g, off, rfl, C1, T, (kp p es es.length).map (·.2.2), hC1, ?_, by simp, rfl, ?_, fun i hi hi' => ?_⟩⟩, fun b hb => ?_⟩
  · simp at hm hcap ⊢; omega
  · simp at h2 ⊢
    have := Nat.mul_le_mul_right c hle
    omega
  · rw [List.nodup_cons] at h4 ⊢
    exact ⟨fun q => h4.1 (hfl.subset q), hfl.nodup h4.2⟩
  · simp at hi
    have hmem : (kp p es es.length)[i] ∈ es := hsub.subset (List.getElem_mem hi)
    obtain ⟨j, hj, ej⟩ := List.getElem_of_mem hmem
    obtain ⟨q1, q2, q3⟩ := h5 j hj
    rw [ej] at q1 q3
    refine ⟨(kp p es es.length)[i].1, q1, fun m hm' => ?_, ?_⟩
    · have hx := idx_le (c := c) hi
      rw [hk1 C2 g1 _ (by omega)]
      exact g4 i hi m hm'
    · simp only [List.getElem_map]
      refine hR _ _ _ _ _ (fun b hb => ?_) q3
      have hbf : b ∈ (es.map (·.2.2)).flatten := List.mem_flatten.2 ⟨_, List.mem_map.2 ⟨_, hmem, rfl⟩, hb⟩
      have hne : b ≠ g := fun e => (List.nodup_cons.1 h4).1 (e ▸ hbf)
      have hlt := hL _ _ _ _ q3 b hb
      have h0 := ho.2.2.2.1
      rw [ho1.keep (by omega) (by simpa using hne), ho.keep hlt (by simpa using hne)]
  · rcases List.mem_cons.1 hb with e | e
    · rw [e]; exact List.mem_cons_self
    · exact List.mem_cons_of_mem _ (hfl.subset e)
theorem out_put {w : World} {g o : Nat} {vs : List Value} : Out [g] w (putCells w g o vs) := by
  have h := putCells_below vs 0 w w g o (Nat.zero_le _) (Below.refl _ _)
  exact ⟨h.os, h.tape, h.output, h.size, fun b _ q => putCells_other _ _ _ _ _ (by simpa using q)⟩
theorem zero_cells {zc : Array Value} {n c : Nat} (hz : zc.size = c) : (Builtin.zeroCells zc n).toList.length = n * c := by
  simp [Builtin.zeroCells, hz]
/-- 'clear' of a row of records -/
theorem run_clear_rows {P : Program} (w : World) (t e : TypeId) (z : Value) (c : Nat) (ht : P.underlying t = some (.slice e)) (hv : ∀ w, (zeroValue e).run P w = .ok z w) (hz : z.cells.size = c) (h1 : ∀ v ∈ z.cells, v.oneCell' = true) (b o n cap : Nat) (hn : 0 < n)
    (hc : ∀ j, j < n * c → (w.cell? ⟨b, o + j, none⟩).isSome = true) (hf : ∀ j, w.frozen? ⟨b, j, none⟩ = false) :
    ∃ vs : List Value, vs.length = n * c ∧ ∀ ty, (Builtin.clear_ #[t] ty #[.slice (some ⟨b, o, none⟩) n cap]).run P w = .ok (.tuple #[]) (putCells w b o vs) := by
  refine ⟨(Builtin.zeroCells z.cells n).toList, zero_cells hz, fun ty => ?_⟩
  have hst := run_storeCells_cells (P := P) b o (Builtin.zeroCells z.cells n).toList 0 w (by rw [zero_cells hz]; simpa using hc) (fun j _ => hf _) (by
    intro v hv'
    simp only [Builtin.zeroCells] at hv'
    simp at hv'
    obtain ⟨i, hi, rfl⟩ := hv'
    have hp : 0 < z.cells.size := by
      rcases Nat.eq_zero_or_pos z.cells.size with q | q
      · rw [q] at hi; omega
      · exact q
    rw [getElem!_pos z.cells _ (Nat.mod_lt _ hp)]
    exact h1 _ (Array.getElem_mem _))
  simp only [Nat.add_zero] at hst
  obtain ⟨m, rfl⟩ : ∃ m, n = m + 1 := ⟨n - 1, by omega⟩
  simp [Builtin.clear_, run_underlying ht, hv, hst, setCells_put]
end Go.Proofs.YtnonfehmbabfhaaGreat
namespace Go.Proofs.YtnonfehmbabfhaaGreat
open Go.RowKit
theorem NodeAt.cells {w : World} {lo : Nat} {cs : List Value} {x : NodeD} (h : NodeAt w lo cs x) : ∃ (a3 : Option Addr) (c3 : Nat) (a5 : Option Addr) (c5 : Nat), cs = [.int .i64 x.vId, .string x.vTag, .int .i64 x.vParent, .slice a3 x.vKids.length c3, .int .i64 x.vWrapper, .slice a5 x.vListeners.length c5] := by
  obtain ⟨k3, k5, rfl, s3, s5, _⟩ := h
  obtain ⟨a3, c3, rfl⟩ := s3.form
  obtain ⟨a5, c5, rfl⟩ := s5.form
  exact ⟨a3, c3, a5, c5, rfl⟩
theorem goneNode_any {w : World} {lo P : Nat} {ga : Option Addr} {gc : Nat} {gone : List Int} {x : NodeD} {a3 : Option Addr} {c3 : Nat} {a5 : Option Addr} {c5 : Nat} (hP : w.cell? ⟨P, 0, none⟩ = some (.slice ga gone.length gc)) (hg : SeqAt 1 IntAt w lo (.slice ga gone.length gc) gone) :
    Calls Tryz.prog 72 #[.agg #[.int .i64 x.vId, .string x.vTag, .int .i64 x.vParent, .slice a3 x.vKids.length c3, .int .i64 x.vWrapper, .slice a5 x.vListeners.length c5], .pointer (some ⟨P, 0, none⟩)] w fun e w' => e = .returned (.bool (hasB gone x.vId)) ∧ Below w.heap.size w w' := by
  have hb0 : Below w.heap.size w (w.alloc (.cells #[.int .i64 x.vId, .string x.vTag, .int .i64 x.vParent, .slice a3 x.vKids.length c3, .int .i64 x.vWrapper, .slice a5 x.vListeners.length c5] 91)) := (Below.refl _ _).alloc (Nat.le_refl _) _
  have hP' : (w.alloc (.cells #[.int .i64 x.vId, .string x.vTag, .int .i64 x.vParent, .slice a3 x.vKids.length c3, .int .i64 x.vWrapper, .slice a5 x.vListeners.length c5] 91)).cell? ⟨P, 0, none⟩ = some (.slice ga gone.length gc) := cell_on hb0 hP
  have hg' : Hid (SeqAt 1 IntAt (w.alloc (.cells #[.int .i64 x.vId, .string x.vTag, .int .i64 x.vParent, .slice a3 x.vKids.length c3, .int .i64 x.vWrapper, .slice a5 x.vListeners.length c5] 91)) lo (.slice ga gone.length gc) gone) := hg.below intAt_stays hb0
  have z0 := (Box.new w [.int .i64 x.vId, .string x.vTag, .int .i64 x.vParent, .slice a3 x.vKids.length c3, .int .i64 x.vWrapper, .slice a5 x.vListeners.length c5] 91).cell 0 rfl
  clear hg hP
  go_enter Tryz.func72, Tryz.ntmps72
  go_wp2_with fail
  refine (slContains_any hg'.out).mono ?_
  rintro e w1 ⟨rfl, rfl⟩
  go_wp2_with fail
  go_ret
  exact ⟨rfl, hb0⟩
set_option maxHeartbeats 2000000 in
theorem idxNode_any {w : World} {lo lo2 P : Nat} {ga : Option Addr} {gc : Nat} {gone : List Int} {k : Value} {xs : List NodeD} (hk : SeqAt 6 NodeAt w lo k xs) (hl : xs.length ≤ 1048576) (hP : w.cell? ⟨P, 0, none⟩ = some (.slice ga gone.length gc)) (hg : SeqAt 1 IntAt w lo2 (.slice ga gone.length gc) gone) :
    Calls Tryz.prog 101 #[k, .func (.func 72) #[] #[.pointer (some ⟨P, 0, none⟩)]] w fun e w' => ((∃ i, ∃ h : i < xs.length, e = .returned (.int .i64 (i : Nat)) ∧ hasB gone xs[i].vId = true ∧ ∀ m, (q : m < i) → (q2 : m < xs.length) → hasB gone xs[m].vId = false) ∨ (e = .returned (.int .i64 (-1)) ∧ ∀ m, (q : m < xs.length) → hasB gone xs[m].vId = false)) ∧ Below w.heap.size w w' := by
  obtain ⟨a, cap, rfl, hm, hx⟩ := hk
  have hx' : Hid _ := hx
  have hg' : Hid (SeqAt 1 IntAt w lo2 (.slice ga gone.length gc) gone) := hg
  have hP' : Hid (w.cell? ⟨P, 0, none⟩ = some (.slice ga gone.length gc)) := hP
  clear hx hg hP hm
  go_enter Tryz.func101, Tryz.ntmps101
  go_wp2_with fail
  go_loopw [8] (fun i wr => ∃ (j : Nat), j ≤ xs.length ∧ i = .int .i64 j ∧ Hid (∀ m, (q : m < j) → (q2 : m < xs.length) → hasB gone xs[m].vId = false) ∧ Hid (Below w.heap.size w wr)) (fun i _ => xs.length - (intOf i).toNat)
  case atStart => exact ⟨0, by omega, rfl, fun m q => absurd q (by omega), Below.refl _ _⟩
  case round =>
    obtain ⟨j, hj, rfl, hno, hbr⟩ := hrel
    by_cases hlt : j < xs.length
    · obtain ⟨b, off, rfl, hlo, hbw, hc⟩ := hx'.out (by omega)
      obtain ⟨cs, hcl, lie, hr⟩ := hc j hlt
      have hgo : Hid (∀ m, (q : m < j + 1) → (q2 : m < xs.length) → hasB gone xs[j].vId = false → hasB gone xs[m].vId = false) := fun m q q2 e => by
        rcases Nat.lt_or_ge m j with r | r
        · exact hno.out m r q2
        · obtain rfl : m = j := by omega
          exact e
      have hat : Hid (∀ b', hasB gone xs[j].vId = b' → hasB gone xs[j].vId = b') := fun _ e => e
      generalize hX : xs[j] = x at hr hgo hat
      have hX' : Hid (xs[j] = x) := hX
      obtain ⟨a3, c3, a5, c5, rfl⟩ := hr.cells
      have lie1 := Lie.keep (lo := lo) (lo' := lo) lie (.of_below hbr.out) hlo hbw
      have z0 := lie1 0 (by simp)
      have z1 := lie1 1 (by simp)
      have z2 := lie1 2 (by simp)
      have z3 := lie1 3 (by simp)
      have z4 := lie1 4 (by simp)
      have z5 := lie1 5 (by simp)
      simp only [List.getElem?_cons_zero, List.getElem?_cons_succ, Nat.add_zero] at z0 z1 z2 z3 z4 z5
      have hlt' : (j : Int) < (xs.length : Int) := by omega
      have hj0 : (0 : Int) ≤ (j : Int) := by omega
      clear lie lie1 hcl hc hr hX
      go_wp2_with fail
      refine (goneNode_any (x := x) (cell_on hbr.out hP'.out) (hg'.out.below intAt_stays hbr.out)).mono ?_
      rintro e w1 ⟨rfl, hb1⟩
      have hB1 : Hid (Below w.heap.size w w1) := hbr.out.trans (hb1.mono hbr.out.size)
      clear hb1
      cases hv : hasB gone x.vId with
      | true =>
        have hv' : Hid (hasB gone x.vId = true) := hv
        clear hv
        go_wp2_with fail
        go_ret
        exact ⟨Or.inl ⟨j, hlt, rfl, by rw [hX'.out]; exact hv'.out, hno.out⟩, hB1.out⟩
      | false =>
        have hv' : Hid (hasB gone x.vId = false) := hv
        clear hv
        go_wp2_with fail
        go_roundw
        case rel => exact ⟨j + 1, by omega, by go_num, fun m q q2 => hgo.out m q q2 hv'.out, hB1⟩
        case measure => simp [intOf]; omega
    · obtain rfl : j = xs.length := by omega
      go_wp2_with fail
      go_ret
      exact ⟨Or.inr ⟨rfl, fun m q => hno.out m q q⟩, hbr.out⟩
theorem zeroNodeD : ∀ w, (zeroValue 91).run Tryz.prog w = .ok (.agg #[.int .i64 0, .string ByteArray.empty, .int .i64 0, .slice none 0 0, .int .i64 0, .slice none 0 0]) w := by
  intro w
  have h : ((Tryz.prog.info? 91).map fun i => i.zero) = some (some (.agg #[.int .i64 0, .string ByteArray.empty, .int .i64 0, .slice none 0 0, .int .i64 0, .slice none 0 0])) := by kernel_rfl
  obtain ⟨i, hi, he⟩ := Option.map_eq_some_iff.1 h
  simp [zeroValue, typeInfo, hi, he]
def leftNode (gone : List Int) (xs : List NodeD) : List NodeD := xs.filter fun x => !hasB gone x.vId
set_option maxRecDepth 100000 in
set_option maxHeartbeats 4000000 in
theorem delNode_any {w w0 : World} {lo2 P : Nat} {ga : Option Addr} {gc : Nat} {gone : List Int} {k : Value} {xs : List NodeD} {fs : List Nat} (hk : SeqOwn 6 NodeOwn w k xs fs) (hl : xs.length ≤ 1048576) (hP : w.cell? ⟨P, 0, none⟩ = some (.slice ga gone.length gc)) (hPf : P ∉ fs) (h0 : Below w0.heap.size w0 w) (hfs : ∀ b ∈ fs, w0.heap.size ≤ b) (hg : SeqAt 1 IntAt w0 lo2 (.slice ga gone.length gc) gone) :
    Calls Tryz.prog 71 #[k, .func (.func 72) #[] #[.pointer (some ⟨P, 0, none⟩)]] w fun e w' => (∃ v fs', e = .returned v ∧ SeqOwn 6 NodeOwn w' v (leftNode gone xs) fs' ∧ ∀ b ∈ fs', b ∈ fs) ∧ Out fs w w' := by
  have hat : SeqAt 6 NodeAt w 0 k xs := hk.at (NodeOwn_at (lo := 0)) (fun _ _ => Nat.zero_le _)
  have hlt0 := hk.lt NodeOwn_lt
  have hg0 : SeqAt 1 IntAt w lo2 (.slice ga gone.length gc) gone := hg.below intAt_stays h0
  have hk' : Hid (SeqOwn 6 NodeOwn w k xs fs) := hk
  obtain ⟨a, cap, rfl, hm, hx⟩ := hk
  have hm' : Hid (xs.length ≤ maxLen ∧ xs.length ≤ cap) := hm
  have hat' : Hid (SeqAt 6 NodeAt w 0 (.slice a xs.length cap) xs) := hat
  have hg' : Hid (SeqAt 1 IntAt w0 lo2 (.slice ga gone.length gc) gone) := hg
  have hg0' : Hid (SeqAt 1 IntAt w lo2 (.slice ga gone.length gc) gone) := hg0
  have hP' : Hid (w.cell? ⟨P, 0, none⟩ = some (.slice ga gone.length gc)) := hP
  have hx' : Hid _ := hx
  clear hat hm hg hg0 hP hx
  go_enter Tryz.func71, Tryz.ntmps71
  go_wp2_with fail
  refine (idxNode_any hat'.out hl hP'.out hg0'.out).mono ?_
  rintro e w1 ⟨⟨i, hi, rfl, hpi, hno⟩ | ⟨rfl, hall⟩, hb1⟩
  · rcases hx'.out with ⟨hz, _⟩ | ⟨g, off, rfl, hrow⟩
    · omega
    · obtain ⟨T, C, es, hit0⟩ := hrow.items
      have hgf : g ∈ fs := by rw [hit0.2.2.2.1]; exact List.mem_cons_self
      have hit : Hid (Items 6 NodeOwn w g off T C es xs fs) := hit0
      obtain ⟨hd0, hki⟩ := Del.start (p := fun x => hasB gone x.vId) hit0 hb1 hi hpi hno
      have hel : Hid (es.length = xs.length) := by show _ = _; have h5 := congrArg List.length hit0.1; simpa using h5
      have hd1 : Hid (Del 6 (fun x => hasB gone x.vId) w w1 g off T C es (i + 1)) := hd0
      have hki' : Hid ((kp (fun x => hasB gone x.vId) es (i + 1)).length = i) := hki
      have hgw : w0.heap.size ≤ g := hfs g hgf
      have hPg : P ≠ g := fun e => hPf (e ▸ hgf)
      clear hrow hit0 hd0 hki hpi hno hx'
      have hi' : (i : Int) < 1048577 := by omega
      have hi0 : (0 : Int) ≤ (i : Int) := by omega
      have hne1 : ((i : Int) == -1) = false := by simp <;> omega
      have hne2 : decide ((i : Int) = -1) = false := by simp <;> omega
      go_wp2_with fail
      go_loopw [5, 6] (fun wi ri wr => ∃ (j : Nat), (kp (fun x => hasB gone x.vId) es j).length < j ∧ j ≤ xs.length ∧ ri = .int .i64 j ∧ wi = .int .i64 ((kp (fun x => hasB gone x.vId) es j).length : Nat) ∧ Hid (Del 6 (fun x => hasB gone x.vId) w wr g off T C es j)) (fun _ ri _ => xs.length - (intOf ri).toNat)
      case atStart => exact ⟨i + 1, by rw [hki'.out]; omega, by omega, by go_num, by rw [hki'.out], hd1⟩
      case round =>
        obtain ⟨j, hij, hj, rfl, rfl, hd⟩ := hrel
        have hout : Hid (Out [g] w wr) := hd.out.1
        have hkl := kp_le (fun x : NodeD => hasB gone x.vId) es j
        have hel2 := hel.out
        by_cases hlt : j < xs.length
        · have hje : j < es.length := by omega
          have hCc : Hid (off + es.length * 6 ≤ C.size) := by show _ ≤ _; rw [hel.out]; exact hit.out.2.2.1
          obtain ⟨hcl, hcells, hRj⟩ := hit.out.2.2.2.2.2 j hje
          have hzc := hd.out.cells hje
          have hrm : Hid (∀ w1, Below wr.heap.size wr w1 → (∀ m, m < 6 → ∃ v, w1.cell? ⟨g, off + (kp (fun x : NodeD => hasB gone x.vId) es j).length * 6 + m, none⟩ = some v) ∧ ∀ i, w1.frozen? ⟨g, i, none⟩ = false) := fun w1 hb => hd.out.room hCc.out hb (by omega)
          have hskip : Hid (∀ w1, hasB gone es[j].2.1.vId = true → Below wr.heap.size wr w1 → Del 6 (fun x => hasB gone x.vId) w w1 g off T C es (j + 1) ∧ (kp (fun x : NodeD => hasB gone x.vId) es (j + 1)).length = (kp (fun x : NodeD => hasB gone x.vId) es j).length) := fun w1 e hb => ⟨hd.out.skip hje e hb, by rw [kp_succ _ es hje, if_pos e]⟩
          have hkeep : Hid (∀ w1, hasB gone es[j].2.1.vId = false → Below wr.heap.size wr w1 → Del 6 (fun x => hasB gone x.vId) w (putCells w1 g (off + (kp (fun x : NodeD => hasB gone x.vId) es j).length * 6) es[j].1) g off T C es (j + 1) ∧ (kp (fun x : NodeD => hasB gone x.vId) es (j + 1)).length = (kp (fun x : NodeD => hasB gone x.vId) es j).length + 1) := fun w1 e hb => hd.out.keep hje e hb hCc.out hcl
          obtain ⟨a3, c3, a5, c5, hcs⟩ := (NodeOwn_at (lo := 0) _ _ _ _ hRj (fun _ _ => Nat.zero_le _)).cells
          generalize es[j].1 = ec at hcs hzc hkeep hcl hcells hRj
          subst hcs
          generalize es[j].2.1 = y at *
          generalize hKL : (kp (fun x : NodeD => hasB gone x.vId) es j).length = kl at *
          have z0 := hzc 0 _ (by omega) rfl
          have z1 := hzc 1 _ (by omega) rfl
          have z2 := hzc 2 _ (by omega) rfl
          have z3 := hzc 3 _ (by omega) rfl
          have z4 := hzc 4 _ (by omega) rfl
          have z5 := hzc 5 _ (by omega) rfl
          simp only [Nat.add_zero] at z0
          have hlt' : (j : Int) < (xs.length : Int) := by omega
          have hj0 : (0 : Int) ≤ (j : Int) := by omega
          have hkl0 : (0 : Int) ≤ (kl : Int) := by omega
          have hkl1 : (kl : Int) < (xs.length : Int) := by omega
          have bV : Hid (Box (wr.alloc (.cells #[.int .i64 y.vId, .string y.vTag, .int .i64 y.vParent, .slice a3 y.vKids.length c3, .int .i64 y.vWrapper, .slice a5 y.vListeners.length c5] 91)) wr.heap.size [.int .i64 y.vId, .string y.vTag, .int .i64 y.vParent, .slice a3 y.vKids.length c3, .int .i64 y.vWrapper, .slice a5 y.vListeners.length c5] 91) := Box.new wr _ _
          have hbV : Below wr.heap.size wr (wr.alloc (.cells #[.int .i64 y.vId, .string y.vTag, .int .i64 y.vParent, .slice a3 y.vKids.length c3, .int .i64 y.vWrapper, .slice a5 y.vListeners.length c5] 91)) := (Below.refl _ _).alloc (Nat.le_refl _) _
          have hPV : Hid ((wr.alloc (.cells #[.int .i64 y.vId, .string y.vTag, .int .i64 y.vParent, .slice a3 y.vKids.length c3, .int .i64 y.vWrapper, .slice a5 y.vListeners.length c5] 91)).cell? ⟨P, 0, none⟩ = some (.slice ga gone.length gc)) := cell_on hbV (by have h5 := hout.out.keep (World.block_lt_of_cell? _ _ hP'.out) (by simpa using hPg); rw [World.cell?_of_block (w := w) h5]; exact hP'.out)
          have h0r : Below w0.heap.size w0 (wr.alloc (.cells #[.int .i64 y.vId, .string y.vTag, .int .i64 y.vParent, .slice a3 y.vKids.length c3, .int .i64 y.vWrapper, .slice a5 y.vListeners.length c5] 91)) := (h0.trans (hout.out.below h0.size (by simpa using hgw))).trans (hbV.mono (by have h5 := h0.size; have h6 := hout.out.2.2.2.1; omega))
          have hgV : Hid (SeqAt 1 IntAt (wr.alloc (.cells #[.int .i64 y.vId, .string y.vTag, .int .i64 y.vParent, .slice a3 y.vKids.length c3, .int .i64 y.vWrapper, .slice a5 y.vListeners.length c5] 91)) lo2 (.slice ga gone.length gc) gone) := hg'.out.below intAt_stays h0r
          have y0 := bV.out.cell 0 rfl
          have y1 := bV.out.cell 1 rfl
          have y2 := bV.out.cell 2 rfl
          have y3 := bV.out.cell 3 rfl
          have y4 := bV.out.cell 4 rfl
          have y5 := bV.out.cell 5 rfl
          clear hzc hcl hcells hRj
          go_wp2_with fail
          refine (goneNode_any (x := y) hPV.out hgV.out).mono ?_
          rintro e u1 ⟨rfl, hq1⟩
          have hu1 : Hid (Below wr.heap.size wr u1) := hbV.trans (hq1.mono hbV.size)
          have bV1 : Box u1 wr.heap.size [.int .i64 y.vId, .string y.vTag, .int .i64 y.vParent, .slice a3 y.vKids.length c3, .int .i64 y.vWrapper, .slice a5 y.vListeners.length c5] 91 := bV.out.below hq1 bV.out.lt
          clear y0 y1 y2 y3 y4 y5 z0 z1 z2 z3 z4 z5 hq1 hgV hPV h0r bV
          cases hv : hasB gone y.vId with
          | true =>
            obtain ⟨hdn, hkn⟩ := hskip.out u1 hv hu1.out
            have hdn' : Hid _ := hdn
            have hkn' : Hid _ := hkn
            clear hv hdn hkn
            go_wp2_with fail
            go_roundw
            case rel => exact ⟨j + 1, by rw [hkn'.out]; omega, by omega, by go_num, by rw [hkn'.out], hdn'⟩
            case measure => simp [intOf]; omega
          | false =>
            obtain ⟨hdn, hkn⟩ := hkeep.out u1 hv hu1.out
            have hdn' : Hid _ := hdn
            have hkn' : Hid _ := hkn
            obtain ⟨hrc, hrf⟩ := hrm.out u1 hu1.out
            obtain ⟨o0, r0⟩ := hrc 0 (by omega)
            obtain ⟨o1, r1⟩ := hrc 1 (by omega)
            obtain ⟨o2, r2⟩ := hrc 2 (by omega)
            obtain ⟨o3, r3⟩ := hrc 3 (by omega)
            obtain ⟨o4, r4⟩ := hrc 4 (by omega)
            obtain ⟨o5, r5⟩ := hrc 5 (by omega)
            simp only [Nat.add_zero] at r0
            have y0 := bV1.cell 0 rfl
            have y1 := bV1.cell 1 rfl
            have y2 := bV1.cell 2 rfl
            have y3 := bV1.cell 3 rfl
            have y4 := bV1.cell 4 rfl
            have y5 := bV1.cell 5 rfl
            clear hv hdn hkn hrc
            go_wp2_with fail
            go_roundw
            case rel => exact ⟨j + 1, by rw [hkn'.out]; omega, by omega, by go_num, by rw [hkn'.out]; go_num, hdn'⟩
            case measure => simp [intOf]; omega
        · obtain rfl : j = xs.length := by omega
          have hdx : Hid (Del 6 (fun x => hasB gone x.vId) w wr g off T C es es.length) := by show Del _ _ _ _ _ _ _ _ _ _; rw [hel.out]; exact hd.out
          have hCc : off + es.length * 6 ≤ C.size := by rw [hel.out]; exact hit.out.2.2.1
          generalize hKL : (kp (fun x : NodeD => hasB gone x.vId) es xs.length).length = kl at *
          have hKL' : Hid ((kp (fun x : NodeD => hasB gone x.vId) es es.length).length = kl) := by show _ = _; rw [hel.out]; exact hKL
          obtain ⟨ho_, C2, hC2, hs2, _, _⟩ := hd.out
          have hT2 : T = 91 ∨ True := Or.inr trivial
          have hcellE : ∀ z, z < (xs.length - kl) * 6 → (wr.cell? ⟨g, off + kl * 6 + z, none⟩).isSome = true := fun z hz => by
            rw [blk_cell hC2]
            have h7 : kl * 6 + (xs.length - kl) * 6 = xs.length * 6 := by rw [← Nat.add_mul]; congr 1; omega
            rw [Array.getElem?_eq_getElem (by rw [hs2]; have := hit.out.2.2.1; omega)]
            rfl
          have hfr : ∀ z, wr.frozen? ⟨g, z, none⟩ = false := fun z => blk_unfrozen hC2 z
          have hpos : 0 < xs.length - kl := by omega
          obtain ⟨vs, hvl, hrun⟩ := run_clear_rows (P := Tryz.prog) wr 28 91 _ 6 Tryz.underlying28 zeroNodeD rfl (by intro v hv; simp [Value.cells] at hv; rcases hv with rfl | rfl | rfl | rfl | rfl | rfl <;> rfl) g (off + kl * 6) (xs.length - kl) (cap - kl) hpos hcellE hfr
          have hbd : off + kl * 6 + vs.length ≤ C2.size := by
            have h7 : kl * 6 + (xs.length - kl) * 6 = xs.length * 6 := by rw [← Nat.add_mul]; congr 1; omega
            have := hit.out.2.2.1
            omega
          obtain ⟨C1, g1, g2, g3, g4⟩ := putCells_block vs wr g (off + kl * 6) C2 T hC2 hbd
          have hfinal := Del.done NodeOwn_stays NodeOwn_lt hit.out hdx.out hm'.out.1 hm'.out.2 (out_put (vs := vs) (o := off + kl * 6)) g1 (by omega) (fun C3 e m hm => by
            rw [hC2] at e
            injection e with e
            injection e with e
            subst e
            rw [hKL'.out] at hm
            exact g3 m (Or.inl hm))
          have hfin : Hid _ := hfinal
          have hrun' : Hid _ := hrun
          have hkl1 : (kl : Int) ≤ (xs.length : Int) := by omega
          have hkl0 : (0 : Int) ≤ (kl : Int) := by omega
          have hkn : kl ≤ xs.length := by omega
          have hkc : kl ≤ cap := by have := hm'.out.2; omega
          have hcapn : xs.length ≤ cap := hm'.out.2
          clear hfinal hrun g1 g2 g3 g4 hcellE hfr hbd hvl hC2 hs2 ho_ hdx
          have hr0 := hrun'.out 0
          go_wp2_with fail
          go_ret
          obtain ⟨q1, fs', q2, q3⟩ := hfin.out
          rw [hKL'.out] at q1
          rw [← q1] at q2
          exact ⟨⟨_, fs', rfl, q2, q3⟩, Out.mono (Out.trans hout.out out_put) (fun b qq => by simp at qq; rw [qq]; exact hgf)⟩
  · have hres : Hid (leftNode gone xs = xs) := by
      show leftNode gone xs = xs
      unfold leftNode
      rw [List.filter_eq_self]
      intro x hx
      obtain ⟨m, hm, rfl⟩ := List.getElem_of_mem hx
      simp [hall m hm]
    clear hall
    go_wp2_with fail
    go_ret
    exact ⟨⟨_, fs, rfl, by rw [hres.out]; exact hk'.out.stays NodeOwn_stays (fun b qq => hb1.block b (hlt0 b qq)), fun b qq => qq⟩, Out.of_below hb1⟩
theorem ObjAt.cells {w : World} {lo : Nat} {cs : List Value} {x : ObjD} (h : ObjAt w lo cs x) : ∃ (a2 : Option Addr) (c2 : Nat), cs = [.int .i64 x.vId, .int .i64 x.vNode, .slice a2 x.vFields.length c2] := by
  obtain ⟨k2, rfl, s2, _⟩ := h
  obtain ⟨a2, c2, rfl⟩ := s2.form
  exact ⟨a2, c2, rfl⟩
theorem goneObj_any {w : World} {lo P : Nat} {ga : Option Addr} {gc : Nat} {gone : List Int} {x : ObjD} {a2 : Option Addr} {c2 : Nat} (hP : w.cell? ⟨P, 0, none⟩ = some (.slice ga gone.length gc)) (hg : SeqAt 1 IntAt w lo (.slice ga gone.length gc) gone) :
    Calls Tryz.prog 75 #[.agg #[.int .i64 x.vId, .int .i64 x.vNode, .slice a2 x.vFields.length c2], .pointer (some ⟨P, 0, none⟩)] w fun e w' => e = .returned (.bool (hasB gone x.vId)) ∧ Below w.heap.size w w' := by
  have hb0 : Below w.heap.size w (w.alloc (.cells #[.int .i64 x.vId, .int .i64 x.vNode, .slice a2 x.vFields.length c2] 95)) := (Below.refl _ _).alloc (Nat.le_refl _) _
  have hP' : (w.alloc (.cells #[.int .i64 x.vId, .int .i64 x.vNode, .slice a2 x.vFields.length c2] 95)).cell? ⟨P, 0, none⟩ = some (.slice ga gone.length gc) := cell_on hb0 hP
  have hg' : Hid (SeqAt 1 IntAt (w.alloc (.cells #[.int .i64 x.vId, .int .i64 x.vNode, .slice a2 x.vFields.length c2] 95)) lo (.slice ga gone.length gc) gone) := hg.below intAt_stays hb0
  have z0 := (Box.new w [.int .i64 x.vId, .int .i64 x.vNode, .slice a2 x.vFields.length c2] 95).cell 0 rfl
  clear hg hP
  go_enter Tryz.func75, Tryz.ntmps75
  go_wp2_with fail
  refine (slContains_any hg'.out).mono ?_
  rintro e w1 ⟨rfl, rfl⟩
  go_wp2_with fail
  go_ret
  exact ⟨rfl, hb0⟩
set_option maxHeartbeats 2000000 in
theorem idxObj_any {w : World} {lo lo2 P : Nat} {ga : Option Addr} {gc : Nat} {gone : List Int} {k : Value} {xs : List ObjD} (hk : SeqAt 3 ObjAt w lo k xs) (hl : xs.length ≤ 1048576) (hP : w.cell? ⟨P, 0, none⟩ = some (.slice ga gone.length gc)) (hg : SeqAt 1 IntAt w lo2 (.slice ga gone.length gc) gone) :
    Calls Tryz.prog 103 #[k, .func (.func 75) #[] #[.pointer (some ⟨P, 0, none⟩)]] w fun e w' => ((∃ i, ∃ h : i < xs.length, e = .returned (.int .i64 (i : Nat)) ∧ hasB gone xs[i].vId = true ∧ ∀ m, (q : m < i) → (q2 : m < xs.length) → hasB gone xs[m].vId = false) ∨ (e = .returned (.int .i64 (-1)) ∧ ∀ m, (q : m < xs.length) → hasB gone xs[m].vId = false)) ∧ Below w.heap.size w w' := by
  obtain ⟨a, cap, rfl, hm, hx⟩ := hk
  have hx' : Hid _ := hx
  have hg' : Hid (SeqAt 1 IntAt w lo2 (.slice ga gone.length gc) gone) := hg
  have hP' : Hid (w.cell? ⟨P, 0, none⟩ = some (.slice ga gone.length gc)) := hP
  clear hx hg hP hm
  go_enter Tryz.func103, Tryz.ntmps103
  go_wp2_with fail
  go_loopw [8] (fun i wr => ∃ (j : Nat), j ≤ xs.length ∧ i = .int .i64 j ∧ Hid (∀ m, (q : m < j) → (q2 : m < xs.length) → hasB gone xs[m].vId = false) ∧ Hid (Below w.heap.size w wr)) (fun i _ => xs.length - (intOf i).toNat)
  case atStart => exact ⟨0, by omega, rfl, fun m q => absurd q (by omega), Below.refl _ _⟩
  case round =>
    obtain ⟨j, hj, rfl, hno, hbr⟩ := hrel
    by_cases hlt : j < xs.length
    · obtain ⟨b, off, rfl, hlo, hbw, hc⟩ := hx'.out (by omega)
      obtain ⟨cs, hcl, lie, hr⟩ := hc j hlt
      have hgo : Hid (∀ m, (q : m < j + 1) → (q2 : m < xs.length) → hasB gone xs[j].vId = false → hasB gone xs[m].vId = false) := fun m q q2 e => by
        rcases Nat.lt_or_ge m j with r | r
        · exact hno.out m r q2
        · obtain rfl : m = j := by omega
          exact e
      have hat : Hid (∀ b', hasB gone xs[j].vId = b' → hasB gone xs[j].vId = b') := fun _ e => e
      generalize hX : xs[j] = x at hr hgo hat
      have hX' : Hid (xs[j] = x) := hX
      obtain ⟨a2, c2, rfl⟩ := hr.cells
      have lie1 := Lie.keep (lo := lo) (lo' := lo) lie (.of_below hbr.out) hlo hbw
      have z0 := lie1 0 (by simp)
      have z1 := lie1 1 (by simp)
      have z2 := lie1 2 (by simp)
      simp only [List.getElem?_cons_zero, List.getElem?_cons_succ, Nat.add_zero] at z0 z1 z2
      have hlt' : (j : Int) < (xs.length : Int) := by omega
      have hj0 : (0 : Int) ≤ (j : Int) := by omega
      clear lie lie1 hcl hc hr hX
      go_wp2_with fail
      refine (goneObj_any (x := x) (cell_on hbr.out hP'.out) (hg'.out.below intAt_stays hbr.out)).mono ?_
      rintro e w1 ⟨rfl, hb1⟩
      have hB1 : Hid (Below w.heap.size w w1) := hbr.out.trans (hb1.mono hbr.out.size)
      clear hb1
      cases hv : hasB gone x.vId with
      | true =>
        have hv' : Hid (hasB gone x.vId = true) := hv
        clear hv
        go_wp2_with fail
        go_ret
        exact ⟨Or.inl ⟨j, hlt, rfl, by rw [hX'.out]; exact hv'.out, hno.out⟩, hB1.out⟩
      | false =>
        have hv' : Hid (hasB gone x.vId = false) := hv
        clear hv
        go_wp2_with fail
        go_roundw
        case rel => exact ⟨j + 1, by omega, by go_num, fun m q q2 => hgo.out m q q2 hv'.out, hB1⟩
        case measure => simp [intOf]; omega
    · obtain rfl : j = xs.length := by omega
      go_wp2_with fail
      go_ret
      exact ⟨Or.inr ⟨rfl, fun m q => hno.out m q q⟩, hbr.out⟩
theorem zeroObjD : ∀ w, (zeroValue 95).run Tryz.prog w = .ok (.agg #[.int .i64 0, .int .i64 0, .slice none 0 0]) w := by
  intro w
  have h : ((Tryz.prog.info? 95).map fun i => i.zero) = some (some (.agg #[.int .i64 0, .int .i64 0, .slice none 0 0])) := by kernel_rfl
  obtain ⟨i, hi, he⟩ := Option.map_eq_some_iff.1 h
  simp [zeroValue, typeInfo, hi, he]
def leftObj (gone : List Int) (xs : List ObjD) : List ObjD := xs.filter fun x => !hasB gone x.vId
set_option maxRecDepth 100000 in
set_option maxHeartbeats 4000000 in
theorem delObj_any {w w0 : World} {lo2 P : Nat} {ga : Option Addr} {gc : Nat} {gone : List Int} {k : Value} {xs : List ObjD} {fs : List Nat} (hk : SeqOwn 3 ObjOwn w k xs fs) (hl : xs.length ≤ 1048576) (hP : w.cell? ⟨P, 0, none⟩ = some (.slice ga gone.length gc)) (hPf : P ∉ fs) (h0 : Below w0.heap.size w0 w) (hfs : ∀ b ∈ fs, w0.heap.size ≤ b) (hg : SeqAt 1 IntAt w0 lo2 (.slice ga gone.length gc) gone) :
    Calls Tryz.prog 74 #[k, .func (.func 75) #[] #[.pointer (some ⟨P, 0, none⟩)]] w fun e w' => (∃ v fs', e = .returned v ∧ SeqOwn 3 ObjOwn w' v (leftObj gone xs) fs' ∧ ∀ b ∈ fs', b ∈ fs) ∧ Out fs w w' := by
  have hat : SeqAt 3 ObjAt w 0 k xs := hk.at (ObjOwn_at (lo := 0)) (fun _ _ => Nat.zero_le _)
  have hlt0 := hk.lt ObjOwn_lt
  have hg0 : SeqAt 1 IntAt w lo2 (.slice ga gone.length gc) gone := hg.below intAt_stays h0
  have hk' : Hid (SeqOwn 3 ObjOwn w k xs fs) := hk
  obtain ⟨a, cap, rfl, hm, hx⟩ := hk
  have hm' : Hid (xs.length ≤ maxLen ∧ xs.length ≤ cap) := hm
  have hat' : Hid (SeqAt 3 ObjAt w 0 (.slice a xs.length cap) xs) := hat
  have hg' : Hid (SeqAt 1 IntAt w0 lo2 (.slice ga gone.length gc) gone) := hg
  have hg0' : Hid (SeqAt 1 IntAt w lo2 (.slice ga gone.length gc) gone) := hg0
  have hP' : Hid (w.cell? ⟨P, 0, none⟩ = some (.slice ga gone.length gc)) := hP
  have hx' : Hid _ := hx
  clear hat hm hg hg0 hP hx
  go_enter Tryz.func74, Tryz.ntmps74
  go_wp2_with fail
  refine (idxObj_any hat'.out hl hP'.out hg0'.out).mono ?_
  rintro e w1 ⟨⟨i, hi, rfl, hpi, hno⟩ | ⟨rfl, hall⟩, hb1⟩
  · rcases hx'.out with ⟨hz, _⟩ | ⟨g, off, rfl, hrow⟩
    · omega
    · obtain ⟨T, C, es, hit0⟩ := hrow.items
      have hgf : g ∈ fs := by rw [hit0.2.2.2.1]; exact List.mem_cons_self
      have hit : Hid (Items 3 ObjOwn w g off T C es xs fs) := hit0
      obtain ⟨hd0, hki⟩ := Del.start (p := fun x => hasB gone x.vId) hit0 hb1 hi hpi hno
      have hel : Hid (es.length = xs.length) := by show _ = _; have h5 := congrArg List.length hit0.1; simpa using h5
      have hd1 : Hid (Del 3 (fun x => hasB gone x.vId) w w1 g off T C es (i + 1)) := hd0
      have hki' : Hid ((kp (fun x => hasB gone x.vId) es (i + 1)).length = i) := hki
      have hgw : w0.heap.size ≤ g := hfs g hgf
      have hPg : P ≠ g := fun e => hPf (e ▸ hgf)
      clear hrow hit0 hd0 hki hpi hno hx'
      have hi' : (i : Int) < 1048577 := by omega
      have hi0 : (0 : Int) ≤ (i : Int) := by omega
      have hne1 : ((i : Int) == -1) = false := by simp <;> omega
      have hne2 : decide ((i : Int) = -1) = false := by simp <;> omega
      go_wp2_with fail
      go_loopw [5, 6] (fun wi ri wr => ∃ (j : Nat), (kp (fun x => hasB gone x.vId) es j).length < j ∧ j ≤ xs.length ∧ ri = .int .i64 j ∧ wi = .int .i64 ((kp (fun x => hasB gone x.vId) es j).length : Nat) ∧ Hid (Del 3 (fun x => hasB gone x.vId) w wr g off T C es j)) (fun _ ri _ => xs.length - (intOf ri).toNat)
      case atStart => exact ⟨i + 1, by rw [hki'.out]; omega, by omega, by go_num, by rw [hki'.out], hd1⟩
      case round =>
        obtain ⟨j, hij, hj, rfl, rfl, hd⟩ := hrel
        have hout : Hid (Out [g] w wr) := hd.out.1
        have hkl := kp_le (fun x : ObjD => hasB gone x.vId) es j
        have hel2 := hel.out
        by_cases hlt : j < xs.length
        · have hje : j < es.length := by omega
          have hCc : Hid (off + es.length * 3 ≤ C.size) := by show _ ≤ _; rw [hel.out]; exact hit.out.2.2.1
          obtain ⟨hcl, hcells, hRj⟩ := hit.out.2.2.2.2.2 j hje
          have hzc := hd.out.cells hje
          have hrm : Hid (∀ w1, Below wr.heap.size wr w1 → (∀ m, m < 3 → ∃ v, w1.cell? ⟨g, off + (kp (fun x : ObjD => hasB gone x.vId) es j).length * 3 + m, none⟩ = some v) ∧ ∀ i, w1.frozen? ⟨g, i, none⟩ = false) := fun w1 hb => hd.out.room hCc.out hb (by omega)
          have hskip : Hid (∀ w1, hasB gone es[j].2.1.vId = true → Below wr.heap.size wr w1 → Del 3 (fun x => hasB gone x.vId) w w1 g off T C es (j + 1) ∧ (kp (fun x : ObjD => hasB gone x.vId) es (j + 1)).length = (kp (fun x : ObjD => hasB gone x.vId) es j).length) := fun w1 e hb => ⟨hd.out.skip hje e hb, by rw [kp_succ _ es hje, if_pos e]⟩
          have hkeep : Hid (∀ w1, hasB gone es[j].2.1.vId = false → Below wr.heap.size wr w1 → Del 3 (fun x => hasB gone x.vId) w (putCells w1 g (off + (kp (fun x : ObjD => hasB gone x.vId) es j).length * 3) es[j].1) g off T C es (j + 1) ∧ (kp (fun x : ObjD => hasB gone x.vId) es (j + 1)).length = (kp (fun x : ObjD => hasB gone x.vId) es j).length + 1) := fun w1 e hb => hd.out.keep hje e hb hCc.out hcl
          obtain ⟨a2, c2, hcs⟩ := (ObjOwn_at (lo := 0) _ _ _ _ hRj (fun _ _ => Nat.zero_le _)).cells
          generalize es[j].1 = ec at hcs hzc hkeep hcl hcells hRj
          subst hcs
          generalize es[j].2.1 = y at *
          generalize hKL : (kp (fun x : ObjD => hasB gone x.vId) es j).length = kl at *
          have z0 := hzc 0 _ (by omega) rfl
          have z1 := hzc 1 _ (by omega) rfl
          have z2 := hzc 2 _ (by omega) rfl
          simp only [Nat.add_zero] at z0
          have hlt' : (j : Int) < (xs.length : Int) := by omega
          have hj0 : (0 : Int) ≤ (j : Int) := by omega
          have hkl0 : (0 : Int) ≤ (kl : Int) := by omega
          have hkl1 : (kl : Int) < (xs.length : Int) := by omega
          have bV : Hid (Box (wr.alloc (.cells #[.int .i64 y.vId, .int .i64 y.vNode, .slice a2 y.vFields.length c2] 95)) wr.heap.size [.int .i64 y.vId, .int .i64 y.vNode, .slice a2 y.vFields.length c2] 95) := Box.new wr _ _
          have hbV : Below wr.heap.size wr (wr.alloc (.cells #[.int .i64 y.vId, .int .i64 y.vNode, .slice a2 y.vFields.length c2] 95)) := (Below.refl _ _).alloc (Nat.le_refl _) _
          have hPV : Hid ((wr.alloc (.cells #[.int .i64 y.vId, .int .i64 y.vNode, .slice a2 y.vFields.length c2] 95)).cell? ⟨P, 0, none⟩ = some (.slice ga gone.length gc)) := cell_on hbV (by have h5 := hout.out.keep (World.block_lt_of_cell? _ _ hP'.out) (by simpa using hPg); rw [World.cell?_of_block (w := w) h5]; exact hP'.out)
          have h0r : Below w0.heap.size w0 (wr.alloc (.cells #[.int .i64 y.vId, .int .i64 y.vNode, .slice a2 y.vFields.length c2] 95)) := (h0.trans (hout.out.below h0.size (by simpa using hgw))).trans (hbV.mono (by have h5 := h0.size; have h6 := hout.out.2.2.2.1; omega))
          have hgV : Hid (SeqAt 1 IntAt (wr.alloc (.cells #[.int .i64 y.vId, .int .i64 y.vNode, .slice a2 y.vFields.length c2] 95)) lo2 (.slice ga gone.length gc) gone) := hg'.out.below intAt_stays h0r
          have y0 := bV.out.cell 0 rfl
          have y1 := bV.out.cell 1 rfl
          have y2 := bV.out.cell 2 rfl
          clear hzc hcl hcells hRj
          go_wp2_with fail
          refine (goneObj_any (x := y) hPV.out hgV.out).mono ?_
          rintro e u1 ⟨rfl, hq1⟩
          have hu1 : Hid (Below wr.heap.size wr u1) := hbV.trans (hq1.mono hbV.size)
          have bV1 : Box u1 wr.heap.size [.int .i64 y.vId, .int .i64 y.vNode, .slice a2 y.vFields.length c2] 95 := bV.out.below hq1 bV.out.lt
          clear y0 y1 y2 z0 z1 z2 hq1 hgV hPV h0r bV
          cases hv : hasB gone y.vId with
          | true =>
            obtain ⟨hdn, hkn⟩ := hskip.out u1 hv hu1.out
            have hdn' : Hid _ := hdn
            have hkn' : Hid _ := hkn
            clear hv hdn hkn
            go_wp2_with fail
            go_roundw
            case rel => exact ⟨j + 1, by rw [hkn'.out]; omega, by omega, by go_num, by rw [hkn'.out], hdn'⟩
            case measure => simp [intOf]; omega
          | false =>
            obtain ⟨hdn, hkn⟩ := hkeep.out u1 hv hu1.out
            have hdn' : Hid _ := hdn
            have hkn' : Hid _ := hkn
            obtain ⟨hrc, hrf⟩ := hrm.out u1 hu1.out
            obtain ⟨o0, r0⟩ := hrc 0 (by omega)
            obtain ⟨o1, r1⟩ := hrc 1 (by omega)
            obtain ⟨o2, r2⟩ := hrc 2 (by omega)
            simp only [Nat.add_zero] at r0
            have y0 := bV1.cell 0 rfl
            have y1 := bV1.cell 1 rfl
            have y2 := bV1.cell 2 rfl
            clear hv hdn hkn hrc
            go_wp2_with fail
            go_roundw
            case rel => exact ⟨j + 1, by rw [hkn'.out]; omega, by omega, by go_num, by rw [hkn'.out]; go_num, hdn'⟩
            case measure => simp [intOf]; omega
        · obtain rfl : j = xs.length := by omega
          have hdx : Hid (Del 3 (fun x => hasB gone x.vId) w wr g off T C es es.length) := by show Del _ _ _ _ _ _ _ _ _ _; rw [hel.out]; exact hd.out
          have hCc : off + es.length * 3 ≤ C.size := by rw [hel.out]; exact hit.out.2.2.1
          generalize hKL : (kp (fun x : ObjD => hasB gone x.vId) es xs.length).length = kl at *
          have hKL' : Hid ((kp (fun x : ObjD => hasB gone x.vId) es es.length).length = kl) := by show _ = _; rw [hel.out]; exact hKL
          obtain ⟨ho_, C2, hC2, hs2, _, _⟩ := hd.out
          have hT2 : T = 95 ∨ True := Or.inr trivial
          have hcellE : ∀ z, z < (xs.length - kl) * 3 → (wr.cell? ⟨g, off + kl * 3 + z, none⟩).isSome = true := fun z hz => by
            rw [blk_cell hC2]
            have h7 : kl * 3 + (xs.length - kl) * 3 = xs.length * 3 := by rw [← Nat.add_mul]; congr 1; omega
            rw [Array.getElem?_eq_getElem (by rw [hs2]; have := hit.out.2.2.1; omega)]
            rfl
          have hfr : ∀ z, wr.frozen? ⟨g, z, none⟩ = false := fun z => blk_unfrozen hC2 z
          have hpos : 0 < xs.length - kl := by omega
          obtain ⟨vs, hvl, hrun⟩ := run_clear_rows (P := Tryz.prog) wr 29 95 _ 3 Tryz.underlying29 zeroObjD rfl (by intro v hv; simp [Value.cells] at hv; rcases hv with rfl | rfl <;> rfl) g (off + kl * 3) (xs.length - kl) (cap - kl) hpos hcellE hfr
          have hbd : off + kl * 3 + vs.length ≤ C2.size := by
            have h7 : kl * 3 + (xs.length - kl) * 3 = xs.length * 3 := by rw [← Nat.add_mul]; congr 1; omega
            have := hit.out.2.2.1
            omega
          obtain ⟨C1, g1, g2, g3, g4⟩ := putCells_block vs wr g (off + kl * 3) C2 T hC2 hbd
          have hfinal := Del.done ObjOwn_stays ObjOwn_lt hit.out hdx.out hm'.out.1 hm'.out.2 (out_put (vs := vs) (o := off + kl * 3)) g1 (by omega) (fun C3 e m hm => by
            rw [hC2] at e
            injection e with e
            injection e with e
            subst e
            rw [hKL'.out] at hm
            exact g3 m (Or.inl hm))
          have hfin : Hid _ := hfinal
          have hrun' : Hid _ := hrun
          have hkl1 : (kl : Int) ≤ (xs.length : Int) := by omega
          have hkl0 : (0 : Int) ≤ (kl : Int) := by omega
          have hkn : kl ≤ xs.length := by omega
          have hkc : kl ≤ cap := by have := hm'.out.2; omega
          have hcapn : xs.length ≤ cap := hm'.out.2
          clear hfinal hrun g1 g2 g3 g4 hcellE hfr hbd hvl hC2 hs2 ho_ hdx
          have hr0 := hrun'.out 0
          go_wp2_with fail
          go_ret
          obtain ⟨q1, fs', q2, q3⟩ := hfin.out
          rw [hKL'.out] at q1
          rw [← q1] at q2
          exact ⟨⟨_, fs', rfl, q2, q3⟩, Out.mono (Out.trans hout.out out_put) (fun b qq => by simp at qq; rw [qq]; exact hgf)⟩
  · have hres : Hid (leftObj gone xs = xs) := by
      show leftObj gone xs = xs
      unfold leftObj
      rw [List.filter_eq_self]
      intro x hx
      obtain ⟨m, hm, rfl⟩ := List.getElem_of_mem hx
      simp [hall m hm]
    clear hall
    go_wp2_with fail
    go_ret
    exact ⟨⟨_, fs, rfl, by rw [hres.out]; exact hk'.out.stays ObjOwn_stays (fun b qq => hb1.block b (hlt0 b qq)), fun b qq => qq⟩, Out.of_below hb1⟩
end Go.Proofs.YtnonfehmbabfhaaGreat
