/- Rows of trees that a call has made, cell by cell: what is cut out of them, and how they lie. -/
import Derived.Test.YtndffcogddefiaaEdRec
import Derived.Test.YtndffcogddefiaaCopyImpl
import Derived.Test.YtndffcogddefiaaAppendRows
import Derived.Deep.AppendSrc
import Derived.Deep.RegionLaw
import Derived.Deep.Upon
import Derived.Lib.SlBuf
namespace Go.Proofs.Ytndffcogddefiaa
open Go.RowKit
theorem TreeAt.mono {n m : Nat} (h : n ≤ m) {w : World} {lo : Nat} {t k : Value} {d : TD} (q : TreeAt w lo n t k d) : TreeAt w lo m t k d := by
  induction h with
  | refl => exact q
  | step _ ih => exact TreeAt.more _ _ _ _ ih
/-- a row of trees lies in a block of these -/
def RowS (R : Value → Value → TD → Prop) (w : World) (S : Nat → Prop) (k : Value) (ds : List TD) : Prop :=
  ∃ a cap, k = .slice a ds.length cap ∧ ds.length ≤ maxLen ∧ (0 < ds.length → ∃ b off, a = some ⟨b, off, none⟩ ∧ S b ∧ b < w.heap.size ∧
    ∀ i, i < ds.length → ∃ t' k', w.cell? ⟨b, off + i * 2, none⟩ = some t' ∧ w.cell? ⟨b, off + i * 2 + 1, none⟩ = some k' ∧ R t' k' (nth ds i))
/-- a tree lies in memory, all its rows in blocks of these -/
def TreeS (w : World) (S : Nat → Prop) : Nat → Value → Value → TD → Prop
  | 0, _, _, _ => False
  | n + 1, t, k, d => (∃ s : ByteArray, t = .string s ∧ s.size ≤ maxLen ∧ tagOf d = s.data.toList) ∧ RowS (TreeS w S n) w S k (kidsOf d)
theorem RowS.mono {R Q : Value → Value → TD → Prop} {w w' : World} {S S' : Nat → Prop} {k : Value} {ds : List TD} (h : RowS R w S k ds) (hsz : w.heap.size ≤ w'.heap.size) (hS : ∀ b, S b → b < w.heap.size → S' b ∧ w'.heap[b]? = w.heap[b]?) (hR : ∀ t k d, R t k d → Q t k d) : RowS Q w' S' k ds := by
  obtain ⟨a, cap, hk, hm, hx⟩ := h
  refine ⟨a, cap, hk, hm, fun h0 => ?_⟩
  obtain ⟨b, off, ha, h1, h2, hc⟩ := hx h0
  refine ⟨b, off, ha, (hS b h1 h2).1, by omega, fun i hi => ?_⟩
  obtain ⟨t', k', c1, c2, r⟩ := hc i hi
  refine ⟨t', k', ?_, ?_, hR _ _ _ r⟩
  · rw [World.cell?_of_block (w := w) (w' := w') (hS b h1 h2).2]; exact c1
  · rw [World.cell?_of_block (w := w) (w' := w') (hS b h1 h2).2]; exact c2
theorem TreeS.keep {w w' : World} {S S' : Nat → Prop} (hsz : w.heap.size ≤ w'.heap.size) (hS : ∀ b, S b → b < w.heap.size → S' b ∧ w'.heap[b]? = w.heap[b]?) :
    ∀ (n : Nat) (t k : Value) (d : TD), TreeS w S n t k d → TreeS w' S' n t k d := by
  intro n
  induction n with
  | zero => intro t k d h; exact h
  | succ n ih => intro t k d h; exact ⟨h.1, h.2.mono hsz hS ih⟩
theorem TreeS.at {w : World} {S : Nat → Prop} : ∀ (n : Nat) {t k : Value} {d : TD}, TreeS w S n t k d → TreeAt w 0 n t k d := by
  intro n
  induction n with
  | zero => intro t k d h; exact h
  | succ n ih =>
    intro t k d h
    obtain ⟨h1, a, cap, hk, hm, hx⟩ := h
    refine ⟨h1, a, cap, hk, hm, fun h0 => ?_⟩
    obtain ⟨b, off, ha, q1, q2, hc⟩ := hx h0
    exact ⟨b, off, ha, Nat.zero_le _, q2, fun i hi => by obtain ⟨t', k', c1, c2, r⟩ := hc i hi; exact ⟨t', k', c1, c2, ih r⟩⟩
theorem TreeS.of {w : World} : ∀ (n : Nat) {lo : Nat} {t k : Value} {d : TD}, TreeAt w lo n t k d → TreeS w (· < w.heap.size) n t k d := by
  intro n
  induction n with
  | zero => intro lo t k d h; exact h
  | succ n ih =>
    intro lo t k d h
    obtain ⟨h1, a, cap, hk, hm, hx⟩ := h
    refine ⟨h1, a, cap, hk, hm, fun h0 => ?_⟩
    obtain ⟨b, off, ha, q1, q2, hc⟩ := hx h0
    exact ⟨b, off, ha, q2, q2, fun i hi => by obtain ⟨t', k', c1, c2, r⟩ := hc i hi; exact ⟨t', k', c1, c2, ih r⟩⟩
theorem TreeS.more {w : World} {S : Nat → Prop} : ∀ (n : Nat) (t k : Value) (d : TD), TreeS w S n t k d → TreeS w S (n + 1) t k d := by
  intro n
  induction n with
  | zero => intro t k d h; exact h.elim
  | succ n ih => intro t k d h; exact ⟨h.1, h.2.mono (Nat.le_refl _) (fun b hb _ => ⟨hb, rfl⟩) ih⟩
theorem TreeS.mono {n m : Nat} (h : n ≤ m) {w : World} {S : Nat → Prop} {t k : Value} {d : TD} (q : TreeS w S n t k d) : TreeS w S m t k d := by
  induction h with
  | refl => exact q
  | step _ ih => exact TreeS.more _ _ _ _ ih
/-- a kid's cells -/
def KidS (w : World) (S : Nat → Prop) (n : Nat) (cs : List Value) (D : TD) : Prop := ∃ t k, cs = [t, k] ∧ TreeS w S n t k D
/-- kids' cells, each as it lies in an elder world -/
def KidsC (w : World) (S : Nat → Prop) (n : Nat) (css : List (List Value)) (ds : List TD) : Prop := css.length = ds.length ∧ (∀ cs ∈ css, cs.length = 2) ∧ ∀ i, (h : i < ds.length) → (h1 : i < css.length) → KidS w S n css[i] ds[i]
theorem KidS.one {w : World} {S : Nat → Prop} {n : Nat} {cs : List Value} {D : TD} (h : KidS w S n cs D) : ∀ u ∈ cs, u.oneCell' = true := by
  obtain ⟨t, k, rfl, r0⟩ := h
  have r := r0.at
  obtain ⟨rfl, _⟩ := r.tag
  obtain ⟨_, a2, cap2, rfl⟩ := r.form
  intro u hu
  simp at hu
  rcases hu with rfl | rfl <;> rfl
theorem KidsC.one {w : World} {S : Nat → Prop} {n : Nat} {css : List (List Value)} {ds : List TD} (h : KidsC w S n css ds) : ∀ cs ∈ css, ∀ u ∈ cs, u.oneCell' = true := by
  intro cs hcs
  obtain ⟨i, hi, rfl⟩ := List.mem_iff_getElem.1 hcs
  exact (h.2.2 i (by have := h.1; omega) hi).one
theorem KidsC.take {w : World} {S : Nat → Prop} {n : Nat} {css : List (List Value)} {ds : List TD} (h : KidsC w S n css ds) (k : Nat) : KidsC w S n (css.take k) (ds.take k) := by
  obtain ⟨h1, h2, h3⟩ := h
  refine ⟨by simp [h1], fun cs hc => h2 cs (List.mem_of_mem_take hc), fun i hi hi2 => ?_⟩
  simp only [List.getElem_take]
  exact h3 i (by simp at hi; omega) (by simp at hi2; omega)
theorem KidsC.drop {w : World} {S : Nat → Prop} {n : Nat} {css : List (List Value)} {ds : List TD} (h : KidsC w S n css ds) (k : Nat) : KidsC w S n (css.drop k) (ds.drop k) := by
  obtain ⟨h1, h2, h3⟩ := h
  refine ⟨by simp [h1], fun cs hc => h2 cs (List.mem_of_mem_drop hc), fun i hi hi2 => ?_⟩
  simp only [List.getElem_drop]
  exact h3 (k + i) (by simp at hi; omega) (by simp at hi2; omega)
theorem KidsC.app {w : World} {S : Nat → Prop} {n : Nat} {css css2 : List (List Value)} {ds ds2 : List TD} (h : KidsC w S n css ds) (q : KidsC w S n css2 ds2) : KidsC w S n (css ++ css2) (ds ++ ds2) := by
  obtain ⟨h1, h2, h3⟩ := h
  obtain ⟨q1, q2, q3⟩ := q
  refine ⟨by simp [h1, q1], fun cs hc => ?_, fun i hi hi2 => ?_⟩
  · rcases List.mem_append.1 hc with r | r
    · exact h2 cs r
    · exact q2 cs r
  · by_cases hl : i < ds.length
    · rw [List.getElem_append_left (by omega), List.getElem_append_left hl]; exact h3 i hl (by omega)
    · have e : (css ++ css2)[i] = css2[i - css.length]'(by simp at hi2; omega) := List.getElem_append_right (by omega)
      have e2 : (ds ++ ds2)[i] = ds2[i - ds.length]'(by simp at hi; omega) := List.getElem_append_right (by omega)
      rw [e, e2]
      have e3 : css2[i - css.length]'(by simp at hi2; omega) = css2[i - ds.length]'(by simp at hi; omega) := by congr 1; omega
      rw [e3]
      exact q3 _ (by simp at hi; omega) _
theorem KidsC.mono {w : World} {S : Nat → Prop} {n m : Nat} (hnm : n ≤ m) {css : List (List Value)} {ds : List TD} (h : KidsC w S n css ds) : KidsC w S m css ds :=
  ⟨h.1, h.2.1, fun i hi hi2 => by obtain ⟨t, k, e, r⟩ := h.2.2 i hi hi2; exact ⟨t, k, e, r.mono hnm⟩⟩
theorem KidsC.keep {w w' : World} {S S' : Nat → Prop} {n : Nat} {css : List (List Value)} {ds : List TD} (h : KidsC w S n css ds) (hsz : w.heap.size ≤ w'.heap.size) (hb : ∀ b, S b → b < w.heap.size → S' b ∧ w'.heap[b]? = w.heap[b]?) : KidsC w' S' n css ds :=
  ⟨h.1, h.2.1, fun i hi hi2 => by obtain ⟨t, k, e, r⟩ := h.2.2 i hi hi2; exact ⟨t, k, e, TreeS.keep hsz hb _ _ _ _ r⟩⟩
theorem KidsC.set {w : World} {S : Nat → Prop} {n : Nat} {css : List (List Value)} {ds : List TD} (h : KidsC w S n css ds) (j : Nat) {t k : Value} {D : TD} (hD : TreeS w S n t k D) : KidsC w S n (css.set j [t, k]) (ds.set j D) := by
  obtain ⟨h1, h2, h3⟩ := h
  refine ⟨by simp [h1], fun cs hc => ?_, fun i hi hi2 => ?_⟩
  · rcases List.mem_or_eq_of_mem_set hc with r | r
    · exact h2 cs r
    · rw [r]; rfl
  · simp only [List.length_set] at hi hi2
    by_cases e : j = i
    · subst e
      simp only [List.getElem_set_self]
      exact ⟨t, k, rfl, hD⟩
    · simp only [List.getElem_set_ne e]
      exact h3 i hi hi2
/-- these cells lie in a block, from there on -/
def CellsAt (w : World) (g o : Nat) (css : List (List Value)) : Prop := ∀ j u, css.flatten[j]? = some u → w.cell? ⟨g, o + j, none⟩ = some u
theorem add_lit (g o j : Nat) : (⟨g, o, none⟩ : Addr).add j = ⟨g, o + j, none⟩ := by unfold Addr.add; split <;> simp_all
theorem row_s {w : World} {S : Nat → Prop} {n g o c : Nat} {css : List (List Value)} {ds : List TD} (hk : KidsC w S n css ds) (hc : CellsAt w g o css) (hg : 0 < ds.length → S g ∧ g < w.heap.size) (hl : ds.length ≤ maxLen) : RowS (TreeS w S n) w S (.slice (some ⟨g, o, none⟩) ds.length c) ds := by
  obtain ⟨h1, h2, h3⟩ := hk
  refine ⟨_, _, rfl, hl, fun h0 => ⟨g, o, rfl, (hg h0).1, (hg h0).2, fun i hi => ?_⟩⟩
  obtain ⟨t, k, e, r⟩ := h3 i hi (by omega)
  have f0 : css.flatten[i * 2 + 0]? = css[i][0]? := css_get h2 (by omega) (by omega)
  have f1 : css.flatten[i * 2 + 1]? = css[i][1]? := css_get h2 (by omega) (by omega)
  rw [e] at f0 f1
  have e3 : nth ds i = ds[i] := by simp [nth, List.getD, List.getElem?_eq_getElem hi]
  refine ⟨t, k, hc _ _ f0, ?_, by rw [e3]; exact r⟩
  have := hc _ _ f1
  rwa [← Nat.add_assoc] at this
/-- a row that a call has made: its cells, unfrozen, its spare ones too -/
def RowK (base : Nat) (w : World) (g cap : Nat) (css : List (List Value)) : Prop := w.ownsRow base 26 2 (.slice (some ⟨g, 0, none⟩) css.length cap) css.length css.flatten
theorem RowK.parts {base : Nat} {w : World} {g cap : Nat} {css : List (List Value)} (h : RowK base w g cap css) : base ≤ g ∧ g < w.heap.size ∧ css.length ≤ cap ∧ cap ≤ maxLen ∧ CellsAt w g 0 css ∧ (∀ j, j < cap * 2 → (w.cell? ⟨g, j, none⟩).isSome = true ∧ w.frozen? ⟨g, j, none⟩ = false) := by
  rcases h.2 with ⟨q, _⟩ | ⟨g', cap', cur, q, h1, h2, h3, h4, h5, h6⟩
  · cases q
  · injection q with q1 _ q3
    injection q1 with q1
    injection q1 with q1
    subst q1 q3
    refine ⟨h1, (Array.getElem?_eq_some_iff.1 h2).1, h3, h4, fun j u hu => ?_, fun j hj => ⟨?_, ?_⟩⟩
    · rw [← h6, List.getElem?_take] at hu
      split at hu
      · have h9 : cur[j]? = some u := by simpa using hu
        rw [Nat.zero_add]
        simp [World.cell?, h2, h9]
      · cases hu
    · have : j < cur.size := by omega
      simp [World.cell?, h2, this]
    · exact blk_unfrozen h2 j
theorem RowK.keep {base : Nat} {w w' : World} {g cap : Nat} {css : List (List Value)} (h : RowK base w g cap css) (hb : w'.heap[g]? = w.heap[g]?) : RowK base w' g cap css := by
  refine ⟨h.1, ?_⟩
  rcases h.2 with ⟨q, _⟩ | ⟨g', cap', cur, q, h1, h2, h3⟩
  · cases q
  · have q' := q
    injection q' with q1 _ _
    injection q1 with q1
    injection q1 with q1
    exact Or.inr ⟨g', cap', cur, q, h1, by rw [← q1, hb, q1]; exact h2, h3⟩
theorem RowK.empty {base : Nat} {w : World} {g : Nat} (h : Box w g [] 26) (hg : base ≤ g) : RowK base w g 0 [] :=
  ⟨rfl, Or.inr ⟨g, 0, #[], rfl, hg, h, Nat.le_refl _, Nat.zero_le _, rfl, rfl⟩⟩
theorem CellsAt.take {w : World} {g o : Nat} {css : List (List Value)} (h : CellsAt w g o css) (k : Nat) : CellsAt w g o (css.take k) := by
  intro j u hu
  refine h j u ?_
  have e : css.flatten = (css.take k).flatten ++ (css.drop k).flatten := by rw [← List.flatten_append, List.take_append_drop]
  rw [e, List.getElem?_append_left (List.getElem?_eq_some_iff.1 hu).1]; exact hu
theorem CellsAt.drop {w : World} {g o : Nat} {css : List (List Value)} (h : CellsAt w g o css) (hl : ∀ cs ∈ css, cs.length = 2) {k : Nat} (hk : k ≤ css.length) : CellsAt w g (o + k * 2) (css.drop k) := by
  intro j u hu
  have e : css.flatten = (css.take k).flatten ++ (css.drop k).flatten := by rw [← List.flatten_append, List.take_append_drop]
  have e2 : (css.take k).flatten.length = k * 2 := by rw [css_len (fun cs hc => hl cs (List.mem_of_mem_take hc)), List.length_take, Nat.min_eq_left hk]
  have := h (k * 2 + j) u (by rw [e, List.getElem?_append_right (by omega), e2, Nat.add_sub_cancel_left]; exact hu)
  rwa [← Nat.add_assoc] at this
theorem CellsAt.keep {w w' : World} {g o : Nat} {css : List (List Value)} (h : CellsAt w g o css) (hb : w'.heap[g]? = w.heap[g]?) : CellsAt w' g o css := fun j u hu => by
  rw [World.cell?_of_block (w := w) (w' := w') hb]; exact h j u hu
/-- a piece of a row, as the source of an append -/
theorem css_src {w0 w : World} {S : Nat → Prop} {n g o : Nat} {css : List (List Value)} {ds : List TD} (hk : KidsC w0 S n css ds) (hc : CellsAt w g o css) : CssAt 2 (fun _ _ cs x => KidS w0 S n cs x) w 0 (some ⟨g, o, none⟩) ds css :=
  ⟨hk.1, hk.2.1, fun i hi hi' => hk.2.2 i hi' hi, fun e => (by cases e), fun ad e j u hu => (by injection e with e; subst e; rw [add_lit]; exact hc j u hu)⟩
theorem sl_to_row (g n cap k : Nat) (h : k ≤ cap) (w : World) : (Instr.slice 24 (.slice (some ⟨g, 0, none⟩) n cap) none (some (.int .i64 (k : Int))) none).run Try.prog w = .ok (.slice (some ⟨g, 0, none⟩) k cap) w := by
  have h1 : (0 : Int) ≤ (k : Int) := by omega
  have h2 : (k : Int) ≤ (cap : Int) := by omega
  simp [go_sem, Try.underlying24, h1, h2]
theorem sl_from_row (g n cap k : Nat) (h : k ≤ n) (hn : n ≤ cap) : ∃ o' c', (∀ w : World, (Instr.slice 24 (.slice (some ⟨g, 0, none⟩) n cap) (some (.int .i64 (k : Int))) none none).run Try.prog w = .ok (.slice (some ⟨g, o', none⟩) (n - k) c') w) ∧ (0 < n - k → o' = 0 + k * 2) := by
  have h1 : (0 : Int) ≤ (k : Int) := by omega
  have h2 : (k : Int) ≤ (n : Int) := by omega
  by_cases e : k = cap
  · refine ⟨0, 0, fun w => ?_, fun q => by omega⟩
    have en : n = cap := by omega
    subst e en
    simp [go_sem, Try.underlying24, h1]
  · refine ⟨0 + k * 2, cap - k, fun w => ?_, fun _ => rfl⟩
    simp [go_sem, Try.underlying24, h1, h2]
    intro q; omega
theorem step_append_rows {α : Type} {P : Program} {w : World} {ops : Array Oper} {o : Oper} {a : Act} {K : Act → World → Prop} {Q : Exit → Act → World → Prop} {E : Prop} {c : Nat} {R : World → Nat → List Value → α → Prop} (hgd : o.guard = none) (s x : Operand) (t : TypeId)
    (ho : o.op = .call { callee := .builtin .append, args := #[s, x], argTypes := #[t, t] }) (base lo : Nat) (e : TypeId) (i : TypeInfo) (z : Value) (bytes : Nat) (ht : P.underlying t = some (.slice e)) (hi : P.info? e = some i) (hz : i.zero = some z) (hsize : i.size = c) (hby : i.bytes = bytes) (hzs : z.cells.size = c) (hc : 0 < c)
    (v : Value) (n : Nat) (ys : List Value) (hs : a.eval s = v) (hv : v ≠ .slice none 0 0) (hown : w.ownsRow base e c v n ys) (ka : Option Addr) (kc : Nat) (xs : List α) (css : List (List Value)) (hx : a.eval x = .slice ka xs.length kc) (hk : CssAt c R w lo ka xs css) (hone : ∀ cs ∈ css, ∀ u ∈ cs, u.oneCell' = true) (hl : n + xs.length ≤ maxLen) (hbytes : (n + xs.length) * bytes ≤ 140737488355328) (hbase : base ≤ w.heap.size)
    (h : ∀ v' w', w'.ownsRow base e c v' (n + xs.length) (ys ++ css.flatten) → w.grownBy w' v.ownBlock → v' ≠ .slice none 0 0 → (v'.ownBlock = v.ownBlock ∨ v'.ownBlock = some w.heap.size) → K (a.put o.dst v') w') : if Region.wanted o (yielded ops a.tmps) = true then Oper.wp P o a w K Q else E := by
  have hw : Region.wanted o (yielded ops a.tmps) = true := by simp [Region.wanted, hgd]
  rw [if_pos hw]
  obtain ⟨k1, k2, k3, k4, k5⟩ := hk
  cases ka with
  | none =>
    have hks := k4 rfl
    subst hks
    have hcs : css = [] := List.eq_nil_of_length_eq_zero (by simpa using k1)
    subst hcs
    have hown' := hown
    rcases hown.2 with ⟨q, _⟩ | ⟨g, cap, cur, rfl, hg, hh, q1, q2, q3, q4⟩
    · exact absurd q hv
    · have hsrc : Src P i.size t (.slice none 0 kc) 0 [] w := Src.ofNil w ht kc
      have hrun := run_append_room_src (P := P) w t t o.type e i ht hi g 0 n cap (.slice none 0 kc) 0 [] hsrc (by omega) (by simp) (by simp)
      have hset : w.setCells g (0 + n * i.size) [] = w := rfl
      rw [hset] at hrun
      unfold Oper.wp
      simp only [List.length_nil] at hx
      simp [execOp, ho, resolve, invoke, builtin, hs, hx, hrun, Result.andThen]
      exact h _ w (by simpa using hown') ⟨rfl, rfl, rfl, Nat.le_refl _, fun _ _ _ => rfl⟩ (by simp) (Or.inl rfl)
  | some ad =>
    obtain ⟨v', w', hr, h1, h2, h3, h4⟩ := run_append_own_at (P := P) w base t o.type e i z c bytes ht hi hz hsize hby hzs hc v n ys hown ad xs.length kc css.flatten (by rw [css_len k2, k1]) (k5 ad rfl) (fun u hu => by obtain ⟨cs, hcs, hu2⟩ := List.mem_flatten.1 hu; exact hone cs hcs u hu2) hl hbytes hbase
    unfold Oper.wp execOp
    simp only [ho, resolve, invoke, builtin, Sem.run_bind, Sem.run_pure, Result.andThen_ok, List.map_toArray, List.map_cons, List.map_nil, hs, hx, hr]
    exact h v' w' h1 h2 (fun q => hv (h3.1 q).1) h4
theorem RowK.of {base : Nat} {w : World} {v : Value} {n : Nat} {css : List (List Value)} (h : w.ownsRow base 26 2 v n css.flatten) (hv : v ≠ .slice none 0 0) (hn : n = css.length) : ∃ g cap, v = .slice (some ⟨g, 0, none⟩) n cap ∧ RowK base w g cap css := by
  rcases h.2 with ⟨q, _⟩ | ⟨g, cap, cur, q, _⟩
  · exact absurd q hv
  · refine ⟨g, cap, q, ?_⟩
    rw [q, hn] at h
    exact h
theorem KidsC.single {w : World} {S : Nat → Prop} {n : Nat} {t k : Value} {D : TD} (h : TreeS w S n t k D) : KidsC w S n [[t, k]] [D] :=
  ⟨rfl, by simp, fun i hi hi2 => by
    have e : i = 0 := by simp at hi; omega
    subst e
    exact ⟨t, k, rfl, h⟩⟩
theorem KidsC.low {w w' : World} {S S' : Nat → Prop} {n : Nat} {css : List (List Value)} {ds : List TD} (h : KidsC w S n css ds) (hsz : w.heap.size ≤ w'.heap.size) (hb : ∀ b, S b → b < w.heap.size → S' b ∧ w'.heap[b]? = w.heap[b]?) (hl : ds.length ≤ maxLen) {g o c : Nat} (hc : CellsAt w' g o css) (hg : 0 < ds.length → S' g ∧ g < w'.heap.size) {s : ByteArray} (hs : s.size ≤ maxLen) : TreeS w' S' (n + 1) (.string s) (.slice (some ⟨g, o, none⟩) ds.length c) (mkT s ds) :=
  ⟨⟨s, rfl, hs, rfl⟩, row_s (h.keep hsz hb) hc hg hl⟩
/-- a row out of which one was taken, in its place -/
theorem cells_cut {w : World} {g j : Nat} {css : List (List Value)} (h : CellsAt w g 0 css) (hl : ∀ cs ∈ css, cs.length = 2) (hj : j < css.length) : CellsAt (w.setCells g (0 + j * 2) (css.drop (j + 1)).flatten) g 0 (css.take j ++ css.drop (j + 1)) := by
  have e2 : (css.take j).flatten.length = j * 2 := by rw [css_len (fun cs hc => hl cs (List.mem_of_mem_take hc)), List.length_take, Nat.min_eq_left (by omega)]
  have e3 : (css.drop (j + 1)).flatten.length = (css.length - (j + 1)) * 2 := by rw [css_len (fun cs hc => hl cs (List.mem_of_mem_drop hc)), List.length_drop]
  have e4 : css.flatten.length = css.length * 2 := css_len hl
  intro i u hu
  rw [List.flatten_append] at hu
  by_cases hi : i < j * 2
  · rw [List.getElem?_append_left (by omega)] at hu
    rw [World.cell?_setCells_out g _ _ w ⟨g, 0 + i, none⟩ (fun _ _ => Or.inl (by simp; omega))]
    exact h.take j i u hu
  · rw [List.getElem?_append_right (by omega), e2] at hu
    have hlt := (List.getElem?_eq_some_iff.1 hu).1
    have q := World.cell?_setCells_in g (css.drop (j + 1)).flatten (0 + j * 2) w (fun k hk => by
      have hk2 : 0 + j * 2 + k < css.flatten.length := by omega
      have := h (0 + j * 2 + k) _ (List.getElem?_eq_getElem hk2)
      rw [Nat.zero_add] at this
      rw [this]; rfl) (i - j * 2) hlt
    rw [show 0 + j * 2 + (i - j * 2) = 0 + i by omega] at q
    rw [q]
    rw [List.getElem?_eq_getElem hlt] at hu
    exact hu
theorem setCells_putc : ∀ (vs : List Value) (w : World) (g o : Nat), w.setCells g o vs = putCells w g o vs := by
  intro vs
  induction vs with
  | nil => intro w g o; rfl
  | cons v vs ih => intro w g o; exact ih _ _ _
theorem set_cells_size (g : Nat) : ∀ (vs : List Value) (o : Nat) (w : World), (w.setCells g o vs).heap.size = w.heap.size := by
  intro vs o w
  rw [setCells_putc]; exact putCells_size vs w g o
/-- a row in which one was put in the place of another one -/
theorem cells_set {w : World} {g j : Nat} {css : List (List Value)} {t1 k1 : Value} (h : CellsAt w g 0 css) (hl : ∀ cs ∈ css, cs.length = 2) (hj : j < css.length) : CellsAt (putCells w g (j * 2) [t1, k1]) g 0 (css.set j [t1, k1]) := by
  have hl2 : ∀ cs ∈ css.set j [t1, k1], cs.length = 2 := fun cs hc => by
    rcases List.mem_or_eq_of_mem_set hc with r | r
    · exact hl cs r
    · rw [r]; rfl
  intro i u hu
  have hi : i < (css.set j [t1, k1]).length * 2 := by rw [← css_len hl2]; exact (List.getElem?_eq_some_iff.1 hu).1
  rw [List.length_set] at hi
  have hid : i / 2 < css.length := by omega
  have him : i / 2 * 2 + i % 2 = i := by omega
  have ex : ∀ m, m < css.length * 2 → (w.cell? ⟨g, m, none⟩).isSome = true := fun m hm => by
    have := h m _ (List.getElem?_eq_getElem (by rw [css_len hl]; exact hm))
    rw [Nat.zero_add] at this
    rw [this]; rfl
  rw [← him, css_get hl2 (by rw [List.length_set]; exact hid) (by omega)] at hu
  rw [← setCells_putc]
  by_cases e : j = i / 2
  · subst e
    simp only [List.getElem_set_self] at hu
    have q := World.cell?_setCells_in g [t1, k1] (i / 2 * 2) w (fun m hm => ex _ (by simp at hm; omega)) (i % 2) (by simp; omega)
    rw [him] at q
    rw [Nat.zero_add, q]
    rw [List.getElem?_eq_getElem (by simp; omega)] at hu
    exact hu
  · simp only [List.getElem_set_ne e] at hu
    rw [World.cell?_setCells_out g _ _ w ⟨g, 0 + i, none⟩ (fun _ _ => by simp; omega)]
    have := h i u (by rw [← him, css_get hl hid (by omega)]; exact hu)
    exact this
theorem sl_from_int (b o n cap : Nat) (h : 1 ≤ n) (hn : n ≤ cap) : ∃ o' c', (∀ w : World, (Instr.slice 27 (.slice (some ⟨b, o, none⟩) n cap) (some (.int .i64 1)) none none).run Try.prog w = .ok (.slice (some ⟨b, o', none⟩) (n - 1) c') w) ∧ (0 < n - 1 → o' = o + 1) ∧ n - 1 ≤ c' := by
  have h2 : (1 : Int) ≤ (n : Int) := by omega
  by_cases e : cap = 1
  · refine ⟨o, 0, fun w => ?_, fun q => by omega, by omega⟩
    have en : n = 1 := by omega
    subst e en
    simp [go_sem, Try.underlying27]
  · refine ⟨o + 1, cap - 1, fun w => ?_, fun _ => rfl, by omega⟩
    simp [go_sem, Try.underlying27, h2, e]
/-- what is left of a path behind its first step -/
theorem path_tail {w : World} {b o cap : Nat} {p : Int} {ps path : List Int} (hp : path = p :: ps) (h : SeqAt 1 IntAt w 0 (.slice (some ⟨b, o, none⟩) path.length cap) path) : ∃ o' c', (∀ W : World, (Instr.slice 27 (.slice (some ⟨b, o, none⟩) path.length cap) (some (.int .i64 1)) none none).run Try.prog W = .ok (.slice (some ⟨b, o', none⟩) ps.length c') W) ∧ SeqAt 1 IntAt w 0 (.slice (some ⟨b, o', none⟩) ps.length c') ps := by
  obtain ⟨a', c, e, hm, hx⟩ := h
  injection e with e1 _ e3
  subst e1 e3
  have hl : path.length - 1 = ps.length := by rw [hp]; rfl
  obtain ⟨o', c', q1, q2, q3⟩ := sl_from_int b o path.length cap (by rw [hp]; simp) hm.2
  rw [hl] at q1 q2 q3
  refine ⟨o', c', q1, _, _, rfl, ⟨by omega, q3⟩, fun h0 => ?_⟩
  obtain ⟨b', off, e, h1, h2, hc⟩ := hx (by rw [hp]; simp)
  injection e with e
  injection e with e1 e2
  subst e1 e2
  refine ⟨b, o', rfl, h1, h2, fun i hi => ?_⟩
  obtain ⟨cs, l1, lie, hr⟩ := hc (i + 1) (by rw [hp]; simp; omega)
  refine ⟨cs, l1, ?_, ?_⟩
  · rw [q2 h0]
    have e5 : o + 1 + i * 1 = o + (i + 1) * 1 := by omega
    rw [e5]; exact lie
  · have e6 : path[i + 1]'(by rw [hp]; simp; omega) = ps[i] := by simp [hp]
    rw [← e6]; exact hr
end Go.Proofs.Ytndffcogddefiaa
