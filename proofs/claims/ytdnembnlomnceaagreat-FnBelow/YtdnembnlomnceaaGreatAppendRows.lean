/- A whole row of records appended onto a row that the call owns. -/
import Derived.Test.YtdnembnlomnceaaGreatSeq
import Derived.Deep.AppendSrc
import Derived.Laws.AppendOwn
import Derived.WalkKit
import Derived.MapKept
import Derived.Test.YtdnembnlomnceaaGreatOwnRows
import Derived.Maps.AppendAt
namespace Go.Proofs.YtdnembnlomnceaaGreat
open Go.RowKit
theorem wpList_append_ints {P : Program} {w : World} {ops : Array Oper} {rest : List Oper} {o : Oper} {a : Act} {Q : Exit → Act → World → Prop} (hgd : o.guard = none) (s x : Operand) (t : TypeId)
 (ho : o.op = .call { callee := .builtin .append, args := #[s, x], argTypes := #[t, t] }) (base lo : Nat) (e : TypeId) (i : TypeInfo) (ht : P.underlying t = some (.slice e)) (hi : P.info? e = some i) (hz : i.zero = some (.int .i64 0)) (hsize : i.size = 1) (hby : i.bytes = 8)
 (v : Value) (n : Nat) (xs : List Value) (hs : a.eval s = v) (hv : v ≠ .slice none 0 0) (hown : w.ownsRow base e 1 v n xs) (k : Value) (ks : List Int) (hx : a.eval x = k) (hk : SeqAt 1 IntAt w lo k ks) (hl : n + ks.length ≤ 1099511627776) (hbase : base ≤ w.heap.size)
 (h : ∀ v' w', w'.ownsRow base e 1 v' (n + ks.length) (xs ++ ks.map fun n => .int .i64 n) → w.grownBy w' v.ownBlock → v' ≠ .slice none 0 0 → wpList P ops Q rest (a.put o.dst v') w') : wpList P ops Q (o :: rest) a w := by
 obtain ⟨ka, kc, rfl, hm, hc⟩ := hk
 cases ka with
 | none =>
  have h0 : ks.length = 0 := by
   rcases Nat.eq_zero_or_pos ks.length with q | q
   · exact q
   · obtain ⟨b, off, e, _⟩ := hc q; cases e
  have hks : ks = [] := List.eq_nil_of_length_eq_zero h0
  subst hks
  have hown' := hown
  rcases hown.2 with ⟨q, _⟩ | ⟨g, cap, cur, rfl, hg, hh, q1, q2, q3, q4⟩
  · exact absurd q hv
  · refine wpList_plain hgd fun K hK => ?_
    have hsrc : Src P i.size t (.slice none 0 kc) 0 [] w := Src.ofNil w ht kc
    have hrun := run_append_room_src (P := P) w t t o.type e i ht hi g 0 n cap (.slice none 0 kc) 0 [] hsrc (by omega) (by simp) (by simp)
    have hset : w.setCells g (0 + n * i.size) [] = w := rfl
    rw [hset] at hrun
    unfold Oper.wp
    simp only [List.length_nil] at hx
    simp [execOp, ho, resolve, invoke, builtin, hs, hx, hrun, Result.andThen]
    exact hK _ _ (h _ w (by simpa using hown') ⟨rfl, rfl, rfl, Nat.le_refl _, fun _ _ _ => rfl⟩ (by simp))
 | some ad =>
  refine wpList_append_own w hgd s x t ho base e i (.int .i64 0) 1 8 ht hi hz hsize hby rfl (by decide) v n xs hs hown ad ks.length kc (ks.map fun n => .int .i64 n) hx (by simp) (fun j u hj => ?_) (fun u hu => ?_) (by unfold maxLen; omega) (by omega) hbase (fun v' w' h1 h2 h3 => ?_)
  · have hj' : j < ks.length := by
     rcases Nat.lt_or_ge j ks.length with q | q
     · exact q
     · rw [List.getElem?_eq_none (by simpa using q)] at hj; cases hj
    obtain ⟨b, off, q, _, _, hcc⟩ := hc (by omega)
    injection q with q
    subst q
    obtain ⟨cs, hcl, lie, hr⟩ := hcc j hj'
    obtain ⟨rfl, _⟩ := hr
    have z := lie 0 (by simp)
    simp only [List.getElem?_cons_zero, Nat.add_zero, Nat.mul_one] at z
    rw [List.getElem?_map, List.getElem?_eq_getElem hj'] at hj
    simp only [Option.map_some, Option.some.injEq] at hj
    rw [← hj]
    unfold Addr.add
    by_cases e0 : j = 0
    · subst e0; simpa using z
    · rw [if_neg e0]; exact z
  · obtain ⟨q, _, rfl⟩ := List.mem_map.1 hu
    rfl
  · exact h v' w' h1 h2 (fun q => hv (h3.1 q).1)
theorem row_start {w : World} {B : Nat} (hB : B ≤ w.heap.size) : (w.alloc (.cells #[] 2)).ownsRow B 2 1 (.slice (some ⟨w.heap.size, 0, none⟩) 0 0) 0 [] :=
 ⟨rfl, Or.inr ⟨_, _, #[], rfl, hB, (MapKept.heap_alloc w _).1, Nat.le_refl _, Nat.zero_le _, rfl, rfl⟩⟩
theorem nonnil_row {w : World} {base e size n : Nat} {v : Value} {xs : List Value} (h : w.ownsRow base e size v n xs) (hv : v ≠ .slice none 0 0) : ∃ g cap, v = .slice (some ⟨g, 0, none⟩) n cap := by
 rcases h.2 with ⟨q, _⟩ | ⟨g, cap, _, q, _⟩
 · exact absurd q hv
 · exact ⟨g, cap, q⟩
end Go.Proofs.YtdnembnlomnceaaGreat
namespace Go.Proofs.YtdnembnlomnceaaGreat
open Go.RowKit
theorem css_len {css : List (List Value)} {c : Nat} (h : ∀ cs ∈ css, cs.length = c) : css.flatten.length = css.length * c := by
 induction css with
 | nil => simp
 | cons x xs ih =>
  have h1 := h x (by simp)
  have h2 := ih (fun cs q => h cs (List.mem_cons_of_mem _ q))
  simp only [List.flatten_cons, List.length_append, List.length_cons, h1, h2, Nat.add_mul, Nat.one_mul]
  omega
theorem css_get {css : List (List Value)} {c : Nat} (h : ∀ cs ∈ css, cs.length = c) : ∀ {i m : Nat}, (hi : i < css.length) → m < c → css.flatten[i * c + m]? = css[i][m]? := by
 induction css with
 | nil => intro i m hi; simp at hi
 | cons x xs ih =>
  intro i m hi hm
  have h1 := h x (by simp)
  cases i with
  | zero => simp only [List.flatten_cons, Nat.zero_mul, Nat.zero_add, List.getElem_cons_zero]; rw [List.getElem?_append_left (by omega)]
  | succ i =>
   simp only [List.flatten_cons, List.getElem_cons_succ]
   rw [List.getElem?_append_right (by rw [Nat.add_mul, Nat.one_mul]; omega), show (i + 1) * c + m - x.length = i * c + m by rw [Nat.add_mul, Nat.one_mul]; omega]
   exact ih (fun cs q => h cs (List.mem_cons_of_mem _ q)) (by simp at hi; omega) hm
/-- the cells of a row, written out -/
def CssAt {α : Type} (c : Nat) (R : World → Nat → List Value → α → Prop) (w : World) (lo : Nat) (a : Option Addr) (xs : List α) (css : List (List Value)) : Prop :=
 css.length = xs.length ∧ (∀ cs ∈ css, cs.length = c) ∧ (∀ i, (hi : i < css.length) → (hi' : i < xs.length) → R w lo css[i] xs[i]) ∧ (a = none → xs = []) ∧ ∀ ad, a = some ad → ∀ j u, css.flatten[j]? = some u → w.cell? (ad.add j) = some u
theorem seq_css {α : Type} {c : Nat} {R : World → Nat → List Value → α → Prop} (hc : 0 < c) {w : World} {lo : Nat} {a : Option Addr} {n cap : Nat} {xs : List α} (h : SeqAt c R w lo (.slice a n cap) xs) : ∃ css, CssAt c R w lo a xs css := by
 obtain ⟨a', cap', e, hm, hx⟩ := h
 injection e with e1 e2 e3
 subst e1 e2 e3
 by_cases h0 : 0 < xs.length
 · obtain ⟨b, off, rfl, _, _, hcs⟩ := hx h0
   obtain ⟨css, hl, hp⟩ := list_of (n := xs.length) (p := fun i cs => ∃ hi : i < xs.length, cs.length = c ∧ Lie w b (off + i * c) cs ∧ R w lo cs xs[i]) (fun i hi => by obtain ⟨cs, q⟩ := hcs i hi; exact ⟨cs, hi, q⟩)
   have hlen : ∀ cs ∈ css, cs.length = c := fun cs hcm => by
    obtain ⟨i, hi, rfl⟩ := List.mem_iff_getElem.1 hcm
    obtain ⟨_, q, _⟩ := hp i hi
    exact q
   refine ⟨css, hl, hlen, fun i hi hi' => ?_, fun q => by simp at q, fun ad q j u hu => ?_⟩
   · obtain ⟨_, _, _, r⟩ := hp i hi
     exact r
   · injection q with q
     subst q
     have hj : j < css.length * c := by
      rw [← css_len hlen]
      rcases Nat.lt_or_ge j css.flatten.length with r | r
      · exact r
      · rw [List.getElem?_eq_none r] at hu; simp at hu
     have hi : j / c < css.length := (Nat.div_lt_iff_lt_mul hc).2 hj
     have hmod : j % c < c := Nat.mod_lt _ hc
     have hjd : j / c * c + j % c = j := by rw [Nat.mul_comm]; exact Nat.div_add_mod j c
     rw [← hjd, css_get hlen hi hmod] at hu
     obtain ⟨_, q2, lie, _⟩ := hp (j / c) hi
     have z := lie (j % c) (by omega)
     rw [hu] at z
     have e : (⟨b, off, none⟩ : Addr).add j = ⟨b, off + j / c * c + j % c, none⟩ := by
      unfold Addr.add
      split
      · rename_i r; subst r; simp
      · simp only [Addr.mk.injEq, and_true, true_and]; omega
     rw [e]
     exact z
 · have : xs = [] := List.eq_nil_of_length_eq_zero (by omega)
   subst this
   exact ⟨[], rfl, by simp, fun i hi => absurd hi (by simp), fun _ => rfl, fun ad _ j u hu => by simp at hu⟩
theorem wpList_append_rows {α : Type} {P : Program} {w : World} {ops : Array Oper} {rest : List Oper} {o : Oper} {a : Act} {Q : Exit → Act → World → Prop} {c : Nat} {R : World → Nat → List Value → α → Prop} (hgd : o.guard = none) (s x : Operand) (t : TypeId)
 (ho : o.op = .call { callee := .builtin .append, args := #[s, x], argTypes := #[t, t] }) (base lo : Nat) (e : TypeId) (i : TypeInfo) (z : Value) (bytes : Nat) (ht : P.underlying t = some (.slice e)) (hi : P.info? e = some i) (hz : i.zero = some z) (hsize : i.size = c) (hby : i.bytes = bytes) (hzs : z.cells.size = c) (hc : 0 < c)
 (v : Value) (n : Nat) (ys : List Value) (hs : a.eval s = v) (hv : v ≠ .slice none 0 0) (hown : w.ownsRow base e c v n ys) (ka : Option Addr) (kc : Nat) (xs : List α) (css : List (List Value)) (hx : a.eval x = .slice ka xs.length kc) (hk : CssAt c R w lo ka xs css) (hone : ∀ cs ∈ css, ∀ u ∈ cs, u.oneCell' = true) (hl : n + xs.length ≤ maxLen) (hbytes : (n + xs.length) * bytes ≤ 140737488355328) (hbase : base ≤ w.heap.size)
 (h : ∀ v' w', w'.ownsRow base e c v' (n + xs.length) (ys ++ css.flatten) → w.grownBy w' v.ownBlock → v' ≠ .slice none 0 0 → (v'.ownBlock = v.ownBlock ∨ v'.ownBlock = some w.heap.size) → wpList P ops Q rest (a.put o.dst v') w') : wpList P ops Q (o :: rest) a w := by
 obtain ⟨k1, k2, k3, k4, k5⟩ := hk
 refine wpList_plain hgd fun K hK => ?_
 cases ka with
 | none =>
  have hks := k4 rfl
  subst hks
  have hcs : css = [] := List.eq_nil_of_length_eq_zero (by simpa using k1)
  subst hcs
  have hown' := hown
  rcases hown.2 with ⟨q, _⟩ | ⟨g, cap, cur, rfl, hg, hh, q1, q2, q3, q4⟩
  · exact absurd q hv
  · have hsrc : Src P i.size t (.slice none 0 kc) 0 [] w := Src.ofNil w ht kc
    have hrun := run_append_room_src (P := P) w t t o.type e i ht hi g 0 n cap (.slice none 0 kc) 0 [] hsrc (by omega) (by simp) (by simp)
    have hset : w.setCells g (0 + n * i.size) [] = w := rfl
    rw [hset] at hrun
    unfold Oper.wp
    simp only [List.length_nil] at hx
    simp [execOp, ho, resolve, invoke, builtin, hs, hx, hrun, Result.andThen]
    exact hK _ _ (h _ w (by simpa using hown') ⟨rfl, rfl, rfl, Nat.le_refl _, fun _ _ _ => rfl⟩ (by simp) (Or.inl rfl))
 | some ad =>
  obtain ⟨v', w', hr, h1, h2, h3, h4⟩ := run_append_own_at (P := P) w base t o.type e i z c bytes ht hi hz hsize hby hzs hc v n ys hown ad xs.length kc css.flatten (by rw [css_len k2, k1]) (k5 ad rfl) (fun u hu => by obtain ⟨cs, hcs, hu2⟩ := List.mem_flatten.1 hu; exact hone cs hcs u hu2) hl hbytes hbase
  unfold Oper.wp execOp
  simp only [ho, resolve, invoke, builtin, Sem.run_bind, Sem.run_pure, Result.andThen_ok, List.map_toArray, List.map_cons, List.map_nil, hs, hx, hr]
  exact hK _ _ (h v' w' h1 h2 (fun q => hv (h3.1 q).1) h4)
/-- a row of records that own nothing, made by a call -/
theorem seqOwn_of_css {α : Type} {c : Nat} {R : World → Nat → List Value → α → Prop} {O : World → List Value → α → List Nat → Prop} {w w0 : World} {base lo T : Nat} {v : Value} {xs : List α} {css : List (List Value)} {a : Option Addr} (hk : CssAt c R w0 lo a xs css) (h : w.ownsRow base T c v xs.length css.flatten) (hO : ∀ cs x, R w0 lo cs x → O w cs x []) : ∃ fs, SeqOwn c O w v xs fs ∧ ∀ b ∈ fs, base ≤ b := by
 obtain ⟨k1, k2, k3, _, _⟩ := hk
 obtain ⟨_, ho⟩ := h
 rcases ho with ⟨rfl, hn⟩ | ⟨g, cap, cur, rfl, hg, hh, h1, h2, h3, h4⟩
 · exact ⟨[], ⟨none, 0, by rw [hn], ⟨by omega, by omega⟩, Or.inl ⟨hn, rfl⟩⟩, by simp⟩
 · refine ⟨[g], ⟨_, _, rfl, ⟨Nat.le_trans h1 h2, h1⟩, Or.inr ⟨g, 0, rfl, cur, T, xs.map fun _ => [], hh, ?_, by simp, by simp, by simp, fun i hi hi' => ⟨css[i]'(by omega), k2 _ (List.getElem_mem _), fun m hm => ?_, by have q := hO _ _ (k3 i (by omega) hi); simpa using q⟩⟩⟩, by simpa using hg⟩
   · have e := congrArg List.length h4
     rw [List.length_take, css_len k2, k1] at e
     have : cur.toList.length = cur.size := by simp
     omega
   · have e := css_get k2 (i := i) (m := m) (by omega) hm
     rw [← h4, List.getElem?_take_of_lt (by have : i + 1 ≤ xs.length := hi; have q : (i + 1) * c ≤ xs.length * c := Nat.mul_le_mul_right _ this; rw [Nat.add_mul, Nat.one_mul] at q; omega)] at e
     simpa using e
end Go.Proofs.YtdnembnlomnceaaGreat
