/- A row of kids appended onto an owned row, and one kid behind it: what lies in memory meanwhile. -/
import Derived.Test.YtapjplecdfemeaaTreeOwn
import Derived.Deep.AppendSrc
import Derived.Deep.AppendLies
import Derived.Maps.AppendAt
namespace Go.Proofs.Ytapjplecdfemeaa
open Go.RowKit Go.Deep
theorem kcss_len {css : List (List Value)} {c : Nat} (h : ∀ cs ∈ css, cs.length = c) : css.flatten.length = css.length * c := by
  induction css with
  | nil => simp
  | cons x xs ih =>
    have h1 := h x (by simp)
    have h2 := ih (fun cs q => h cs (List.mem_cons_of_mem _ q))
    simp only [List.flatten_cons, List.length_append, List.length_cons, h1, h2, Nat.add_mul, Nat.one_mul]
    omega
theorem kcss_get {css : List (List Value)} {c : Nat} (h : ∀ cs ∈ css, cs.length = c) : ∀ {i m : Nat}, (hi : i < css.length) → m < c → css.flatten[i * c + m]? = css[i][m]? := by
  induction css with
  | nil => intro i m hi; simp at hi
  | cons x xs ih =>
    intro i m hi hm
    have h1 := h x (by simp)
    cases i with
    | zero => simp only [List.flatten_cons, Nat.zero_mul, Nat.zero_add, List.getElem_cons_zero]; rw [List.getElem?_append_left (by omega)]
    | succ i =>
      simp only [List.flatten_cons, List.getElem_cons_succ]
      rw [List.getElem?_append_right (by rw [Nat.add_mul, Nat.one_mul]; omega), show (i + 1) * c + m - x.length = i * c + m by rw [Nat.add_mul, Nat.one_mul]; omega]
      exact ih (fun cs q => h cs (List.mem_cons_of_mem _ q)) (by simp at hi; omega) hm
/-- the cells of these trees, one behind the other -/
def KCss (n : Nat) (w : World) (xs : List TD) (css : List (List Value)) : Prop :=
  css.length = xs.length ∧ (∀ cs ∈ css, cs.length = 2) ∧ ∀ i, (hi : i < css.length) → ∃ t k, css[i] = [t, k] ∧ TreeAt w 0 n t k (nth xs i)
theorem KCss.below {n : Nat} {w w' : World} {xs : List TD} {css : List (List Value)} (h : KCss n w xs css) (hb : Below w.heap.size w w') : KCss n w' xs css :=
  ⟨h.1, h.2.1, fun i hi => by obtain ⟨t, k, e, q⟩ := h.2.2 i hi; exact ⟨t, k, e, q.below hb⟩⟩
theorem KCss.one {n : Nat} {w : World} {xs : List TD} {css : List (List Value)} (h : KCss n w xs css) : ∀ u ∈ css.flatten, u.oneCell' = true := by
  intro u hu
  obtain ⟨cs, hcs, hu2⟩ := List.mem_flatten.1 hu
  obtain ⟨i, hi, rfl⟩ := List.mem_iff_getElem.1 hcs
  obtain ⟨t, k, e, q⟩ := h.2.2 i hi
  obtain ⟨⟨s, rfl⟩, a, cap, rfl⟩ := q.form
  rw [e] at hu2
  simp only [List.mem_cons, List.not_mem_nil, or_false] at hu2
  rcases hu2 with rfl | rfl <;> rfl
theorem addr_add (b off j : Nat) : (⟨b, off, none⟩ : Addr).add j = ⟨b, off + j, none⟩ := by
  unfold Addr.add
  split
  · rename_i r; subst r; simp
  · rfl
theorem css_of_row {n : Nat} {w : World} {a : Option Addr} {cap : Nat} {xs : List TD} (h : RowAt (TreeAt w 0 n) w 0 (.slice a xs.length cap) xs) :
    xs.length ≤ maxLen ∧ ∃ css, KCss n w xs css ∧ (a = none → xs = []) ∧ ∀ ad, a = some ad → ∀ j u, css.flatten[j]? = some u → w.cell? (ad.add j) = some u := by
  obtain ⟨a', cap', e, hm, hx⟩ := h
  injection e with e1 e2 e3
  subst e1 e3
  refine ⟨hm, ?_⟩
  by_cases h0 : 0 < xs.length
  · obtain ⟨b, off, rfl, _, _, hcs⟩ := hx h0
    obtain ⟨css, hl, hp⟩ := list_of (n := xs.length) (p := fun i (cs : List Value) => ∃ t k, cs = [t, k] ∧ w.cell? ⟨b, off + i * 2, none⟩ = some t ∧ w.cell? ⟨b, off + i * 2 + 1, none⟩ = some k ∧ TreeAt w 0 n t k (nth xs i)) (fun i hi => by obtain ⟨t, k, q1, q2, q3⟩ := hcs i hi; exact ⟨_, t, k, rfl, q1, q2, q3⟩)
    have hlen : ∀ cs ∈ css, cs.length = 2 := fun cs hcm => by
      obtain ⟨i, hi, rfl⟩ := List.mem_iff_getElem.1 hcm
      obtain ⟨t, k, q, _⟩ := hp i hi
      rw [q]; rfl
    refine ⟨css, ⟨hl, hlen, fun i hi => ?_⟩, fun q => by simp at q, fun ad q j u hu => ?_⟩
    · obtain ⟨t, k, q, _, _, r⟩ := hp i hi
      exact ⟨t, k, q, r⟩
    · injection q with q
      subst q
      have hj : j < css.length * 2 := by
        rw [← kcss_len hlen]
        rcases Nat.lt_or_ge j css.flatten.length with r | r
        · exact r
        · rw [List.getElem?_eq_none r] at hu; simp at hu
      have hi : j / 2 < css.length := by omega
      have hjd : j / 2 * 2 + j % 2 = j := by omega
      rw [← hjd, kcss_get hlen hi (by omega)] at hu
      obtain ⟨t, k, q, z0, z1, _⟩ := hp (j / 2) hi
      rw [q] at hu
      rw [addr_add]
      rcases (by omega : j % 2 = 0 ∨ j % 2 = 1) with r | r
      · rw [r] at hu; simp at hu; subst hu; rw [← z0]; congr 2; omega
      · rw [r] at hu; simp at hu; subst hu; rw [← z1]; congr 2; omega
  · have : xs = [] := List.eq_nil_of_length_eq_zero (by omega)
    subst this
    exact ⟨[], ⟨rfl, by simp, fun i hi => absurd hi (by simp)⟩, fun _ => rfl, fun ad _ j u hu => by simp at hu⟩
theorem row_of_owns {n : Nat} {w : World} {base T : Nat} {v : Value} {xs : List TD} {css : List (List Value)} (hk : KCss n w xs css) (h : w.ownsRow base T 2 v xs.length css.flatten) (hg : v.ownBlock ≠ none) : RowAt (TreeAt w 0 n) w 0 v xs := by
  rcases id h.2 with ⟨rfl, _⟩ | ⟨g, cap, cur, rfl, hb, hh, h1, h2, h3, h4⟩
  · exact absurd rfl hg
  have hc := h.cells (g := g) rfl
  refine ⟨_, cap, rfl, by omega, fun h0 => ⟨g, 0, rfl, Nat.zero_le _, (Array.getElem?_eq_some_iff.1 hh).1, fun i hi => ?_⟩⟩
  have hi' : i < css.length := by rw [hk.1]; exact hi
  obtain ⟨t, k, e, q⟩ := hk.2.2 i hi'
  have z0 := hc (i * 2 + 0) t (by rw [kcss_get hk.2.1 hi' (by omega), e]; rfl)
  have z1 := hc (i * 2 + 1) k (by rw [kcss_get hk.2.1 hi' (by omega), e]; rfl)
  rw [addr_add] at z0 z1
  exact ⟨t, k, by simpa using z0, by simpa [Nat.add_assoc] using z1, q⟩
theorem step_append_kids {P : Program} {w : World} {ops : Array Oper} {o : Oper} {a : Act} {K : Act → World → Prop} {Q : Exit → Act → World → Prop} {E : Prop} (hgd : o.guard = none) (s x : Operand) (t : TypeId)
    (ho : o.op = .call { callee := .builtin .append, args := #[s, x], argTypes := #[t, t] })
    (base : Nat) (e : TypeId) (i : TypeInfo) (z : Value) (bytes : Nat) (ht : P.underlying t = some (.slice e)) (hi : P.info? e = some i) (hz : i.zero = some z)
    (hsize : i.size = 2) (hby : i.bytes = bytes) (hzs : z.cells.size = 2)
    (v : Value) (n : Nat) (ys : List Value) (hs : a.eval s = v) (hv : v.ownBlock ≠ none) (hown : w.ownsRow base e 2 v n ys)
    (ka : Option Addr) (m kc : Nat) (news : List Value) (hx : a.eval x = .slice ka m kc) (hl : news.length = m * 2) (hnil : ka = none → m = 0) (hnews : ∀ ad, ka = some ad → ∀ j u, news[j]? = some u → w.cell? (ad.add j) = some u) (h1 : ∀ u ∈ news, u.oneCell' = true)
    (h63 : n + m ≤ maxLen) (hbytes : (n + m) * bytes ≤ 140737488355328) (hbase : base ≤ w.heap.size)
    (h : ∀ v' w', w'.ownsRow base e 2 v' (n + m) (ys ++ news) → w.grownBy w' v.ownBlock → v'.ownBlock ≠ none → (v'.ownBlock = v.ownBlock ∨ v'.ownBlock = some w.heap.size) → K (a.put o.dst v') w') :
    if Region.wanted o (yielded ops a.tmps) = true then Oper.wp P o a w K Q else E := by
  have hw : Region.wanted o (yielded ops a.tmps) = true := by simp [Region.wanted, hgd]
  rw [if_pos hw]
  cases ka with
  | none =>
    have hm := hnil rfl
    subst hm
    have hn0 : news = [] := List.eq_nil_of_length_eq_zero (by simpa using hl)
    subst hn0
    have hown' := hown
    rcases hown.2 with ⟨q, _⟩ | ⟨g, cap, cur, rfl, hg, hh, q1, q2, q3, q4⟩
    · exact absurd (by rw [q]; rfl) hv
    · have hsrc : Src P i.size t (.slice none 0 kc) 0 [] w := Src.ofNil w ht kc
      have hrun := run_append_room_src (P := P) w t t o.type e i ht hi g 0 n cap (.slice none 0 kc) 0 [] hsrc (by omega) (by simp) (by simp)
      have hset : w.setCells g (0 + n * i.size) [] = w := rfl
      rw [hset] at hrun
      unfold Oper.wp
      simp [execOp, ho, resolve, invoke, builtin, hs, hx, hrun, Result.andThen]
      exact h _ w (by simpa using hown') ⟨rfl, rfl, rfl, Nat.le_refl _, fun _ _ _ => rfl⟩ (by simp [Value.ownBlock]) (Or.inl rfl)
  | some ad =>
    obtain ⟨v', w', hr, r1, r2, r3, r4⟩ := run_append_own_at (P := P) w base t o.type e i z 2 bytes ht hi hz hsize hby hzs (by omega) v n ys hown ad m kc news hl (hnews ad rfl) h1 h63 hbytes hbase
    unfold Oper.wp execOp
    simp only [ho, resolve, invoke, builtin, Sem.run_bind, Sem.run_pure, Result.andThen_ok, List.map_toArray, List.map_cons, List.map_nil, hs, hx, hr]
    exact h v' w' r1 r2 (by rcases r4 with q | q <;> rw [q]; exact hv; simp) r4
/-- what lies in memory while the new row is made: what was there, the row so far, the kid's row, the new tree's block -/
def ZSt (wz : World) (tb kb : Value) (W : World) (ov : Option (Value × Nat × List Value)) (r c : Option Nat) : Prop :=
  Below wz.heap.size wz W ∧ (∀ v n cs, ov = some (v, n, cs) → W.ownsRow wz.heap.size 26 2 v n cs ∧ ∃ g, v.ownBlock = some g ∧ r ≠ some g ∧ c ≠ some g) ∧
  (∀ b, r = some b → Box W b [tb, kb] 26) ∧ (∀ b, c = some b → Box W b resT 26 ∧ wz.heap.size ≤ b)
theorem ZSt.new (wz : World) (tb kb : Value) : ZSt wz tb kb wz none none none := ⟨Below.refl _ _, fun _ _ _ h => (by cases h), fun _ h => (by cases h), fun _ h => (by cases h)⟩
theorem ZSt.row {wz : World} {tb kb : Value} {W : World} {r c : Option Nat} (h : ZSt wz tb kb W none r c) : ZSt wz tb kb (W.alloc (.cells #[] 26)) (some (.slice (some ⟨W.heap.size, 0, none⟩) 0 0, 0, [])) r c := by
  obtain ⟨h1, h2, h3, h4⟩ := h
  refine ⟨h1.alloc h1.size _, fun v n cs e => ?_, fun b e => (h3 b e).alloc _, fun b e => ⟨(h4 b e).1.alloc _, (h4 b e).2⟩⟩
  simp only [Option.some.injEq, Prod.mk.injEq] at e
  obtain ⟨rfl, rfl, rfl⟩ := e
  refine ⟨⟨rfl, Or.inr ⟨W.heap.size, 0, #[], rfl, h1.size, Box.new W [] _, Nat.le_refl _, Nat.zero_le _, rfl, rfl⟩⟩, _, rfl, fun e => ?_, fun e => ?_⟩
  · exact Nat.lt_irrefl _ (h3 _ e).lt
  · exact Nat.lt_irrefl _ (h4 _ e).1.lt
theorem ZSt.kid {wz : World} {tb kb : Value} {W : World} {ov : Option (Value × Nat × List Value)} {c : Option Nat} (h : ZSt wz tb kb W ov none c) : ZSt wz tb kb (W.alloc (.cells #[tb, kb] 26)) ov (some W.heap.size) c := by
  obtain ⟨h1, h2, h3, h4⟩ := h
  refine ⟨h1.alloc h1.size _, fun v n cs e => ?_, fun b e => ?_, fun b e => ⟨(h4 b e).1.alloc _, (h4 b e).2⟩⟩
  · obtain ⟨q1, g, q2, _, q4⟩ := h2 v n cs e
    exact ⟨q1.alloc _, g, q2, fun e => by injection e with e; have := (q1.lt g q2).2; omega, q4⟩
  · injection e with e; subst e; exact Box.new W [tb, kb] _
theorem ZSt.box {wz : World} {tb kb : Value} {W : World} {ov : Option (Value × Nat × List Value)} {r : Option Nat} (h : ZSt wz tb kb W ov r none) : ZSt wz tb kb (W.alloc (.cells #[.string ⟨#[]⟩, .slice none 0 0] 26)) ov r (some W.heap.size) := by
  obtain ⟨h1, h2, h3, h4⟩ := h
  refine ⟨h1.alloc h1.size _, fun v n cs e => ?_, fun b e => (h3 b e).alloc _, fun b e => ?_⟩
  · obtain ⟨q1, g, q2, q3, _⟩ := h2 v n cs e
    exact ⟨q1.alloc _, g, q2, q3, fun e => by injection e with e; have := (q1.lt g q2).2; omega⟩
  · injection e with e; subst e; exact ⟨Box.new W resT _, h1.size⟩
theorem ZSt.app {wz : World} {tb kb : Value} {W W' : World} {v v' : Value} {n n' : Nat} {cs cs' : List Value} {r c : Option Nat} (h : ZSt wz tb kb W (some (v, n, cs)) r c) (hown : W'.ownsRow wz.heap.size 26 2 v' n' cs') (hg : W.grownBy W' v.ownBlock) (hat : v'.ownBlock = v.ownBlock ∨ v'.ownBlock = some W.heap.size) : ZSt wz tb kb W' (some (v', n', cs')) r c := by
  obtain ⟨h1, h2, h3, h4⟩ := h
  obtain ⟨q1, g, q2, q3, q4⟩ := h2 v n cs rfl
  have hl := q1.lt g q2
  rw [q2] at hg hat
  refine ⟨below_grown h1 hl.1 hg, fun v n cs e => ?_, fun b e => box_other (h3 b e) (fun q => q3 (by rw [e, q])) hg, fun b e => ⟨box_other (h4 b e).1 (fun q => q4 (by rw [e, q])) hg, (h4 b e).2⟩⟩
  simp only [Option.some.injEq, Prod.mk.injEq] at e
  obtain ⟨rfl, rfl, rfl⟩ := e
  refine ⟨hown, ?_⟩
  rcases hat with e | e
  · exact ⟨g, e, q3, q4⟩
  · refine ⟨_, e, fun q => ?_, fun q => ?_⟩
    · have := (h3 _ q).lt; omega
    · have := (h4 _ q).1.lt; omega
/-- the new tree lies there -/
theorem ZSt.fin {wz : World} {sb sa : ByteArray} {ab : Option Addr} {cb : Nat} {xs : List TD} {xb : TD} {W : World} {v : Value} {css : List (List Value)} {r c : Nat} (h : ZSt wz (.string sb) (.slice ab (kidsOf xb).length cb) W (some (v, xs.length + 1, css.flatten ++ [.string sb, .slice ab (kidsOf xb).length cb])) (some r) (some c)) (hsa : sa.size ≤ maxLen)
    (hk : KCss 5 wz xs css) (hb : TreeAt wz 0 5 (.string sb) (.slice ab (kidsOf xb).length cb) xb) :
    TreeAt (putCells W c 0 [.string sa, v]) 0 6 (.string sa) v (mkT sa (xs ++ [xb])) ∧ Box (putCells W c 0 [.string sa, v]) c [.string sa, v] 26 ∧ Below wz.heap.size wz (putCells W c 0 [.string sa, v]) := by
  obtain ⟨h1, h2, h3, h4⟩ := h
  obtain ⟨q1, g, q2, _, q4⟩ := h2 _ _ _ rfl
  obtain ⟨bC, hcl⟩ := h4 c rfl
  have hB := putCells_below [.string sa, v] _ _ _ c 0 hcl h1
  refine ⟨⟨⟨sa, rfl, hsa, rfl⟩, ?_⟩, ?_, hB⟩
  · rw [mkT_kids]
    have hk' := hk.below hB
    refine row_of_owns (base := wz.heap.size) (T := 26) (css := css ++ [[.string sb, .slice ab (kidsOf xb).length cb]]) ⟨by simp [hk'.1], fun cs hcs => ?_, fun i hi => ?_⟩ ?_ (by rw [q2]; simp)
    · rcases List.mem_append.1 hcs with q | q
      · exact hk'.2.1 cs q
      · simp at q; subst q; rfl
    · by_cases e : i < css.length
      · obtain ⟨t, k, e1, e2⟩ := hk'.2.2 i e
        refine ⟨t, k, by rw [List.getElem_append_left e]; exact e1, ?_⟩
        have : nth (xs ++ [xb]) i = nth xs i := by simp [nth, List.getD, List.getElem?_append_left (by rw [← hk'.1]; exact e : i < xs.length)]
        rw [this]; exact e2
      · have e' : i = xs.length := by simp at hi; have := hk'.1; omega
        subst e'
        refine ⟨.string sb, .slice ab (kidsOf xb).length cb, by rw [List.getElem_append_right (by omega)]; simp, ?_⟩
        have : nth (xs ++ [xb]) xs.length = xb := by simp [nth, List.getD]
        rw [this]; exact hb.below hB
    · have hgc : g ≠ c := fun q => q4 (by rw [q])
      rw [List.flatten_append]
      have := q1.kept (w' := putCells W c 0 [.string sa, v]) (row := some c) ⟨rfl, rfl, rfl, by rw [putCells_size]; exact Nat.le_refl _, fun b _ hne => putCells_other _ _ _ _ _ (fun q => hne (by rw [q]))⟩ (Or.inr (by rw [q2]; simpa using hgc))
      simpa using this
  · exact (bC.set (i := 0) (.string sa)).set (i := 1) v
end Go.Proofs.Ytapjplecdfemeaa
