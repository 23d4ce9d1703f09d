/- Depths of a program's places, as plain lists: what is closed, what is reached from one place, and that there is one answer alone. -/
import Derived.Test.YtdapgihghbmlfaaGreatDoorVmPlain
namespace Go.Proofs.YtdapgihghbmlfaaGreatDoor
open Go.RowKit
/-- the depth at a place, -1 where there is none -/
def labAt (xs : List Int) (i : Nat) : Int := xs.getD i (-1)
/-- the places behind an instruction -/
def nexts (x : InstrD) (i : Int) : List Int := if x.vKind = 15 then [] else if x.vKind = 10 then [x.vN] else if x.vKind = 11 then [i + 1, x.vN] else [i + 1]
/-- one tells all that the other one tells -/
def Ext (xs ys : List Int) : Prop := ys.length = xs.length ∧ ∀ i, labAt xs i ≠ -1 → labAt ys i = labAt xs i
def aft (x : InstrD) (d : Int) : Int := d - takesT x.vKind + givesT x.vKind
/-- at this place all is as it must be -/
def OkAt (p : List InstrD) (ys : List Int) (i : Nat) : Prop := ∃ x, p[i]? = some x ∧ 0 ≤ labAt ys i ∧ takesT x.vKind ≤ labAt ys i ∧ aft x (labAt ys i) ≤ 6 ∧ ∀ j ∈ nexts x i, j.toNat < p.length ∧ labAt ys j.toNat = aft x (labAt ys i)
def Closed (p : List InstrD) (L : List Int) : Prop := L.length = p.length ∧ labAt L 0 = 0 ∧ ∀ i, labAt L i ≠ -1 → OkAt p L i
theorem Ext.refl (xs : List Int) : Ext xs xs := ⟨rfl, fun _ _ => rfl⟩
theorem Ext.trans {xs ys zs : List Int} (h : Ext xs ys) (k : Ext ys zs) : Ext xs zs := ⟨k.1.trans h.1, fun i hi => by have e := h.2 i hi; rw [k.2 i (by rw [e]; exact hi), e]⟩
theorem aft_nonneg {x : InstrD} {d : Int} (h : takesT x.vKind ≤ d) : 0 ≤ aft x d := by have := givesT_range x.vKind; unfold aft; omega
theorem OkAt.mono {p : List InstrD} {ys zs : List Int} {i : Nat} (h : OkAt p ys i) (k : Ext ys zs) : OkAt p zs i := by
  obtain ⟨x, h1, h2, h3, h4, h5⟩ := h
  have e := k.2 i (by omega)
  refine ⟨x, h1, by omega, by omega, by rw [e]; exact h4, fun j hj => ?_⟩
  obtain ⟨q1, q2⟩ := h5 j hj
  have := aft_nonneg h3
  exact ⟨q1, by rw [e, k.2 _ (by omega), q2]⟩
theorem lab_set {xs : List Int} {a : Nat} (ha : a < xs.length) (d : Int) (i : Nat) : labAt (xs.set a d) i = if i = a then d else labAt xs i := by
  unfold labAt
  rw [List.getD_eq_getElem?_getD, List.getD_eq_getElem?_getD, List.getElem?_set]
  by_cases e : i = a
  · subst e; simp [ha]
  · rw [if_neg e, if_neg (fun q => e q.symm)]
theorem lab_get {xs : List Int} {i : Nat} (h : i < xs.length) : xs[i] = labAt xs i := by simp [labAt, h]
theorem lab_lt {xs : List Int} {i : Nat} (h : labAt xs i ≠ -1) : i < xs.length := by
  rcases Nat.lt_or_ge i xs.length with q | q
  · exact q
  · exact absurd (by simp [labAt, List.getElem?_eq_none q]) h
theorem Ext.set {xs : List Int} {a : Nat} (ha : a < xs.length) (h : labAt xs a = -1) (d : Int) : Ext xs (xs.set a d) := ⟨by simp, fun i hi => by rw [lab_set ha, if_neg (fun e => hi (by rw [e]; exact h))]⟩
/-! ### how many have no depth yet -/
theorem ext_cons {x y : Int} {r s : List Int} (h : Ext (x :: r) (y :: s)) : (x ≠ -1 → y = x) ∧ Ext r s :=
  ⟨fun q => by have := h.2 0; simpa [labAt] using this (by simpa [labAt] using q), by simpa using h.1, fun i hi => by have := h.2 (i + 1); simpa [labAt] using this (by simpa [labAt] using hi)⟩
theorem Ext.count {xs : List Int} : ∀ {ys : List Int}, Ext xs ys → ys.count (-1) ≤ xs.count (-1) := by
  induction xs with
  | nil =>
    intro ys h
    have := h.1
    rw [List.eq_nil_of_length_eq_zero this]; exact Nat.le_refl _
  | cons x r ih =>
    intro ys h
    match ys, h with
    | [], h => have := h.1; simp at this
    | y :: s, h =>
      obtain ⟨h1, h2⟩ := ext_cons h
      have := ih h2
      rw [List.count_cons, List.count_cons]
      by_cases e : x = -1
      · subst e
        have : (if (y == (-1 : Int)) = true then 1 else 0) ≤ 1 := by split <;> omega
        simp only [beq_self_eq_true, if_true]
        omega
      · rw [h1 e]; omega
theorem count_set {xs : List Int} : ∀ {a : Nat} {d : Int}, a < xs.length → labAt xs a = -1 → d ≠ -1 → (xs.set a d).count (-1) < xs.count (-1) := by
  induction xs with
  | nil => intro a d h; simp at h
  | cons x r ih =>
    intro a d h1 h2 h3
    cases a with
    | zero =>
      have e : x = -1 := by simpa [labAt] using h2
      subst e
      have hd : (d == (-1 : Int)) = false := by simpa using h3
      rw [List.set_cons_zero, List.count_cons, List.count_cons, hd]
      simp
    | succ a =>
      have := ih (a := a) (d := d) (by simpa using h1) (by simpa [labAt] using h2) h3
      rw [List.set_cons_succ, List.count_cons, List.count_cons]
      omega
/-! ### what comes of going on from a place -/
def Come (p : List InstrD) (xs : List Int) (a : Nat) (d : Int) (b : Bool) (ys : List Int) : Prop := Ext xs ys ∧ (b = true → a < p.length ∧ labAt ys a = d ∧ ∀ i, labAt xs i = -1 → labAt ys i ≠ -1 → OkAt p ys i) ∧
  ∀ L, Closed p L → Ext xs L → a < p.length → labAt L a = d → b = true ∧ Ext ys L
theorem come_stop {p : List InstrD} {xs : List Int} {a : Nat} {d : Int} (h : ¬ a < p.length) : Come p xs a d false xs := ⟨.refl _, fun q => (by cases q), fun _ _ _ q => absurd q h⟩
theorem come_seen {p : List InstrD} {xs : List Int} {a : Nat} {d : Int} (h : a < p.length) (h1 : labAt xs a ≠ -1) : Come p xs a d (decide (labAt xs a = d)) xs :=
  ⟨.refl _, fun q => ⟨h, of_decide_eq_true q, fun i h1 h2 => absurd h1 h2⟩, fun L _ hx _ hd => ⟨by rw [hx.2 a h1] at hd; simpa using hd, hx⟩⟩
theorem come_bad {p : List InstrD} {xs : List Int} {a : Nat} {d : Int} {x : InstrD} (ha : a < xs.length) (hx : p[a]? = some x) (h1 : labAt xs a = -1) (h0 : 0 ≤ d) (hb : d < takesT x.vKind ∨ 6 < aft x d) : Come p xs a d false (xs.set a d) :=
  ⟨.set ha h1 d, fun q => (by cases q), fun L hL _ _ hd => by
    obtain ⟨y, e, _, q1, q2, _⟩ := hL.2.2 a (by omega)
    obtain rfl := Option.some.inj (hx.symm.trans e)
    rw [hd] at q1 q2
    omega⟩
def Mid (p : List InstrD) (xs : List Int) (a : Nat) (d : Int) (x : InstrD) (ys : List Int) (j : Nat) : Prop := Ext (xs.set a d) ys ∧ (∀ k, k < j → ∀ n, (nexts x a)[k]? = some n → n.toNat < p.length ∧ labAt ys n.toNat = aft x d) ∧
  (∀ i, labAt (xs.set a d) i = -1 → labAt ys i ≠ -1 → OkAt p ys i) ∧ ∀ L, Closed p L → Ext xs L → labAt L a = d → Ext ys L
theorem mid_start {p : List InstrD} {xs : List Int} {a : Nat} {d : Int} {x : InstrD} (ha : a < xs.length) : Mid p xs a d x (xs.set a d) 0 :=
  ⟨.refl _, fun k hk => absurd hk (by omega), fun i h1 h2 => absurd h1 h2, fun L _ hx hd => ⟨by rw [hx.1]; simp, fun i hi => by
    rw [lab_set ha] at hi ⊢
    by_cases e : i = a
    · subst e; rw [if_pos rfl]; exact hd
    · rw [if_neg e] at hi ⊢; exact hx.2 i hi⟩⟩
theorem mid_step {p : List InstrD} {xs ys zs : List Int} {a : Nat} {d : Int} {x : InstrD} {j : Nat} {n : Int} (h : Mid p xs a d x ys j) (hx : p[a]? = some x) (h0 : 0 ≤ d) (ht : takesT x.vKind ≤ d) (hn : (nexts x a)[j]? = some n) (hc : Come p ys n.toNat (aft x d) true zs) : Mid p xs a d x zs (j + 1) := by
  obtain ⟨m1, m2, m3, m4⟩ := h
  obtain ⟨c1, c2, c3⟩ := hc
  obtain ⟨d1, d2, d3⟩ := c2 rfl
  have hp := aft_nonneg ht
  refine ⟨m1.trans c1, fun k hk m hm => ?_, fun i h1 h2 => ?_, fun L hL hx' hd => ?_⟩
  · by_cases e : k = j
    · subst e
      obtain rfl := Option.some.inj (hn.symm.trans hm)
      exact ⟨d1, d2⟩
    · obtain ⟨q1, q2⟩ := m2 k (by omega) m hm
      exact ⟨q1, by rw [c1.2 _ (by omega)]; exact q2⟩
  · by_cases e : labAt ys i = -1
    · exact d3 i e h2
    · exact (m3 i h1 e).mono c1
  · obtain ⟨y, e, _, _, _, q⟩ := hL.2.2 a (by omega)
    obtain rfl := Option.some.inj (hx.symm.trans e)
    obtain ⟨q1, q2⟩ := q n (List.mem_of_getElem? hn)
    rw [hd] at q2
    exact (c3 L hL (m4 L hL hx' hd) q1 q2).2
theorem mid_false {p : List InstrD} {xs ys zs : List Int} {a : Nat} {d : Int} {x : InstrD} {j : Nat} {n : Int} (h : Mid p xs a d x ys j) (ha : a < xs.length) (h1 : labAt xs a = -1) (hx : p[a]? = some x) (h0 : 0 ≤ d) (hn : (nexts x a)[j]? = some n) (hc : Come p ys n.toNat (aft x d) false zs) : Come p xs a d false zs := by
  obtain ⟨m1, m2, m3, m4⟩ := h
  obtain ⟨c1, c2, c3⟩ := hc
  refine ⟨(Ext.set ha h1 d).trans (m1.trans c1), fun q => (by cases q), fun L hL hx' _ hd => ?_⟩
  obtain ⟨y, e, _, _, _, q⟩ := hL.2.2 a (by omega)
  obtain rfl := Option.some.inj (hx.symm.trans e)
  obtain ⟨q1, q2⟩ := q n (List.mem_of_getElem? hn)
  rw [hd] at q2
  exact absurd (c3 L hL (m4 L hL hx' hd) q1 q2).1 (by simp)
theorem mid_end {p : List InstrD} {xs ys : List Int} {a : Nat} {d : Int} {x : InstrD} (h : Mid p xs a d x ys (nexts x a).length) (ha : a < xs.length) (h1 : labAt xs a = -1) (hx : p[a]? = some x) (h0 : 0 ≤ d) (ht : takesT x.vKind ≤ d) (h6 : aft x d ≤ 6) (hp : a < p.length) : Come p xs a d true ys := by
  obtain ⟨m1, m2, m3, m4⟩ := h
  have hs : labAt (xs.set a d) a = d := by rw [lab_set ha, if_pos rfl]
  have hy : labAt ys a = d := by rw [m1.2 a (by omega)]; exact hs
  refine ⟨(Ext.set ha h1 d).trans m1, fun _ => ⟨hp, hy, fun i q1 q2 => ?_⟩, fun L hL hx' _ hd => ⟨rfl, m4 L hL hx' hd⟩⟩
  by_cases e : i = a
  · subst e
    refine ⟨x, hx, by omega, by omega, by rw [hy]; exact h6, fun j hj => ?_⟩
    obtain ⟨k, hk, e⟩ := List.getElem_of_mem hj
    rw [hy]
    exact m2 k hk j (by rw [List.getElem?_eq_getElem hk, e])
  · exact m3 i (by rw [lab_set ha, if_neg e]; exact q1) q2
/-! ### the answer -/
def Told (p : List InstrD) (b : Bool) (ys : List Int) : Prop := (b = true ∧ Closed p ys ∧ ∀ L, Closed p L → Ext ys L) ∨ (b = false ∧ ys = [] ∧ ∀ L, ¬ Closed p L)
theorem lab_ext {xs ys : List Int} (hl : xs.length = ys.length) (h : ∀ i, labAt xs i = labAt ys i) : xs = ys := by
  refine List.ext_getElem hl fun i h1 h2 => ?_
  have := h i
  rwa [← lab_get h1, ← lab_get h2] at this
theorem told_same {p : List InstrD} {b c : Bool} {xs ys : List Int} (h : Told p b xs) (k : Told p c ys) : b = c ∧ xs = ys := by
  rcases h with ⟨rfl, h1, h2⟩ | ⟨rfl, h1, h2⟩
  · rcases k with ⟨rfl, k1, k2⟩ | ⟨rfl, k1, k2⟩
    · refine ⟨rfl, lab_ext (h1.1.trans k1.1.symm) fun i => ?_⟩
      have e1 := (h2 ys k1).2 i
      have e2 := (k2 xs h1).2 i
      by_cases q : labAt xs i = -1
      · by_cases q' : labAt ys i = -1
        · rw [q, q']
        · exact e2 q'
      · exact (e1 q).symm
    · exact absurd h1 (k2 xs)
  · rcases k with ⟨rfl, k1, k2⟩ | ⟨rfl, k1, k2⟩
    · exact absurd k1 (h2 ys)
    · exact ⟨rfl, h1.trans k1.symm⟩
theorem lab_rep (n i : Nat) : labAt (List.replicate n (-1)) i = -1 := by
  unfold labAt
  rw [List.getD_eq_getElem?_getD, List.getElem?_replicate]
  split <;> rfl
theorem told_come {p : List InstrD} {ys : List Int} (hp : 0 < p.length) (h : Come p (List.replicate p.length (-1)) 0 0 true ys) : Told p true ys := by
  obtain ⟨h1, h2, h3⟩ := h
  obtain ⟨_, q2, q3⟩ := h2 rfl
  refine Or.inl ⟨rfl, ⟨by rw [h1.1]; simp, q2, fun i hi => q3 i (lab_rep _ _) hi⟩, fun L hL => ?_⟩
  exact (h3 L hL ⟨by rw [hL.1]; simp, fun i hi => absurd (lab_rep _ _) hi⟩ hp hL.2.1).2
theorem told_not {p : List InstrD} {ys : List Int} (hp : 0 < p.length) (h : Come p (List.replicate p.length (-1)) 0 0 false ys) : Told p false [] := by
  obtain ⟨h1, h2, h3⟩ := h
  refine Or.inr ⟨rfl, rfl, fun L hL => ?_⟩
  exact absurd (h3 L hL ⟨by rw [hL.1]; simp, fun i hi => absurd (lab_rep _ _) hi⟩ hp hL.2.1).1 (by simp)
/-! ### passes over all places -/
def Pass (p : List InstrD) (xs : List Int) : Prop := xs.length = p.length ∧ labAt xs 0 = 0 ∧ (∀ i, labAt xs i = -1 ∨ (0 ≤ labAt xs i ∧ labAt xs i ≤ 6)) ∧ ∀ L, Closed p L → Ext xs L
theorem pass_start {p : List InstrD} (hp : 0 < p.length) : Pass p ((List.replicate p.length (-1)).set 0 0) := by
  have hl : 0 < (List.replicate p.length (-1 : Int)).length := by simpa using hp
  refine ⟨by simp, by rw [lab_set hl, if_pos rfl], fun i => ?_, fun L hL => ⟨by simpa using hL.1, fun i hi => ?_⟩⟩
  · rw [lab_set hl]
    by_cases e : i = 0
    · rw [if_pos e]; omega
    · rw [if_neg e]; exact Or.inl (lab_rep _ _)
  · rw [lab_set hl] at hi ⊢
    by_cases e : i = 0
    · subst e; rw [if_pos rfl]; exact hL.2.1
    · rw [if_neg e] at hi; exact absurd (lab_rep _ _) hi
theorem pass_set {p : List InstrD} {xs : List Int} {i : Nat} {x : InstrD} {n : Int} (h : Pass p xs) (hx : p[i]? = some x) (hi : 0 ≤ labAt xs i) (ht : takesT x.vKind ≤ labAt xs i) (h6 : aft x (labAt xs i) ≤ 6) (hn : n ∈ nexts x i) (hl : n.toNat < p.length) (hd : labAt xs n.toNat = -1 ∨ labAt xs n.toNat = aft x (labAt xs i)) : Pass p (xs.set n.toNat (aft x (labAt xs i))) := by
  obtain ⟨h1, h2, h3, h4⟩ := h
  have hl' : n.toNat < xs.length := by omega
  have ha := aft_nonneg ht
  refine ⟨by simpa using h1, ?_, fun j => ?_, fun L hL => ⟨by rw [hL.1]; simp [h1], fun j hj => ?_⟩⟩
  · rw [lab_set hl']
    by_cases e : 0 = n.toNat
    · rw [if_pos e]
      rw [← e] at hd
      omega
    · rw [if_neg e]; exact h2
  · rw [lab_set hl']
    by_cases e : j = n.toNat
    · rw [if_pos e]; exact Or.inr ⟨ha, h6⟩
    · rw [if_neg e]; exact h3 j
  · rw [lab_set hl'] at hj ⊢
    by_cases e : j = n.toNat
    · rw [if_pos e, e]
      obtain ⟨y, e', _, _, _, q⟩ := hL.2.2 i (by rw [(h4 L hL).2 i (by omega)]; omega)
      obtain rfl := Option.some.inj (hx.symm.trans e')
      rw [(q n hn).2, (h4 L hL).2 i (by omega)]
    · rw [if_neg e] at hj ⊢
      exact (h4 L hL).2 j hj
theorem pass_small {p : List InstrD} {xs : List Int} {i : Nat} {x : InstrD} (h : Pass p xs) (hx : p[i]? = some x) (hi : 0 ≤ labAt xs i) (hb : labAt xs i < takesT x.vKind ∨ 6 < aft x (labAt xs i)) : Told p false [] :=
  Or.inr ⟨rfl, rfl, fun L hL => by
    have e := (h.2.2.2 L hL).2 i (by omega)
    obtain ⟨y, e', _, q1, q2, _⟩ := hL.2.2 i (by rw [e]; omega)
    obtain rfl := Option.some.inj (hx.symm.trans e')
    rw [e] at q1 q2
    omega⟩
theorem pass_far {p : List InstrD} {xs : List Int} {i : Nat} {x : InstrD} {n : Int} (h : Pass p xs) (hx : p[i]? = some x) (hi : 0 ≤ labAt xs i) (hn : n ∈ nexts x i) (hb : ¬ n.toNat < p.length ∨ (0 ≤ labAt xs n.toNat ∧ labAt xs n.toNat ≠ aft x (labAt xs i))) : Told p false [] :=
  Or.inr ⟨rfl, rfl, fun L hL => by
    have e := (h.2.2.2 L hL).2 i (by omega)
    obtain ⟨y, e', _, _, _, q⟩ := hL.2.2 i (by rw [e]; omega)
    obtain rfl := Option.some.inj (hx.symm.trans e')
    obtain ⟨q1, q2⟩ := q n hn
    rcases hb with hb | ⟨hb, hc⟩
    · exact hb q1
    · rw [(h.2.2.2 L hL).2 _ (by omega), e] at q2
      exact hc q2⟩
theorem pass_done {p : List InstrD} {xs : List Int} (h : Pass p xs) (hok : ∀ i, i < p.length → labAt xs i ≠ -1 → OkAt p xs i) : Told p true xs :=
  Or.inl ⟨rfl, ⟨h.1, h.2.1, fun i hi => hok i (by have := lab_lt hi; have := h.1; omega) hi⟩, h.2.2.2⟩
theorem set_self {xs : List Int} {j : Nat} {d : Int} (h : labAt xs j = d) (hj : j < xs.length) : xs.set j d = xs := by
  refine lab_ext (by simp) fun i => ?_
  rw [lab_set hj]
  split
  · rename_i e; rw [e, h]
  · rfl
/-! ### right programs -/
def allB : List InstrD → Bool
  | [] => true
  | x :: r => instrB x && allB r
theorem allB_append (a b : List InstrD) : allB (a ++ b) = (allB a && allB b) := by
  induction a with
  | nil => simp [allB]
  | cons c r ih => simp [allB, ih, Bool.and_assoc]
theorem allB_take (l : List InstrD) (k : Nat) (h : k < l.length) : allB (l.take (k + 1)) = (allB (l.take k) && instrB l[k]) := by
  rw [List.take_succ_eq_append_getElem h, allB_append]; simp [allB]
theorem allB_take_false (l : List InstrD) (k : Nat) (h : allB (l.take k) = false) : allB l = false := by
  have : l = l.take k ++ l.drop k := (List.take_append_drop k l).symm
  rw [this, allB_append, h]; rfl
theorem allB_get {l : List InstrD} (h : allB l = true) (i : Nat) (hi : i < l.length) : instrB l[i] = true := by
  have := allB_take l i hi
  cases hb : instrB l[i]
  · rw [hb, Bool.and_false] at this
    rw [allB_take_false l (i + 1) this] at h
    cases h
  · rfl
def rightB (p : List InstrD) : Bool := decide (1 ≤ p.length) && decide (p.length ≤ 20) && allB p
/-- what DepthsOf answers -/
def Ans (p : List InstrD) (b : Bool) (ys : List Int) : Prop := (rightB p = true ∧ Told p b ys) ∨ (rightB p = false ∧ b = false ∧ ys = [])
theorem ans_same {p : List InstrD} {b c : Bool} {xs ys : List Int} (h : Ans p b xs) (k : Ans p c ys) : b = c ∧ xs = ys := by
  rcases h with ⟨h, h'⟩ | ⟨h, h1, h2⟩
  · rcases k with ⟨k, k'⟩ | ⟨k, k1, k2⟩
    · exact told_same h' k'
    · rw [h] at k; cases k
  · rcases k with ⟨k, k'⟩ | ⟨k, k1, k2⟩
    · rw [h] at k; cases k
    · exact ⟨h1.trans k1.symm, h2.trans k2.symm⟩
theorem right_short {p : List InstrD} (h : p.length < 1) : rightB p = false := by simp [rightB]; omega
theorem right_long {p : List InstrD} (h : 20 < p.length) : rightB p = false := by simp [rightB]; omega
theorem right_all {p : List InstrD} (h : allB p = false) : rightB p = false := by simp [rightB, h]
theorem right_yes {p : List InstrD} (h1 : 1 ≤ p.length) (h2 : p.length ≤ 20) (h : allB p = true) : rightB p = true := by simp [rightB, h1, h2, h]
/-- where a right instruction leads -/
theorem nexts_range {x : InstrD} (h : instrB x = true) (i : Nat) {n : Int} (hn : n ∈ nexts x i) : 0 ≤ n ∧ n ≤ (i : Int) + 20 := by
  unfold nexts at hn
  have key : x.vKind = 10 ∨ x.vKind = 11 → 0 ≤ x.vN ∧ x.vN < 20 := by
    intro hk
    rw [instrB_some (by omega), opT_place hk, opdB_place] at h
    simp only [Bool.and_eq_true, decide_eq_true_eq] at h
    exact h.1
  split at hn
  · simp at hn
  · split at hn
    · have := key (by omega); simp at hn; omega
    · split at hn
      · have := key (by omega)
        simp at hn
        omega
      · simp at hn; omega
theorem nexts_len (x : InstrD) (i : Int) : (nexts x i).length ≤ 2 := by unfold nexts; (repeat' split) <;> simp
end Go.Proofs.YtdapgihghbmlfaaGreatDoor
