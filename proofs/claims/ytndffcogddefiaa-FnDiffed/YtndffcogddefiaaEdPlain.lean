/- Edits of trees: plain facts. -/
import Derived.Test.YtndffcogddefiaaTreeO
import Derived.Test.YtndffcogddefiaaRightPlain
import Derived.Test.YtndffcogddefiaaOkWalks
namespace Go.Proofs.Ytndffcogddefiaa
open Go.RowKit
/-- is a tree right? -/
def treeB (d : TD) : Bool := okB (szD 31 d 30)
theorem szF_congr {H : Type} {f g : DataW H → Int → Option Int} : ∀ (ds : List (DataW H)) (room size : Int), 1 ≤ size → (∀ d m, f d m = some m → True) → (∀ d r, f d r = g d r ∨ room ≤ r) → (∀ d r q, f d r = some q → 1 ≤ q) → szF f ds room size = szF g ds room size := by
  intro ds
  induction ds with
  | nil => intro room size _ _ _ _; rfl
  | cons d ds ih =>
    intro room size hs h0 hfg hf
    unfold szF
    have e : f d (room - size) = g d (room - size) := by
      rcases hfg d (room - size) with h | h
      · exact h
      · omega
    rw [← e]
    cases hq : f d (room - size) with
    | none => rfl
    | some q => exact ih room (size + q) (by have := hf _ _ _ hq; omega) h0 hfg hf
theorem szD_more : ∀ (n m : Nat) (d : TD) (room : Int), room < n → room < m → szD n d room = szD m d room := by
  intro n
  induction n with
  | zero =>
    intro m d room h1 h2
    cases m with
    | zero => rfl
    | succ m => rw [szD_no (n := m) (Or.inl (by omega))]; rfl
  | succ n ih =>
    intro m d room h1 h2
    cases m with
    | zero => rw [szD_no (n := n) (Or.inl (by omega))]; rfl
    | succ m =>
      unfold szD
      split
      · rfl
      · refine szF_congr _ _ _ (by omega) (fun _ _ _ => trivial) (fun x r => ?_) (fun x r q h => (szD_range _ _ _ _ h).1)
        rcases Int.lt_or_le r room with h | h
        · exact Or.inl (ih m x r (by omega) (by omega))
        · exact Or.inr h
theorem szF_same {H : Type} {f g : DataW H → Int → Option Int} : ∀ (ds : List (DataW H)) (room size : Int), (∀ i, i < ds.length → ∀ r, f (nth ds i) r = g (nth ds i) r) → szF f ds room size = szF g ds room size := by
  intro ds
  induction ds with
  | nil => intro room size _; rfl
  | cons d ds ih =>
    intro room size h
    unfold szF
    have e : f d (room - size) = g d (room - size) := h 0 (by simp) _
    rw [← e]
    cases f d (room - size) with
    | none => rfl
    | some q => exact ih room _ (fun i hi r => h (i + 1) (by simp; omega) r)
theorem szD_deep : ∀ (n : Nat) {w : World} {lo : Nat} {t k : Value} {d : TD}, TreeAt w lo n t k d → ∀ (m : Nat), n ≤ m → ∀ room : Int, szD m d room = szD n d room := by
  intro n
  induction n with
  | zero => intro w lo t k d h; exact h.elim
  | succ n ih =>
    intro w lo t k d h m hm room
    obtain ⟨m, rfl⟩ : ∃ m', m = m' + 1 := ⟨m - 1, by omega⟩
    unfold szD
    split
    · rfl
    · refine szF_same _ _ _ (fun i hi r => ?_)
      obtain ⟨_, a, cap, _, _, hx⟩ := h
      obtain ⟨b, off, _, _, _, hc⟩ := hx (by omega)
      obtain ⟨t', k', _, _, hr⟩ := hc i hi
      exact ih hr m (by omega) r
theorem tree_fuel {n : Nat} {w : World} {lo : Nat} {t k : Value} {d : TD} (h : TreeAt w lo n t k d) : szD n d 30 = szD 31 d 30 := by
  rcases Nat.lt_or_ge 31 n with q | q
  · exact szD_more n 31 d 30 (by omega) (by omega)
  · exact (szD_deep n h 31 q 30).symm
theorem specOk_any {n : Nat} {w : World} {lo : Nat} {t k : Value} {d : TD} (ht : TreeAt w lo n t k d) :
    Calls Try.prog 29 #[.agg #[t, k]] w fun e w' => e = .returned (.bool (treeB d)) ∧ Below w.heap.size w w' :=
  (specTreeOk_any ht).mono fun _ _ h => ⟨by rw [h.1, tree_fuel ht]; rfl, h.2⟩
theorem implOk_any {n : Nat} {w : World} {lo : Nat} {t k : Value} {d : TD} (ht : TreeAt w lo n t k d) :
    Calls Try.prog 16 #[.agg #[t, k]] w fun e w' => e = .returned (.bool (treeB d)) ∧ Below w.heap.size w w' :=
  (implTreeOk_any ht).mono fun _ _ h => ⟨by rw [h.1, tree_fuel ht]; rfl, h.2⟩
theorem treeB_right {d : TD} (h : treeB d = true) : RightT d := by
  unfold treeB at h
  cases e : szD 31 d 30 with
  | none => rw [e] at h; cases h
  | some m => exact ⟨31, 30, m, e, Int.le_refl _⟩
/-! ### edits -/
structure EditD where
  vKind : Int
  vPath : List Int
  vTag : ByteArray
  vTree : TD
def emS (s : ByteArray) : Bool := decide (s = ⟨#[]⟩)
/-- nothing stands there -/
def emT (x : TD) : Bool := emS (strT x) && decide ((kidsOf x).length = 0)
/-- is an edit right, by itself? -/
def formB (e : EditD) : Bool :=
  if e.vKind = 1 then emS e.vTag && decide (0 < e.vPath.length) && treeB e.vTree else
  if e.vKind = 2 then emS e.vTag && decide (0 < e.vPath.length) && emT e.vTree else
  decide (e.vKind = 3) && nameB e.vTag.data.toList && emT e.vTree
def insK (ks : List TD) (i : Nat) (x : TD) : List TD := ks.take i ++ x :: ks.drop i
/-- a tree with another one put in, taken out, or with another tag, at a path -/
def putD (k : Int) (tag : ByteArray) (tr : TD) : List Int → TD → Option TD
  | [], d => if k = 3 then some (mkT tag (kidsOf d)) else none
  | p :: ps, d => if ps = [] ∧ k = 1 then (if 0 ≤ p ∧ p ≤ ((kidsOf d).length : Int) then some (mkT (strT d) (insK (kidsOf d) p.toNat tr)) else none) else
      if inB d p = true then (if ps = [] ∧ k = 2 then some (mkT (strT d) ((kidsOf d).eraseIdx p.toNat)) else (putD k tag tr ps (kidP d p)).map fun x => mkT (strT d) ((kidsOf d).set p.toNat x)) else none
def editedD (d : TD) (e : EditD) : Option TD := if treeB d = true ∧ formB e = true then (match putD e.vKind e.vTag e.vTree e.vPath d with
  | some x => if treeB x = true then some x else none
  | none => none) else none
/-- a tree with another one in the place of what stands at a path -/
def setP : TD → List Int → TD → TD
  | _, [], y => y
  | d, p :: ps, y => mkT (strT d) ((kidsOf d).set p.toNat (setP (kidP d p) ps y))
theorem putD_step {k : Int} {tag : ByteArray} {tr : TD} {p : Int} {ps : List Int} {d : TD} (h : ps = [] → k = 3) : putD k tag tr (p :: ps) d = if inB d p = true then (putD k tag tr ps (kidP d p)).map (fun x => mkT (strT d) ((kidsOf d).set p.toNat x)) else none := by
  have h1 : ¬ (ps = [] ∧ k = 1) := fun q => by have := h q.1; omega
  have h2 : ¬ (ps = [] ∧ k = 2) := fun q => by have := h q.1; omega
  conv => lhs; unfold putD
  rw [if_neg h1, if_neg h2]
theorem map_ite {α β : Type} {c : Prop} [Decidable c] {x : α} {f : α → β} : (if c then some x else none).map f = if c then some (f x) else none := by
  by_cases h : c
  · rw [if_pos h, if_pos h]; rfl
  · rw [if_neg h, if_neg h]; rfl
theorem putD_rename (tag : ByteArray) (tr : TD) : ∀ (ps : List Int) (d : TD), putD 3 tag tr ps d = if okP d ps = true then some (setP d ps (mkT tag (kidsOf (endP d ps)))) else none := by
  intro ps
  induction ps with
  | nil => intro d; rfl
  | cons p ps ih =>
    intro d
    rw [putD_step (fun _ => rfl), ih, map_ite]
    by_cases h : inB d p = true
    · rw [if_pos h]
      have e : okP d (p :: ps) = okP (kidP d p) ps := by simp [okP, h]
      rw [e]; rfl
    · rw [if_neg h, if_neg (by simp [okP, h])]
theorem putD_delete (tag : ByteArray) (tr : TD) (p : Int) : ∀ (q : List Int) (d : TD), putD 2 tag tr (q ++ [p]) d = if okP d (q ++ [p]) = true then some (setP d q (mkT (strT (endP d q)) ((kidsOf (endP d q)).eraseIdx p.toNat))) else none := by
  intro q
  induction q with
  | nil =>
    intro d
    show (if ([] : List Int) = [] ∧ (2 : Int) = 1 then _ else _) = _
    rw [if_neg (by omega)]
    by_cases h : inB d p = true
    · rw [if_pos h, if_pos (by simp), if_pos (by simp [okP, h])]; rfl
    · rw [if_neg h, if_neg (by simp [okP, h])]
  | cons x q ih =>
    intro d
    rw [List.cons_append, putD_step (fun e => by simp at e), ih, map_ite]
    by_cases h : inB d x = true
    · rw [if_pos h]
      have e : okP d (x :: (q ++ [p])) = okP (kidP d x) (q ++ [p]) := by simp [okP, h]
      rw [e]; rfl
    · rw [if_neg h, if_neg (by simp [okP, h])]
theorem putD_insert (tag : ByteArray) (tr : TD) (p : Int) : ∀ (q : List Int) (d : TD), putD 1 tag tr (q ++ [p]) d = if okP d q = true ∧ 0 ≤ p ∧ p ≤ ((kidsOf (endP d q)).length : Int) then some (setP d q (mkT (strT (endP d q)) (insK (kidsOf (endP d q)) p.toNat tr))) else none := by
  intro q
  induction q with
  | nil =>
    intro d
    show (if ([] : List Int) = [] ∧ (1 : Int) = 1 then _ else _) = _
    rw [if_pos (by simp)]
    by_cases h : 0 ≤ p ∧ p ≤ ((kidsOf d).length : Int)
    · rw [if_pos h, if_pos ⟨rfl, h⟩]; rfl
    · rw [if_neg h, if_neg (fun q => h q.2)]
  | cons x q ih =>
    intro d
    rw [List.cons_append, putD_step (fun e => by simp at e), ih, map_ite]
    by_cases h : inB d x = true
    · rw [if_pos h]
      have e : okP d (x :: q) = okP (kidP d x) q := by simp [okP, h]
      rw [e]; rfl
    · rw [if_neg h, if_neg (by simp [okP, h])]
theorem path_snoc : ∀ {ps : List Int}, 0 < ps.length → ∃ q p, ps = q ++ [p] ∧ q.length + 1 = ps.length := by
  intro ps
  induction ps with
  | nil => intro h; simp at h
  | cons x ps ih =>
    intro _
    cases ps with
    | nil => exact ⟨[], x, rfl, rfl⟩
    | cons y r =>
      obtain ⟨q, p, e, hl⟩ := ih (by simp)
      exact ⟨x :: q, p, by rw [e]; rfl, by simp at hl ⊢; omega⟩
end Go.Proofs.Ytndffcogddefiaa
