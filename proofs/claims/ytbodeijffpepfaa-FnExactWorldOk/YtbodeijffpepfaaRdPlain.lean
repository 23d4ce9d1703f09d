/- Texts of trees as a reader meets them: a tree, how many nodes it has, and what stands behind its text. -/
import Derived.Test.YtbodeijffpepfaaText
import Derived.Test.YtbodeijffpepfaaTreeO
import Derived.Test.YtbodeijffpepfaaRdLets
namespace Go.Proofs.Ytbodeijffpepfaa
open Go.RowKit
/-- these trees' texts, one behind the other: c nodes in all, l their texts and behind them r -/
def GdK (f : TD → Nat → List UInt8 → List UInt8 → Prop) : List TD → Nat → List UInt8 → List UInt8 → Prop
  | [], c, l, r => c = 0 ∧ l = r
  | k :: ks, c, l, r => ∃ c1 c2 m, c = c1 + c2 ∧ f k c1 l m ∧ GdK f ks c2 m r
/-- x is a tree of less than n levels and of c nodes whose tags are names; l is its text and behind it r -/
def Gd : Nat → TD → Nat → List UInt8 → List UInt8 → Prop
  | 0, _, _, _, _ => False
  | n + 1, x, c, l, r => ∃ (s : ByteArray) (ks : List TD) (m : List UInt8) (c' : Nat), x = mkT s ks ∧ nameB s.data.toList = true ∧ c = c' + 1 ∧ l = 60 :: (s.data.toList ++ 62 :: m) ∧ GdK (Gd n) ks c' m (60 :: 47 :: (s.data.toList ++ 62 :: r))
theorem GdK.mono {f g : TD → Nat → List UInt8 → List UInt8 → Prop} (hf : ∀ x c l r, f x c l r → g x c l r) : ∀ ks c l r, GdK f ks c l r → GdK g ks c l r := by
  intro ks
  induction ks with
  | nil => intro c l r h; exact h
  | cons k ks ih =>
    intro c l r h
    obtain ⟨c1, c2, m, h1, h2, h3⟩ := h
    exact ⟨c1, c2, m, h1, hf _ _ _ _ h2, ih _ _ _ h3⟩
theorem GdK.monoC {f g : TD → Nat → List UInt8 → List UInt8 → Prop} {b : Nat} (hf : ∀ x c l r, c ≤ b → f x c l r → g x c l r) : ∀ ks c l r, c ≤ b → GdK f ks c l r → GdK g ks c l r := by
  intro ks
  induction ks with
  | nil => intro c l r _ h; exact h
  | cons k ks ih =>
    intro c l r hc h
    obtain ⟨c1, c2, m, h1, h2, h3⟩ := h
    exact ⟨c1, c2, m, h1, hf _ _ _ _ (by omega) h2, ih _ _ _ (by omega) h3⟩
theorem Gd.pos {n : Nat} {x : TD} {c : Nat} {l r : List UInt8} (h : Gd n x c l r) : 1 ≤ c := by
  cases n with
  | zero => exact h.elim
  | succ n => obtain ⟨s, ks, m, c', _, _, h, _⟩ := h; omega
/-- a tree has no more levels than nodes -/
theorem Gd.deep : ∀ (n m : Nat) (x : TD) (c : Nat) (l r : List UInt8), Gd n x c l r → c ≤ m → Gd m x c l r := by
  intro n
  induction n with
  | zero => intro m x c l r h _; exact h.elim
  | succ n ih =>
    intro m x c l r h hc
    have hp := h.pos
    cases m with
    | zero => omega
    | succ m =>
      obtain ⟨s, ks, m', c', h1, h2, h3, h4, h5⟩ := h
      exact ⟨s, ks, m', c', h1, h2, h3, h4, GdK.monoC (b := m) (fun x c l r q h => ih m x c l r h q) _ _ _ _ (by omega) h5⟩
theorem GdK.snoc {f : TD → Nat → List UInt8 → List UInt8 → Prop} {k : TD} {c2 : Nat} {m r : List UInt8} (hk : f k c2 m r) : ∀ ks c1 l, GdK f ks c1 l m → GdK f (ks ++ [k]) (c1 + c2) l r := by
  intro ks
  induction ks with
  | nil => intro c1 l h; obtain ⟨rfl, rfl⟩ := h; exact ⟨c2, 0, r, by omega, hk, rfl, rfl⟩
  | cons k' ks ih =>
    intro c1 l h
    obtain ⟨d1, d2, m', h1, h2, h3⟩ := h
    exact ⟨d1, d2 + c2, m', by omega, h2, ih _ _ h3⟩
/-- a tree's text opens with a sign and a letter -/
theorem Gd.head {n : Nat} {x : TD} {c : Nat} {l r z : List UInt8} (h : Gd n x c l r) (e : l = 60 :: 47 :: z) : False := by
  cases n with
  | zero => exact h
  | succ n =>
    obtain ⟨s, ks, m, c', _, h2, _, h4, _⟩ := h
    have hl := name_len h2
    have hx := name_lets h2
    rw [e] at h4
    generalize s.data.toList = t at *
    cases t with
    | nil => simp at hl
    | cons a t =>
      simp only [List.cons_append, List.cons.injEq] at h4
      have := lets_get hx a (by simp)
      rw [← h4.2.1, let47] at this; cases this
/-- what was read of kids is the beginning of all kids -/
theorem GdK.split {f g : TD → Nat → List UInt8 → List UInt8 → Prop} (hu : ∀ x y c d l r q, f x c l r → g y d l q → x = y ∧ c = d ∧ r = q) (hh : ∀ x c l r z, f x c l r → l ≠ 60 :: 47 :: z) :
    ∀ (xs ks : List TD) (c1 c : Nat) (m0 m1 z : List UInt8), GdK f xs c1 m0 m1 → GdK g ks c m0 (60 :: 47 :: z) → ∃ rest c2, ks = xs ++ rest ∧ c = c1 + c2 ∧ GdK g rest c2 m1 (60 :: 47 :: z) := by
  intro xs
  induction xs with
  | nil => intro ks c1 c m0 m1 z h k; obtain ⟨rfl, rfl⟩ := h; exact ⟨ks, c, rfl, by omega, k⟩
  | cons x xs ih =>
    intro ks c1 c m0 m1 z h k
    obtain ⟨d1, d2, m, e1, e2, e3⟩ := h
    cases ks with
    | nil => obtain ⟨_, rfl⟩ := k; exact (hh _ _ _ _ _ e2 rfl).elim
    | cons y ks =>
      obtain ⟨b1, b2, m', k1, k2, k3⟩ := k
      obtain ⟨rfl, rfl, rfl⟩ := hu _ _ _ _ _ _ _ e2 k2
      obtain ⟨rest, c2, q1, q2, q3⟩ := ih ks d2 b2 m m1 z e3 k3
      exact ⟨rest, c2, by rw [q1]; rfl, by omega, q3⟩
theorem GdK.stop {g : TD → Nat → List UInt8 → List UInt8 → Prop} (hh : ∀ x c l r z, g x c l r → l ≠ 60 :: 47 :: z) {ks : List TD} {c : Nat} {y z : List UInt8} (h : GdK g ks c (60 :: 47 :: y) (60 :: 47 :: z)) : ks = [] ∧ c = 0 ∧ y = z := by
  cases ks with
  | nil => obtain ⟨h1, h2⟩ := h; simp at h2; exact ⟨rfl, h1, h2⟩
  | cons k ks => obtain ⟨_, _, _, _, h2, _⟩ := h; exact (hh _ _ _ _ _ h2 rfl).elim
/-- a text is that of one tree alone -/
theorem Gd.one : ∀ (n m : Nat) (x y : TD) (c d : Nat) (l r q : List UInt8), Gd n x c l r → Gd m y d l q → x = y ∧ c = d ∧ r = q := by
  intro n
  induction n with
  | zero => intro m x y c d l r q h; exact h.elim
  | succ n ih =>
    intro m x y c d l r q h k
    cases m with
    | zero => exact k.elim
    | succ m =>
      obtain ⟨s, ks, m1, c', h1, h2, h3, h4, h5⟩ := h
      obtain ⟨t, ls, m2, d', k1, k2, k3, k4, k5⟩ := k
      rw [h4] at k4
      simp only [List.cons.injEq, true_and] at k4
      obtain ⟨e1, _, e3⟩ := lets_one let62 let62 _ _ _ _ (name_lets h2) (name_lets k2) k4
      obtain rfl := ba_of e1
      subst e3
      obtain ⟨rest, c2, z1, z2, z3⟩ := GdK.split (fun x y c d l r q h k => ih m x y c d l r q h k) (fun x c l r z h e => h.head e) ks ls c' d' m1 _ _ h5 k5
      obtain ⟨y1, y2, y3⟩ := GdK.stop (fun x c l r z h e => Gd.head h e) z3
      obtain ⟨_, _, e4⟩ := lets_one let62 let62 _ _ _ _ (name_lets h2) (name_lets h2) y3
      subst y1 y2
      simp at z1
      exact ⟨by rw [h1, k1, z1], by omega, e4⟩
theorem Gd.split {n m : Nat} {xs ks : List TD} {c1 c : Nat} {m0 m1 z : List UInt8} (h : GdK (Gd n) xs c1 m0 m1) (k : GdK (Gd m) ks c m0 (60 :: 47 :: z)) : ∃ rest c2, ks = xs ++ rest ∧ c = c1 + c2 ∧ GdK (Gd m) rest c2 m1 (60 :: 47 :: z) :=
  GdK.split (fun x y c d l r q h k => Gd.one _ _ x y c d l r q h k) (fun _ _ _ _ _ h e => h.head e) xs ks c1 c m0 m1 z h k
theorem Gd.stop {m : Nat} {ks : List TD} {c : Nat} {y z : List UInt8} (h : GdK (Gd m) ks c (60 :: 47 :: y) (60 :: 47 :: z)) : ks = [] ∧ c = 0 ∧ y = z := GdK.stop (fun _ _ _ _ _ h e => Gd.head h e) h
/-- trees that are laid out as data are -/
def Canon : Nat → TD → Prop
  | 0, _ => False
  | n + 1, x => x = mkT (strT x) (kidsOf x) ∧ ∀ k ∈ kidsOf x, Canon n k
/-- how many nodes a tree has: what sizes tell of one that is read -/
theorem GdK.size {f : TD → Nat → List UInt8 → List UInt8 → Prop} {g : TD → Int → Option Int} (hf : ∀ x c l r room, f x c l r → g x room = if (c : Int) ≤ room then some (c : Int) else none) :
    ∀ (ks : List TD) (c : Nat) (l r : List UInt8) (room size : Int), size ≤ room → GdK f ks c l r → szF g ks room size = if size + c ≤ room then some (size + c) else none := by
  intro ks
  induction ks with
  | nil => intro c l r room size hs h; obtain ⟨rfl, _⟩ := h; simp [szF, hs]
  | cons k ks ih =>
    intro c l r room size hs h
    obtain ⟨c1, c2, m, rfl, h2, h3⟩ := h
    unfold szF
    rw [hf _ _ _ _ (room - size) h2]
    by_cases hle : (c1 : Int) ≤ room - size
    · rw [if_pos hle]
      show szF g ks room (size + c1) = _
      rw [ih _ _ _ _ _ (by omega) h3]
      have e : size + (c1 : Int) + (c2 : Int) = size + ((c1 + c2 : Nat) : Int) := by omega
      rw [e]
    · rw [if_neg hle, if_neg (by omega)]
theorem Gd.size : ∀ (n : Nat) (x : TD) (c : Nat) (l r : List UInt8) (room : Int), Gd n x c l r → szD n x room = if (c : Int) ≤ room then some (c : Int) else none := by
  intro n
  induction n with
  | zero => intro x c l r room h; exact h.elim
  | succ n ih =>
    intro x c l r room h
    obtain ⟨s, ks, m, c', rfl, h2, rfl, _, h5⟩ := h
    by_cases hr : 1 ≤ room
    · rw [szD_yes hr (by rw [mkT_tag]; exact h2), mkT_kids, GdK.size ih ks c' m _ room 1 hr h5]
      have e : (1 : Int) + (c' : Int) = ((c' + 1 : Nat) : Int) := by omega
      rw [e]
    · rw [szD_no (Or.inl (by omega)), if_neg (by omega)]
theorem GdK.text {f : TD → Nat → List UInt8 → List UInt8 → Prop} {g : TD → List UInt8} (hf : ∀ x c l r, f x c l r → l = g x ++ r) : ∀ (ks : List TD) (c : Nat) (l r : List UInt8), GdK f ks c l r → l = textK g ks ++ r := by
  intro ks
  induction ks with
  | nil => intro c l r h; obtain ⟨_, rfl⟩ := h; rfl
  | cons k ks ih =>
    intro c l r h
    obtain ⟨c1, c2, m, _, h2, h3⟩ := h
    rw [hf _ _ _ _ h2, ih _ _ _ h3]; simp [textK]
theorem Gd.text : ∀ (n : Nat) (x : TD) (c : Nat) (l r : List UInt8), Gd n x c l r → l = textD n x ++ r := by
  intro n
  induction n with
  | zero => intro x c l r h; exact h.elim
  | succ n ih =>
    intro x c l r h
    obtain ⟨s, ks, m, c', rfl, _, _, rfl, h5⟩ := h
    have := GdK.text ih ks c' m _ h5
    rw [this]
    simp [textD, headT, footT, mkT_tag, mkT_kids]
theorem szF_gd {f : TD → Nat → List UInt8 → List UInt8 → Prop} {g : TD → Int → Option Int} {t : TD → List UInt8} : ∀ (ks : List TD) (room size m : Int) (r : List UInt8), (∀ k ∈ ks, ∀ room m, g k room = some m → ∀ r, ∃ c : Nat, (c : Int) = m ∧ f k c (t k ++ r) r) → szF g ks room size = some m → ∃ c : Nat, size + (c : Int) = m ∧ GdK f ks c (textK t ks ++ r) r := by
  intro ks
  induction ks with
  | nil => intro room size m r _ h; simp [szF] at h; exact ⟨0, by omega, rfl, rfl⟩
  | cons k ks ih =>
    intro room size m r hf h
    unfold szF at h
    split at h
    · cases h
    · rename_i q hq
      obtain ⟨c1, e1, f1⟩ := hf k (by simp) _ _ hq (textK t ks ++ r)
      obtain ⟨c2, e2, f2⟩ := ih room (size + q) m r (fun k hk => hf k (List.mem_cons_of_mem _ hk)) h
      exact ⟨c1 + c2, by omega, c1, c2, _, rfl, by simpa [textK] using f1, f2⟩
/-- a right tree is one that is read -/
theorem gd_of : ∀ (n : Nat) (x : TD) (room m : Int), Canon n x → szD n x room = some m → ∀ r, ∃ c : Nat, (c : Int) = m ∧ Gd n x c (textD n x ++ r) r := by
  intro n
  induction n with
  | zero => intro x room m h; exact h.elim
  | succ n ih =>
    intro x room m h hs r
    obtain ⟨h1, h2⟩ := h
    have hn : nameB (tagOf x) = true ∧ 1 ≤ room := by
      unfold szD at hs
      split at hs
      · cases hs
      · rename_i hc; constructor
        · cases hb : nameB (tagOf x) with
          | true => rfl
          | false => exact absurd (Or.inr hb) hc
        · omega
    rw [szD_yes hn.2 hn.1] at hs
    have hst : (strT x).data.toList = tagOf x := by simp [strT]
    obtain ⟨c, e1, e2⟩ := szF_gd (f := Gd n) (t := textD n) (kidsOf x) room 1 m (60 :: 47 :: ((strT x).data.toList ++ 62 :: r)) (fun k hk room m q r => ih k room m (h2 k hk) q r) hs
    refine ⟨c + 1, by omega, strT x, kidsOf x, _, c, h1, by rw [hst]; exact hn.1, rfl, ?_, e2⟩
    rw [hst]
    simp [textD, headT, footT]
theorem Canon.up : ∀ (n : Nat) (x : TD), Canon n x → Canon (n + 1) x := by
  intro n
  induction n with
  | zero => intro x h; exact h.elim
  | succ n ih => intro x h; exact ⟨h.1, fun k hk => ih k (h.2 k hk)⟩
end Go.Proofs.Ytbodeijffpepfaa
