/- Things that point at one another: how they lie in memory, and how one more link is laid. -/
import Derived.Test.YtdfomaclnopfeaaGraphPlain
import Derived.Test.YtdfomaclnopfeaaMapLaws
import Derived.Test.YtdfomaclnopfeaaHeapUp
import Derived.Deep.AppendLies
namespace Go.Proofs.Ytdfomaclnopfeaa
open Go.RowKit
/-- a thing: its Id, its place, its block -/
structure ThD where
  id : Int
  pl : Int
  blk : Nat
def ptrOf (Ts : List ThD) (k : Int) : Value :=
  match getI ThD.id Ts k with
  | some t => .pointer (some ⟨t.blk, 0, none⟩)
  | none => .pointer none
def Apart (Ts : List ThD) : Prop := (∀ t ∈ Ts, ∀ u ∈ Ts, t.id = u.id → t = u) ∧ ∀ t ∈ Ts, ∀ u ∈ Ts, t.blk = u.blk → t = u
theorem getI_one {Ts : List ThD} (hA : ∀ t ∈ Ts, ∀ u ∈ Ts, t.id = u.id → t = u) {t : ThD} (ht : t ∈ Ts) : getI ThD.id Ts t.id = some t := by
  cases hq : getI ThD.id Ts t.id with
  | none => exact absurd hq (mem_get Ts t ht)
  | some u =>
    obtain ⟨h1, h2⟩ := get_mem Ts u hq
    rw [hA u h1 t ht h2]
theorem ptrOf_at {Ts : List ThD} {k : Int} {t : ThD} (h : getI ThD.id Ts k = some t) : ptrOf Ts k = .pointer (some ⟨t.blk, 0, none⟩) := by simp [ptrOf, h]
/-- these blocks are as they were -/
def KeepK (K : Nat → Prop) (w w' : World) : Prop := w'.os = w.os ∧ w'.tape = w.tape ∧ w'.output = w.output ∧ w.heap.size ≤ w'.heap.size ∧ ∀ b, K b → w'.heap[b]? = w.heap[b]?
theorem KeepK.refl (K : Nat → Prop) (w : World) : KeepK K w w := ⟨rfl, rfl, rfl, Nat.le_refl _, fun _ _ => rfl⟩
theorem KeepK.trans {K : Nat → Prop} {a b c : World} (h : KeepK K a b) (k : KeepK K b c) : KeepK K a c :=
  ⟨k.1.trans h.1, k.2.1.trans h.2.1, k.2.2.1.trans h.2.2.1, Nat.le_trans h.2.2.2.1 k.2.2.2.1, fun x hx => (k.2.2.2.2 x hx).trans (h.2.2.2.2 x hx)⟩
theorem KeepK.of_below {K : Nat → Prop} {w w' : World} (h : Below w.heap.size w w') (hK : ∀ b, K b → b < w.heap.size) : KeepK K w w' := ⟨h.os, h.tape, h.output, h.size, fun b hb => h.block b (hK b hb)⟩
theorem KeepK.below {K : Nat → Prop} {w w' : World} {B : Nat} (h : KeepK K w w') (hK : ∀ b, b < B → K b) : Below B w w' := ⟨h.1, h.2.1, h.2.2.1, h.2.2.2.1, fun b hb => h.2.2.2.2 b (hK b hb)⟩
theorem KeepK.set {K : Nat → Prop} {a w : World} {b i : Nat} (h : KeepK K a w) (hb : ¬ K b) (v : Value) : KeepK K a (w.setCell ⟨b, i, none⟩ v) :=
  h.trans ⟨rfl, rfl, rfl, by rw [set_size]; exact Nat.le_refl _, fun x hx => set_other (fun e : x = b => hb (e ▸ hx)) v⟩
theorem KeepK.grown {K : Nat → Prop} {a w w' : World} {row : Option Nat} (h : KeepK K a w) (hg : w.grownBy w' row) (hK : ∀ b, K b → b < w.heap.size) (hr : ∀ g, row = some g → ¬ K g) : KeepK K a w' :=
  h.trans ⟨hg.os, hg.tape, hg.output, hg.size, fun x hx => hg.block x (hK x hx) (fun e => hr x e.symm hx)⟩
theorem KeepK.mono {K K' : Nat → Prop} {w w' : World} (h : KeepK K w w') (hs : ∀ b, K' b → K b) : KeepK K' w w' := ⟨h.1, h.2.1, h.2.2.1, h.2.2.2.1, fun b hb => h.2.2.2.2 b (hs b hb)⟩
theorem row_keep {w w' : World} {base e size n : Nat} {v : Value} {xs : List Value} (h : w.ownsRow base e size v n xs) (hk : ∀ g, v.ownBlock = some g → w'.heap[g]? = w.heap[g]?) : w'.ownsRow base e size v n xs := by
  refine ⟨h.1, ?_⟩
  rcases h.2 with h2 | ⟨g, cap, cur, hv, hg, hh, r⟩
  · exact Or.inl h2
  · exact Or.inr ⟨g, cap, cur, hv, hg, (hk g (by rw [hv]; rfl)).trans hh, r⟩
theorem row_blk {w : World} {base e size n : Nat} {v : Value} {xs : List Value} (h : w.ownsRow base e size v n xs) {g : Nat} (hg : v.ownBlock = some g) : ∃ cur, w.heap[g]? = some (.cells cur e (0, 0)) := by
  rcases h.2 with ⟨rfl, _⟩ | ⟨g', cap, cur, rfl, _, hh, r⟩
  · cases hg
  · simp only [Value.ownBlock, Option.some.injEq] at hg
    subst hg
    exact ⟨cur, hh⟩
theorem row_lt' {w : World} {base e size n : Nat} {v : Value} {xs : List Value} (h : w.ownsRow base e size v n xs) {g : Nat} (hg : v.ownBlock = some g) : g < w.heap.size := by
  obtain ⟨cur, hh⟩ := row_blk h hg
  exact (Array.getElem?_eq_some_iff.1 hh).1
theorem row_ne_box {w : World} {base e size n b T : Nat} {v : Value} {xs cs : List Value} (h : w.ownsRow base e size v n xs) (hB : Box w b cs T) (hT : e ≠ T) {g : Nat} (hg : v.ownBlock = some g) : g ≠ b := by
  obtain ⟨cur, hh⟩ := row_blk h hg
  rintro rfl
  rw [show w.heap[g]? = _ from hB] at hh
  injection hh with hh
  injection hh with _ h2 _
  exact hT h2.symm
def GStS (S : Int → Value) (K : Nat → Prop) (base : Nat) (w : World) (o : ThD) (Ts : List ThD) (acc : List (Int × Int)) : Prop :=
  (∀ t ∈ o :: Ts, Box w t.blk [.int .i64 t.id, .int .i64 t.pl, S t.id, .int .i64 (heldC acc t.id)] 67 ∧ w.ownsRow base 59 1 (S t.id) (holdsC acc t.id).length ((holdsC acc t.id).map (ptrOf Ts)) ∧ ¬ K t.blk ∧ ∀ g, (S t.id).ownBlock = some g → ¬ K g) ∧
  (∀ t ∈ o :: Ts, ∀ u ∈ o :: Ts, t.id ≠ u.id → ∀ g, (S t.id).ownBlock = some g → (S u.id).ownBlock ≠ some g) ∧ ∀ b, K b → b < w.heap.size
/-- the things, and what is outside, who hold one another so -/
def GSt (K : Nat → Prop) (base : Nat) (w : World) (o : ThD) (Ts : List ThD) (acc : List (Int × Int)) : Prop := ∃ S, GStS S K base w o Ts acc
theorem GStS.below {S : Int → Value} {K : Nat → Prop} {base : Nat} {w w' : World} {o : ThD} {Ts : List ThD} {acc : List (Int × Int)} (h : GStS S K base w o Ts acc) (hb : Below w.heap.size w w') : GStS S K base w' o Ts acc := by
  refine ⟨fun t ht => ?_, h.2.1, fun b q => Nat.lt_of_lt_of_le (h.2.2 b q) hb.size⟩
  obtain ⟨h1, h2, h3, h4⟩ := h.1 t ht
  exact ⟨h1.below hb h1.lt, row_keep h2 (fun g q => hb.block g (row_lt' h2 q)), h3, h4⟩
theorem GSt.below {K : Nat → Prop} {base : Nat} {w w' : World} {o : ThD} {Ts : List ThD} {acc : List (Int × Int)} (h : GSt K base w o Ts acc) (hb : Below w.heap.size w w') : GSt K base w' o Ts acc := by
  obtain ⟨S, h⟩ := h; exact ⟨S, h.below hb⟩
/-- a frame's own block turned, none of these -/
theorem GStS.keep {S : Int → Value} {K : Nat → Prop} {base : Nat} {w w' : World} {o : ThD} {Ts : List ThD} {acc : List (Int × Int)} (h : GStS S K base w o Ts acc) (hs : w.heap.size ≤ w'.heap.size) (hk : ∀ b, b < w.heap.size → ¬ K b → w'.heap[b]? = w.heap[b]?) : GStS S K base w' o Ts acc := by
  refine ⟨fun t ht => ?_, h.2.1, fun b q => Nat.lt_of_lt_of_le (h.2.2 b q) hs⟩
  obtain ⟨h1, h2, h3, h4⟩ := h.1 t ht
  exact ⟨(hk _ h1.lt h3).trans h1, row_keep h2 (fun g q => hk g (row_lt' h2 q) (h4 g q)), h3, h4⟩
theorem GSt.keep {K : Nat → Prop} {base : Nat} {w w' : World} {o : ThD} {Ts : List ThD} {acc : List (Int × Int)} (h : GSt K base w o Ts acc) (hs : w.heap.size ≤ w'.heap.size) (hk : ∀ b, b < w.heap.size → ¬ K b → w'.heap[b]? = w.heap[b]?) : GSt K base w' o Ts acc := by
  obtain ⟨S, h⟩ := h; exact ⟨S, h.keep hs hk⟩
/-- more blocks are left alone -/
theorem GSt.more {K K' : Nat → Prop} {base : Nat} {w w' : World} {o : ThD} {Ts : List ThD} {acc : List (Int × Int)} (h : GSt K base w o Ts acc) (hb : Below w.heap.size w w') (hs : ∀ b, K' b → K b ∨ w.heap.size ≤ b) (hl : ∀ b, K' b → b < w'.heap.size) : GSt K' base w' o Ts acc := by
  obtain ⟨S, h⟩ := h
  refine ⟨S, fun t ht => ?_, h.2.1, hl⟩
  obtain ⟨h1, h2, h3, h4⟩ := h.1 t ht
  refine ⟨h1.below hb h1.lt, row_keep h2 (fun g q => hb.block g (row_lt' h2 q)), fun q => ?_, fun g q k => ?_⟩
  · rcases hs _ q with e | e
    · exact h3 e
    · have := h1.lt; omega
  · rcases hs _ k with e | e
    · exact h4 g q e
    · have := row_lt' h2 q; omega
theorem GSt.less {K K' : Nat → Prop} {base : Nat} {w : World} {o : ThD} {Ts : List ThD} {acc : List (Int × Int)} (h : GSt K base w o Ts acc) (hs : ∀ b, K' b → K b) : GSt K' base w o Ts acc := by
  obtain ⟨S, h⟩ := h
  exact ⟨S, fun t ht => ⟨(h.1 t ht).1, (h.1 t ht).2.1, fun q => (h.1 t ht).2.2.1 (hs _ q), fun g q k => (h.1 t ht).2.2.2 g q (hs _ k)⟩, h.2.1, fun b q => h.2.2 b (hs b q)⟩
theorem GStS.cells {S : Int → Value} {K : Nat → Prop} {base : Nat} {w w1 : World} {o : ThD} {Ts : List ThD} {acc : List (Int × Int)} (hA : Apart (o :: Ts)) (h : GStS S K base w o Ts acc) {p t : ThD} (hp : p ∈ o :: Ts) (ht : t ∈ Ts) (hgrow : w.grownBy w1 (S p.id).ownBlock) (v : Value) :
    w1.cell? ⟨p.blk, 2, none⟩ = some (S p.id) ∧ w1.frozen? ⟨p.blk, 2, none⟩ = false ∧ (w1.setCell ⟨p.blk, 2, none⟩ v).cell? ⟨t.blk, 3, none⟩ = some (.int .i64 (heldC acc t.id)) ∧ (w1.setCell ⟨p.blk, 2, none⟩ v).frozen? ⟨t.blk, 3, none⟩ = false := by
  have ht' : t ∈ o :: Ts := List.mem_cons_of_mem _ ht
  obtain ⟨_, hp2, _⟩ := h.1 p hp
  have box2 : ∀ u ∈ o :: Ts, Box w1 u.blk [.int .i64 u.id, .int .i64 u.pl, S u.id, .int .i64 (heldC acc u.id)] 67 := fun u hu => by
    obtain ⟨b1, _⟩ := h.1 u hu
    exact (hgrow.block _ b1.lt (fun e => row_ne_box hp2 b1 (by decide) e.symm rfl)).trans b1
  have bp := box2 p hp
  by_cases e : t.blk = p.blk
  · obtain rfl := hA.2 t ht' p hp e
    have bs := bp.set (i := 2) v
    exact ⟨bp.cell 2 rfl, bp.unfrozen 2, bs.cell 3 rfl, bs.unfrozen 3⟩
  · have bs := (box2 t ht').other (i := 2) e v
    exact ⟨bp.cell 2 rfl, bp.unfrozen 2, bs.cell 3 rfl, bs.unfrozen 3⟩
/-- ONE MORE LINK -/
theorem GStS.link {S : Int → Value} {K : Nat → Prop} {base : Nat} {w w2 : World} {o : ThD} {Ts : List ThD} {acc : List (Int × Int)} (hA : Apart (o :: Ts)) (h : GStS S K base w o Ts acc) {p t : ThD} (hp : p ∈ o :: Ts) (ht : t ∈ Ts) {g cap n : Nat} (hn : n = (holdsC acc p.id).length + 1)
    (hown : w2.ownsRow base 59 1 (.slice (some ⟨g, 0, none⟩) n cap) n ((holdsC acc p.id).map (ptrOf Ts) ++ [.pointer (some ⟨t.blk, 0, none⟩)])) (hgrow : w.grownBy w2 (S p.id).ownBlock) (hat : (S p.id).ownBlock = some g ∨ w.heap.size ≤ g) :
    GStS (fun q => if q = p.id then .slice (some ⟨g, 0, none⟩) n cap else S q) K base ((w2.setCell ⟨p.blk, 2, none⟩ (.slice (some ⟨g, 0, none⟩) n cap)).setCell ⟨t.blk, 3, none⟩ (.int .i64 (heldC acc t.id + 1))) o Ts (acc ++ [(p.id, t.id)]) := by
  subst hn
  have ht' : t ∈ o :: Ts := List.mem_cons_of_mem _ ht
  obtain ⟨hp1, hp2, hp3, hp4⟩ := h.1 p hp
  have box2 : ∀ u ∈ o :: Ts, Box w2 u.blk [.int .i64 u.id, .int .i64 u.pl, S u.id, .int .i64 (heldC acc u.id)] 67 := fun u hu => by
    obtain ⟨b1, _⟩ := h.1 u hu
    exact (hgrow.block _ b1.lt (fun e => row_ne_box hp2 b1 (by decide) e.symm rfl)).trans b1
  have hptr : ptrOf Ts t.id = .pointer (some ⟨t.blk, 0, none⟩) := ptrOf_at (getI_one (fun a ha b hb => hA.1 a (List.mem_cons_of_mem _ ha) b (List.mem_cons_of_mem _ hb)) ht)
  have hgK : ¬ K g := by
    rcases hat with e | e
    · exact hp4 g e
    · intro q; have := h.2.2 g q; omega
  have gne : ∀ u ∈ o :: Ts, g ≠ u.blk := fun u hu => row_ne_box hown (box2 u hu) (by decide) rfl
  refine ⟨fun u hu => ?_, fun a ha b hb hne x hx => ?_, fun b q => ?_⟩
  · obtain ⟨b1, b2, b3, b4⟩ := h.1 u hu
    refine ⟨?_, ?_, b3, fun x hx => ?_⟩
    · -- the box
      dsimp only
      have B2 := box2 u hu
      have e1 : Box (w2.setCell ⟨p.blk, 2, none⟩ (.slice (some ⟨g, 0, none⟩) ((holdsC acc p.id).length + 1) cap)) u.blk [.int .i64 u.id, .int .i64 u.pl, if u.id = p.id then .slice (some ⟨g, 0, none⟩) ((holdsC acc p.id).length + 1) cap else S u.id, .int .i64 (heldC acc u.id)] 67 := by
        by_cases e : u.id = p.id
        · obtain rfl := hA.1 u hu p hp e
          rw [if_pos rfl]
          exact B2.set (i := 2) _
        · rw [if_neg e]
          exact B2.other (fun q => e (by rw [hA.2 u hu p hp q])) _
      rw [heldC_snoc]
      by_cases e : t.id = u.id
      · obtain rfl := hA.1 t ht' u hu e
        rw [if_pos rfl]
        exact e1.set (i := 3) _
      · rw [if_neg e]
        exact e1.other (fun q => e (by rw [hA.2 u hu t ht' q])) _
    · -- the row
      dsimp only
      rw [holdsC_snoc]
      by_cases e : u.id = p.id
      · obtain rfl := hA.1 u hu p hp e
        rw [if_pos rfl, if_pos rfl]
        refine row_keep (w := w2) ?_ (fun x hx => ?_)
        · rw [List.length_append, List.map_append]
          simp only [List.map_cons, List.map_nil, hptr]
          exact hown
        · simp only [Value.ownBlock, Option.some.injEq] at hx
          subst hx
          rw [set_other (gne t ht'), set_other (gne u hu)]
      · rw [if_neg e, if_neg (fun q => e q.symm)]
        refine row_keep b2 (fun x hx => ?_)
        have hx1 : x ≠ p.blk := row_ne_box b2 hp1 (by decide) hx
        have hx2 : x ≠ t.blk := row_ne_box b2 (h.1 t ht').1 (by decide) hx
        rw [set_other hx2, set_other hx1]
        exact hgrow.block x (row_lt' b2 hx) (fun q => h.2.1 u hu p hp e x hx q.symm)
    · dsimp only at hx
      by_cases e : u.id = p.id
      · rw [if_pos e] at hx
        simp only [Value.ownBlock, Option.some.injEq] at hx
        exact hx ▸ hgK
      · rw [if_neg e] at hx
        exact b4 x hx
  · dsimp only at hx ⊢
    by_cases ea : a.id = p.id
    · have eb : b.id ≠ p.id := fun q => hne (ea.trans q.symm)
      rw [if_pos ea] at hx
      rw [if_neg eb]
      simp only [Value.ownBlock, Option.some.injEq] at hx
      subst hx
      intro q
      rcases hat with k | k
      · exact h.2.1 b hb p hp eb _ q k
      · have := row_lt' (h.1 b hb).2.1 q; omega
    · rw [if_neg ea] at hx
      by_cases eb : b.id = p.id
      · rw [if_pos eb]
        intro q
        simp only [Value.ownBlock, Option.some.injEq] at q
        subst q
        rcases hat with k | k
        · exact h.2.1 a ha p hp ea _ hx k
        · have := row_lt' (h.1 a ha).2.1 hx; omega
      · rw [if_neg eb]
        exact h.2.1 a ha b hb hne x hx
  · rw [set_size, set_size]
    exact Nat.lt_of_lt_of_le (h.2.2 b q) hgrow.size
theorem GStS.link1 {S : Int → Value} {K : Nat → Prop} {base : Nat} {w w2 : World} {o : ThD} {Ts : List ThD} {acc : List (Int × Int)} (hA : Apart (o :: Ts)) (h : GStS S K base w o Ts acc) {p t : ThD} (hp : p ∈ o :: Ts) (ht : t ∈ Ts) {g cap n : Nat} (hn : n = (holdsC acc p.id).length + 1)
    (hown : w2.ownsRow base 59 1 (.slice (some ⟨g, 0, none⟩) n cap) n ((holdsC acc p.id).map (ptrOf Ts) ++ [.pointer (some ⟨t.blk, 0, none⟩)])) (hgrow : w.grownBy w2 (S p.id).ownBlock) (hat : (S p.id).ownBlock = some g ∨ w.heap.size ≤ g) :
    GSt K base ((w2.setCell ⟨p.blk, 2, none⟩ (.slice (some ⟨g, 0, none⟩) n cap)).setCell ⟨t.blk, 3, none⟩ (.int .i64 (heldC acc t.id + 1))) o Ts (acc ++ [(p.id, t.id)]) := ⟨_, h.link hA hp ht hn hown hgrow hat⟩
/-! ### the map from Ids to things -/
def PEnts : List MapEntry → List ThD → Prop
  | [], [] => True
  | e :: es, t :: ts => e.key = .int .i64 t.id ∧ e.val = .pointer (some ⟨t.blk, 0, none⟩) ∧ PEnts es ts
  | _, _ => False
theorem find_pents {id : Int} : ∀ (es : List MapEntry) (ts : List ThD) (j : Nat), PEnts es ts →
    (getI ThD.id ts id = none ∧ Instr.findNow (.int .i64) (.int .i64 id) es j = some none) ∨ ∃ t i, getI ThD.id ts id = some t ∧ Instr.findNow (.int .i64) (.int .i64 id) es j = some (some (i, .pointer (some ⟨t.blk, 0, none⟩))) := by
  intro es
  induction es with
  | nil => intro ts j h; cases ts with
    | nil => exact Or.inl ⟨rfl, rfl⟩
    | cons x xs => exact h.elim
  | cons e es ih => intro ts j h; cases ts with
    | nil => exact h.elim
    | cons x xs =>
      obtain ⟨h1, h2, h4⟩ := h
      by_cases hq : x.id = id
      · refine Or.inr ⟨x, j, by simp [getI, hq], ?_⟩
        simp [Instr.findNow, Instr.sameNow, h1, hq, h2]
      · have hq' : (id == x.id) = false := by simpa using fun h : id = x.id => hq h.symm
        rcases ih xs (j + 1) h4 with ⟨g1, g2⟩ | ⟨y, i, g1, g2⟩
        · refine Or.inl ⟨by simp [getI, hq, g1], ?_⟩
          simp [Instr.findNow, Instr.sameNow, h1, hq', g2]
        · refine Or.inr ⟨y, i, by simp [getI, hq, g1], ?_⟩
          simp [Instr.findNow, Instr.sameNow, h1, hq', g2]
def PMap (w : World) (b : Nat) (ts : List ThD) : Prop := ∃ (es : Array MapEntry) (clock : Nat), w.heap[b]? = some (.map es clock) ∧ PEnts es.toList ts
theorem PMap.lt {w : World} {b : Nat} {ts : List ThD} (h : PMap w b ts) : b < w.heap.size := by
  obtain ⟨es, clock, h1, _⟩ := h
  exact (Array.getElem?_eq_some_iff.1 h1).1
theorem PMap.keep {w w' : World} {b : Nat} {ts : List ThD} (h : PMap w b ts) (e : w'.heap[b]? = w.heap[b]?) : PMap w' b ts := by
  obtain ⟨es, clock, h1, h2⟩ := h
  exact ⟨es, clock, e.trans h1, h2⟩
theorem run_lookP {w : World} {b : Nat} {ts : List ThD} {M E : TypeId} (hm : PMap w b ts) (hT : Try.prog.underlying M = some (.map 2 E)) (hz : ((Try.prog.info? E).map fun i => i.zero) = some (some (.pointer none))) (id : Int) :
    (getI ThD.id ts id = none ∧ (Instr.lookup M (.map (some b)) (.int .i64 id) true).run Try.prog w = .ok (.tuple #[.pointer none, .bool false]) w) ∨
    ∃ t, getI ThD.id ts id = some t ∧ (Instr.lookup M (.map (some b)) (.int .i64 id) true).run Try.prog w = .ok (.tuple #[.pointer (some ⟨t.blk, 0, none⟩), .bool true]) w := by
  obtain ⟨es, clock, h1, h2⟩ := hm
  obtain ⟨i, hi, hz⟩ := Option.map_eq_some_iff.1 hz
  have hc : ∀ e, (Instr.checkKey e 10000 2 (.int .i64 id)).run Try.prog w = .ok () w := fun e => MapKept.run_checkKey (k := .int .i64 id) Try.underlying2 (by simp [MapKept.IsKey]) e 9999
  rcases find_pents (id := id) es.toList ts 0 h2 with ⟨g1, g2⟩ | ⟨x, i', g1, g2⟩
  · refine Or.inl ⟨g1, ?_⟩
    simp [Instr.lookup, run_underlying hT, MapKept.run_getObj_map h1, hc, MapKept.run_findKey Try.underlying2 g2, Result.andThen, zeroValue, typeInfo, hi, hz]
  · refine Or.inr ⟨x, g1, ?_⟩
    simp [Instr.lookup, run_underlying hT, MapKept.run_getObj_map h1, hc, MapKept.run_findKey Try.underlying2 g2, Result.andThen]
theorem run_lookP1 {w : World} {b : Nat} {ts : List ThD} {M E : TypeId} (hm : PMap w b ts) (hT : Try.prog.underlying M = some (.map 2 E)) {id : Int} {t : ThD} (ht : getI ThD.id ts id = some t) :
    (Instr.lookup M (.map (some b)) (.int .i64 id) false).run Try.prog w = .ok (.pointer (some ⟨t.blk, 0, none⟩)) w := by
  obtain ⟨es, clock, h1, h2⟩ := hm
  have hc : ∀ e, (Instr.checkKey e 10000 2 (.int .i64 id)).run Try.prog w = .ok () w := fun e => MapKept.run_checkKey (k := .int .i64 id) Try.underlying2 (by simp [MapKept.IsKey]) e 9999
  rcases find_pents (id := id) es.toList ts 0 h2 with ⟨g1, g2⟩ | ⟨x, i', g1, g2⟩
  · rw [ht] at g1; cases g1
  · rw [ht] at g1; cases g1
    simp [Instr.lookup, run_underlying hT, MapKept.run_getObj_map h1, hc, MapKept.run_findKey Try.underlying2 g2, Result.andThen]
theorem run_putP {w : World} {b : Nat} {ts : List ThD} {M E : TypeId} {es : Array MapEntry} {clock : Nat} (h1 : w.heap[b]? = some (.map es clock)) (h2 : PEnts es.toList ts) (hT : Try.prog.underlying M = some (.map 2 E)) (id : Int) (v : Value) (hn : getI ThD.id ts id = none) :
    (Instr.mapUpdate M (.map (some b)) (.int .i64 id) v).run Try.prog w = .ok () (putEnt w b es clock id v) := by
  have hc : ∀ e, (Instr.checkKey e 10000 2 (.int .i64 id)).run Try.prog w = .ok () w := fun e => MapKept.run_checkKey (k := .int .i64 id) Try.underlying2 (by simp [MapKept.IsKey]) e 9999
  rcases find_pents (id := id) es.toList ts 0 h2 with ⟨g1, g2⟩ | ⟨x, i', g1, _⟩
  · simp [Instr.mapUpdate, run_underlying hT, MapKept.run_getObj_map h1, hc, MapKept.run_findKey Try.underlying2 g2, MapKept.run_setObj_map _ h1, Result.andThen, putEnt]
  · rw [hn] at g1; cases g1
theorem pents_snoc {e : MapEntry} {t : ThD} (h1 : e.key = .int .i64 t.id) (h2 : e.val = .pointer (some ⟨t.blk, 0, none⟩)) : ∀ (es : List MapEntry) (ts : List ThD), PEnts es ts → PEnts (es ++ [e]) (ts ++ [t]) := by
  intro es
  induction es with
  | nil => intro ts h; cases ts with
    | nil => exact ⟨h1, h2, trivial⟩
    | cons y ys => exact h.elim
  | cons e' es ih => intro ts h; cases ts with
    | nil => exact h.elim
    | cons y ys => exact ⟨h.1, h.2.1, ih ys h.2.2⟩
end Go.Proofs.Ytdfomaclnopfeaa
