/- While an arena is drawn: what a region that draws its order has made so far. -/
import Derived.Test.YtcbomaflfjdmjaaArDst
namespace Go.Proofs.Ytcbomaflfjdmjaa
open Go.RowKit Go.Deep
theorem seq_grown {α : Type} {c lo g : Nat} {R : World → Nat → List Value → α → Prop} {w w' : World} {k : Value} {xs : List α} (hR : Stays R) (h : SeqAt c R w lo k xs) (hg : w.grownBy w' (some g)) (hlo : g < lo) : SeqAt c R w' lo k xs := h.keep hR ⟨hg.size, Nat.le_refl _, fun b q1 q2 => hg.block b q2 (fun e => by injection e; omega)⟩
theorem toHid {p : Prop} (h : p) : Hid p := h
abbrev Bx : Type := Nat × List Value × Nat
/-- since w6 only the reader's block has turned; these boxes are new, and lie apart -/
def RS (w6 : World) (g : Nat) (a : Option Addr) (n cap : Nat) (W : World) (bs : List Bx) : Prop :=
  w6.grownBy W (some g) ∧ RdAt W g a n cap ∧ (∀ b ∈ bs, Box W b.1 b.2.1 b.2.2 ∧ w6.heap.size ≤ b.1) ∧ (bs.map (·.1)).Nodup ∧ g < w6.heap.size
/-- and an arena that a call has handed back -/
def RA (w6 : World) (bs : List Bx) (W : World) (k0 k1 : Value) (y : ArenaD) : Prop := OwA (fun b => w6.heap.size ≤ b ∧ b ∉ bs.map (·.1)) W k0 k1 y
theorem RS.start {w6 : World} {g : Nat} {a : Option Addr} {n cap : Nat} (h : RdAt w6 g a n cap) : RS w6 g a n cap w6.drew [] :=
  ⟨grown_of_below (Below.drew (Below.refl _ _)) _, h, by simp, List.nodup_nil, h.lt⟩
theorem RS.fresh {w6 : World} {g : Nat} {a : Option Addr} {n cap : Nat} {W : World} {bs : List Bx} (h : RS w6 g a n cap W bs) : W.heap.size ∉ bs.map (·.1) := by
  intro q
  obtain ⟨b, hb, e⟩ := List.mem_map.1 q
  have := (h.2.2.1 b hb).1.lt
  omega
theorem RS.alloc {w6 : World} {g : Nat} {a : Option Addr} {n cap : Nat} {W : World} {bs : List Bx} (h : RS w6 g a n cap W bs) (c : List Value) (t : Nat) : RS w6 g a n cap (W.alloc (.cells c.toArray t)) ((W.heap.size, c, t) :: bs) := by
  have hb : Below W.heap.size W (W.alloc (.cells c.toArray t)) := (Below.refl _ _).alloc (Nat.le_refl _) _
  refine ⟨h.1.trans (grown_of_below hb _), h.2.1.below hb, fun b q => ?_, List.nodup_cons.2 ⟨h.fresh, h.2.2.2.1⟩, h.2.2.2.2⟩
  rcases List.mem_cons.1 q with rfl | q
  · exact ⟨Box.new W _ _, h.1.size⟩
  · exact ⟨(h.2.2.1 b q).1.below hb (h.2.2.1 b q).1.lt, (h.2.2.1 b q).2⟩
theorem RS.grown {w6 : World} {g : Nat} {a : Option Addr} {n cap : Nat} {W u : World} {bs : List Bx} (h : RS w6 g a n cap W bs) (hg : W.grownBy u (some g)) (hr : RdAt u g a n cap) : RS w6 g a n cap u bs :=
  ⟨h.1.trans hg, hr, fun b q => ⟨box_other (h.2.2.1 b q).1 (by have := (h.2.2.1 b q).2; have := h.2.2.2.2; omega) hg, (h.2.2.1 b q).2⟩, h.2.2.2⟩
theorem RS.below {w6 : World} {g : Nat} {a : Option Addr} {n cap : Nat} {W u : World} {bs : List Bx} (h : RS w6 g a n cap W bs) (hb : Below W.heap.size W u) : RS w6 g a n cap u bs := h.grown (grown_of_below hb _) (h.2.1.below hb)
theorem RS.put {w6 : World} {g : Nat} {a : Option Addr} {n cap : Nat} {W : World} {l r : List Bx} {p t : Nat} {z0 z1 : Value} (h : RS w6 g a n cap W (l ++ (p, [z0, z1], t) :: r)) (u v : Value) : RS w6 g a n cap ((W.setCell ⟨p, 0, none⟩ u).setCell ⟨p, 1, none⟩ v) (l ++ (p, [u, v], t) :: r) := by
  obtain ⟨h1, h2, h3, h4, h5⟩ := h
  have hp := h3 (p, [z0, z1], t) (by simp)
  have hp2 : w6.heap.size ≤ p := hp.2
  have e : (l ++ (p, [u, v], t) :: r).map (·.1) = (l ++ (p, [z0, z1], t) :: r).map (·.1) := by simp
  refine ⟨⟨h1.os, h1.tape, h1.output, by rw [set_size, set_size]; exact h1.size, fun b hb hne => by rw [set_other (by omega), set_other (by omega)]; exact h1.block b hb hne⟩, h2.keep (fun b q => by rw [set_other (by omega), set_other (by omega)]), fun b q => ?_, by rw [e]; exact h4, h5⟩
  have hne : ∀ b, (b ∈ l ∨ b ∈ r) → b.1 ≠ p := fun b q eq => by
    rw [List.map_append, List.map_cons] at h4
    have h6 := List.nodup_append.1 h4
    rcases q with q | q
    · exact h6.2.2 b.1 (List.mem_map.2 ⟨b, q, rfl⟩) p (by simp) eq
    · exact (List.nodup_cons.1 h6.2.1).1 (by rw [← eq]; exact List.mem_map.2 ⟨b, q, rfl⟩)
  have oth : ∀ b, (b ∈ l ∨ b ∈ r) → Box ((W.setCell ⟨p, 0, none⟩ u).setCell ⟨p, 1, none⟩ v) b.1 b.2.1 b.2.2 ∧ w6.heap.size ≤ b.1 := fun b q => by
    have hb := h3 b (by rcases q with q | q <;> simp [q])
    exact ⟨(hb.1.other (hne b q) _).other (hne b q) _, hb.2⟩
  rcases List.mem_append.1 q with q | q
  · exact oth b (Or.inl q)
  · rcases List.mem_cons.1 q with rfl | q
    · exact ⟨(hp.1.set (i := 0) u).set (i := 1) v, hp2⟩
    · exact oth b (Or.inr q)
theorem RS.box {w6 : World} {g : Nat} {a : Option Addr} {n cap : Nat} {W : World} {l r : List Bx} {p t : Nat} {c : List Value} (h : RS w6 g a n cap W (l ++ (p, c, t) :: r)) : Box W p c t := (h.2.2.1 (p, c, t) (by simp)).1
theorem RA.of {w6 : World} {g : Nat} {a : Option Addr} {n cap : Nat} {W u : World} {bs : List Bx} (h : RS w6 g a n cap W bs) {cs : List Value} {y : ArenaD} (hy : AnsS W u cs y) : ∃ p0 d0 p1 d1, cs = [.slice p0 y.vSlots.length d0, .slice p1 y.vFree.length d1] ∧ RA w6 bs u (.slice p0 y.vSlots.length d0) (.slice p1 y.vFree.length d1) y := by
  obtain ⟨p0, d0, p1, d1, e, ho⟩ := OwA.of hy
  refine ⟨p0, d0, p1, d1, e, ho.mono (fun b _ q => ⟨Nat.le_trans h.1.size q.1, fun qb => ?_⟩)⟩
  obtain ⟨b', hb, e⟩ := List.mem_map.1 qb
  have h1 := (h.2.2.1 b' hb).1.lt
  have h2 := q.1
  omega
theorem RA.alloc {w6 W : World} {bs : List Bx} {k0 k1 : Value} {y : ArenaD} (h : RA w6 bs W k0 k1 y) (c : List Value) (t : Nat) : RA w6 ((W.heap.size, c, t) :: bs) (W.alloc (.cells c.toArray t)) k0 k1 y := by
  have h2 : OwA (fun b => w6.heap.size ≤ b ∧ b ∉ ((W.heap.size, c, t) :: bs).map (·.1)) W k0 k1 y := by
    refine OwA.mono h (fun b hb q => ⟨q.1, fun e => ?_⟩)
    rcases List.mem_cons.1 (by simpa using e : b ∈ W.heap.size :: bs.map (·.1)) with e | e
    · omega
    · exact q.2 e
  exact h2.keep (fun b _ q => Below.heap_alloc _ _ _ q)
theorem RA.put {w6 W : World} {l r : List Bx} {p t : Nat} {c : List Value} {k0 k1 : Value} {y : ArenaD} (h : RA w6 (l ++ (p, c, t) :: r) W k0 k1 y) (c' : List Value) (u v : Value) : RA w6 (l ++ (p, c', t) :: r) ((W.setCell ⟨p, 0, none⟩ u).setCell ⟨p, 1, none⟩ v) k0 k1 y := by
  have e : (l ++ (p, c', t) :: r).map (·.1) = (l ++ (p, c, t) :: r).map (·.1) := by simp
  unfold RA
  rw [e]
  refine OwA.keep h (fun b q _ => ?_)
  have hne : b ≠ p := fun e => q.2 (by rw [e]; simp)
  rw [set_other hne, set_other hne]
theorem RS.allocAt {w6 : World} {g : Nat} {a : Option Addr} {n cap : Nat} {W : World} {bs : List Bx} (h : RS w6 g a n cap W bs) (p : Nat) (hp : p = W.heap.size) (c : List Value) (t : Nat) : RS w6 g a n cap (W.alloc (.cells c.toArray t)) ((p, c, t) :: bs) := by subst hp; exact h.alloc c t
theorem RA.allocAt {w6 W : World} {bs : List Bx} {k0 k1 : Value} {y : ArenaD} (h : RA w6 bs W k0 k1 y) (p : Nat) (hp : p = W.heap.size) (c : List Value) (t : Nat) : RA w6 ((p, c, t) :: bs) (W.alloc (.cells c.toArray t)) k0 k1 y := by subst hp; exact RA.alloc h c t
end Go.Proofs.Ytcbomaflfjdmjaa
