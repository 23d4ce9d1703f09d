/- An arena while it is drawn: it owns its memory, it lies in a block of its own. -/
import Derived.Test.YtcbomaflfjdmjaaArNewS
import Derived.Test.YtcbomaflfjdmjaaArAllocS
import Derived.Test.YtcbomaflfjdmjaaArRelS
import Derived.Test.YtcbomaflfjdmjaaArHandles
import Derived.Test.YtcbomaflfjdmjaaGrowDraw
import Derived.Test.YtcbomaflfjdmjaaDrawsNum
namespace Go.Proofs.Ytcbomaflfjdmjaa
open Go.RowKit Go.Deep
abbrev resA : List Value := [.slice none 0 0, .slice none 0 0]
/-- an arena that owns its memory, in such blocks -/
def OwA (Q : Nat → Prop) (wr : World) (k0 k1 : Value) (x : ArenaD) : Prop := ∃ (f0 f1 : List Nat) (ys : List Value), SeqOwn 3 SlotOwn wr k0 x.vSlots f0 ∧ SeqOwn 1 IntOwn wr k1 x.vFree f1 ∧ (∀ b ∈ f0, Q b) ∧ (∀ b ∈ f1, k1.ownBlock = some b) ∧ wr.ownsRow 0 2 1 k1 x.vFree.length ys ∧ ∀ g, k1.ownBlock = some g → Q g ∧ g ∉ f0
theorem OwA.keep {Q : Nat → Prop} {wr w2 : World} {k0 k1 : Value} {x : ArenaD} (h : OwA Q wr k0 k1 x) (hk : ∀ b, Q b → b < wr.heap.size → w2.heap[b]? = wr.heap[b]?) : OwA Q w2 k0 k1 x := by
  obtain ⟨f0, f1, ys, h1, h2, h3, h4, h5, h6⟩ := h
  exact ⟨f0, f1, ys, h1.stays SlotOwn_stays (fun b q => hk b (h3 b q) (h1.lt SlotOwn_lt b q)), h2.stays intOwn_stays (fun b q => hk b (h6 b (h4 b q)).1 (h2.lt intOwn_lt b q)), h3, h4, row_keep h5 (fun g e => hk g (h6 g e).1 (row_lt h5 g e)), h6⟩
theorem OwA.mono {Q Q' : Nat → Prop} {wr : World} {k0 k1 : Value} {x : ArenaD} (h : OwA Q wr k0 k1 x) (hq : ∀ b, b < wr.heap.size → Q b → Q' b) : OwA Q' wr k0 k1 x := by
  obtain ⟨f0, f1, ys, h1, h2, h3, h4, h5, h6⟩ := h
  exact ⟨f0, f1, ys, h1, h2, fun b q => hq b (h1.lt SlotOwn_lt b q) (h3 b q), h4, h5, fun g e => ⟨hq g (row_lt h5 g e) (h6 g e).1, (h6 g e).2⟩⟩
theorem OwA.at {Q : Nat → Prop} {wr : World} {k0 k1 : Value} {x : ArenaD} (h : OwA Q wr k0 k1 x) : ArenaAt wr 0 [k0, k1] x := by
  obtain ⟨f0, f1, ys, h1, h2, _⟩ := h
  exact ⟨k0, k1, rfl, h1.at SlotOwn_at (fun _ _ => Nat.zero_le _), h2.at intOwn_at (fun _ _ => Nat.zero_le _), trivial⟩
theorem OwA.form {Q : Nat → Prop} {wr : World} {k0 k1 : Value} {x : ArenaD} (h : OwA Q wr k0 k1 x) : ∃ p0 d0 p1 d1, k0 = .slice p0 x.vSlots.length d0 ∧ k1 = .slice p1 x.vFree.length d1 := by
  obtain ⟨f0, f1, ys, h1, h2, _⟩ := h
  obtain ⟨p0, d0, e0⟩ := h1.form
  obtain ⟨p1, d1, e1⟩ := h2.form
  exact ⟨p0, d0, p1, d1, e0, e1⟩
theorem OwA.of {w w' : World} {cs : List Value} {x : ArenaD} (h : AnsS w w' cs x) : ∃ p0 d0 p1 d1, cs = [.slice p0 x.vSlots.length d0, .slice p1 x.vFree.length d1] ∧ OwA (fun b => w.heap.size ≤ b ∧ b < w'.heap.size) w' (.slice p0 x.vSlots.length d0) (.slice p1 x.vFree.length d1) x := by
  obtain ⟨k0, k1, f0, f1, ys, e, h1, h2, h3, h4, h5, h6, h7⟩ := h
  obtain ⟨p0, d0, e0⟩ := h1.form
  obtain ⟨p1, d1, e1⟩ := h2.form
  subst e0 e1
  exact ⟨p0, d0, p1, d1, e, f0, f1, ys, h1, h2, fun b q => ⟨h3 b q, h1.lt SlotOwn_lt b q⟩, h7, row_lo h5 (Nat.zero_le _), fun g q => ⟨⟨own_block2 h5 g q, row_lt h5 g q⟩, h6 g q⟩⟩
/-- what lies there while an arena is drawn, in the block T -/
def AA (w : World) (g : Nat) (a : Option Addr) (nn cap T : Nat) (k0 k1 : Value) (x : ArenaD) (wr : World) : Prop :=
  Box wr w.heap.size resA 27 ∧ RdAt wr g a nn cap ∧ w.grownBy wr (some g) ∧ w.heap.size < T ∧ T < wr.heap.size ∧ g < w.heap.size ∧ OwA (fun b => w.heap.size < b ∧ b ≠ T) wr k0 k1 x ∧ Box wr T [k0, k1] 27
theorem AA.grown {w : World} {g : Nat} {a : Option Addr} {nn cap T : Nat} {k0 k1 : Value} {x : ArenaD} {wr w2 : World} (h : AA w g a nn cap T k0 k1 x wr) (hg : wr.grownBy w2 (some g)) (hr : RdAt w2 g a nn cap) : AA w g a nn cap T k0 k1 x w2 := by
  obtain ⟨h1, h2, h3, h4, h5, h6, h7, h8⟩ := h
  have s := hg.size
  exact ⟨box_other h1 (by omega) hg, hr, h3.trans hg, h4, by omega, h6, h7.keep (fun b q1 q2 => hg.block b q2 (fun e => by injection e; omega)), box_other h8 (by omega) hg⟩
theorem AA.below {w : World} {g : Nat} {a : Option Addr} {nn cap T : Nat} {k0 k1 : Value} {x : ArenaD} {wr w2 : World} (h : AA w g a nn cap T k0 k1 x wr) (hb : Below wr.heap.size wr w2) : AA w g a nn cap T k0 k1 x w2 := h.grown (grown_of_below hb _) (h.2.1.below hb)
/-- another arena is put into T -/
theorem AA.put {w : World} {g : Nat} {a : Option Addr} {nn cap T : Nat} {k0 k1 l0 l1 : Value} {x y : ArenaD} {wr : World} (h : AA w g a nn cap T k0 k1 x wr) (hy : OwA (fun b => w.heap.size < b ∧ b ≠ T) wr l0 l1 y) : AA w g a nn cap T l0 l1 y ((wr.setCell ⟨T, 0, none⟩ l0).setCell ⟨T, 1, none⟩ l1) := by
  obtain ⟨h1, h2, h3, h4, h5, h6, h7, h8⟩ := h
  refine ⟨(h1.other (by omega) _).other (by omega) _, (h2.keep (fun b q => by rw [set_other (by omega), set_other (by omega)])), ?_, h4, by rw [set_size, set_size]; exact h5, h6, hy.keep (fun b q1 q2 => by rw [set_other q1.2, set_other q1.2]), (h8.set (i := 0) _).set (i := 1) _⟩
  exact ⟨h3.os, h3.tape, h3.output, by rw [set_size, set_size]; exact h3.size, fun b hb hne => by rw [set_other (by omega), set_other (by omega)]; exact h3.block b hb hne⟩
/-- a row of numbers tells its numbers -/
theorem row_ints_eq {w : World} {base : Nat} {k : Value} {ys : List Value} {xs : List Int} (h : w.ownsRow base 2 1 k xs.length ys) (hs : SeqAt 1 IntAt w 0 k xs) : ys = xs.map fun v => .int .i64 v := by
  obtain ⟨hl, h⟩ := h
  rcases h with ⟨_, hn⟩ | ⟨g, c, cur, e, _, hg, hnc, _, hsz, ht⟩
  · have e1 := List.length_eq_zero_iff.1 hn
    subst e1
    exact List.eq_nil_of_length_eq_zero (by simpa using hl)
  · refine List.ext_getElem (by simpa using hl) (fun i h1 h2 => ?_)
    have hi : i < xs.length := by simpa using h2
    obtain ⟨a', c', e2, _, hx⟩ := hs
    obtain ⟨b, off, ha, _, _, hc⟩ := hx (by omega)
    subst e
    injection e2 with e3 _ _
    rw [ha] at e3
    injection e3 with e3
    injection e3 with e4 e5
    subst e4 e5
    obtain ⟨cs, _, lie, hr⟩ := hc i hi
    obtain ⟨rfl, _⟩ := hr
    have hz := lie 0 (by simp)
    simp only [List.getElem?_cons_zero, Nat.add_zero, Nat.zero_add, Nat.mul_one] at hz
    have hz2 : cur[i]? = some (.int .i64 xs[i]) := by
      simpa [World.cell?, hg] using hz
    have h3 : ys[i]? = cur.toList[i]? := by rw [← ht, List.getElem?_take, if_pos (by omega)]
    rw [List.getElem?_eq_getElem h1] at h3
    have h4 : cur.toList[i]? = cur[i]? := by simp
    rw [h4, hz2] at h3
    injection h3 with h3
    rw [h3]; simp
theorem goodNew {v : Int} (h1 : 1 ≤ v) (h2 : v ≤ 5) : 1 ≤ (newA v).1.vSlots.length ∧ (newA v).1.vFree.length ≤ 13 := by
  have e : inB v 1 12 = true := by simp [inB]; omega
  rw [newA_yes e]
  simp [newSs, newFr]
  omega
theorem goodAlloc {x : ArenaD} {dt : ByteArray} (h : 1 ≤ x.vSlots.length ∧ x.vFree.length ≤ 13) (hb : (allocD x dt).2.2.2 = true) : 1 ≤ (allocD x dt).1.vSlots.length ∧ (allocD x dt).1.vFree.length ≤ 13 := by
  unfold allocD at hb ⊢
  split at hb
  · rename_i hc
    rw [if_pos hc]
    cases hf : x.vFree with
    | nil => rw [hf] at hb; cases hb
    | cons p rest =>
      rw [hf] at hb h
      dsimp only at hb ⊢
      cases hs : x.vSlots[p.toNat]? with
      | none => rw [hs] at hb; cases hb
      | some s => simp at h ⊢; omega
  · cases hb
theorem goodRel {x : ArenaD} {p q : Int} (h : 1 ≤ x.vSlots.length ∧ x.vFree.length ≤ 13) (hb : (releasedD x p q).2 = true) : 1 ≤ (releasedD x p q).1.vSlots.length ∧ (releasedD x p q).1.vFree.length ≤ 13 := by
  unfold releasedD at hb ⊢
  split at hb
  · rename_i hc
    rw [if_pos hc]
    have hl : Live x p q := by
      have : liveB x p q = true := by cases e : liveB x p q with | true => rfl | false => rw [e] at hc; cases hc
      simpa [liveB] using this
    have hr : RightI x := hl.1
    have h1 := hr.2.1
    have h2 := hr.2.2.1
    simp only [List.length_set, List.length_cons]
    omega
  · cases hb
end Go.Proofs.Ytcbomaflfjdmjaa
