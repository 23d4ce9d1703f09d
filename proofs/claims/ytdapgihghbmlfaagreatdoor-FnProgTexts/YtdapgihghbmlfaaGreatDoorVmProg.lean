/- The draw of a program: a row of instructions that the draw owns. -/
import Derived.Test.YtdapgihghbmlfaaGreatDoorVmDraw
namespace Go.Proofs.YtdapgihghbmlfaaGreatDoor
open Go.RowKit
theorem infoIn : ((Tryz.prog.info? 34).map fun i => (i.zero, i.bytes, i.size)) = some (some (.agg #[.int .i64 0, .int .i64 0, .string ⟨#[]⟩]), 32, 3) := by kernel_rfl
def flatIn : List InstrD → List Value
  | [] => []
  | x :: r => inL x ++ flatIn r
theorem flatIn_append (a b : List InstrD) : flatIn (a ++ b) = flatIn a ++ flatIn b := by
  induction a with
  | nil => rfl
  | cons x r ih => simp [flatIn, ih]
theorem flatIn_length (a : List InstrD) : (flatIn a).length = a.length * 3 := by
  induction a with
  | nil => rfl
  | cons x r ih => simp [flatIn, ih, inL]; omega
theorem flatIn_get (a : List InstrD) : ∀ (i : Nat) (hi : i < a.length) (m : Nat), m < 3 → (flatIn a)[i * 3 + m]? = (inL a[i])[m]? := by
  induction a with
  | nil => intro i hi; simp at hi
  | cons x r ih =>
    intro i hi m hm
    cases i with
    | zero =>
      simp only [flatIn, Nat.zero_mul, Nat.zero_add, List.getElem_cons_zero]
      rw [List.getElem?_append_left (by simp [inL]; omega)]
    | succ i =>
      simp only [flatIn, List.getElem_cons_succ]
      rw [List.getElem?_append_right (by simp [inL]; omega)]
      have : (i + 1) * 3 + m - (inL x).length = i * 3 + m := by simp [inL]; omega
      rw [this]
      exact ih i (by simpa using hi) m hm
theorem flatIn_one (a : List InstrD) : ∀ u ∈ flatIn a, u.oneCell' = true := by
  induction a with
  | nil => simp [flatIn]
  | cons x r ih =>
    intro u hu
    simp only [flatIn, List.mem_append] at hu
    rcases hu with hu | hu
    · simp only [inL, List.mem_cons, List.not_mem_nil, or_false] at hu
      rcases hu with rfl | rfl | rfl <;> rfl
    · exact ih u hu
theorem news_box {w : World} {b : Nat} {cs : List Value} {T : TypeId} (h : Box w b cs T) (j : Nat) (u : Value) (hu : cs[j]? = some u) : w.cell? ((⟨b, 0, none⟩ : Addr).add j) = some u := by
  have := h.cell j hu
  unfold Addr.add
  by_cases e : j = 0
  · subst e; simpa using this
  · rw [if_neg e]; simpa using this
/-- a row that is owned is a row of records -/
theorem seq_of_own {w : World} {base : Nat} {v : Value} {ps : List InstrD} (h : w.ownsRow base 34 3 v ps.length (flatIn ps)) (hv : v ≠ .slice none 0 0) (hl : ps.length ≤ 100) (hok : ∀ x ∈ ps, InOk x) : SeqAt 3 InstrAt w base v ps := by
  rcases h.2 with ⟨q, _⟩ | ⟨g, cap, cur, rfl, h1, h2, h3, h4, h5, h6⟩
  · exact absurd q hv
  · refine ⟨_, _, rfl, ⟨by unfold maxLen; omega, h3⟩, fun _ => ⟨g, 0, rfl, h1, (Array.getElem?_eq_some_iff.1 h2).1, fun i hi => ⟨inL ps[i], rfl, fun m hm => ?_, ?_⟩⟩⟩
    · have hm3 : m < 3 := by simpa [inL] using hm
      rw [blk_cell h2, ← flatIn_get ps i hi m hm3, ← h6, List.getElem?_take, if_pos (by omega)]
      simp
    · have := hok _ (List.getElem_mem hi)
      exact ⟨rfl, this.1, this.2.1, Nat.le_trans this.2.2 (by unfold maxLen; omega), trivial⟩
def ProgR (w : World) (e : Ending) (w' : World) : Prop := ∃ v ps, e = .returned v ∧ w'.ownsRow w.heap.size 34 3 v ps.length (flatIn ps) ∧ v ≠ .slice none 0 0 ∧ ps.length ≤ 50 ∧ ∀ x ∈ ps, InOk x
theorem own_grown {w w' : World} {base n g : Nat} {v : Value} {xs : List Value} (h : w.ownsRow base 34 3 v n xs) (hg : w.grownBy w' (some g)) (hne : g < base) : w'.ownsRow base 34 3 v n xs := by
  refine ⟨h.1, ?_⟩
  rcases h.2 with q | ⟨r, cap, cur, q, h1, h2, h3⟩
  · exact Or.inl q
  · exact Or.inr ⟨r, cap, cur, q, h1, (hg.block r (Array.getElem?_eq_some_iff.1 h2).1 (fun e => by injection e with e; omega)).trans h2, h3⟩
theorem own_set {w : World} {base n b i : Nat} {v u : Value} {xs : List Value} (h : w.ownsRow base 34 3 v n xs) (hb : ∀ r cp, v = .slice (some ⟨r, 0, none⟩) n cp → r ≠ b) : (w.setCell ⟨b, i, none⟩ u).ownsRow base 34 3 v n xs := by
  refine ⟨h.1, ?_⟩
  rcases h.2 with q | ⟨r, cap, cur, q, h1, h2, h3⟩
  · exact Or.inl q
  · exact Or.inr ⟨r, cap, cur, q, h1, (set_other (hb r cap q) u).trans h2, h3⟩
/-- a row that has grown leaves the reader and what was there -/
theorem rd_grown {w w' : World} {g r : Nat} {a : Option Addr} {n cap : Nat} (h : RdAt w g a n cap) (hg : w.grownBy w' (some r)) (hr : g < r) : RdAt w' g a n cap := h.keep (fun b hb => hg.block b (by have := h.lt; omega) (fun e => by injection e with e; omega))
theorem grown_row {w0 w w' : World} {g r : Nat} (h : w0.grownBy w (some g)) (hg : w.grownBy w' (some r)) (hr : w0.heap.size ≤ r) : w0.grownBy w' (some g) :=
  ⟨hg.os.trans h.os, hg.tape.trans h.tape, hg.output.trans h.output, Nat.le_trans h.size hg.size, fun b hb hn => (hg.block b (Nat.lt_of_lt_of_le hb h.size) (fun e => by injection e with e; omega)).trans (h.block b hb hn)⟩
/-- what one round keeps -/
def PS (w : World) (g : Nat) (a : Option Addr) (n cap : Nat) (v : Value) (ps : List InstrD) (g8 : Nat) (wx : World) : Prop := ∃ x, Box wx g8 (inL x) 34 ∧ InOk x ∧ RdAt wx g a n cap ∧ w.grownBy wx (some g) ∧ wx.ownsRow w.heap.size 34 3 v ps.length (flatIn ps)
/-- what stands between rounds -/
def PL (w : World) (g : Nat) (a : Option Addr) (n cap : Nat) (v d i : Value) (wr : World) : Prop := ∃ ps r cp deep j, v = .slice (some ⟨r, 0, none⟩) ps.length cp ∧ d = .int .i64 deep ∧ i = .int .i64 ((j : Nat) : Int) ∧ j ≤ 8 ∧ -2 * (8 - (j : Int)) ≤ deep ∧ deep ≤ 2 * (8 - (j : Int)) ∧ (ps.length : Int) ≤ 4 * (8 - (j : Int)) ∧
  wr.ownsRow w.heap.size 34 3 v ps.length (flatIn ps) ∧ (∀ x ∈ ps, InOk x) ∧ RdAt wr g a n cap ∧ w.grownBy wr (some g)
end Go.Proofs.YtdapgihghbmlfaaGreatDoor
