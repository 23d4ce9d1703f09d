/- What l13Depths, DepthsOf and ProgOk of the specification return. -/
import Derived.Test.YtdapgihghbmlfaaGreatDoorVmDepI
import Derived.Test.YtdapgihghbmlfaaGreatDoorAppendInts
import Derived.Laws.AppendOwn
namespace Go.Proofs.YtdapgihghbmlfaaGreatDoor
open Go.RowKit
/-- the numbers at the head of a block -/
def cellI (w : World) (g i : Nat) : Int := match w.cell? ⟨g, i, none⟩ with
  | some v => intOf v
  | none => 0
def cntG (w : World) (g n : Nat) : Nat := ((List.range n).map (cellI w g)).count (-1)
theorem cntG_row {w : World} {g : Nat} {xs : List Int} (h : DRow w g xs) : cntG w g xs.length = xs.count (-1) := by
  unfold cntG
  congr 1
  refine List.ext_getElem (by simp) fun i h1 h2 => ?_
  simp only [List.getElem_map, List.getElem_range]
  unfold cellI
  rw [h.cell h2, ← lab_get h2]
  rfl
def mB : Value → Nat
  | .bool true => 1
  | _ => 0
theorem row_owned {w : World} {base g n cap : Nat} (h : w.ownsRow base 2 1 (.slice (some ⟨g, 0, none⟩) n cap) n (List.replicate n (.int .i64 (-1)))) : DRow w g (List.replicate n (-1)) ∧ base ≤ g ∧ n ≤ cap := by
  rcases h.2 with ⟨q, _⟩ | ⟨g', cap', cur, q, h1, h2, h3, h4, h5, h6⟩
  · cases q
  · injection q with q1 _ q3
    injection q1 with q1
    injection q1 with q1
    subst q1 q3
    refine ⟨⟨cur, h2, fun i hi => ?_⟩, h1, h3⟩
    simp only [List.length_replicate] at hi
    have : (cur.toList.take (n * 1))[i]? = some (.int .i64 (-1)) := by rw [h6, List.getElem?_replicate, if_pos hi]
    rw [List.getElem?_take, if_pos (by omega)] at this
    simpa using this
theorem own_blk {w : World} {base g n cap : Nat} {L : List Value} (h : w.ownsRow base 2 1 (.slice (some ⟨g, 0, none⟩) n cap) n L) : base ≤ g := by
  rcases h.2 with ⟨q, _⟩ | ⟨g', cap', cur, q, h1, _⟩
  · cases q
  · injection q with q1 _ q3
    injection q1 with q1
    injection q1 with q1
    subst q1; exact h1
/-- how things stand while one place is gone through -/
def InM (p : List InstrD) (c0 j : Nat) (x : InstrD) (d : Int) (more : Bool) (xs : List Int) (k : Nat) : Prop := Pass p xs ∧ labAt xs j = d ∧ (more = true → xs.count (-1) < c0) ∧
  (more = false → xs.count (-1) ≤ c0 ∧ (∀ i, i < j → labAt xs i ≠ -1 → OkAt p xs i) ∧ ∀ q, q < k → ∀ n, (nexts x j)[q]? = some n → n.toNat < p.length ∧ labAt xs n.toNat = aft x d)
/-- how things stand between two places -/
def OutM (p : List InstrD) (c0 j : Nat) (more : Bool) (xs : List Int) : Prop := Pass p xs ∧ (more = true → xs.count (-1) < c0) ∧ (more = false → xs.count (-1) ≤ c0 ∧ ∀ i, i < j → labAt xs i ≠ -1 → OkAt p xs i)
theorem inM_start {p : List InstrD} {c0 j : Nat} {x : InstrD} {d : Int} {more : Bool} {xs : List Int} (h : OutM p c0 j more xs) (hd : labAt xs j = d) : InM p c0 j x d more xs 0 :=
  ⟨h.1, hd, h.2.1, fun e => ⟨(h.2.2 e).1, (h.2.2 e).2, fun q hq => absurd hq (by omega)⟩⟩
theorem outM_skip {p : List InstrD} {c0 j : Nat} {more : Bool} {xs : List Int} (h : OutM p c0 j more xs) (hd : labAt xs j = -1) : OutM p c0 (j + 1) more xs :=
  ⟨h.1, h.2.1, fun e => ⟨(h.2.2 e).1, fun i hi hl => by
    by_cases q : i = j
    · subst q; exact absurd hd hl
    · exact (h.2.2 e).2 i (by omega) hl⟩⟩
theorem inM_new {p : List InstrD} {c0 j k : Nat} {x : InstrD} {d n : Int} {more : Bool} {xs : List Int} (h : InM p c0 j x d more xs k) (hc : xs.count (-1) ≤ c0) (hx : p[j]? = some x) (h0 : 0 ≤ d) (ht : takesT x.vKind ≤ d) (h6 : aft x d ≤ 6) (hn : (nexts x j)[k]? = some n) (hl : n.toNat < p.length) (hu : labAt xs n.toNat = -1) : InM p c0 j x d true (xs.set n.toNat (aft x d)) (k + 1) := by
  obtain ⟨h1, h2, h3, h4⟩ := h
  have hl' : n.toNat < xs.length := by have := h1.1; omega
  have ha := aft_nonneg ht
  refine ⟨by have := pass_set h1 hx (by omega) (by omega) (by rw [h2]; exact h6) (List.mem_of_getElem? hn) hl (Or.inl hu); rwa [h2] at this, ?_, fun _ => ?_, fun e => by cases e⟩
  · rw [lab_set hl', if_neg (fun e => by rw [← e] at hu; omega)]; exact h2
  · have := count_set hl' hu (d := aft x d) (by omega)
    omega
theorem inM_old {p : List InstrD} {c0 j k : Nat} {x : InstrD} {d n : Int} {more : Bool} {xs : List Int} (h : InM p c0 j x d more xs k) (hn : (nexts x j)[k]? = some n) (hl : n.toNat < p.length) (hu : labAt xs n.toNat = aft x d) : InM p c0 j x d more (xs.set n.toNat (aft x d)) (k + 1) := by
  have hl' : n.toNat < xs.length := by have := h.1.1; omega
  rw [set_self hu hl']
  obtain ⟨h1, h2, h3, h4⟩ := h
  refine ⟨h1, h2, h3, fun e => ⟨(h4 e).1, (h4 e).2.1, fun q hq m hm => ?_⟩⟩
  by_cases e' : q = k
  · subst e'
    obtain rfl := Option.some.inj (hn.symm.trans hm)
    exact ⟨hl, hu⟩
  · exact (h4 e).2.2 q (by omega) m hm
theorem inM_end {p : List InstrD} {c0 j : Nat} {x : InstrD} {d : Int} {more : Bool} {xs : List Int} (h : InM p c0 j x d more xs (nexts x j).length) (hx : p[j]? = some x) (h0 : 0 ≤ d) (ht : takesT x.vKind ≤ d) (h6 : aft x d ≤ 6) : OutM p c0 (j + 1) more xs := by
  obtain ⟨h1, h2, h3, h4⟩ := h
  refine ⟨h1, h3, fun e => ⟨(h4 e).1, fun i hi hl => ?_⟩⟩
  by_cases q : i = j
  · subst q
    refine ⟨x, hx, by omega, by omega, by rw [h2]; exact h6, fun m hm => ?_⟩
    obtain ⟨k, hk, e'⟩ := List.getElem_of_mem hm
    rw [h2]
    exact (h4 e).2.2 k hk m (by rw [List.getElem?_eq_getElem hk, e'])
  · exact (h4 e).2.1 i (by omega) hl
theorem inM_count {p : List InstrD} {c0 j k : Nat} {x : InstrD} {d : Int} {more : Bool} {xs : List Int} (h : InM p c0 j x d more xs k) : xs.count (-1) ≤ c0 := by
  obtain ⟨_, _, h3, h4⟩ := h
  cases more
  · exact (h4 rfl).1
  · exact Nat.le_of_lt (h3 rfl)
end Go.Proofs.YtdapgihghbmlfaaGreatDoor
