/- What it means that a tree of the data lies in memory, block by block, and that it stays there while only other blocks turn. -/
import Derived.Test.YtbodeijffpepfaaSeq
import Derived.WalkKit
import Derived.ProofKit
import Derived.Deep.Slices
namespace Go.Proofs.Ytbodeijffpepfaa
open Go.RowKit Go.Deep
/-- the tag of a tree as data -/
def tagOf {H : Type} : DataW H → List UInt8
  | .agg (.lit (.string s) :: _) => s
  | _ => []
/-- the kids of a tree as data -/
def kidsOf {H : Type} : DataW H → List (DataW H)
  | .agg [_, .slice es _] => es
  | _ => []
/-- the i-th kid -/
def nth {H : Type} (ds : List (DataW H)) (i : Nat) : DataW H := ds.getD i .nil
/-- a slice of trees lies in memory, each as R says, its row in a block from lo on -/
def RowAt {H : Type} (R : Value → Value → DataW H → Prop) (w : World) (lo : Nat) (k : Value) (ds : List (DataW H)) : Prop :=
  ∃ a cap, k = .slice a ds.length cap ∧ ds.length ≤ maxLen ∧ (0 < ds.length → ∃ b off, a = some ⟨b, off, none⟩ ∧ lo ≤ b ∧ b < w.heap.size ∧
    ∀ i, i < ds.length → ∃ t' k', w.cell? ⟨b, off + i * 2, none⟩ = some t' ∧ w.cell? ⟨b, off + i * 2 + 1, none⟩ = some k' ∧ R t' k' (nth ds i))
/-- a tree lies in memory: its tag t, its kids k; 'n' is more than its depth; all its rows lie in blocks from lo on -/
def TreeAt {H : Type} (w : World) (lo : Nat) : Nat → Value → Value → DataW H → Prop
  | 0, _, _, _ => False
  | n + 1, t, k, d => (∃ s : ByteArray, t = .string s ∧ s.size ≤ maxLen ∧ tagOf d = s.data.toList) ∧ RowAt (TreeAt w lo n) w lo k (kidsOf d)
theorem RowAt.mono {H : Type} {R S : Value → Value → DataW H → Prop} {w w' : World} {lo lo' : Nat} {k : Value} {ds : List (DataW H)} (h : RowAt R w lo k ds)
    (hsz : w.heap.size ≤ w'.heap.size) (hlo : lo' ≤ lo) (hb : ∀ b, lo ≤ b → b < w.heap.size → w'.heap[b]? = w.heap[b]?) (hR : ∀ t k d, R t k d → S t k d) : RowAt S w' lo' k ds := by
  obtain ⟨a, cap, hk, hm, hx⟩ := h
  refine ⟨a, cap, hk, hm, fun h0 => ?_⟩
  obtain ⟨b, off, ha, h1, h2, hc⟩ := hx h0
  refine ⟨b, off, ha, by omega, by omega, fun i hi => ?_⟩
  obtain ⟨t', k', c1, c2, r⟩ := hc i hi
  refine ⟨t', k', ?_, ?_, hR _ _ _ r⟩
  · rw [World.cell?_of_block (w := w) (w' := w') (hb b h1 h2)]; exact c1
  · rw [World.cell?_of_block (w := w) (w' := w') (hb b h1 h2)]; exact c2
theorem TreeAt.keep {H : Type} {w w' : World} {lo lo' : Nat} (hsz : w.heap.size ≤ w'.heap.size) (hlo : lo' ≤ lo) (hb : ∀ b, lo ≤ b → b < w.heap.size → w'.heap[b]? = w.heap[b]?) :
    ∀ (n : Nat) (t k : Value) (d : DataW H), TreeAt w lo n t k d → TreeAt w' lo' n t k d := by
  intro n
  induction n with
  | zero => intro t k d h; exact h
  | succ n ih =>
    intro t k d h
    exact ⟨h.1, h.2.mono hsz hlo hb ih⟩
theorem TreeAt.below {H : Type} {w w' : World} {lo n : Nat} {t k : Value} {d : DataW H} (h : TreeAt w lo n t k d) (hb : Below w.heap.size w w') : TreeAt w' lo n t k d :=
  TreeAt.keep hb.size (Nat.le_refl _) (fun b _ h2 => hb.block b h2) n t k d h
theorem RowAt.below {H : Type} {w w' : World} {lo n : Nat} {k : Value} {ds : List (DataW H)} (h : RowAt (TreeAt w lo n) w lo k ds) (hb : Below w.heap.size w w') : RowAt (TreeAt w' lo n) w' lo k ds :=
  h.mono hb.size (Nat.le_refl _) (fun b _ h2 => hb.block b h2) (fun _ _ _ r => r.below hb)
theorem TreeAt.form {H : Type} {w : World} {lo n : Nat} {t k : Value} {d : DataW H} (h : TreeAt w lo n t k d) : (∃ s, t = .string s) ∧ ∃ a cap, k = .slice a (kidsOf d).length cap := by
  match n, h with
  | 0, h => exact h.elim
  | n + 1, h =>
    obtain ⟨⟨s, hs, _⟩, a, cap, hk, _⟩ := h
    exact ⟨⟨s, hs⟩, a, cap, hk⟩
/-- no list of kids, and no tag, is longer than 2^20 -/
def SmallT {H : Type} : Nat → DataW H → Prop
  | 0, _ => True
  | n + 1, d => (tagOf d).length ≤ 1048576 ∧ (kidsOf d).length ≤ 1048576 ∧ ∀ i, i < (kidsOf d).length → SmallT n (nth (kidsOf d) i)
/-- the same of a list of trees -/
def SmallK {H : Type} (n : Nat) (ds : List (DataW H)) : Prop := ds.length ≤ 1048576 ∧ ∀ i, i < ds.length → SmallT n (nth ds i)
theorem SmallT.kids {H : Type} {n : Nat} {d : DataW H} (h : SmallT (n + 1) d) : SmallK n (kidsOf d) := h.2
theorem TreeAt.more {H : Type} {w : World} {lo : Nat} : ∀ (n : Nat) (t k : Value) (d : DataW H), TreeAt w lo n t k d → TreeAt w lo (n + 1) t k d := by
  intro n
  induction n with
  | zero => intro t k d h; exact h.elim
  | succ n ih =>
    intro t k d h
    exact ⟨h.1, h.2.mono (Nat.le_refl _) (Nat.le_refl _) (fun _ _ _ => rfl) ih⟩
/-- A READING OF A SLICE OF TREES IS A ROW OF TREES -/
theorem rowAt_of_trod {H : Type} {enc : TypeId × Value → H} {P : Program} {w : World} {spare : Nat → Bool} {held : Bool} {T S : TypeId} (hS : P.underlying S = some (.slice T)) (cT : P.cellsOf T = 2) {n : Nat} {cs : List Value} {x : DataW H × List MemPlace}
    {R : Value → Value → DataW H → Prop} (hR : ∀ (m : Nat) (cs : List Value) (y : DataW H × List MemPlace), m + 1 = n → DataW.trod enc P w 0 spare held m T cs = some y → ∃ t k, cs = [t, k] ∧ R t k y.1)
    (h : DataW.trod enc P w 0 spare held n S cs = some x) (u : DataW H) : ∃ k, cs = [k] ∧ RowAt R w 0 k (kidsOf (.agg [u, x.1])) := by
  rcases DataW.trod_slice hS h with ⟨rfl, rfl⟩ | ⟨a, len, cap, elems, rest, m, rfl, rfl, rfl, _, hl, hm, hlen, hel, _, _⟩
  · exact ⟨_, rfl, none, 0, rfl, Nat.zero_le _, fun h0 => absurd h0 (by simp [kidsOf])⟩
  · refine ⟨_, rfl, some a, cap, by simp [kidsOf, hlen], by simp [kidsOf, hlen]; omega, fun h0 => ?_⟩
    have h0' : 0 < len := by simpa [kidsOf, hlen] using h0
    have key : ∀ i, i < len → ∃ t' k', w.cell? (a.add (i * 2)) = some t' ∧ w.cell? ((a.add (i * 2)).add 1) = some k' ∧ R t' k' (nth (kidsOf (.agg [u, (.slice (elems.map (·.1)) (rest.map (·.1)) : DataW H)])) i) := by
      intro i hi
      have e := hel i hi
      rw [cT, List.getElem?_eq_getElem (by omega)] at e
      obtain ⟨cs', h1, h2⟩ := Option.bind_eq_some_iff.1 e
      obtain ⟨t', k', rfl, r⟩ := hR m cs' _ rfl h2
      have hc := (World.cells?_some h1).2.2
      refine ⟨t', k', by simpa [Addr.add] using hc 0 (by omega), by simpa using hc 1 (by omega), ?_⟩
      have : nth (kidsOf (.agg [u, (.slice (elems.map (·.1)) (rest.map (·.1)) : DataW H)])) i = elems[i].1 := by
        simp [nth, kidsOf, List.getD, List.getElem?_eq_getElem (show i < elems.length by omega)]
      rw [this]; exact r
    obtain ⟨t0, k0, c0, _, _⟩ := key 0 h0'
    have ha := addr_of_cell (a := a) (by simpa [Addr.add] using c0)
    refine ⟨a.block, a.off, by rw [← ha.1], Nat.zero_le _, ha.2, fun i hi => ?_⟩
    obtain ⟨t', k', c1, c2, r⟩ := key i (by simpa [kidsOf, hlen] using hi)
    have e1 : a.add (i * 2) = ⟨a.block, a.off + i * 2, none⟩ := by
      rw [ha.1]; unfold Addr.add; by_cases h : i * 2 = 0 <;> simp [h]
    rw [e1] at c1 c2
    exact ⟨t', k', c1, by simpa [Addr.add] using c2, r⟩
/-- A VALUE OF A TREE's TYPE THAT READS AS d LIES IN MEMORY AS d -/
theorem treeAt_of_trod {H : Type} {enc : TypeId × Value → H} {P : Program} {w : World} {spare : Nat → Bool} {held : Bool} {T S G : TypeId} {f0 f1 : Go.Field}
    (hT : P.underlying T = some (.struct #[f0, f1])) (h0 : f0.type = G) (h0o : f0.offset = 0) (h1 : f1.type = S) (h1o : f1.offset = 1) (hG : P.underlying G = some .string) (hS : P.underlying S = some (.slice T))
    (cG : P.cellsOf G = 1) (cS : P.cellsOf S = 1) (cT : P.cellsOf T = 2) :
    ∀ (n : Nat) (cs : List Value) (y : DataW H × List MemPlace), DataW.trod enc P w 0 spare held n T cs = some y → ∃ t k, cs = [t, k] ∧ TreeAt w 0 n t k y.1 := by
  intro n
  induction n using Nat.strongRecOn with
  | ind n ih =>
    intro cs y h
    obtain ⟨xs, m, rfl, rfl, hl, hlen, hf⟩ := DataW.trod_struct hT h
    match xs, hlen with
    | [y0, y1], _ =>
      have g0 := hf 0 f0 rfl
      have g1 := hf 1 f1 rfl
      rw [cT] at hl
      match cs, hl with
      | [t, k], _ =>
        rw [h0, h0o, cG] at g0
        rw [h1, h1o, cS] at g1
        simp only [List.getElem?_cons_zero, List.getElem?_cons_succ, List.drop_zero, List.drop_succ_cons, List.take_succ_cons, List.take_zero] at g0 g1
        obtain ⟨s, e1, e2, hs⟩ := DataW.trod_string hG g0
        obtain ⟨k', e3, hr⟩ := rowAt_of_trod (R := TreeAt w 0 m) hS cT (fun j cs z hj hz => by
          obtain ⟨t, k, e, r⟩ := ih j (by omega) cs z hz
          exact ⟨t, k, e, by rw [← hj]; exact TreeAt.more _ _ _ _ r⟩) g1 y0.1
        simp at e1 e3
        subst e1 e3
        refine ⟨_, _, rfl, ⟨s, rfl, hs, ?_⟩, ?_⟩
        · simp [e2, tagOf]
        · simpa using hr
end Go.Proofs.Ytbodeijffpepfaa
