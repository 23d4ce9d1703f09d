/- What it means that a tree of the data lies in memory, block by block, and that it stays there while only other blocks turn. -/
import Derived.Test.YtlcddndpfhdakaaDoorSeq
import Derived.WalkKit
import Derived.ProofKit
import Derived.Deep.Slices
import Derived.Test.YtlcddndpfhdakaaDoorOwn
import Derived.Test.YtlcddndpfhdakaaDoorOwnFill
import Derived.Test.YtlcddndpfhdakaaDoorMarks
import Derived.Test.YtlcddndpfhdakaaDoorMarkRecs
namespace Go.Proofs.YtlcddndpfhdakaaDoor
open Go.RowKit Go.Deep
/-- the tag of a tree as data -/
def tagOf {H : Type} : DataW H → List UInt8
  | .agg (.lit (.string s) :: _) => s
  | _ => []
/-- the kids of a tree as data -/
def kidsOf {H : Type} : DataW H → List (DataW H)
  | .agg [_, .slice es _] => es
  | _ => []
/-- the i-th kid -/
def nth {H : Type} (ds : List (DataW H)) (i : Nat) : DataW H := ds.getD i .nil
/-- a slice of trees lies in memory, each as R says, its row in a block from lo on -/
def RowAt {H : Type} (R : Value → Value → DataW H → Prop) (w : World) (lo : Nat) (k : Value) (ds : List (DataW H)) : Prop :=
  ∃ a cap, k = .slice a ds.length cap ∧ ds.length ≤ maxLen ∧ (0 < ds.length → ∃ b off, a = some ⟨b, off, none⟩ ∧ lo ≤ b ∧ b < w.heap.size ∧
    ∀ i, i < ds.length → ∃ t' k', w.cell? ⟨b, off + i * 2, none⟩ = some t' ∧ w.cell? ⟨b, off + i * 2 + 1, none⟩ = some k' ∧ R t' k' (nth ds i))
/-- a tree lies in memory: its tag t, its kids k; 'n' is more than its depth; all its rows lie in blocks from lo on -/
def TreeAt {H : Type} (w : World) (lo : Nat) : Nat → Value → Value → DataW H → Prop
  | 0, _, _, _ => False
  | n + 1, t, k, d => (∃ s : ByteArray, t = .string s ∧ s.size ≤ maxLen ∧ tagOf d = s.data.toList) ∧ RowAt (TreeAt w lo n) w lo k (kidsOf d)
theorem RowAt.mono {H : Type} {R S : Value → Value → DataW H → Prop} {w w' : World} {lo lo' : Nat} {k : Value} {ds : List (DataW H)} (h : RowAt R w lo k ds)
    (hsz : w.heap.size ≤ w'.heap.size) (hlo : lo' ≤ lo) (hb : ∀ b, lo ≤ b → b < w.heap.size → w'.heap[b]? = w.heap[b]?) (hR : ∀ t k d, R t k d → S t k d) : RowAt S w' lo' k ds := by
  obtain ⟨a, cap, hk, hm, hx⟩ := h
  refine ⟨a, cap, hk, hm, fun h0 => ?_⟩
  obtain ⟨b, off, ha, h1, h2, hc⟩ := hx h0
  refine ⟨b, off, ha, by omega, by omega, fun i hi => ?_⟩
  obtain ⟨t', k', c1, c2, r⟩ := hc i hi
  refine ⟨t', k', ?_, ?_, hR _ _ _ r⟩
  · rw [World.cell?_of_block (w := w) (w' := w') (hb b h1 h2)]; exact c1
  · rw [World.cell?_of_block (w := w) (w' := w') (hb b h1 h2)]; exact c2
theorem TreeAt.keep {H : Type} {w w' : World} {lo lo' : Nat} (hsz : w.heap.size ≤ w'.heap.size) (hlo : lo' ≤ lo) (hb : ∀ b, lo ≤ b → b < w.heap.size → w'.heap[b]? = w.heap[b]?) :
    ∀ (n : Nat) (t k : Value) (d : DataW H), TreeAt w lo n t k d → TreeAt w' lo' n t k d := by
  intro n
  induction n with
  | zero => intro t k d h; exact h
  | succ n ih =>
    intro t k d h
    exact ⟨h.1, h.2.mono hsz hlo hb ih⟩
theorem TreeAt.below {H : Type} {w w' : World} {lo n : Nat} {t k : Value} {d : DataW H} (h : TreeAt w lo n t k d) (hb : Below w.heap.size w w') : TreeAt w' lo n t k d :=
  TreeAt.keep hb.size (Nat.le_refl _) (fun b _ h2 => hb.block b h2) n t k d h
theorem RowAt.below {H : Type} {w w' : World} {lo n : Nat} {k : Value} {ds : List (DataW H)} (h : RowAt (TreeAt w lo n) w lo k ds) (hb : Below w.heap.size w w') : RowAt (TreeAt w' lo n) w' lo k ds :=
  h.mono hb.size (Nat.le_refl _) (fun b _ h2 => hb.block b h2) (fun _ _ _ r => r.below hb)
theorem TreeAt.form {H : Type} {w : World} {lo n : Nat} {t k : Value} {d : DataW H} (h : TreeAt w lo n t k d) : (∃ s, t = .string s) ∧ ∃ a cap, k = .slice a (kidsOf d).length cap := by
  match n, h with
  | 0, h => exact h.elim
  | n + 1, h =>
    obtain ⟨⟨s, hs, _⟩, a, cap, hk, _⟩ := h
    exact ⟨⟨s, hs⟩, a, cap, hk⟩
/-- no list of kids, and no tag, is longer than 2^20 -/
def SmallT {H : Type} : Nat → DataW H → Prop
  | 0, _ => True
  | n + 1, d => (tagOf d).length ≤ 1048576 ∧ (kidsOf d).length ≤ 1048576 ∧ ∀ i, i < (kidsOf d).length → SmallT n (nth (kidsOf d) i)
/-- the same of a list of trees -/
def SmallK {H : Type} (n : Nat) (ds : List (DataW H)) : Prop := ds.length ≤ 1048576 ∧ ∀ i, i < ds.length → SmallT n (nth ds i)
theorem SmallT.kids {H : Type} {n : Nat} {d : DataW H} (h : SmallT (n + 1) d) : SmallK n (kidsOf d) := h.2
theorem TreeAt.more {H : Type} {w : World} {lo : Nat} : ∀ (n : Nat) (t k : Value) (d : DataW H), TreeAt w lo n t k d → TreeAt w lo (n + 1) t k d := by
  intro n
  induction n with
  | zero => intro t k d h; exact h.elim
  | succ n ih =>
    intro t k d h
    exact ⟨h.1, h.2.mono (Nat.le_refl _) (Nat.le_refl _) (fun _ _ _ => rfl) ih⟩
/-- A READING OF A SLICE OF TREES IS A ROW OF TREES -/
theorem rowAt_of_trod {H : Type} {enc : TypeId × Value → H} {P : Program} {w : World} {spare : Nat → Bool} {held : Bool} {T S : TypeId} (hS : P.underlying S = some (.slice T)) (cT : P.cellsOf T = 2) {n : Nat} {cs : List Value} {x : DataW H × List MemPlace}
    {R : Value → Value → DataW H → Prop} (hR : ∀ (m : Nat) (cs : List Value) (y : DataW H × List MemPlace), m + 1 = n → DataW.trod enc P w 0 spare held m T cs = some y → ∃ t k, cs = [t, k] ∧ R t k y.1)
    (h : DataW.trod enc P w 0 spare held n S cs = some x) (u : DataW H) : ∃ k, cs = [k] ∧ RowAt R w 0 k (kidsOf (.agg [u, x.1])) := by
  rcases DataW.trod_slice hS h with ⟨rfl, rfl⟩ | ⟨a, len, cap, elems, rest, m, rfl, rfl, rfl, _, hl, hm, hlen, hel, _, _⟩
  · exact ⟨_, rfl, none, 0, rfl, Nat.zero_le _, fun h0 => absurd h0 (by simp [kidsOf])⟩
  · refine ⟨_, rfl, some a, cap, by simp [kidsOf, hlen], by simp [kidsOf, hlen]; omega, fun h0 => ?_⟩
    have h0' : 0 < len := by simpa [kidsOf, hlen] using h0
    have key : ∀ i, i < len → ∃ t' k', w.cell? (a.add (i * 2)) = some t' ∧ w.cell? ((a.add (i * 2)).add 1) = some k' ∧ R t' k' (nth (kidsOf (.agg [u, (.slice (elems.map (·.1)) (rest.map (·.1)) : DataW H)])) i) := by
      intro i hi
      have e := hel i hi
      rw [cT, List.getElem?_eq_getElem (by omega)] at e
      obtain ⟨cs', h1, h2⟩ := Option.bind_eq_some_iff.1 e
      obtain ⟨t', k', rfl, r⟩ := hR m cs' _ rfl h2
      have hc := (World.cells?_some h1).2.2
      refine ⟨t', k', by simpa [Addr.add] using hc 0 (by omega), by simpa using hc 1 (by omega), ?_⟩
      have : nth (kidsOf (.agg [u, (.slice (elems.map (·.1)) (rest.map (·.1)) : DataW H)])) i = elems[i].1 := by
        simp [nth, kidsOf, List.getD, List.getElem?_eq_getElem (show i < elems.length by omega)]
      rw [this]; exact r
    obtain ⟨t0, k0, c0, _, _⟩ := key 0 h0'
    have ha := addr_of_cell (a := a) (by simpa [Addr.add] using c0)
    refine ⟨a.block, a.off, by rw [← ha.1], Nat.zero_le _, ha.2, fun i hi => ?_⟩
    obtain ⟨t', k', c1, c2, r⟩ := key i (by simpa [kidsOf, hlen] using hi)
    have e1 : a.add (i * 2) = ⟨a.block, a.off + i * 2, none⟩ := by
      rw [ha.1]; unfold Addr.add; by_cases h : i * 2 = 0 <;> simp [h]
    rw [e1] at c1 c2
    exact ⟨t', k', c1, by simpa [Addr.add] using c2, r⟩
/-- A VALUE OF A TREE's TYPE THAT READS AS d LIES IN MEMORY AS d -/
theorem treeAt_of_trod {H : Type} {enc : TypeId × Value → H} {P : Program} {w : World} {spare : Nat → Bool} {held : Bool} {T S G : TypeId} {f0 f1 : Go.Field}
    (hT : P.underlying T = some (.struct #[f0, f1])) (h0 : f0.type = G) (h0o : f0.offset = 0) (h1 : f1.type = S) (h1o : f1.offset = 1) (hG : P.underlying G = some .string) (hS : P.underlying S = some (.slice T))
    (cG : P.cellsOf G = 1) (cS : P.cellsOf S = 1) (cT : P.cellsOf T = 2) :
    ∀ (n : Nat) (cs : List Value) (y : DataW H × List MemPlace), DataW.trod enc P w 0 spare held n T cs = some y → ∃ t k, cs = [t, k] ∧ TreeAt w 0 n t k y.1 := by
  intro n
  induction n using Nat.strongRecOn with
  | ind n ih =>
    intro cs y h
    obtain ⟨xs, m, rfl, rfl, hl, hlen, hf⟩ := DataW.trod_struct hT h
    match xs, hlen with
    | [y0, y1], _ =>
      have g0 := hf 0 f0 rfl
      have g1 := hf 1 f1 rfl
      rw [cT] at hl
      match cs, hl with
      | [t, k], _ =>
        rw [h0, h0o, cG] at g0
        rw [h1, h1o, cS] at g1
        simp only [List.getElem?_cons_zero, List.getElem?_cons_succ, List.drop_zero, List.drop_succ_cons, List.take_succ_cons, List.take_zero] at g0 g1
        obtain ⟨s, e1, e2, hs⟩ := DataW.trod_string hG g0
        obtain ⟨k', e3, hr⟩ := rowAt_of_trod (R := TreeAt w 0 m) hS cT (fun j cs z hj hz => by
          obtain ⟨t, k, e, r⟩ := ih j (by omega) cs z hz
          exact ⟨t, k, e, by rw [← hj]; exact TreeAt.more _ _ _ _ r⟩) g1 y0.1
        simp at e1 e3
        subst e1 e3
        refine ⟨_, _, rfl, ⟨s, rfl, hs, ?_⟩, ?_⟩
        · simp [e2, tagOf]
        · simpa using hr
end Go.Proofs.YtlcddndpfhdakaaDoor
namespace Go.Proofs.YtlcddndpfhdakaaDoor
/-- is there a kid at that place? -/
def inB {H : Type} (d : DataW H) (p : Int) : Bool := decide (0 ≤ p) && decide (p < ((kidsOf d).length : Int))
def kidP {H : Type} (d : DataW H) (p : Int) : DataW H := nth (kidsOf d) p.toNat
/-- where a path leads -/
def endP {H : Type} (d : DataW H) (path : List Int) : DataW H := path.foldl kidP d
/-- does it lead anywhere? -/
def okP {H : Type} : DataW H → List Int → Bool
  | _, [] => true
  | d, p :: ps => inB d p && okP (kidP d p) ps
theorem okP_snoc {H : Type} (a : List Int) : ∀ (d : DataW H) (p : Int), okP d (a ++ [p]) = (okP d a && inB (endP d a) p) := by
  induction a with
  | nil => intro d p; simp [okP, endP]
  | cons x xs ih => intro d p; simp only [List.cons_append, okP, ih, Bool.and_assoc]; rfl
theorem okP_append {H : Type} (a b : List Int) : ∀ (d : DataW H), okP d (a ++ b) = (okP d a && okP (endP d a) b) := by
  induction a with
  | nil => intro d; simp [okP, endP]
  | cons x xs ih => intro d; simp only [List.cons_append, okP, ih, Bool.and_assoc]; rfl
theorem endP_snoc {H : Type} (a : List Int) (d : DataW H) (p : Int) : endP d (a ++ [p]) = kidP (endP d a) p := by simp [endP]
theorem endP_append {H : Type} (a b : List Int) (d : DataW H) : endP d (a ++ b) = endP (endP d a) b := by simp [endP]
theorem okP_take {H : Type} {d : DataW H} {path : List Int} (h : okP d path = true) (j : Nat) : okP d (path.take j) = true := by
  have : path = path.take j ++ path.drop j := (List.take_append_drop j path).symm
  rw [this, okP_append] at h
  simp only [Bool.and_eq_true] at h
  exact h.1
theorem okP_step {H : Type} {d : DataW H} {path : List Int} {j : Nat} (hj : j < path.length) : okP d (path.take (j + 1)) = (okP d (path.take j) && inB (endP d (path.take j)) path[j]) := by
  rw [List.take_succ_eq_append_getElem hj, okP_snoc]
theorem endP_step {H : Type} {d : DataW H} {path : List Int} {j : Nat} (hj : j < path.length) : endP d (path.take (j + 1)) = kidP (endP d (path.take j)) path[j] := by
  rw [List.take_succ_eq_append_getElem hj, endP_snoc]
theorem okP_take_false {H : Type} {d : DataW H} {path : List Int} (j : Nat) (h : okP d (path.take j) = false) : okP d path = false := by
  cases h' : okP d path
  · rfl
  · rw [okP_take h' j] at h; cases h
theorem inB_yes {H : Type} {d : DataW H} {p : Int} (h0 : 0 ≤ p) (h1 : p < ((kidsOf d).length : Int)) : inB d p = true := by simp [inB, h0, h1]
theorem inB_low {H : Type} {d : DataW H} {p : Int} (h0 : ¬ 0 ≤ p) : inB d p = false := by simp [inB]; omega
theorem inB_high {H : Type} {d : DataW H} {p : Int} (h1 : ¬ p < ((kidsOf d).length : Int)) : inB d p = false := by simp [inB]; omega
/-- the tag as a text -/
def strT {H : Type} (d : DataW H) : ByteArray := ⟨(tagOf d).toArray⟩
theorem strT_of {H : Type} {d : DataW H} {s : ByteArray} (h : tagOf d = s.data.toList) : strT d = s := by
  cases s
  unfold strT
  rw [h]
theorem TreeAt.tag {H : Type} {w : World} {lo n : Nat} {t k : Value} {d : DataW H} (h : TreeAt w lo n t k d) : t = .string (strT d) ∧ (strT d).size ≤ maxLen := by
  cases n with
  | zero => exact h.elim
  | succ n =>
    obtain ⟨⟨s, hs, hm, he⟩, _⟩ := h
    rw [strT_of he]
    exact ⟨hs, hm⟩
/-- one kid of a tree that lies in memory -/
theorem TreeAt.kid {H : Type} {w : World} {lo n : Nat} {t : Value} {a : Option Addr} {m cap : Nat} {d : DataW H} (h : TreeAt w lo n t (.slice a m cap) d) {p : Nat} (hp : p < (kidsOf d).length) :
    ∃ b off t' k', a = some ⟨b, off, none⟩ ∧ b < w.heap.size ∧ w.cell? ⟨b, off + p * 2, none⟩ = some t' ∧ w.cell? ⟨b, off + p * 2 + 1, none⟩ = some k' ∧ TreeAt w lo (n - 1) t' k' (nth (kidsOf d) p) := by
  cases n with
  | zero => exact h.elim
  | succ n =>
    obtain ⟨_, a', cap', hk, hm, hx⟩ := h
    injection hk with e1 e2 e3
    subst e1
    obtain ⟨b, off, ha, h1, h2, hc⟩ := hx (by omega)
    obtain ⟨t', k', c1, c2, r⟩ := hc p hp
    exact ⟨b, off, t', k', ha, h2, c1, c2, r⟩
theorem TreeAt.many {H : Type} {w : World} {lo n : Nat} {t k : Value} {d : DataW H} (h : TreeAt w lo n t k d) : (kidsOf d).length ≤ maxLen := by
  cases n with
  | zero => exact h.elim
  | succ n => obtain ⟨_, a', cap', hk, hm, hx⟩ := h; exact hm
end Go.Proofs.YtlcddndpfhdakaaDoor
namespace Go.Proofs.YtlcddndpfhdakaaDoor
open Go.RowKit
/-- a tree as data -/
abbrev TD : Type := DataW Unit
def mkT (s : ByteArray) (ks : List TD) : TD := .agg [.lit (.string s.data.toList), .slice ks []]
theorem mkT_tag (s : ByteArray) (ks : List TD) : tagOf (mkT s ks) = s.data.toList := rfl
theorem mkT_kids (s : ByteArray) (ks : List TD) : kidsOf (mkT s ks) = ks := rfl
theorem mkT_str (s : ByteArray) (ks : List TD) : strT (mkT s ks) = s := rfl
/-- a tree of less than n levels owns its memory: these blocks -/
def TreeO : Nat → World → List Value → TD → List Nat → Prop
  | 0, _, _, _, _ => False
  | n + 1, w, cs, x, fs => ∃ k1 : Value, ∃ f1 : List Nat, cs = [.string (strT x), k1] ∧ SeqOwn 2 (TreeO n) w k1 (kidsOf x) f1 ∧ (strT x).size ≤ maxLen ∧ fs = f1
/-- it lies in blocks from lo on -/
def TreeL : Nat → World → Nat → List Value → TD → Prop
  | 0, _, _, _, _ => False
  | n + 1, w, lo, cs, x => ∃ k1 : Value, cs = [.string (strT x), k1] ∧ SeqAt 2 (TreeL n) w lo k1 (kidsOf x) ∧ (strT x).size ≤ maxLen ∧ True
theorem TreeO_stays : ∀ n, OwnStays (TreeO n) := by
  intro n
  induction n with
  | zero => intro w w' cs x fs _ h; exact h
  | succ n ih =>
    intro w w' cs x fs q h
    obtain ⟨k1, f1, e, h1, r0, rfl⟩ := h
    exact ⟨k1, _, e, h1.stays ih (fun b hb => q b hb), r0, rfl⟩
theorem TreeO_lt : ∀ n, OwnLt (TreeO n) := by
  intro n
  induction n with
  | zero => intro w cs x fs h; exact h.elim
  | succ n ih =>
    intro w cs x fs h
    obtain ⟨k1, f1, e, h1, r0, rfl⟩ := h
    exact h1.lt ih
theorem TreeL_stays : ∀ n, Stays (TreeL n) := by
  intro n
  induction n with
  | zero => intro w w' lo lo' cs x _ h; exact h
  | succ n ih =>
    intro w w' lo lo' cs x q h
    obtain ⟨k1, e, h1, r0, _⟩ := h
    exact ⟨k1, e, h1.keep ih q, r0, trivial⟩
theorem TreeL.below {n : Nat} {w w' : World} {lo : Nat} {cs : List Value} {x : TD} (h : TreeL n w lo cs x) (hb : Below w.heap.size w w') : TreeL n w' lo cs x := TreeL_stays n _ _ _ lo _ _ (.of_below hb) h
theorem TreeO_at {lo : Nat} : ∀ (n : Nat) (w : World) (cs : List Value) (x : TD) (fs : List Nat), TreeO n w cs x fs → (∀ b ∈ fs, lo ≤ b) → TreeL n w lo cs x := by
  intro n
  induction n with
  | zero => intro w cs x fs h _; exact h.elim
  | succ n ih =>
    intro w cs x fs h q
    obtain ⟨k1, f1, e, h1, r0, rfl⟩ := h
    exact ⟨k1, e, h1.at ih q, r0, trivial⟩
theorem TreeL.opened {n : Nat} {w : World} {lo : Nat} {cs : List Value} {x : TD} (h : TreeL n w lo cs x) : ∃ k1 : Value, cs = [.string (strT x), k1] ∧ SeqAt 2 (TreeL (n - 1)) w lo k1 (kidsOf x) ∧ (strT x).size ≤ maxLen := by
  cases n with
  | zero => exact h.elim
  | succ n => obtain ⟨k1, e, h1, r0, _⟩ := h; exact ⟨k1, e, h1, r0⟩
theorem TreeO.opened {n : Nat} {w : World} {cs : List Value} {x : TD} {fs : List Nat} (h : TreeO n w cs x fs) : ∃ k1 : Value, cs = [.string (strT x), k1] ∧ SeqOwn 2 (TreeO (n - 1)) w k1 (kidsOf x) fs ∧ (strT x).size ≤ maxLen := by
  cases n with
  | zero => exact h.elim
  | succ n => obtain ⟨k1, f1, e, h1, r0, rfl⟩ := h; exact ⟨k1, e, h1, r0⟩
theorem TreeL.more : ∀ (n : Nat) {w : World} {lo : Nat} (cs : List Value) (x : TD), TreeL n w lo cs x → TreeL (n + 1) w lo cs x := by
  intro n
  induction n with
  | zero => intro w lo cs x h; exact h.elim
  | succ n ih =>
    intro w lo cs x h
    obtain ⟨k1, e, h1, r⟩ := h
    exact ⟨k1, e, h1.imply ih, r⟩
/-- it lies there as the elder texts say -/
theorem TreeL.at : ∀ (n : Nat) {w : World} {lo : Nat} (t k : Value) (x : TD), TreeL n w lo [t, k] x → TreeAt w lo n t k x := by
  intro n
  induction n with
  | zero => intro w lo t k x h; exact h.elim
  | succ n ih =>
    intro w lo t k x h
    obtain ⟨k1, e, h1, r, _⟩ := h
    injection e with e1 e2
    injection e2 with e2 _
    subst e1 e2
    refine ⟨⟨strT x, rfl, r, rfl⟩, ?_⟩
    obtain ⟨a, cap, hk, hm, hx⟩ := h1
    refine ⟨a, cap, hk, hm.1, fun h0 => ?_⟩
    obtain ⟨b, off, ha, q1, q2, hc⟩ := hx h0
    refine ⟨b, off, ha, q1, q2, fun i hi => ?_⟩
    obtain ⟨cs, hl, lie, hr⟩ := hc i hi
    match cs, hl with
    | [t', k'], _ =>
      have z0 := lie 0 (by simp)
      have z1 := lie 1 (by simp)
      simp only [List.getElem?_cons_zero, List.getElem?_cons_succ, Nat.add_zero] at z0 z1
      have e : nth (kidsOf x) i = (kidsOf x)[i] := by simp [nth, List.getD, List.getElem?_eq_getElem hi]
      exact ⟨t', k', z0, z1, by rw [e]; exact ih _ _ _ hr⟩
theorem seqOwn_zero {w : World} {k : Value} {xs : List TD} {fs : List Nat} (h : SeqOwn 2 (TreeO 0) w k xs fs) : xs = [] := by
  obtain ⟨a, cap, _, _, h⟩ := h
  rcases h with ⟨h, _⟩ | ⟨b, off, _, C, T, bss, _, _, hl, _, _, h6⟩
  · exact List.length_eq_zero_iff.1 h
  · rcases Nat.eq_zero_or_pos xs.length with e | e
    · exact List.length_eq_zero_iff.1 e
    · obtain ⟨_, _, _, hf⟩ := h6 0 e (by omega)
      exact hf.elim
theorem seqAt_zero {w : World} {lo : Nat} {k : Value} {xs : List TD} (h : SeqAt 2 (TreeL 0) w lo k xs) : xs = [] := by
  obtain ⟨a, cap, _, _, h⟩ := h
  rcases Nat.eq_zero_or_pos xs.length with e | e
  · exact List.length_eq_zero_iff.1 e
  · obtain ⟨b, off, _, _, _, h6⟩ := h e
    obtain ⟨_, _, _, hf⟩ := h6 0 e
    exact hf.elim
theorem TreeO_more : ∀ (n : Nat) (w : World) (cs : List Value) (x : TD) (fs : List Nat), TreeO n w cs x fs → TreeO (n + 1) w cs x fs := by
  intro n
  induction n with
  | zero => intro w cs x fs h; exact h.elim
  | succ n ih =>
    intro w cs x fs h
    obtain ⟨k1, f1, e, h1, r0, rfl⟩ := h
    refine ⟨k1, _, e, ?_, r0, rfl⟩
    obtain ⟨a, cap, e1, e2, h2⟩ := h1
    refine ⟨a, cap, e1, e2, Or.elim h2 Or.inl fun h3 => Or.inr ?_⟩
    obtain ⟨b, off, e3, C, T, bss, c1, c2, c3, c4, c5, c6⟩ := h3
    exact ⟨b, off, e3, C, T, bss, c1, c2, c3, c4, c5, fun i hi hi' => by obtain ⟨cs, d1, d2, d3⟩ := c6 i hi hi'; exact ⟨cs, d1, d2, ih _ _ _ _ d3⟩⟩
theorem TreeO_mono {n m : Nat} (h : n ≤ m) {w : World} {cs : List Value} {x : TD} {fs : List Nat} (q : TreeO n w cs x fs) : TreeO m w cs x fs := by
  induction h with
  | refl => exact q
  | step _ ih => exact TreeO_more _ _ _ _ _ ih
def cntTree : Nat → TD → Nat
  | 0, _ => 0
  | n + 1, x => 1 + cntL (cntTree n) (kidsOf x)
def mkTree : Nat → TD → Int → TD
  | 0, x, _ => x
  | n + 1, x, m => mkT (markT (m)) (mkL (cntTree n) (mkTree n) (kidsOf x) (m + 1))
/-- no list of it is longer than 2^20 -/
def SmallO : Nat → TD → Prop
  | 0, _ => True
  | n + 1, x => (strT x).size ≤ 1048576 ∧ AllS (SmallO n) (kidsOf x)
theorem SmallO.opened {n : Nat} {w : World} {lo : Nat} {cs : List Value} {x : TD} (h : TreeL n w lo cs x) (hs : SmallO n x) : (strT x).size ≤ 1048576 ∧ AllS (SmallO (n - 1)) (kidsOf x) := by
  cases n with
  | zero => exact h.elim
  | succ n => exact hs
end Go.Proofs.YtlcddndpfhdakaaDoor
