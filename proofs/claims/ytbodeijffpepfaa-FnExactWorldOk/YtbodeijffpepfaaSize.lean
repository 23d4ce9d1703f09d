/- How many nodes a tree has, within so much room: plain facts. -/
import Derived.Test.YtbodeijffpepfaaTrees
import Derived.Test.YtbodeijffpepfaaNames
namespace Go.Proofs.Ytbodeijffpepfaa
/-- the sizes of all these, one behind the other, on top of 'size', within 'room' -/
def szF {H : Type} (f : DataW H → Int → Option Int) : List (DataW H) → Int → Int → Option Int
  | [], _, size => some size
  | d :: ds, room, size => match f d (room - size) with
    | none => none
    | some m => szF f ds room (size + m)
/-- how many nodes a tree has; none: a tag is none, or there are more than 'room' -/
def szD {H : Type} : Nat → DataW H → Int → Option Int
  | 0, _, _ => none
  | n + 1, d, room => if room < 1 ∨ nameB (tagOf d) = false then none else szF (szD n) (kidsOf d) room 1
def resI : Option Int → Int
  | none => -1
  | some m => m
theorem szF_range {H : Type} {f : DataW H → Int → Option Int} (hf : ∀ d room m, f d room = some m → 1 ≤ m ∧ m ≤ room) : ∀ (ds : List (DataW H)) (room size m : Int), 1 ≤ size → size ≤ room → szF f ds room size = some m → 1 ≤ m ∧ m ≤ room := by
  intro ds
  induction ds with
  | nil => intro room size m h1 h2 h; simp [szF] at h; omega
  | cons d ds ih =>
    intro room size m h1 h2 h
    unfold szF at h
    split at h
    · cases h
    · rename_i q hq
      have := hf _ _ _ hq
      exact ih room (size + q) m (by omega) (by omega) h
theorem szD_range {H : Type} : ∀ (n : Nat) (d : DataW H) (room m : Int), szD n d room = some m → 1 ≤ m ∧ m ≤ room := by
  intro n
  induction n with
  | zero => intro d room m h; simp [szD] at h
  | succ n ih =>
    intro d room m h
    unfold szD at h
    split at h
    · cases h
    · rename_i hc
      exact szF_range ih _ room 1 m (by omega) (by omega) h
theorem drop_nth {H : Type} (ds : List (DataW H)) (j : Nat) (h : j < ds.length) : ds.drop j = nth ds j :: ds.drop (j + 1) := by
  rw [List.drop_eq_getElem_cons h]; simp [nth, List.getD, List.getElem?_eq_getElem h]
theorem szF_none {H : Type} {f : DataW H → Int → Option Int} {ds : List (DataW H)} {j : Nat} (hj : j < ds.length) {room size : Int} (h : f (nth ds j) (room - size) = none) : szF f (ds.drop j) room size = none := by
  rw [drop_nth ds j hj]; unfold szF; rw [h]
theorem szF_some {H : Type} {f : DataW H → Int → Option Int} {ds : List (DataW H)} {j : Nat} (hj : j < ds.length) {room size m : Int} (h : f (nth ds j) (room - size) = some m) : szF f (ds.drop j) room size = szF f (ds.drop (j + 1)) room (size + m) := by
  rw [drop_nth ds j hj]; unfold szF; rw [h]
  cases ds.drop (j + 1) <;> rfl
theorem szF_end {H : Type} {f : DataW H → Int → Option Int} {ds : List (DataW H)} {j : Nat} (hj : ¬ j < ds.length) {room size : Int} : szF f (ds.drop j) room size = some size := by
  rw [List.drop_of_length_le (by omega)]; rfl
theorem szD_no {H : Type} {n : Nat} {d : DataW H} {room : Int} (h : room < 1 ∨ nameB (tagOf d) = false) : szD (n + 1) d room = none := by unfold szD; rw [if_pos h]
theorem szD_yes {H : Type} {n : Nat} {d : DataW H} {room : Int} (h1 : 1 ≤ room) (h2 : nameB (tagOf d) = true) : szD (n + 1) d room = szF (szD n) (kidsOf d) room 1 := by
  unfold szD; rw [if_neg (by rw [h2]; simp; omega)]
end Go.Proofs.Ytbodeijffpepfaa
