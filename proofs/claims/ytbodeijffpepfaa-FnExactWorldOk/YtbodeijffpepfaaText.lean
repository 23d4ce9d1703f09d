/- The text of a tree: plain facts. -/
import Derived.Test.YtbodeijffpepfaaSize
namespace Go.Proofs.Ytbodeijffpepfaa
theorem ba_app (a b : ByteArray) : (a ++ b).data.toList = a.data.toList ++ b.data.toList := by simp
theorem ba_size (a b : ByteArray) : (a ++ b).size = a.size + b.size := by simp
theorem ba_len (a : ByteArray) : a.data.toList.length = a.size := by simp
theorem ba_eq {a b : ByteArray} (h : a.data.toList = b.data.toList) : a = b := by
  cases a; cases b; simp at h; rw [h]
/-- the texts of all these, one behind the other -/
def textK {H : Type} (f : DataW H → List UInt8) : List (DataW H) → List UInt8
  | [] => []
  | d :: ds => f d ++ textK f ds
def headT {H : Type} (d : DataW H) : List UInt8 := [60] ++ tagOf d ++ [62]
def footT {H : Type} (d : DataW H) : List UInt8 := [60, 47] ++ tagOf d ++ [62]
/-- the text of a tree -/
def textD {H : Type} : Nat → DataW H → List UInt8
  | 0, _ => []
  | n + 1, d => headT d ++ textK (textD n) (kidsOf d) ++ footT d
theorem textK_append {H : Type} (f : DataW H → List UInt8) (a b : List (DataW H)) : textK f (a ++ b) = textK f a ++ textK f b := by
  induction a with
  | nil => rfl
  | cons d a ih => simp [textK, ih]
theorem textK_take {H : Type} (f : DataW H → List UInt8) (ds : List (DataW H)) (j : Nat) (h : j < ds.length) : textK f (ds.take (j + 1)) = textK f (ds.take j) ++ f (nth ds j) := by
  rw [List.take_succ_eq_append_getElem h, textK_append]
  simp [textK, nth, List.getD, List.getElem?_eq_getElem h]
theorem textK_take_all {H : Type} (f : DataW H → List UInt8) (ds : List (DataW H)) (j : Nat) (h : ¬ j < ds.length) : textK f (ds.take j) = textK f ds := by
  rw [List.take_of_length_le (by omega)]
theorem textK_take_le {H : Type} (f : DataW H → List UInt8) (ds : List (DataW H)) (j : Nat) : (textK f (ds.take j)).length ≤ (textK f ds).length := by
  have : textK f ds = textK f (ds.take j) ++ textK f (ds.drop j) := by rw [← textK_append, List.take_append_drop]
  rw [this]; simp
theorem textK_kid_le {H : Type} (f : DataW H → List UInt8) (ds : List (DataW H)) (j : Nat) (h : j < ds.length) : (textK f (ds.take j)).length + (f (nth ds j)).length ≤ (textK f ds).length := by
  have h1 := textK_take_le f ds (j + 1)
  rw [textK_take f ds j h] at h1
  simpa using h1
theorem headT_length {H : Type} (d : DataW H) : (headT d).length = (tagOf d).length + 2 := by simp [headT]
theorem footT_length {H : Type} (d : DataW H) : (footT d).length = (tagOf d).length + 3 := by simp [footT]
theorem textD_length {H : Type} (n : Nat) (d : DataW H) : (textD (n + 1) d).length = 2 * (tagOf d).length + 5 + (textK (textD n) (kidsOf d)).length := by
  simp [textD, headT_length, footT_length]; omega
theorem nameB_length (l : List UInt8) (h : nameB l = true) : l.length ≤ 6 := by
  simp [nameB] at h; omega
theorem szF_text {H : Type} {f : DataW H → Int → Option Int} {g : DataW H → List UInt8} (hf : ∀ d room m, f d room = some m → ((g d).length : Int) ≤ 17 * m) :
    ∀ (ds : List (DataW H)) (room size m : Int), szF f ds room size = some m → ((textK g ds).length : Int) ≤ 17 * (m - size) := by
  intro ds
  induction ds with
  | nil => intro room size m h; simp [szF] at h; simp [textK]; omega
  | cons d ds ih =>
    intro room size m h
    unfold szF at h
    split at h
    · cases h
    · rename_i q hq
      have h1 := hf _ _ _ hq
      have h2 := ih room (size + q) m h
      simp [textK]; omega
theorem szD_text {H : Type} : ∀ (n : Nat) (d : DataW H) (room m : Int), szD n d room = some m → ((textD n d).length : Int) ≤ 17 * m := by
  intro n
  induction n with
  | zero => intro d room m h; simp [szD] at h
  | succ n ih =>
    intro d room m h
    unfold szD at h
    split at h
    · cases h
    · rename_i hc
      have h1 := szF_text ih _ room 1 m h
      have h2 := nameB_length (tagOf d) (by cases hb : nameB (tagOf d) <;> simp_all)
      rw [textD_length]; omega
end Go.Proofs.Ytbodeijffpepfaa
