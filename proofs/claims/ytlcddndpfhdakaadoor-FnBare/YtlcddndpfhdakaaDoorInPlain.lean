/- The texts in a mark: plain facts. -/
import Derived.Test.YtlcddndpfhdakaaDoorMarkPlain
import Derived.Test.YtlcddndpfhdakaaDoorEscPlain
namespace Go.Proofs.YtlcddndpfhdakaaDoor
/-- all these texts, one behind the other -/
def catK {α : Type} (f : α → List UInt8) : List α → List UInt8
  | [] => []
  | d :: ds => f d ++ catK f ds
theorem catK_append {α : Type} (f : α → List UInt8) (a b : List α) : catK f (a ++ b) = catK f a ++ catK f b := by
  induction a with
  | nil => rfl
  | cons d ds ih => simp [catK, ih, List.append_assoc]
theorem catK_take {α : Type} (f : α → List UInt8) (ds : List α) (j : Nat) (h : j < ds.length) : catK f (ds.take (j + 1)) = catK f (ds.take j) ++ f ds[j] := by
  rw [List.take_succ_eq_append_getElem h, catK_append]; simp [catK]
theorem catK_all {α : Type} (f : α → List UInt8) (ds : List α) (j : Nat) (h : ¬ j < ds.length) : catK f (ds.take j) = catK f ds := by
  rw [List.take_of_length_le (by omega)]
theorem catK_kid {α : Type} (f : α → List UInt8) (ds : List α) (j : Nat) (h : j < ds.length) : (catK f (ds.take j)).length + (f ds[j]).length ≤ (catK f ds).length := by
  have e : ds = ds.take (j + 1) ++ ds.drop (j + 1) := (List.take_append_drop _ _).symm
  have e2 : catK f ds = catK f (ds.take (j + 1)) ++ catK f (ds.drop (j + 1)) := by
    conv => lhs; rw [e]
    rw [catK_append]
  rw [e2, catK_take f ds j h]
  simp only [List.length_append]; omega
/-- all texts in a mark -/
def inD : Nat → MarkD → List UInt8
  | 0, _ => []
  | n + 1, x => x.vText.data.toList ++ catK (inD n) x.vKids
theorem inD_length (n : Nat) (x : MarkD) : (inD (n + 1) x).length = x.vText.size + (catK (inD n) x.vKids).length := by simp [inD]
theorem mzF_cat {f : MarkD → Int → Option Int} {g : MarkD → List UInt8} {c : Int} (hf : ∀ d room m, f d room = some m → ((g d).length : Int) ≤ c * m) : ∀ (ds : List MarkD) (p : Bool) (room size m : Int), mzF f p ds room size = some m → ((catK g ds).length : Int) ≤ c * (m - size) := by
  intro ds
  induction ds with
  | nil => intro p room size m h; simp [mzF] at h; subst h; simp [catK]
  | cons d ds ih =>
    intro p room size m h
    unfold mzF at h
    split at h
    · cases h
    · rename_i q hq
      have h1 := hf _ _ _ hq
      split at h
      · cases h
      · have h2 := ih _ room (size + q) m h
        simp only [catK, List.length_append]
        have e : c * (m - size) = c * q + c * (m - (size + q)) := by rw [← Int.mul_add]; congr 1; omega
        omega
theorem self_text {x : MarkD} (h : selfB x = true) : x.vText.size ≤ 12 := by
  unfold selfB at h
  split at h
  · unfold textB wordB at h
    simp only [Bool.and_eq_true, decide_eq_true_eq] at h
    omega
  · unfold tagB at h
    simp only [Bool.and_eq_true, decide_eq_true_eq] at h
    omega
theorem mzD_in : ∀ (n : Nat) (x : MarkD) (room m : Int), mzD n x room = some m → ((inD n x).length : Int) ≤ 12 * m := by
  intro n
  induction n with
  | zero => intro x room m h; simp [mzD] at h
  | succ n ih =>
    intro x room m h
    unfold mzD at h
    split at h
    · cases h
    · rename_i hc
      have h1 := mzF_cat ih _ _ _ _ _ h
      have h2 := self_text (x := x) (by cases hs : selfB x <;> simp_all)
      rw [inD_length]
      omega
end Go.Proofs.YtlcddndpfhdakaaDoor
