/- What a right mark is, and how many nodes it has: plain facts. -/
import Derived.Test.YtlcddndpfhdakaaDoorMarkRecs
import Derived.Test.YtlcddndpfhdakaaDoorNames
namespace Go.Proofs.YtlcddndpfhdakaaDoor
/-- a byte from 32 to 126 -/
def plainC (c : Int) : Bool := decide (32 ≤ c) && decide (c ≤ 126)
def plainL : List UInt8 → Bool
  | [] => true
  | c :: r => plainC (c.toNat : Int) && plainL r
theorem plainL_append (a b : List UInt8) : plainL (a ++ b) = (plainL a && plainL b) := by
  induction a with
  | nil => simp [plainL]
  | cons c r ih => simp [plainL, ih, Bool.and_assoc]
theorem plainL_snoc (s : ByteArray) (k : Nat) (h : k < s.size) : plainL (s.data.toList.take (k + 1)) = (plainL (s.data.toList.take k) && plainC (s[k].toNat : Int)) := by
  rw [take_snoc s k h, plainL_append]; simp [plainL]
theorem plainL_take_false (l : List UInt8) (k : Nat) (h : plainL (l.take k) = false) : plainL l = false := by
  have : l = l.take k ++ l.drop k := (List.take_append_drop k l).symm
  rw [this, plainL_append, h]; rfl
theorem plainC_low (c : Int) (h1 : c < 32) : plainC c = false := by simp [plainC]; omega
theorem plainC_high (c : Int) (h1 : 126 < c) : plainC c = false := by simp [plainC]; omega
theorem plainC_true (c : Int) (h1 : 32 ≤ c) (h2 : c ≤ 126) : plainC c = true := by simp [plainC, h1, h2]
/-- at most so many such bytes -/
def wordB (most : Int) (s : ByteArray) : Bool := decide ((s.size : Int) ≤ most) && plainL s.data.toList
def nmB (s : ByteArray) : Bool := nameB s.data.toList
def ltS (a b : ByteArray) : Bool := Op.bytesLess a.toList b.toList
/-- attributes by rising name -/
def attF : Option ByteArray → List AttrD → Bool
  | _, [] => true
  | p, a :: r => nmB a.vName && (p.all fun q => ltS q a.vName) && wordB 10 a.vValue && attF (some a.vName) r
def prevA (xs : List AttrD) : Nat → Option ByteArray
  | 0 => none
  | j + 1 => xs[j]?.map (·.vName)
theorem prevA_succ {xs : List AttrD} {j : Nat} (h : j < xs.length) : prevA xs (j + 1) = some xs[j].vName := by simp [prevA, List.getElem?_eq_getElem h]
theorem attF_step {xs : List AttrD} {j : Nat} (hj : j < xs.length) : attF (prevA xs j) (xs.drop j) = (nmB xs[j].vName && ((prevA xs j).all fun q => ltS q xs[j].vName) && wordB 10 xs[j].vValue && attF (prevA xs (j + 1)) (xs.drop (j + 1))) := by
  rw [List.drop_eq_getElem_cons hj, prevA_succ hj]; rfl
theorem attF_noName {xs : List AttrD} {j : Nat} (hj : j < xs.length) (e : nmB xs[j].vName = false) : attF (prevA xs j) (xs.drop j) = false := by rw [attF_step hj, e]; rfl
theorem attF_noRise {xs : List AttrD} {j : Nat} (hj : j < xs.length) (e : ((prevA xs j).all fun q => ltS q xs[j].vName) = false) : attF (prevA xs j) (xs.drop j) = false := by rw [attF_step hj, e]; simp
theorem attF_noWord {xs : List AttrD} {j : Nat} (hj : j < xs.length) (e : wordB 10 xs[j].vValue = false) : attF (prevA xs j) (xs.drop j) = false := by rw [attF_step hj, e]; simp
theorem attF_on {xs : List AttrD} {j : Nat} (hj : j < xs.length) (e1 : nmB xs[j].vName = true) (e2 : ((prevA xs j).all fun q => ltS q xs[j].vName) = true) (e3 : wordB 10 xs[j].vValue = true) : attF (prevA xs j) (xs.drop j) = attF (prevA xs (j + 1)) (xs.drop (j + 1)) := by rw [attF_step hj, e1, e2, e3]; simp
theorem attF_end {xs : List AttrD} {j : Nat} (hj : ¬ j < xs.length) : attF (prevA xs j) (xs.drop j) = true := by rw [List.drop_of_length_le (by omega)]; cases prevA xs j <;> rfl
/-- a mark itself, its kids not looked into -/
def textB (x : MarkD) : Bool := !decide (x.vText.size = 0) && wordB 12 x.vText && decide (x.vAttrs.length = 0) && decide (x.vKids.length = 0)
def tagB (x : MarkD) : Bool := nmB x.vTag && decide (x.vText.size = 0) && decide (x.vAttrs.length ≤ 4) && attF none x.vAttrs
def isT (x : MarkD) : Bool := decide (x.vTag.size = 0)
def selfB (x : MarkD) : Bool := if isT x then textB x else tagB x
/-- the sizes of all these, one behind the other, on top of 'size', within 'room'; no two texts side by side -/
def mzF (f : MarkD → Int → Option Int) : Bool → List MarkD → Int → Int → Option Int
  | _, [], _, size => some size
  | p, d :: ds, room, size => match f d (room - size) with
    | none => none
    | some m => if p && isT d then none else mzF f (isT d) ds room (size + m)
/-- how many nodes a mark has; none: it is not right, or there are more than 'room' -/
def mzD : Nat → MarkD → Int → Option Int
  | 0, _, _ => none
  | n + 1, x, room => if room < 1 ∨ selfB x = false then none else mzF (mzD n) false x.vKids room 1
theorem mzF_range {f : MarkD → Int → Option Int} (hf : ∀ d room m, f d room = some m → 1 ≤ m ∧ m ≤ room) : ∀ (ds : List MarkD) (p : Bool) (room size m : Int), 1 ≤ size → size ≤ room → mzF f p ds room size = some m → 1 ≤ m ∧ m ≤ room := by
  intro ds
  induction ds with
  | nil => intro p room size m h1 h2 h; simp [mzF] at h; omega
  | cons d ds ih =>
    intro p room size m h1 h2 h
    unfold mzF at h
    split at h
    · cases h
    · rename_i q hq
      have := hf _ _ _ hq
      split at h
      · cases h
      · exact ih _ room (size + q) m (by omega) (by omega) h
theorem mzD_range : ∀ (n : Nat) (d : MarkD) (room m : Int), mzD n d room = some m → 1 ≤ m ∧ m ≤ room := by
  intro n
  induction n with
  | zero => intro d room m h; simp [mzD] at h
  | succ n ih =>
    intro d room m h
    unfold mzD at h
    split at h
    · cases h
    · rename_i hc
      exact mzF_range ih _ false room 1 m (by omega) (by omega) h
/-- whether a text stands just ahead -/
def prevT (xs : List MarkD) : Nat → Bool
  | 0 => false
  | j + 1 => (xs[j]?.map isT).getD false
theorem prevT_succ {xs : List MarkD} {j : Nat} (h : j < xs.length) : prevT xs (j + 1) = isT xs[j] := by simp [prevT, List.getElem?_eq_getElem h]
theorem mzF_none {f : MarkD → Int → Option Int} {ds : List MarkD} {j : Nat} (hj : j < ds.length) {room size : Int} (h : f ds[j] (room - size) = none) : mzF f (prevT ds j) (ds.drop j) room size = none := by
  rw [List.drop_eq_getElem_cons hj]; unfold mzF; rw [h]
theorem mzF_side {f : MarkD → Int → Option Int} {ds : List MarkD} {j : Nat} (hj : j < ds.length) {room size m : Int} (h : f ds[j] (room - size) = some m) (hp : prevT ds j = true) (ht : isT ds[j] = true) : mzF f (prevT ds j) (ds.drop j) room size = none := by
  rw [List.drop_eq_getElem_cons hj]; unfold mzF; rw [h, hp, ht]; rfl
theorem mzF_some {f : MarkD → Int → Option Int} {ds : List MarkD} {j : Nat} (hj : j < ds.length) {room size m : Int} (h : f ds[j] (room - size) = some m) (hp : (prevT ds j && isT ds[j]) = false) : mzF f (prevT ds j) (ds.drop j) room size = mzF f (prevT ds (j + 1)) (ds.drop (j + 1)) room (size + m) := by
  rw [prevT_succ hj, List.drop_eq_getElem_cons hj]
  conv => lhs; unfold mzF
  rw [h]
  simp only [hp]
  cases ds.drop (j + 1) <;> rfl
theorem mzF_end {f : MarkD → Int → Option Int} {ds : List MarkD} {j : Nat} (hj : ¬ j < ds.length) {room size : Int} : mzF f (prevT ds j) (ds.drop j) room size = some size := by
  rw [List.drop_of_length_le (by omega)]; cases prevT ds j <;> rfl
theorem mzD_no {n : Nat} {d : MarkD} {room : Int} (h : room < 1 ∨ selfB d = false) : mzD (n + 1) d room = none := by unfold mzD; rw [if_pos h]
theorem mzD_yes {n : Nat} {d : MarkD} {room : Int} (h1 : 1 ≤ room) (h2 : selfB d = true) : mzD (n + 1) d room = mzF (mzD n) false d.vKids room 1 := by
  unfold mzD; rw [if_neg (by rw [h2]; simp; omega)]
theorem mzD_text {n : Nat} {d : MarkD} {room : Int} (h1 : 1 ≤ room) (ht : isT d = true) (h2 : textB d = true) : mzD (n + 1) d room = some 1 := by
  rw [mzD_yes h1 (by simp [selfB, ht, h2])]
  have : d.vKids = [] := by
    simp [textB] at h2
    exact h2.2
  rw [this]; rfl
def resM : Option Int → Int
  | none => -1
  | some m => m
end Go.Proofs.YtlcddndpfhdakaaDoor
