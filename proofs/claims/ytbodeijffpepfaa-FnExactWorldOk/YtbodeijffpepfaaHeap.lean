/- What a right heap is: plain facts, no memory. -/
import Derived.Test.YtbodeijffpepfaaRecs
import Derived.Test.YtbodeijffpepfaaNames
namespace Go.Proofs.Ytbodeijffpepfaa
/-- where the first one with this number stands; -1: nowhere -/
def findI {α : Type} (f : α → Int) : List α → Int → Nat → Int
  | [], _, _ => -1
  | x :: xs, id, j => if f x = id then (j : Int) else findI f xs id (j + 1)
/-- the first one with this number -/
def getI {α : Type} (f : α → Int) : List α → Int → Option α
  | [], _ => none
  | x :: xs, id => if f x = id then some x else getI f xs id
theorem drop_cons {α : Type} (xs : List α) (j : Nat) (h : j < xs.length) : xs.drop j = xs[j] :: xs.drop (j + 1) := List.drop_eq_getElem_cons h
theorem findI_hit {α : Type} {f : α → Int} {xs : List α} {id : Int} {j : Nat} (h : j < xs.length) (e : f xs[j] = id) : findI f (xs.drop j) id j = (j : Int) := by
  rw [drop_cons xs j h]; simp [findI, e]
theorem findI_miss {α : Type} {f : α → Int} {xs : List α} {id : Int} {j : Nat} (h : j < xs.length) (e : ¬ f xs[j] = id) : findI f (xs.drop j) id j = findI f (xs.drop (j + 1)) id (j + 1) := by
  rw [drop_cons xs j h]; simp [findI, e]
theorem findI_end {α : Type} {f : α → Int} {xs : List α} {id : Int} {j : Nat} (h : ¬ j < xs.length) : findI f (xs.drop j) id j = -1 := by
  rw [List.drop_of_length_le (by omega)]; rfl
theorem findI_cases {α : Type} {f : α → Int} (xs : List α) (id : Int) : ∀ (n : Nat) (j : Nat), n = xs.length - j → j ≤ xs.length →
    (findI f (xs.drop j) id j = -1 ∧ getI f (xs.drop j) id = none) ∨ ∃ i, ∃ h : i < xs.length, findI f (xs.drop j) id j = (i : Int) ∧ f xs[i] = id ∧ getI f (xs.drop j) id = some xs[i] := by
  intro n
  induction n with
  | zero =>
    intro j hn hj
    rw [List.drop_of_length_le (by omega)]
    exact Or.inl ⟨rfl, rfl⟩
  | succ n ih =>
    intro j hn hj
    have hlt : j < xs.length := by omega
    rw [drop_cons xs j hlt]
    by_cases e : f xs[j] = id
    · exact Or.inr ⟨j, hlt, by simp [findI, e], e, by simp [getI, e]⟩
    · rcases ih (j + 1) (by omega) (by omega) with ⟨h1, h2⟩ | ⟨i, hi, h1, h2, h3⟩
      · exact Or.inl ⟨by simp [findI, e, h1], by simp [getI, e, h2]⟩
      · exact Or.inr ⟨i, hi, by simp [findI, e, h1], h2, by simp [getI, e, h3]⟩
theorem findI_is {α : Type} (f : α → Int) (xs : List α) (id : Int) : (findI f xs id 0 = -1 ∧ getI f xs id = none) ∨ ∃ i, ∃ h : i < xs.length, findI f xs id 0 = (i : Int) ∧ f xs[i] = id ∧ getI f xs id = some xs[i] := by
  have := findI_cases (f := f) xs id xs.length 0 (by omega) (by omega)
  simpa using this
def hasB : List Int → Int → Bool
  | [], _ => false
  | x :: xs, id => decide (x = id) || hasB xs id
theorem hasB_hit {xs : List Int} {id : Int} {j : Nat} (h : j < xs.length) (e : xs[j] = id) : hasB (xs.drop j) id = true := by
  rw [drop_cons xs j h]; simp [hasB, e]
theorem hasB_miss {xs : List Int} {id : Int} {j : Nat} (h : j < xs.length) (e : ¬ xs[j] = id) : hasB (xs.drop j) id = hasB (xs.drop (j + 1)) id := by
  rw [drop_cons xs j h]; simp [hasB, e]
theorem hasB_end {xs : List Int} {id : Int} {j : Nat} (h : ¬ j < xs.length) : hasB (xs.drop j) id = false := by
  rw [List.drop_of_length_le (by omega)]; rfl
def inB (n low high : Int) : Bool := decide (low ≤ n) && decide (n ≤ high)
def idxN (h : HeapD) (id : Int) : Int := findI NodeD.vId h.vNodes id 0
def idxO (h : HeapD) (id : Int) : Int := findI ObjD.vId h.vObjs id 0
def nodeAt (h : HeapD) (id : Int) : Option NodeD := getI NodeD.vId h.vNodes id
def objAt (h : HeapD) (id : Int) : Option ObjD := getI ObjD.vId h.vObjs id
def nmB (s : ByteArray) : Bool := nameB s.data.toList
def lisB (x : ListenerD) : Bool := nmB x.vType && nmB x.vName && inB x.vStop 0 2
def ltS (a b : ByteArray) : Bool := Op.bytesLess a.toList b.toList
theorem some_of_idx {α : Type} {f : α → Int} {xs : List α} {id : Int} : (getI f xs id).isSome = decide (0 ≤ findI f xs id 0) := by
  rcases findI_is f xs id with ⟨h1, h2⟩ | ⟨i, hi, h1, h2, h3⟩
  · rw [h1, h2]; rfl
  · rw [h1, h3]; simp
/-- do names rise, and are all objects there? -/
def fldsB (h : HeapD) : Option ByteArray → List FieldD → Bool
  | _, [] => true
  | p, x :: xs => nmB x.vName && (p.all fun q => ltS q x.vName) && (objAt h x.vObj).isSome && fldsB h (some x.vName) xs
def fieldsB (h : HeapD) (xs : List FieldD) (most : Int) : Bool := fldsB h none xs && decide ((xs.length : Int) ≤ most)
def prevN (xs : List FieldD) : Nat → Option ByteArray
  | 0 => none
  | j + 1 => xs[j]?.map FieldD.vName
theorem prevN_succ {xs : List FieldD} {j : Nat} (h : j < xs.length) : prevN xs (j + 1) = some xs[j].vName := by simp [prevN, List.getElem?_eq_getElem h]
theorem fldsB_step {h : HeapD} {xs : List FieldD} {j : Nat} (hj : j < xs.length) : fldsB h (prevN xs j) (xs.drop j) = (nmB xs[j].vName && ((prevN xs j).all fun q => ltS q xs[j].vName) && (objAt h xs[j].vObj).isSome && fldsB h (prevN xs (j + 1)) (xs.drop (j + 1))) := by
  rw [drop_cons xs j hj, prevN_succ hj]; rfl
theorem fldsB_end {h : HeapD} {xs : List FieldD} {j : Nat} (hj : ¬ j < xs.length) : fldsB h (prevN xs j) (xs.drop j) = true := by
  rw [List.drop_of_length_le (by omega)]; rfl
theorem fldsB_noName {h : HeapD} {xs : List FieldD} {j : Nat} (hj : j < xs.length) (e : nmB xs[j].vName = false) : fldsB h (prevN xs j) (xs.drop j) = false := by
  rw [fldsB_step hj, e]; rfl
theorem fldsB_noRise {h : HeapD} {xs : List FieldD} {j : Nat} (hj : j + 1 < xs.length) (e : ltS (xs[j]'(by omega)).vName xs[j + 1].vName = false) : fldsB h (prevN xs (j + 1)) (xs.drop (j + 1)) = false := by
  rw [fldsB_step hj, prevN_succ (by omega)]
  simp [e]
theorem fldsB_noObj {h : HeapD} {xs : List FieldD} {j : Nat} (hj : j < xs.length) (e : idxO h xs[j].vObj < 0) : fldsB h (prevN xs j) (xs.drop j) = false := by
  rw [fldsB_step hj]
  have : (objAt h xs[j].vObj).isSome = false := by
    unfold objAt; rw [some_of_idx]; unfold idxO at e; simp; omega
  rw [this]; simp
theorem fldsB_on {h : HeapD} {xs : List FieldD} {j : Nat} (hj : j < xs.length) (e1 : nmB xs[j].vName = true) (e2 : ((prevN xs j).all fun q => ltS q xs[j].vName) = true) (e : 0 ≤ idxO h xs[j].vObj) : fldsB h (prevN xs j) (xs.drop j) = fldsB h (prevN xs (j + 1)) (xs.drop (j + 1)) := by
  rw [fldsB_step hj, e1, e2]
  have : (objAt h xs[j].vObj).isSome = true := by
    unfold objAt; rw [some_of_idx]; unfold idxO at e; simp; omega
  rw [this]; simp
theorem idxO_lo (h : HeapD) (id : Int) : -1 ≤ idxO h id ∧ idxO h id < (h.vObjs.length : Int) ∨ idxO h id = -1 := by
  unfold idxO
  rcases findI_is ObjD.vId h.vObjs id with ⟨h1, _⟩ | ⟨i, hi, h1, _⟩ <;> rw [h1] <;> omega
def lissB : List ListenerD → Bool
  | [] => true
  | x :: xs => lisB x && lissB xs
theorem lissB_no {xs : List ListenerD} {j : Nat} (h : j < xs.length) (e : lisB xs[j] = false) : lissB (xs.drop j) = false := by
  rw [drop_cons xs j h]; simp [lissB, e]
theorem lissB_on {xs : List ListenerD} {j : Nat} (h : j < xs.length) (e : lisB xs[j] = true) : lissB (xs.drop j) = lissB (xs.drop (j + 1)) := by
  rw [drop_cons xs j h]; simp [lissB, e]
theorem lissB_end {xs : List ListenerD} {j : Nat} (h : ¬ j < xs.length) : lissB (xs.drop j) = true := by
  rw [List.drop_of_length_le (by omega)]; rfl
/-- a kid, behind those in 'pre' -/
def kidB (h : HeapD) (id : Int) (pre : List Int) (k : Int) : Bool :=
  match nodeAt h k with
  | none => false
  | some n => decide (n.vParent = id) && !hasB pre k
def kidsF (h : HeapD) (id : Int) : List Int → List Int → Bool
  | _, [] => true
  | pre, k :: ks => kidB h id pre k && kidsF h id (pre ++ [k]) ks
def kidsB (h : HeapD) (x : NodeD) : Bool := kidsF h x.vId [] x.vKids
theorem kidsF_step {h : HeapD} {id : Int} {xs : List Int} {j : Nat} (hj : j < xs.length) : kidsF h id (xs.take j) (xs.drop j) = (kidB h id (xs.take j) xs[j] && kidsF h id (xs.take (j + 1)) (xs.drop (j + 1))) := by
  rw [drop_cons xs j hj, List.take_succ_eq_append_getElem hj]; rfl
theorem kidsF_no {h : HeapD} {id : Int} {xs : List Int} {j : Nat} (hj : j < xs.length) (e : kidB h id (xs.take j) xs[j] = false) : kidsF h id (xs.take j) (xs.drop j) = false := by
  rw [kidsF_step hj, e]; rfl
theorem kidsF_on {h : HeapD} {id : Int} {xs : List Int} {j : Nat} (hj : j < xs.length) (e : kidB h id (xs.take j) xs[j] = true) : kidsF h id (xs.take j) (xs.drop j) = kidsF h id (xs.take (j + 1)) (xs.drop (j + 1)) := by
  rw [kidsF_step hj, e]; rfl
theorem kidsF_end {h : HeapD} {id : Int} {xs : List Int} {j : Nat} (hj : ¬ j < xs.length) : kidsF h id (xs.take j) (xs.drop j) = true := by
  rw [List.drop_of_length_le (by omega)]; rfl
def parB (h : HeapD) (x : NodeD) : Bool :=
  if x.vParent = 0 then true else match nodeAt h x.vParent with
    | none => false
    | some p => hasB p.vKids x.vId
def wrapB (h : HeapD) (x : NodeD) : Bool :=
  if x.vWrapper = 0 then true else match objAt h x.vWrapper with
    | none => false
    | some o => decide (o.vNode = x.vId)
def nodeB (h : HeapD) (x : NodeD) : Bool := nmB x.vTag && decide (x.vListeners.length ≤ 4) && lissB x.vListeners && kidsB h x && parB h x && wrapB h x
theorem idxN_is (h : HeapD) (id : Int) : (idxN h id = -1 ∧ nodeAt h id = none) ∨ ∃ i, ∃ hi : i < h.vNodes.length, idxN h id = (i : Int) ∧ h.vNodes[i].vId = id ∧ nodeAt h id = some h.vNodes[i] := findI_is _ _ _
theorem idxO_is (h : HeapD) (id : Int) : (idxO h id = -1 ∧ objAt h id = none) ∨ ∃ i, ∃ hi : i < h.vObjs.length, idxO h id = (i : Int) ∧ h.vObjs[i].vId = id ∧ objAt h id = some h.vObjs[i] := findI_is _ _ _
/-- from here up, over no more than so many nodes -/
def upF (h : HeapD) : Nat → Int → Bool
  | 0, id => decide (id = 0)
  | n + 1, id => if id = 0 then true else match nodeAt h id with
    | none => false
    | some x => upF h n x.vParent
/-- every parent is there -/
def ParsThere (h : HeapD) : Prop := ∀ i, (hi : i < h.vNodes.length) → h.vNodes[i].vParent ≠ 0 → (nodeAt h h.vNodes[i].vParent).isSome = true
theorem upF_zero (h : HeapD) (n : Nat) : upF h n 0 = true := by cases n <;> rfl
theorem upF_full (h : HeapD) {id : Int} (e : ¬ id = 0) : upF h 0 id = false := by simp [upF, e]
theorem upF_step (h : HeapD) {n : Nat} {id : Int} {x : NodeD} (e : ¬ id = 0) (hx : nodeAt h id = some x) : upF h (n + 1) id = upF h n x.vParent := by simp [upF, e, hx]
def prevI {α : Type} (f : α → Int) (xs : List α) : Nat → Option Int
  | 0 => none
  | j + 1 => xs[j]?.map f
theorem prevI_succ {α : Type} {f : α → Int} {xs : List α} {j : Nat} (h : j < xs.length) : prevI f xs (j + 1) = some (f xs[j]) := by simp [prevI, List.getElem?_eq_getElem h]
def riseB (p : Option Int) (id : Int) : Bool := p.all fun q => decide (q < id)
def nodesF (h : HeapD) : Option Int → List NodeD → Bool
  | _, [] => true
  | p, x :: xs => inB x.vId 1 (h.vNext - 1) && riseB p x.vId && (objAt h x.vId).isNone && nodeB h x && nodesF h (some x.vId) xs
def oNodeB (h : HeapD) (x : ObjD) : Bool :=
  if x.vNode = 0 then true else match nodeAt h x.vNode with
    | none => false
    | some n => decide (n.vWrapper = x.vId)
def objsF (h : HeapD) : Option Int → List ObjD → Bool
  | _, [] => true
  | p, x :: xs => inB x.vId 1 (h.vNext - 1) && riseB p x.vId && fieldsB h x.vFields 5 && oNodeB h x && objsF h (some x.vId) xs
def upsF (h : HeapD) : List NodeD → Bool
  | [] => true
  | x :: xs => upF h h.vNodes.length x.vId && upsF h xs
def docB (h : HeapD) : Bool :=
  match nodeAt h h.vDoc with
  | none => false
  | some n => decide (n.vParent = 0)
/-- a right heap, as the specification asks it -/
def specB (h : HeapD) : Bool := inB h.vNext 1 1000000000 && decide (h.vNodes.length ≤ 16) && decide (h.vObjs.length ≤ 16) && fieldsB h h.vGlobals 8 && nodesF h none h.vNodes && objsF h none h.vObjs && upsF h h.vNodes && docB h
theorem nodesF_step {h : HeapD} {j : Nat} (hj : j < h.vNodes.length) : nodesF h (prevI NodeD.vId h.vNodes j) (h.vNodes.drop j) = (inB h.vNodes[j].vId 1 (h.vNext - 1) && riseB (prevI NodeD.vId h.vNodes j) h.vNodes[j].vId && (objAt h h.vNodes[j].vId).isNone && nodeB h h.vNodes[j] && nodesF h (prevI NodeD.vId h.vNodes (j + 1)) (h.vNodes.drop (j + 1))) := by
  rw [drop_cons h.vNodes j hj, prevI_succ hj]; rfl
theorem nodesF_end {h : HeapD} {j : Nat} (hj : ¬ j < h.vNodes.length) : nodesF h (prevI NodeD.vId h.vNodes j) (h.vNodes.drop j) = true := by
  rw [List.drop_of_length_le (by omega)]; rfl
theorem objsF_step {h : HeapD} {j : Nat} (hj : j < h.vObjs.length) : objsF h (prevI ObjD.vId h.vObjs j) (h.vObjs.drop j) = (inB h.vObjs[j].vId 1 (h.vNext - 1) && riseB (prevI ObjD.vId h.vObjs j) h.vObjs[j].vId && fieldsB h h.vObjs[j].vFields 5 && oNodeB h h.vObjs[j] && objsF h (prevI ObjD.vId h.vObjs (j + 1)) (h.vObjs.drop (j + 1))) := by
  rw [drop_cons h.vObjs j hj, prevI_succ hj]; rfl
theorem objsF_end {h : HeapD} {j : Nat} (hj : ¬ j < h.vObjs.length) : objsF h (prevI ObjD.vId h.vObjs j) (h.vObjs.drop j) = true := by
  rw [List.drop_of_length_le (by omega)]; rfl
theorem upsF_step {h : HeapD} {xs : List NodeD} {j : Nat} (hj : j < xs.length) : upsF h (xs.drop j) = (upF h h.vNodes.length xs[j].vId && upsF h (xs.drop (j + 1))) := by
  rw [drop_cons xs j hj]; rfl
theorem upsF_end {h : HeapD} {xs : List NodeD} {j : Nat} (hj : ¬ j < xs.length) : upsF h (xs.drop j) = true := by
  rw [List.drop_of_length_le (by omega)]; rfl
theorem nodesF_all {h : HeapD} {p : Option Int} {xs : List NodeD} (e : nodesF h p xs = true) : ∀ i, (hi : i < xs.length) → nodeB h xs[i] = true := by
  induction xs generalizing p with
  | nil => intro i hi; simp at hi
  | cons x xs ih =>
    intro i hi
    simp only [nodesF, Bool.and_eq_true] at e
    cases i with
    | zero => exact e.1.2
    | succ i => exact ih e.2 i (by simpa using hi)
theorem parsThere_of {h : HeapD} (e : nodesF h none h.vNodes = true) : ParsThere h := by
  intro i hi hne
  have := nodesF_all e i hi
  simp only [nodeB, Bool.and_eq_true] at this
  have hp := this.1.2
  unfold parB at hp
  rw [if_neg hne] at hp
  cases hq : nodeAt h h.vNodes[i].vParent with
  | none => rw [hq] at hp; cases hp
  | some n => rfl
theorem getI_mem {α : Type} {f : α → Int} {xs : List α} {i : Nat} (hi : i < xs.length) : (getI f xs (f xs[i])).isSome = true := by
  induction xs generalizing i with
  | nil => simp at hi
  | cons x xs ih =>
    unfold getI
    split
    · rfl
    · cases i with
      | zero => rename_i hne; exact absurd rfl hne
      | succ i => exact ih (by simpa using hi)
end Go.Proofs.Ytbodeijffpepfaa
