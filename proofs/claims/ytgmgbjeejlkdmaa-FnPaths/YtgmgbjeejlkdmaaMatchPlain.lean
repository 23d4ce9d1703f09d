/- What a selector matches on a way: plain facts. -/
import Derived.Test.YtgmgbjeejlkdmaaSelPlain
import Derived.Test.YtgmgbjeejlkdmaaPathsPlain
namespace Go.Proofs.Ytgmgbjeejlkdmaa
/-- the tag of a step fits -/
def tagM (s : StepD) (tg : ByteArray) : Bool := decide (s.vTag = ⟨#[]⟩) || decide (tg = s.vTag)
/-- one farther up fits: the next one alone, or any -/
def upB (f : Nat → Bool) (deep : Bool) : Nat → Bool
  | 0 => false
  | p + 1 => f p || (deep && upB f deep p)
/-- do the steps as far as the n-th fit the way as far as the p-th? -/
def mB (st : Nat → StepD) (tg : Nat → ByteArray) : Nat → Nat → Bool
  | 0, p => tagM (st 0) (tg p)
  | n + 1, p => tagM (st (n + 1)) (tg p) && upB (mB st tg n) (st (n + 1)).vDeep p
theorem upB_hit {f : Nat → Bool} {deep : Bool} {p : Nat} (h : f p = true) : upB f deep (p + 1) = true := by simp [upB, h]
theorem upB_stop {f : Nat → Bool} {p : Nat} (h : f p = false) : upB f false (p + 1) = false := by simp [upB, h]
theorem upB_on {f : Nat → Bool} {p : Nat} (h : f p = false) : upB f true (p + 1) = upB f true p := by simp [upB, h]
theorem mB_zero {st : Nat → StepD} {tg : Nat → ByteArray} {p : Nat} : mB st tg 0 p = tagM (st 0) (tg p) := rfl
theorem mB_no {st : Nat → StepD} {tg : Nat → ByteArray} {n p : Nat} (h : tagM (st n) (tg p) = false) : mB st tg n p = false := by
  cases n with
  | zero => exact h
  | succ n => simp [mB, h]
theorem mB_yes {st : Nat → StepD} {tg : Nat → ByteArray} {n p : Nat} (h : tagM (st (n + 1)) (tg p) = true) : mB st tg (n + 1) p = upB (mB st tg n) (st (n + 1)).vDeep p := by simp [mB, h]
/-- the i-th step -/
def stL (l : List StepD) (i : Nat) : StepD := l.getD i ⟨⟨#[]⟩, false⟩
theorem stL_get {l : List StepD} {i : Nat} (h : i < l.length) : stL l i = l[i] := by simp [stL, List.getD, List.getElem?_eq_getElem h]
/-- the tag of the i-th on the way -/
def tgP {H : Type} (d : DataW H) (path : List Int) (i : Nat) : ByteArray := strT (endP d (path.take i))
/-- what Matches tells -/
def matchD {H : Type} (ok : Bool) (d : DataW H) (path : List Int) (l : List StepD) : Bool := ok && okP d path && selB l && mB (stL l) (tgP d path) (l.length - 1) path.length
end Go.Proofs.Ytgmgbjeejlkdmaa
