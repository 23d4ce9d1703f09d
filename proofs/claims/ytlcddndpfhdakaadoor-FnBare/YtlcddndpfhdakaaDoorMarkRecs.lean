/- The records of this package as data, and that they lie in memory. -/
import Derived.Test.YtlcddndpfhdakaaDoorSeq
import Derived.Test.YtlcddndpfhdakaaDoorRows
namespace Go.Proofs.YtlcddndpfhdakaaDoor
open Go.RowKit Go.ChangeShapes
structure AttrD where
  vName : ByteArray
  vValue : ByteArray
def AttrAt (_ : World) (_ : Nat) (cs : List Value) (x : AttrD) : Prop :=
  cs = [.string x.vName, .string x.vValue] ∧ x.vName.size ≤ maxLen ∧ x.vValue.size ≤ maxLen ∧ True
theorem AttrAt_stays : Stays AttrAt := fun _ _ _ _ _ _ _ h => h
def AttrD.small (x : AttrD) : Prop := x.vName.size ≤ 1048576 ∧ x.vValue.size ≤ 1048576 ∧ True
/-- a mark as data: its tag, its text, its attributes, its kids -/
def MarkD : Type := DataW Unit
def attrW (x : AttrD) : DataW Unit := .agg [.lit (.string x.vName.data.toList), .lit (.string x.vValue.data.toList)]
def attrR : DataW Unit → AttrD
  | .agg [.lit (.string a), .lit (.string b)] => ⟨⟨a.toArray⟩, ⟨b.toArray⟩⟩
  | _ => ⟨⟨#[]⟩, ⟨#[]⟩⟩
theorem attrR_W (x : AttrD) : attrR (attrW x) = x := by
  obtain ⟨⟨a⟩, ⟨b⟩⟩ := x
  simp [attrR, attrW]
def MarkD.mk (s t : ByteArray) (l : List AttrD) (ks : List MarkD) : MarkD := (.agg [.lit (.string s.data.toList), .lit (.string t.data.toList), .slice (l.map attrW) [], .slice ks []] : DataW Unit)
def tagW : DataW Unit → ByteArray
  | .agg (.lit (.string s) :: _) => ⟨s.toArray⟩
  | _ => ⟨#[]⟩
def textW : DataW Unit → ByteArray
  | .agg (_ :: .lit (.string s) :: _) => ⟨s.toArray⟩
  | _ => ⟨#[]⟩
def attrsW : DataW Unit → List AttrD
  | .agg (_ :: _ :: .slice l _ :: _) => l.map attrR
  | _ => []
def kidsW : DataW Unit → List (DataW Unit)
  | .agg (_ :: _ :: _ :: .slice l _ :: _) => l
  | _ => []
def MarkD.vTag (x : MarkD) : ByteArray := tagW x
def MarkD.vText (x : MarkD) : ByteArray := textW x
def MarkD.vAttrs (x : MarkD) : List AttrD := attrsW x
def MarkD.vKids (x : MarkD) : List MarkD := kidsW x
theorem MarkD.mk_tag (s t : ByteArray) (l : List AttrD) (ks : List MarkD) : (MarkD.mk s t l ks).vTag = s := by cases s; rfl
theorem MarkD.mk_text (s t : ByteArray) (l : List AttrD) (ks : List MarkD) : (MarkD.mk s t l ks).vText = t := by cases t; rfl
theorem MarkD.mk_attrs (s t : ByteArray) (l : List AttrD) (ks : List MarkD) : (MarkD.mk s t l ks).vAttrs = l := by
  show (l.map attrW).map attrR = l
  rw [List.map_map]
  have : (attrR ∘ attrW) = id := by funext x; exact attrR_W x
  rw [this, List.map_id]
theorem MarkD.mk_kids (s t : ByteArray) (l : List AttrD) (ks : List MarkD) : (MarkD.mk s t l ks).vKids = ks := rfl
/-- a mark lies in memory; 'n' is more than its depth -/
def MarkAt : Nat → World → Nat → List Value → MarkD → Prop
  | 0, _, _, _, _ => False
  | n + 1, w, lo, cs, x => ∃ k2 k3 : Value, cs = [.string x.vTag, .string x.vText, k2, k3] ∧ SeqAt 2 AttrAt w lo k2 x.vAttrs ∧ SeqAt 4 (MarkAt n) w lo k3 x.vKids ∧ x.vTag.size ≤ maxLen ∧ x.vText.size ≤ maxLen ∧ True
theorem MarkAt.opened {n : Nat} {w : World} {lo : Nat} {cs : List Value} {x : MarkD} (h : MarkAt n w lo cs x) : ∃ k2 k3 : Value, cs = [.string x.vTag, .string x.vText, k2, k3] ∧ SeqAt 2 AttrAt w lo k2 x.vAttrs ∧ SeqAt 4 (MarkAt (n - 1)) w lo k3 x.vKids ∧ x.vTag.size ≤ maxLen ∧ x.vText.size ≤ maxLen ∧ True := by
  cases n with
  | zero => exact h.elim
  | succ n => exact h
theorem MarkAt_stays (n : Nat) : Stays (MarkAt n) := by
  induction n with
  | zero => intro w w' lo lo' cs x q h; exact h
  | succ n ih =>
    intro w w' lo lo' cs x q h
    obtain ⟨k2, k3, e, h2, h3, r⟩ := h
    exact ⟨k2, k3, e, h2.keep AttrAt_stays q, h3.keep ih q, r⟩
theorem SeqAt.imply {α : Type} {c : Nat} {R S : World → Nat → List Value → α → Prop} {w : World} {lo : Nat} {k : Value} {xs : List α} (h : SeqAt c R w lo k xs) (hRS : ∀ cs x, R w lo cs x → S w lo cs x) : SeqAt c S w lo k xs := by
  obtain ⟨a, cap, hk, hm, hx⟩ := h
  refine ⟨a, cap, hk, hm, fun h0 => ?_⟩
  obtain ⟨b, off, ha, h1, h2, hc⟩ := hx h0
  refine ⟨b, off, ha, h1, h2, fun i hi => ?_⟩
  obtain ⟨cs, hl, lie, r⟩ := hc i hi
  exact ⟨cs, hl, lie, hRS _ _ r⟩
theorem MarkAt.more : ∀ (n : Nat) {w : World} {lo : Nat} (cs : List Value) (x : MarkD), MarkAt n w lo cs x → MarkAt (n + 1) w lo cs x := by
  intro n
  induction n with
  | zero => intro w lo cs x h; exact h.elim
  | succ n ih =>
    intro w lo cs x h
    obtain ⟨k2, k3, e, h2, h3, r⟩ := h
    exact ⟨k2, k3, e, h2, h3.imply ih, r⟩
/-- no list of it is longer than 2^20 -/
def MarkD.small : Nat → MarkD → Prop
  | 0, _ => True
  | n + 1, x => x.vTag.size ≤ 1048576 ∧ x.vText.size ≤ 1048576 ∧ AllS AttrD.small x.vAttrs ∧ AllS (MarkD.small n) x.vKids ∧ True
end Go.Proofs.YtlcddndpfhdakaaDoor
