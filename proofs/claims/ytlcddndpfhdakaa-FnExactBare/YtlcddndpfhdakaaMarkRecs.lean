/- The records of this package as data, and that they lie in memory. -/
import Derived.Test.YtlcddndpfhdakaaSeq
import Derived.Test.YtlcddndpfhdakaaRows
namespace Go.Proofs.Ytlcddndpfhdakaa
open Go.RowKit Go.ChangeShapes
theorem seqAt_of_trod_at {α : Type} {H : Type} {enc : TypeId × Value → H} {P : Program} {w : World} {spare : Nat → Bool} {held : Bool} {T S : TypeId} {c n : Nat} {R : World → Nat → List Value → α → Prop} (hS : P.underlying S = some (.slice T)) (cT : P.cellsOf T = c)
    (hc0 : 0 < c) (hR : ∀ (m : Nat) (cs : List Value) (y : DataW H × List MemPlace), m + 1 = n → DataW.trod enc P w 0 spare held m T cs = some y → ∃ x, R w 0 cs x) {cs : List Value} {y : DataW H × List MemPlace}
    (h : DataW.trod enc P w 0 spare held n S cs = some y) : ∃ k xs, cs = [k] ∧ SeqAt c R w 0 k xs := by
  rcases DataW.trod_slice hS h with ⟨rfl, rfl⟩ | ⟨a, len, cap, elems, rest, m, rfl, rfl, rfl, _, hl, hm, hlen, hel, _, _⟩
  · exact ⟨_, [], rfl, none, 0, rfl, ⟨Nat.zero_le _, Nat.zero_le _⟩, fun h0 => absurd h0 (by simp)⟩
  · obtain ⟨xs, hxl, hxs⟩ := list_of (n := len) (p := fun i x => ∃ cs, w.cells? 0 (a.add (i * c)) c = some cs ∧ R w 0 cs x) (fun i hi => by
      have e := hel i hi
      rw [cT, List.getElem?_eq_getElem (by omega)] at e
      obtain ⟨cs', h1, h2⟩ := Option.bind_eq_some_iff.1 e
      obtain ⟨x, r⟩ := hR m cs' _ rfl h2
      exact ⟨x, cs', h1, r⟩)
    refine ⟨_, xs, rfl, some a, cap, by rw [hxl], by omega, fun h0 => ?_⟩
    obtain ⟨cs0, h1, _⟩ := hxs 0 h0
    have hcell0 : ∃ v, w.cell? a = some v := by
      obtain ⟨_, hl0, hc⟩ := World.cells?_some h1
      refine ⟨cs0[0]'(by omega), ?_⟩
      have := hc 0 (by omega)
      rw [List.getElem?_eq_getElem (by omega)] at this
      simpa [Addr.add] using this
    obtain ⟨v0, hv0⟩ := hcell0
    have ha := addr_of_cell hv0
    refine ⟨a.block, a.off, by rw [← ha.1], Nat.zero_le _, ha.2, fun i hi => ?_⟩
    obtain ⟨cs', h1, r⟩ := hxs i hi
    obtain ⟨_, hl1, hc⟩ := World.cells?_some h1
    refine ⟨cs', hl1, fun j hj => ?_, r⟩
    have := hc j (by omega)
    rw [← this]
    congr 1
    rw [ha.1, Go.Deep.add_add]
    unfold Addr.add
    by_cases e : i * c + j = 0
    · rw [if_pos e]
      obtain ⟨e1, e2⟩ : i * c = 0 ∧ j = 0 := by omega
      simp [e1, e2]
    · rw [if_neg e]; simp
structure AttrD where
  vName : ByteArray
  vValue : ByteArray
def AttrAt (_ : World) (_ : Nat) (cs : List Value) (x : AttrD) : Prop :=
  cs = [.string x.vName, .string x.vValue] ∧ x.vName.size ≤ maxLen ∧ x.vValue.size ≤ maxLen ∧ True
theorem AttrAt_stays : Stays AttrAt := fun _ _ _ _ _ _ _ h => h
def AttrD.small (x : AttrD) : Prop := x.vName.size ≤ 1048576 ∧ x.vValue.size ≤ 1048576 ∧ True
set_option maxRecDepth 100000 in
theorem AttrAt_of_trod {H : Type} {enc : TypeId × Value → H} {w : World} {spare : Nat → Bool} {held : Bool} (n : Nat) (cs : List Value) (y : DataW H × List MemPlace) (h : DataW.trod enc Try.prog w 0 spare held n 56 cs = some y) : ∃ x, AttrAt w 0 cs x := by
  obtain ⟨xs, m, rfl, rfl, hl, hlen, hf⟩ := DataW.trod_struct Try.underlying56 h
  have hl' : cs.length = 2 := hl.trans (by kernel_rfl)
  have hlen' : xs.length = 2 := hlen
  match cs, hl', xs, hlen' with
  | [c0, c1], _, [y0, y1], _ =>
    have g0 : DataW.trod enc Try.prog w 0 spare held m 9 [c0] = some y0 := hf 0 _ rfl
    obtain ⟨x0, e0, _, w0⟩ := DataW.trod_string Try.underlying9 g0
    injection e0 with e0 _
    subst e0
    have g1 : DataW.trod enc Try.prog w 0 spare held m 9 [c1] = some y1 := hf 1 _ rfl
    obtain ⟨x1, e1, _, w1⟩ := DataW.trod_string Try.underlying9 g1
    injection e1 with e1 _
    subst e1
    exact ⟨⟨x0, x1⟩, rfl, w0, w1, trivial⟩
/-- a mark as data: its tag, its text, its attributes, its kids -/
def MarkD : Type := DataW Unit
def attrW (x : AttrD) : DataW Unit := .agg [.lit (.string x.vName.data.toList), .lit (.string x.vValue.data.toList)]
def attrR : DataW Unit → AttrD
  | .agg [.lit (.string a), .lit (.string b)] => ⟨⟨a.toArray⟩, ⟨b.toArray⟩⟩
  | _ => ⟨⟨#[]⟩, ⟨#[]⟩⟩
theorem attrR_W (x : AttrD) : attrR (attrW x) = x := by
  obtain ⟨⟨a⟩, ⟨b⟩⟩ := x
  simp [attrR, attrW]
def MarkD.mk (s t : ByteArray) (l : List AttrD) (ks : List MarkD) : MarkD := (.agg [.lit (.string s.data.toList), .lit (.string t.data.toList), .slice (l.map attrW) [], .slice ks []] : DataW Unit)
def tagW : DataW Unit → ByteArray
  | .agg (.lit (.string s) :: _) => ⟨s.toArray⟩
  | _ => ⟨#[]⟩
def textW : DataW Unit → ByteArray
  | .agg (_ :: .lit (.string s) :: _) => ⟨s.toArray⟩
  | _ => ⟨#[]⟩
def attrsW : DataW Unit → List AttrD
  | .agg (_ :: _ :: .slice l _ :: _) => l.map attrR
  | _ => []
def kidsW : DataW Unit → List (DataW Unit)
  | .agg (_ :: _ :: _ :: .slice l _ :: _) => l
  | _ => []
def MarkD.vTag (x : MarkD) : ByteArray := tagW x
def MarkD.vText (x : MarkD) : ByteArray := textW x
def MarkD.vAttrs (x : MarkD) : List AttrD := attrsW x
def MarkD.vKids (x : MarkD) : List MarkD := kidsW x
theorem MarkD.mk_tag (s t : ByteArray) (l : List AttrD) (ks : List MarkD) : (MarkD.mk s t l ks).vTag = s := by cases s; rfl
theorem MarkD.mk_text (s t : ByteArray) (l : List AttrD) (ks : List MarkD) : (MarkD.mk s t l ks).vText = t := by cases t; rfl
theorem MarkD.mk_attrs (s t : ByteArray) (l : List AttrD) (ks : List MarkD) : (MarkD.mk s t l ks).vAttrs = l := by
  show (l.map attrW).map attrR = l
  rw [List.map_map]
  have : (attrR ∘ attrW) = id := by funext x; exact attrR_W x
  rw [this, List.map_id]
theorem MarkD.mk_kids (s t : ByteArray) (l : List AttrD) (ks : List MarkD) : (MarkD.mk s t l ks).vKids = ks := rfl
/-- a mark lies in memory; 'n' is more than its depth -/
def MarkAt : Nat → World → Nat → List Value → MarkD → Prop
  | 0, _, _, _, _ => False
  | n + 1, w, lo, cs, x => ∃ k2 k3 : Value, cs = [.string x.vTag, .string x.vText, k2, k3] ∧ SeqAt 2 AttrAt w lo k2 x.vAttrs ∧ SeqAt 4 (MarkAt n) w lo k3 x.vKids ∧ x.vTag.size ≤ maxLen ∧ x.vText.size ≤ maxLen ∧ True
theorem MarkAt.opened {n : Nat} {w : World} {lo : Nat} {cs : List Value} {x : MarkD} (h : MarkAt n w lo cs x) : ∃ k2 k3 : Value, cs = [.string x.vTag, .string x.vText, k2, k3] ∧ SeqAt 2 AttrAt w lo k2 x.vAttrs ∧ SeqAt 4 (MarkAt (n - 1)) w lo k3 x.vKids ∧ x.vTag.size ≤ maxLen ∧ x.vText.size ≤ maxLen ∧ True := by
  cases n with
  | zero => exact h.elim
  | succ n => exact h
theorem MarkAt_stays (n : Nat) : Stays (MarkAt n) := by
  induction n with
  | zero => intro w w' lo lo' cs x q h; exact h
  | succ n ih =>
    intro w w' lo lo' cs x q h
    obtain ⟨k2, k3, e, h2, h3, r⟩ := h
    exact ⟨k2, k3, e, h2.keep AttrAt_stays q, h3.keep ih q, r⟩
theorem SeqAt.imply {α : Type} {c : Nat} {R S : World → Nat → List Value → α → Prop} {w : World} {lo : Nat} {k : Value} {xs : List α} (h : SeqAt c R w lo k xs) (hRS : ∀ cs x, R w lo cs x → S w lo cs x) : SeqAt c S w lo k xs := by
  obtain ⟨a, cap, hk, hm, hx⟩ := h
  refine ⟨a, cap, hk, hm, fun h0 => ?_⟩
  obtain ⟨b, off, ha, h1, h2, hc⟩ := hx h0
  refine ⟨b, off, ha, h1, h2, fun i hi => ?_⟩
  obtain ⟨cs, hl, lie, r⟩ := hc i hi
  exact ⟨cs, hl, lie, hRS _ _ r⟩
theorem MarkAt.more : ∀ (n : Nat) {w : World} {lo : Nat} (cs : List Value) (x : MarkD), MarkAt n w lo cs x → MarkAt (n + 1) w lo cs x := by
  intro n
  induction n with
  | zero => intro w lo cs x h; exact h.elim
  | succ n ih =>
    intro w lo cs x h
    obtain ⟨k2, k3, e, h2, h3, r⟩ := h
    exact ⟨k2, k3, e, h2, h3.imply ih, r⟩
/-- no list of it is longer than 2^20 -/
def MarkD.small : Nat → MarkD → Prop
  | 0, _ => True
  | n + 1, x => x.vTag.size ≤ 1048576 ∧ x.vText.size ≤ 1048576 ∧ AllS AttrD.small x.vAttrs ∧ AllS (MarkD.small n) x.vKids ∧ True
set_option maxRecDepth 100000 in
theorem MarkAt_of_trod {H : Type} {enc : TypeId × Value → H} {w : World} {spare : Nat → Bool} {held : Bool} : ∀ (n : Nat) (cs : List Value) (y : DataW H × List MemPlace) (_ : DataW.trod enc Try.prog w 0 spare held n 25 cs = some y), ∃ x, MarkAt n w 0 cs x := by
  intro n
  induction n using Nat.strongRecOn with
  | ind n ih =>
    intro cs y h
    obtain ⟨xs, m, rfl, rfl, hl, hlen, hf⟩ := DataW.trod_struct Try.underlying25 h
    have hl' : cs.length = 4 := hl.trans (by kernel_rfl)
    have hlen' : xs.length = 4 := hlen
    match cs, hl', xs, hlen' with
    | [c0, c1, c2, c3], _, [y0, y1, y2, y3], _ =>
      have g0 : DataW.trod enc Try.prog w 0 spare held m 9 [c0] = some y0 := hf 0 _ rfl
      obtain ⟨x0, e0, _, w0⟩ := DataW.trod_string Try.underlying9 g0
      injection e0 with e0 _
      subst e0
      have g1 : DataW.trod enc Try.prog w 0 spare held m 9 [c1] = some y1 := hf 1 _ rfl
      obtain ⟨x1, e1, _, w1⟩ := DataW.trod_string Try.underlying9 g1
      injection e1 with e1 _
      subst e1
      have g2 : DataW.trod enc Try.prog w 0 spare held m 22 [c2] = some y2 := hf 2 _ rfl
      obtain ⟨k2, x2, e2, s2⟩ := seqAt_of_trod (R := AttrAt) Try.underlying22 (show Try.prog.cellsOf 56 = 2 from by kernel_rfl) (by decide) AttrAt_of_trod g2
      injection e2 with e2 _
      subst e2
      have g3 : DataW.trod enc Try.prog w 0 spare held m 23 [c3] = some y3 := hf 3 _ rfl
      obtain ⟨k3, x3, e3, s3⟩ : ∃ k xs, [c3] = [k] ∧ SeqAt 4 (MarkAt m) w 0 k xs := by
        rcases m with _ | m
        · simp [DataW.trod] at g3
        · exact seqAt_of_trod_at Try.underlying23 (show Try.prog.cellsOf 25 = 4 from by kernel_rfl) (by decide) (fun j cs y hj hy => by
            obtain ⟨x, r⟩ := ih j (by omega) cs y hy
            exact ⟨x, by rw [← hj]; exact MarkAt.more _ _ _ r⟩) g3
      injection e3 with e3 _
      subst e3
      exact ⟨MarkD.mk x0 x1 x2 x3, c2, c3, by rw [MarkD.mk_tag, MarkD.mk_text], by rw [MarkD.mk_attrs]; exact s2, by rw [MarkD.mk_kids]; exact s3, by rw [MarkD.mk_tag]; exact w0, by rw [MarkD.mk_text]; exact w1, trivial⟩
end Go.Proofs.Ytlcddndpfhdakaa
