/- A value of a tree's type that is read lies in memory as a tree. -/
import Derived.Test.YtfncmndgdomjiaaTreeO
import Derived.Test.YtfncmndgdomjiaaRows
namespace Go.Proofs.Ytfncmndgdomjiaa
open Go.RowKit Go.ChangeShapes
theorem seqAt_of_trod_at {α : Type} {H : Type} {enc : TypeId × Value → H} {P : Program} {w : World} {spare : Nat → Bool} {held : Bool} {T S : TypeId} {c n : Nat} {R : World → Nat → List Value → α → Prop} (hS : P.underlying S = some (.slice T)) (cT : P.cellsOf T = c)
    (hc0 : 0 < c) (hR : ∀ (m : Nat) (cs : List Value) (y : DataW H × List MemPlace), m + 1 = n → DataW.trod enc P w 0 spare held m T cs = some y → ∃ x, R w 0 cs x) {cs : List Value} {y : DataW H × List MemPlace}
    (h : DataW.trod enc P w 0 spare held n S cs = some y) : ∃ k xs, cs = [k] ∧ SeqAt c R w 0 k xs := by
  rcases DataW.trod_slice hS h with ⟨rfl, rfl⟩ | ⟨a, len, cap, elems, rest, m, rfl, rfl, rfl, _, hl, hm, hlen, hel, _, _⟩
  · exact ⟨_, [], rfl, none, 0, rfl, ⟨Nat.zero_le _, Nat.zero_le _⟩, fun h0 => absurd h0 (by simp)⟩
  · obtain ⟨xs, hxl, hxs⟩ := list_of (n := len) (p := fun i x => ∃ cs, w.cells? 0 (a.add (i * c)) c = some cs ∧ R w 0 cs x) (fun i hi => by
      have e := hel i hi
      rw [cT, List.getElem?_eq_getElem (by omega)] at e
      obtain ⟨cs', h1, h2⟩ := Option.bind_eq_some_iff.1 e
      obtain ⟨x, r⟩ := hR m cs' _ rfl h2
      exact ⟨x, cs', h1, r⟩)
    refine ⟨_, xs, rfl, some a, cap, by rw [hxl], by omega, fun h0 => ?_⟩
    obtain ⟨cs0, h1, _⟩ := hxs 0 h0
    have hcell0 : ∃ v, w.cell? a = some v := by
      obtain ⟨_, hl0, hc⟩ := World.cells?_some h1
      refine ⟨cs0[0]'(by omega), ?_⟩
      have := hc 0 (by omega)
      rw [List.getElem?_eq_getElem (by omega)] at this
      simpa [Addr.add] using this
    obtain ⟨v0, hv0⟩ := hcell0
    have ha := addr_of_cell hv0
    refine ⟨a.block, a.off, by rw [← ha.1], Nat.zero_le _, ha.2, fun i hi => ?_⟩
    obtain ⟨cs', h1, r⟩ := hxs i hi
    obtain ⟨_, hl1, hc⟩ := World.cells?_some h1
    refine ⟨cs', hl1, fun j hj => ?_, r⟩
    have := hc j (by omega)
    rw [← this]
    congr 1
    rw [ha.1, Go.Deep.add_add]
    unfold Addr.add
    by_cases e : i * c + j = 0
    · rw [if_pos e]
      obtain ⟨e1, e2⟩ : i * c = 0 ∧ j = 0 := by omega
      simp [e1, e2]
    · rw [if_neg e]; simp
set_option maxRecDepth 100000 in
theorem TreeL_of_trod {H : Type} {enc : TypeId × Value → H} {w : World} {spare : Nat → Bool} {held : Bool} : ∀ (n : Nat) (cs : List Value) (y : DataW H × List MemPlace) (_ : DataW.trod enc Try.prog w 0 spare held n 24 cs = some y), ∃ x, TreeL n w 0 cs x := by
  intro n
  induction n using Nat.strongRecOn with
  | ind n ih =>
    intro cs y h
    obtain ⟨xs, m, rfl, rfl, hl, hlen, hf⟩ := DataW.trod_struct Try.underlying24 h
    have hl' : cs.length = 2 := hl.trans (by kernel_rfl)
    have hlen' : xs.length = 2 := hlen
    match cs, hl', xs, hlen' with
    | [c0, c1], _, [y0, y1], _ =>
      have g0 : DataW.trod enc Try.prog w 0 spare held m 9 [c0] = some y0 := hf 0 _ rfl
      obtain ⟨x0, e0, _, w0⟩ := DataW.trod_string Try.underlying9 g0
      injection e0 with e0 _
      subst e0
      have g1 : DataW.trod enc Try.prog w 0 spare held m 22 [c1] = some y1 := hf 1 _ rfl
      obtain ⟨k1, x1, e1, s1⟩ : ∃ k xs, [c1] = [k] ∧ SeqAt 2 (TreeL m) w 0 k xs := by
        rcases m with _ | m
        · simp [DataW.trod] at g1
        · exact seqAt_of_trod_at Try.underlying22 (show Try.prog.cellsOf 24 = 2 from by kernel_rfl) (by decide) (fun j cs y hj hy => by
            obtain ⟨x, r⟩ := ih j (by omega) cs y hy
            exact ⟨x, by rw [← hj]; exact TreeL.more _ _ _ r⟩) g1
      injection e1 with e1 _
      subst e1
      exact ⟨mkT x0 x1, c1, rfl, s1, w0, trivial⟩
end Go.Proofs.Ytfncmndgdomjiaa
