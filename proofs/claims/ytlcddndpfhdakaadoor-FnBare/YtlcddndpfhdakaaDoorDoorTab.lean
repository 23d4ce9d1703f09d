/- What the row's list gives: the table of signs lies as the program's text lays it. -/
import Derived.Test.YtlcddndpfhdakaaDoorEscImpl
import Derived.Test.YtlcddndpfhdakaaDoorCards
import Derived.Test.YtlcddndpfhdakaaDoorTie
import Derived.ProofKit
import Derived.OpenShut
import Derived.ShutString
import Derived.OpenVars
import Derived.ChangeVars
import Derived.Deep.DeepHandedRow
namespace Go.Proofs.YtlcddndpfhdakaaDoor
open Go.ChangeShapes Go.WideShapes Go.ChangeAt Go.RowKit
theorem d_own : ownKnob Tryd.prog.godebug = none := by kernel_rfl
theorem d_laidOut : laidOutB Tryd.prog = true := by kernel_rfl
theorem gTab : Tryd.prog.globalNamed "loop.example/g00376/impl.signs" = some 0 := by kernel_rfl
theorem tTab : (Tryd.prog.globals[0]?).map (·.type) = some 96 := by kernel_rfl
theorem cSign : Tryd.prog.cellsOf 95 = 2 := by kernel_rfl
theorem cTab : Tryd.prog.cellsOf 96 = 8 := by kernel_rfl
theorem cB : Tryd.prog.cellsOf 5 = 1 := by kernel_rfl
theorem cS : Tryd.prog.cellsOf 9 = 1 := by kernel_rfl
/-- a sign that reads so lies so -/
theorem sign_cells {H : Type} {enc : TypeId × Value → H} {w : World} {base : Nat} {sp : Nat → Bool} {held : Bool} {m : Nat} {cs : List Value} {y : DataW H × List MemPlace} {n : Int} {l : List UInt8}
    (h : DataW.trod enc Tryd.prog w base sp held m 95 cs = some y) (hy : y.1 = .agg [.lit (.int .u8 n), .lit (.string l)]) : cs = [.int .u8 n, .string ⟨l.toArray⟩] := by
  obtain ⟨xs, m', _, rfl, hl, hlen, hf⟩ := DataW.trod_struct Tryd.underlying95 h
  match xs, hlen with
  | [y0, y1], _ =>
    have g0 : DataW.trod enc Tryd.prog w base sp held m' 5 ((cs.drop 0).take (Tryd.prog.cellsOf 5)) = some y0 := hf 0 _ rfl
    have g1 : DataW.trod enc Tryd.prog w base sp held m' 9 ((cs.drop 1).take (Tryd.prog.cellsOf 9)) = some y1 := hf 1 _ rfl
    rw [cSign] at hl
    rw [cB] at g0
    rw [cS] at g1
    match cs, hl with
    | [a, b], _ =>
      simp only [List.drop_zero, List.drop_succ_cons, List.take_succ_cons, List.take_zero] at g0 g1
      obtain ⟨k, e1, e2, _⟩ := DataW.trod_int Tryd.underlying5 g0
      obtain ⟨s, e3, e4, _⟩ := DataW.trod_string Tryd.underlying9 g1
      subst e2 e4
      simp at e1 e3 hy
      obtain ⟨rfl, rfl⟩ := hy
      subst e1 e3
      rfl
theorem signs_of {W : World} (h : laidMetH Tryd.prog [("loop.example/g00376/impl.signs", Rows.laid_loop_example_g00376_impl_signs)] W) : Signs W := by
  rw [MakeChecks.laidMetH_plain _ _ _ (by kernel_rfl)] at h
  obtain ⟨ps, ⟨g0, t0, cs0, f0, p0, q0, hg0, ht0, hv0, hd0, _, _⟩, _, _⟩ := h
  obtain rfl := Option.some.inj (gTab.symm.trans hg0)
  obtain rfl := Option.some.inj (tTab.symm.trans ht0)
  obtain ⟨xs, m1, _, hx1, hlen, hn, hel⟩ := DataW.trod_array Tryd.underlying96 hd0
  rw [cTab] at hlen
  obtain ⟨l⟩ := cs0
  match l, hlen, xs, hn with
  | [c0, c1, c2, c3, c4, c5, c6, c7], _, [y0, y1, y2, y3], _ =>
    have e0 := hel 0 (by decide)
    have e1 := hel 1 (by decide)
    have e2 := hel 2 (by decide)
    have e3 := hel 3 (by decide)
    simp only [cSign, Nat.zero_mul, Nat.one_mul, Nat.reduceMul, List.getElem?_cons_zero, List.getElem?_cons_succ, List.drop_zero, List.drop_succ_cons, List.take_succ_cons, List.take_zero] at e0 e1 e2 e3
    simp only [Rows.laid_loop_example_g00376_impl_signs, Prod.mk.injEq, DataW.agg.injEq, List.map_cons, List.map_nil, List.cons.injEq] at hx1
    obtain ⟨⟨h0, h1, h2, h3, _⟩, _⟩ := hx1
    have k0 := sign_cells e0 h0.symm
    have k1 := sign_cells e1 h1.symm
    have k2 := sign_cells e2 h2.symm
    have k3 := sign_cells e3 h3.symm
    simp only [List.cons.injEq, and_true] at k0 k1 k2 k3
    obtain ⟨rfl, rfl⟩ := k0
    obtain ⟨rfl, rfl⟩ := k1
    obtain ⟨rfl, rfl⟩ := k2
    obtain ⟨rfl, rfl⟩ := k3
    have hc := World.var?_cell hg0 hv0
    exact ⟨hc 0, hc 1, hc 2, hc 3, hc 4, hc 5, hc 6, hc 7⟩
end Go.Proofs.YtlcddndpfhdakaaDoor
