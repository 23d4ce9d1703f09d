/- What the row's list gives: the table of forms lies as the program's text lays it. -/
import Derived.Test.YtdapgihghbmlfaaGreatDoorVmForms
import Derived.Test.YtdapgihghbmlfaaGreatDoorCards
import Derived.Test.YtdapgihghbmlfaaGreatDoorTie
import Derived.ProofKit
import Derived.OpenShut
import Derived.ShutString
import Derived.OpenVars
import Derived.ChangeVars
import Derived.Deep.DeepHandedRow
namespace Go.Proofs.YtdapgihghbmlfaaGreatDoor
open Go.ChangeShapes Go.WideShapes Go.ChangeAt Go.RowKit
theorem d_own : ownKnob Tryz.prog.godebug = none := by kernel_rfl
theorem d_laidOut : laidOutB Tryz.prog = true := by kernel_rfl
theorem gTab : Tryz.prog.globalNamed "loop.example/g00376/impl.forms" = some 0 := by kernel_rfl
theorem tTab : (Tryz.prog.globals[0]?).map (·.type) = some 86 := by kernel_rfl
theorem cForm : Tryz.prog.cellsOf 56 = 5 := by kernel_rfl
theorem cTab : Tryz.prog.cellsOf 86 = 75 := by kernel_rfl
theorem cI : Tryz.prog.cellsOf 2 = 1 := by kernel_rfl
theorem cO : Tryz.prog.cellsOf 54 = 1 := by kernel_rfl
theorem cS : Tryz.prog.cellsOf 9 = 1 := by kernel_rfl
set_option maxRecDepth 100000 in
/-- a form that reads so lies so -/
theorem form_cells {H : Type} {enc : TypeId × Value → H} {w : World} {base : Nat} {sp : Nat → Bool} {held : Bool} {m : Nat} {cs : List Value} {y : DataW H × List MemPlace} {n o t g : Int} {l : List UInt8}
    (h : DataW.trod enc Tryz.prog w base sp held m 56 cs = some y) (hy : y.1 = .agg [.lit (.int .i64 n), .lit (.string l), .lit (.int .i64 o), .lit (.int .i64 t), .lit (.int .i64 g)]) : cs = [.int .i64 n, .string ⟨l.toArray⟩, .int .i64 o, .int .i64 t, .int .i64 g] := by
  obtain ⟨xs, m', _, rfl, hl, hlen, hf⟩ := DataW.trod_struct Tryz.underlying56 h
  clear h
  match xs, hlen with
  | [y0, y1, y2, y3, y4], _ =>
    have g0 : DataW.trod enc Tryz.prog w base sp held m' 2 ((cs.drop 0).take (Tryz.prog.cellsOf 2)) = some y0 := hf 0 _ rfl
    have g1 : DataW.trod enc Tryz.prog w base sp held m' 9 ((cs.drop 1).take (Tryz.prog.cellsOf 9)) = some y1 := hf 1 _ rfl
    have g2 : DataW.trod enc Tryz.prog w base sp held m' 54 ((cs.drop 2).take (Tryz.prog.cellsOf 54)) = some y2 := hf 2 _ rfl
    have g3 : DataW.trod enc Tryz.prog w base sp held m' 2 ((cs.drop 3).take (Tryz.prog.cellsOf 2)) = some y3 := hf 3 _ rfl
    have g4 : DataW.trod enc Tryz.prog w base sp held m' 2 ((cs.drop 4).take (Tryz.prog.cellsOf 2)) = some y4 := hf 4 _ rfl
    rw [cForm] at hl
    rw [cI] at g0 g3 g4
    rw [cS] at g1
    rw [cO] at g2
    clear hf
    match cs, hl with
    | [a0, a1, a2, a3, a4], _ =>
      simp only [List.drop_zero, List.drop_succ_cons, List.take_succ_cons, List.take_zero] at g0 g1 g2 g3 g4
      obtain ⟨k0, e0, f0, _⟩ := DataW.trod_int Tryz.underlying2 g0
      obtain ⟨s, e1, f1, _⟩ := DataW.trod_string Tryz.underlying9 g1
      obtain ⟨k2, e2, f2, _⟩ := DataW.trod_int Tryz.underlying54 g2
      obtain ⟨k3, e3, f3, _⟩ := DataW.trod_int Tryz.underlying2 g3
      obtain ⟨k4, e4, f4, _⟩ := DataW.trod_int Tryz.underlying2 g4
      subst f0 f1 f2 f3 f4
      simp at e0 e1 e2 e3 e4 hy
      obtain ⟨rfl, rfl, rfl, rfl, rfl⟩ := hy
      subst e0 e1 e2 e3 e4
      rfl
/-- cells of a row, five by five -/
theorem five {l : List Value} {n : Nat} (h : l.length = n * 5 + 5) : ∃ a b c d e r, l = a :: b :: c :: d :: e :: r ∧ r.length = n * 5 := by
  match l, h with
  | a :: b :: c :: d :: e :: r, h => exact ⟨a, b, c, d, e, r, rfl, by simp at h; omega⟩
theorem split5 (l : List Value) (i : Nat) : l.drop (i * 5) = (l.drop (i * 5)).take 5 ++ l.drop ((i + 1) * 5) := by
  have h := (List.take_append_drop 5 (l.drop (i * 5))).symm
  rw [List.drop_drop, show i * 5 + 5 = (i + 1) * 5 by omega] at h
  exact h
theorem tab_parts {l : List Value} (h : l.length = 75) : l = (l.drop (0 * 5)).take 5 ++ ((l.drop (1 * 5)).take 5 ++ ((l.drop (2 * 5)).take 5 ++ ((l.drop (3 * 5)).take 5 ++ ((l.drop (4 * 5)).take 5 ++ ((l.drop (5 * 5)).take 5 ++ ((l.drop (6 * 5)).take 5 ++ ((l.drop (7 * 5)).take 5 ++ ((l.drop (8 * 5)).take 5 ++ ((l.drop (9 * 5)).take 5 ++ ((l.drop (10 * 5)).take 5 ++ ((l.drop (11 * 5)).take 5 ++ ((l.drop (12 * 5)).take 5 ++ ((l.drop (13 * 5)).take 5 ++ ((l.drop (14 * 5)).take 5)))))))))))))) := by
  have e : l.drop ((14 + 1) * 5) = [] := List.drop_eq_nil_of_le (by omega)
  have e14 : l.drop (14 * 5) = (l.drop (14 * 5)).take 5 := by
    have := split5 l 14
    rw [e, List.append_nil] at this
    exact this
  have e13 := (split5 l 13).trans (congrArg (fun q => (l.drop (13 * 5)).take 5 ++ q) e14)
  have e12 := (split5 l 12).trans (congrArg (fun q => (l.drop (12 * 5)).take 5 ++ q) e13)
  have e11 := (split5 l 11).trans (congrArg (fun q => (l.drop (11 * 5)).take 5 ++ q) e12)
  have e10 := (split5 l 10).trans (congrArg (fun q => (l.drop (10 * 5)).take 5 ++ q) e11)
  have e9 := (split5 l 9).trans (congrArg (fun q => (l.drop (9 * 5)).take 5 ++ q) e10)
  have e8 := (split5 l 8).trans (congrArg (fun q => (l.drop (8 * 5)).take 5 ++ q) e9)
  have e7 := (split5 l 7).trans (congrArg (fun q => (l.drop (7 * 5)).take 5 ++ q) e8)
  have e6 := (split5 l 6).trans (congrArg (fun q => (l.drop (6 * 5)).take 5 ++ q) e7)
  have e5 := (split5 l 5).trans (congrArg (fun q => (l.drop (5 * 5)).take 5 ++ q) e6)
  have e4 := (split5 l 4).trans (congrArg (fun q => (l.drop (4 * 5)).take 5 ++ q) e5)
  have e3 := (split5 l 3).trans (congrArg (fun q => (l.drop (3 * 5)).take 5 ++ q) e4)
  have e2 := (split5 l 2).trans (congrArg (fun q => (l.drop (2 * 5)).take 5 ++ q) e3)
  have e1 := (split5 l 1).trans (congrArg (fun q => (l.drop (1 * 5)).take 5 ++ q) e2)
  have e0 := (split5 l 0).trans (congrArg (fun q => (l.drop (0 * 5)).take 5 ++ q) e1)
  exact e0
theorem nth {H : Type} {xs : List (DataW H × List MemPlace)} {L : List (DataW H)} (h : xs.map (·.1) = L) (i : Nat) (hi : i < xs.length) {d : DataW H} (hd : L[i]? = some d) : (xs[i]).1 = d := by
  subst h
  rw [List.getElem?_map, List.getElem?_eq_getElem hi] at hd
  exact Option.some.inj hd
def formsD {H : Type} : List (DataW H) := [.agg [.lit (.int .i64 1), .lit (.string [110, 117, 109]), .lit (.int .i64 1), .lit (.int .i64 0), .lit (.int .i64 1)], .agg [.lit (.int .i64 2), .lit (.string [110, 105, 108]), .lit (.int .i64 0), .lit (.int .i64 0), .lit (.int .i64 1)], .agg [.lit (.int .i64 3), .lit (.string [108, 111, 97, 100]), .lit (.int .i64 3), .lit (.int .i64 0), .lit (.int .i64 1)], .agg [.lit (.int .i64 4), .lit (.string [115, 116, 111, 114, 101]), .lit (.int .i64 3), .lit (.int .i64 1), .lit (.int .i64 0)], .agg [.lit (.int .i64 5), .lit (.string [103, 101, 116]), .lit (.int .i64 3), .lit (.int .i64 1), .lit (.int .i64 1)], .agg [.lit (.int .i64 6), .lit (.string [115, 101, 116]), .lit (.int .i64 3), .lit (.int .i64 2), .lit (.int .i64 0)], .agg [.lit (.int .i64 7), .lit (.string [110, 101, 119]), .lit (.int .i64 0), .lit (.int .i64 0), .lit (.int .i64 1)], .agg [.lit (.int .i64 8), .lit (.string [97, 100, 100]), .lit (.int .i64 0), .lit (.int .i64 2), .lit (.int .i64 1)], .agg [.lit (.int .i64 9), .lit (.string [108, 101, 115, 115]), .lit (.int .i64 0), .lit (.int .i64 2), .lit (.int .i64 1)], .agg [.lit (.int .i64 10), .lit (.string [106, 117, 109, 112]), .lit (.int .i64 2), .lit (.int .i64 0), .lit (.int .i64 0)], .agg [.lit (.int .i64 11), .lit (.string [117, 110, 108, 101, 115, 115]), .lit (.int .i64 2), .lit (.int .i64 1), .lit (.int .i64 0)], .agg [.lit (.int .i64 12), .lit (.string [100, 117, 112]), .lit (.int .i64 0), .lit (.int .i64 1), .lit (.int .i64 2)], .agg [.lit (.int .i64 13), .lit (.string [112, 111, 112]), .lit (.int .i64 0), .lit (.int .i64 1), .lit (.int .i64 0)], .agg [.lit (.int .i64 14), .lit (.string [116, 101, 108, 108]), .lit (.int .i64 0), .lit (.int .i64 1), .lit (.int .i64 0)], .agg [.lit (.int .i64 15), .lit (.string [104, 97, 108, 116]), .lit (.int .i64 0), .lit (.int .i64 0), .lit (.int .i64 0)]]
theorem forms_cells {H : Type} {enc : TypeId × Value → H} {w : World} {base : Nat} {sp : Nat → Bool} {held : Bool} {m : Nat} {cs : List Value} {y : DataW H × List MemPlace}
    (h : DataW.trod enc Tryz.prog w base sp held m 86 cs = some y) (hy : y.1 = Rows.laid_loop_example_g00376_impl_forms) : cs = tabL := by
  obtain ⟨xs, m1, _, rfl, hlen, hn, hel⟩ := DataW.trod_array Tryz.underlying86 h
  rw [cTab] at hlen
  have hL : xs.map (·.1) = formsD := by
    have : DataW.agg (xs.map (·.1)) = DataW.agg formsD := hy
    injection this
  clear hy h
  simp only [cForm] at hel
  have k0 := form_cells ((hel 0 (by decide)).trans (List.getElem?_eq_getElem (by rw [hn]; decide))) (nth hL 0 (by rw [hn]; decide) rfl)
  have k1 := form_cells ((hel 1 (by decide)).trans (List.getElem?_eq_getElem (by rw [hn]; decide))) (nth hL 1 (by rw [hn]; decide) rfl)
  have k2 := form_cells ((hel 2 (by decide)).trans (List.getElem?_eq_getElem (by rw [hn]; decide))) (nth hL 2 (by rw [hn]; decide) rfl)
  have k3 := form_cells ((hel 3 (by decide)).trans (List.getElem?_eq_getElem (by rw [hn]; decide))) (nth hL 3 (by rw [hn]; decide) rfl)
  have k4 := form_cells ((hel 4 (by decide)).trans (List.getElem?_eq_getElem (by rw [hn]; decide))) (nth hL 4 (by rw [hn]; decide) rfl)
  have k5 := form_cells ((hel 5 (by decide)).trans (List.getElem?_eq_getElem (by rw [hn]; decide))) (nth hL 5 (by rw [hn]; decide) rfl)
  have k6 := form_cells ((hel 6 (by decide)).trans (List.getElem?_eq_getElem (by rw [hn]; decide))) (nth hL 6 (by rw [hn]; decide) rfl)
  have k7 := form_cells ((hel 7 (by decide)).trans (List.getElem?_eq_getElem (by rw [hn]; decide))) (nth hL 7 (by rw [hn]; decide) rfl)
  have k8 := form_cells ((hel 8 (by decide)).trans (List.getElem?_eq_getElem (by rw [hn]; decide))) (nth hL 8 (by rw [hn]; decide) rfl)
  have k9 := form_cells ((hel 9 (by decide)).trans (List.getElem?_eq_getElem (by rw [hn]; decide))) (nth hL 9 (by rw [hn]; decide) rfl)
  have k10 := form_cells ((hel 10 (by decide)).trans (List.getElem?_eq_getElem (by rw [hn]; decide))) (nth hL 10 (by rw [hn]; decide) rfl)
  have k11 := form_cells ((hel 11 (by decide)).trans (List.getElem?_eq_getElem (by rw [hn]; decide))) (nth hL 11 (by rw [hn]; decide) rfl)
  have k12 := form_cells ((hel 12 (by decide)).trans (List.getElem?_eq_getElem (by rw [hn]; decide))) (nth hL 12 (by rw [hn]; decide) rfl)
  have k13 := form_cells ((hel 13 (by decide)).trans (List.getElem?_eq_getElem (by rw [hn]; decide))) (nth hL 13 (by rw [hn]; decide) rfl)
  have k14 := form_cells ((hel 14 (by decide)).trans (List.getElem?_eq_getElem (by rw [hn]; decide))) (nth hL 14 (by rw [hn]; decide) rfl)
  rw [tab_parts hlen, k0, k1, k2, k3, k4, k5, k6, k7, k8, k9, k10, k11, k12, k13, k14]
  show _ = _
  kernel_rfl
theorem forms_of {W : World} (h : laidMetH Tryz.prog [("loop.example/g00376/impl.forms", Rows.laid_loop_example_g00376_impl_forms)] W) : Forms W := by
  rw [MakeChecks.laidMetH_plain _ _ _ (by kernel_rfl)] at h
  obtain ⟨ps, ⟨g0, t0, cs0, f0, p0, q0, hg0, ht0, hv0, hd0, _, _⟩, _, _⟩ := h
  obtain rfl := Option.some.inj (gTab.symm.trans hg0)
  obtain rfl := Option.some.inj (tTab.symm.trans ht0)
  obtain ⟨l⟩ := cs0
  have e := forms_cells hd0 rfl
  subst e
  have hc := World.var?_cell hg0 hv0
  intro j v hv
  have := hc j
  simp only [Nat.zero_add]
  rw [this]
  simpa using hv
end Go.Proofs.YtdapgihghbmlfaaGreatDoor
