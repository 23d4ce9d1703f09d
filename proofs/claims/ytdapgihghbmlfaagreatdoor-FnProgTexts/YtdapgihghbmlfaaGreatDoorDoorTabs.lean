/- What the row's list gives: the table of forms and the powers of ten lie as the program's text lays them. -/
import Derived.Test.YtdapgihghbmlfaaGreatDoorDoorTab
import Derived.Test.YtdapgihghbmlfaaGreatDoorVmTextW
import Derived.Lib.LaidTab
namespace Go.Proofs.YtdapgihghbmlfaaGreatDoor
open Go.ChangeShapes Go.WideShapes Go.ChangeAt Go.RowKit
def db32L : List Int := [0, 1, 28, 2, 29, 14, 24, 3, 30, 22, 20, 15, 25, 17, 4, 8, 31, 27, 13, 23, 21, 19, 16, 7, 26, 12, 18, 6, 11, 5, 10, 9]
def db64L : List Int := [0, 1, 56, 2, 57, 49, 28, 3, 61, 58, 42, 50, 38, 29, 17, 4, 62, 47, 59, 36, 45, 43, 51, 22, 53, 39, 33, 30, 24, 18, 12, 5, 63, 55, 48, 27, 60, 41, 37, 16, 46, 35, 44, 21, 52, 32, 23, 11, 54, 26, 40, 15, 34, 20, 31, 10, 25, 14, 19, 9, 13, 8, 7, 6]
/-- both tables lie as they are laid -/
def Tabs (w : World) : Prop := Forms w ∧ Pows w
theorem Tabs.below {w w' : World} {n : Nat} (h : Tabs w) (hb : Below n w w') (hn : w.heap.size ≤ n) : Tabs w' := ⟨h.1.below hb (Nat.lt_of_lt_of_le h.1.lt hn), h.2.below hb (Nat.lt_of_lt_of_le h.2.lt hn)⟩
theorem tPows : (Tryz.prog.globals[1]?).map (·.type) = some 119 := by kernel_rfl
theorem dPows {H : Type} : (Rows.laid_internal_strconv_uint64pow10 : DataW H) = Lib.tabData .u64 Lib.pow10Tab := by
  unfold Lib.tabData
  rw [show Lib.pow10Tab = [1, 10, 100, 1000, 10000, 100000, 1000000, 10000000, 100000000, 1000000000, 10000000000, 100000000000, 1000000000000, 10000000000000, 100000000000000, 1000000000000000, 10000000000000000, 100000000000000000, 1000000000000000000, 10000000000000000000] from by decide]
  rfl
theorem forms_at {W : World} {cs : Array Value} {m : Nat} {p : List MemPlace} (hv : W.var? Tryz.prog "loop.example/g00376/impl.forms" = some cs) (hd : DataW.trod (fun _ => ()) Tryz.prog W 0 (fun _ => true) false m 86 cs.toList = some (Rows.laid_loop_example_g00376_impl_forms, p)) : Forms W := by
  obtain ⟨l⟩ := cs
  have e := forms_cells hd rfl
  subst e
  have hc := World.var?_cell gTab hv
  intro j v hv
  have := hc j
  simp only [Nat.zero_add]
  rw [this]
  simpa using hv
theorem pows_at {W : World} {cs : Array Value} {m : Nat} {p : List MemPlace} (hv : W.var? Tryz.prog "internal/strconv.uint64pow10" = some cs) (hd : DataW.trod (fun _ => ()) Tryz.prog W 0 (fun _ => true) false m 119 cs.toList = some (Rows.laid_internal_strconv_uint64pow10, p)) : Pows W := by
  unfold Pows Lib.TabIs
  rw [hv]
  rw [dPows] at hd
  have e := Lib.cells_of_tab Tryz.underlying119 Tryz.underlying100 (by kernel_rfl) (by kernel_rfl) hd
  rw [← e]
theorem tabs_of {W : World} (h : laidMetH Tryz.prog [("math/bits.deBruijn32tab", Rows.laid_math_bits_deBruijn32tab), ("math/bits.deBruijn64tab", Rows.laid_math_bits_deBruijn64tab), ("internal/strconv.uint64pow10", Rows.laid_internal_strconv_uint64pow10), ("loop.example/g00376/impl.forms", Rows.laid_loop_example_g00376_impl_forms)] W) : Tabs W := by
  rw [MakeChecks.laidMetH_plain _ _ _ (by kernel_rfl)] at h
  obtain ⟨ps, ⟨g0, t0, cs0, f0, p0, q0, hg0, ht0, hv0, hd0, ⟨g1, t1, cs1, f1, p1, q1, hg1, ht1, hv1, hd1, ⟨g2, t2, cs2, f2, p2, q2, hg2, ht2, hv2, hd2, ⟨g3, t3, cs3, f3, p3, q3, hg3, ht3, hv3, hd3, _, _⟩, _⟩, _⟩, _⟩, _, _⟩ := h
  obtain rfl := Option.some.inj (gTab.symm.trans hg3)
  obtain rfl := Option.some.inj (tTab.symm.trans ht3)
  obtain rfl := Option.some.inj (gPows.symm.trans hg2)
  obtain rfl := Option.some.inj (tPows.symm.trans ht2)
  exact ⟨forms_at hv3 hd3, pows_at hv2 hd2⟩
end Go.Proofs.YtdapgihghbmlfaaGreatDoor
