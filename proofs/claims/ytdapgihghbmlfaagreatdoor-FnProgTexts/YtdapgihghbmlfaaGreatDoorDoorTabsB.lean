/- What the row's list gives: the table of forms, the powers of ten and the two errors lie as the program's text lays them. -/
import Derived.Test.YtdapgihghbmlfaaGreatDoorDoorTabs
import Derived.Test.YtdapgihghbmlfaaGreatDoorRpForm
import Derived.Stop.LaidErr
namespace Go.Proofs.YtdapgihghbmlfaaGreatDoor
open Go.ChangeShapes Go.WideShapes Go.ChangeAt Go.RowKit
theorem gErrS : Tryz.prog.globalNamed "strconv.ErrSyntax" = some 5 := by kernel_rfl
theorem gErrR : Tryz.prog.globalNamed "strconv.ErrRange" = some 6 := by kernel_rfl
theorem tErrS : (Tryz.prog.globals[5]?).map (·.type) = some 65 := by kernel_rfl
theorem tErrR : (Tryz.prog.globals[6]?).map (·.type) = some 65 := by kernel_rfl
theorem errStar : "*" ++ "errors.errorString" = "*errors.errorString" := by decide
theorem errRow (u : TypeId) (h : Tryz.prog.typeName? 3 u = some "*errors.errorString") : u = 137 :=
  typeName_ptr_named (nm := "errors.errorString") (by rw [errStar]; kernel_rfl) (by kernel_rfl) (by decide) u (by rw [errStar]; exact h)
theorem errAt_of {W : World} {n : String} {g : Nat} {te : TypeId} {pe : Value} (hg : Tryz.prog.globalNamed n = some g) (hv : W.var? Tryz.prog n = some #[.iface te pe]) : ErrAt W g := ⟨te, pe, by simpa using World.var?_cell hg hv 0⟩
theorem tb_of {W : World} (h : laidMetH Tryz.prog [("math/bits.deBruijn32tab", Rows.laid_math_bits_deBruijn32tab), ("math/bits.deBruijn64tab", Rows.laid_math_bits_deBruijn64tab), ("internal/strconv.uint64pow10", Rows.laid_internal_strconv_uint64pow10), ("strconv.ErrRange", Rows.laid_strconv_ErrRange), ("strconv.ErrSyntax", Rows.laid_strconv_ErrSyntax), ("loop.example/g00376/impl.forms", Rows.laid_loop_example_g00376_impl_forms)] W) : Tb W := by
  rw [MakeChecks.laidMetH_plain _ _ _ (by kernel_rfl)] at h
  have hE := h.tail.tail.tail
  obtain ⟨a1, s1, hr, _⟩ := laid_sentinel hE gErrR tErrR Tryz.underlying65 errRow Tryz.underlying137 Tryz.underlying139 rfl rfl Tryz.underlying9 (by kernel_rfl) (by kernel_rfl)
  obtain ⟨a2, s2, hs, _⟩ := laid_sentinel hE.tail gErrS tErrS Tryz.underlying65 errRow Tryz.underlying137 Tryz.underlying139 rfl rfl Tryz.underlying9 (by kernel_rfl) (by kernel_rfl)
  obtain ⟨ps, ⟨g0, t0, cs0, f0, p0, q0, hg0, ht0, hv0, hd0, ⟨g1, t1, cs1, f1, p1, q1, hg1, ht1, hv1, hd1, ⟨g2, t2, cs2, f2, p2, q2, hg2, ht2, hv2, hd2, ⟨g3, t3, cs3, f3, p3, q3, hg3, ht3, hv3, hd3, ⟨g4, t4, cs4, f4, p4, q4, hg4, ht4, hv4, hd4, ⟨g5, t5, cs5, f5, p5, q5, hg5, ht5, hv5, hd5, _, _⟩, _⟩, _⟩, _⟩, _⟩, _⟩, _, _⟩ := h
  obtain rfl := Option.some.inj (gTab.symm.trans hg5)
  obtain rfl := Option.some.inj (tTab.symm.trans ht5)
  obtain rfl := Option.some.inj (gPows.symm.trans hg2)
  obtain rfl := Option.some.inj (tPows.symm.trans ht2)
  exact ⟨forms_at hv5 hd5, pows_at hv2 hd2, errAt_of gErrS hs, errAt_of gErrR hr⟩
end Go.Proofs.YtdapgihghbmlfaaGreatDoor
