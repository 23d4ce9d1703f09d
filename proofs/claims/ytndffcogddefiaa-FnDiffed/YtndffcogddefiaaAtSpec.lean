/- What l1In and l9At of the specification return. -/
import Derived.Test.YtndffcogddefiaaPathsPlain
import Derived.Test.YtndffcogddefiaaTakeLit
import Derived.Test.YtndffcogddefiaaRows
import Derived.Deep.QuietTactic
import Derived.BigQuiet
import Derived.WalkKit
namespace Go.Proofs.Ytndffcogddefiaa
open Go.RowKit
theorem ret_b {a b : Bool} (h : a = b) : Ending.returned (.bool a) = .returned (.bool b) := by rw [h]
theorem l1In_any (n low high : Int) (w : World) :
    Calls Try.prog 53 #[.int .i64 n, .int .i64 low, .int .i64 high] w fun e w' => e = .returned (.bool (decide (low ≤ n) && decide (n ≤ high))) ∧ w' = w := by
  by_cases h1 : low ≤ n
  · by_cases h2 : n ≤ high
    · go_enter Try.func53, Try.ntmps53
      go_wp2_with fail
      go_ret
      exact ⟨ret_b (by simp [h1, h2]), rfl⟩
    · go_enter Try.func53, Try.ntmps53
      go_wp2_with fail
      go_ret
      exact ⟨ret_b (by simp [h2]), rfl⟩
  · go_enter Try.func53, Try.ntmps53
    go_wp2_with fail
    go_ret
    exact ⟨ret_b (by rw [decide_eq_false (by omega)]; rfl), rfl⟩
theorem below_drewN {B : Nat} {a w : World} (h : Below B a w) (q : Nat) : Below B a (w.drewN q) := ⟨h.os, h.tape, h.output, h.size, h.block⟩
/-- what l9At tells: the tree at a path, its rows as they were, or nothing -/
def AtRes {H : Type} (w : World) (lo n0 : Nat) (d : DataW H) (path : List Int) (e : Ending) : Prop :=
  (okP d path = true ∧ ∃ (n : Nat) (a : Option Addr) (cap : Nat), e = .returned (.tuple #[.agg #[.string (strT (endP d path)), .slice a (kidsOf (endP d path)).length cap], .bool true]) ∧ TreeAt w lo n (.string (strT (endP d path))) (.slice a (kidsOf (endP d path)).length cap) (endP d path) ∧ n ≤ n0) ∨
  (okP d path = false ∧ e = .returned (.tuple #[.agg #[.string ⟨#[]⟩, .slice none 0 0], .bool false]))
set_option maxHeartbeats 2000000 in
theorem l9At_any {H : Type} {n : Nat} {w : World} {lo lo2 : Nat} {t k kp : Value} {d : DataW H} {path : List Int} (ht : TreeAt w lo n t k d) (hp : SeqAt 1 IntAt w lo2 kp path) :
    Calls Try.prog 38 #[.agg #[t, k], kp] w fun e w' => AtRes w lo n d path e ∧ Below w.heap.size w w' := by
  obtain ⟨rfl, _⟩ := ht.tag
  obtain ⟨_, a0, cap0, rfl⟩ := ht.form
  have ht0 : Hid (TreeAt w lo n _ _ d) := ht
  obtain ⟨ap, capp, rfl, hm, hx⟩ := hp
  unfold maxLen at hm
  have hx' : Hid (0 < path.length → ∃ b off, ap = some ⟨b, off, none⟩ ∧ lo2 ≤ b ∧ b < w.heap.size ∧ ∀ i, (h : i < path.length) → ∃ cs, cs.length = 1 ∧ Lie w b (off + i * 1) cs ∧ IntAt w lo2 cs path[i]) := hx
  clear hx ht
  have hb0 : Hid (Below w.heap.size w ((w.alloc (.cells #[.string (strT d), .slice a0 (kidsOf d).length cap0] 26)).alloc (.cells #[.string ⟨#[]⟩, .slice none 0 0] 26))) := ((Below.refl _ _).alloc (Nat.le_refl _) _).alloc (by simp) _
  have bx0 : Hid (Box ((w.alloc (.cells #[.string (strT d), .slice a0 (kidsOf d).length cap0] 26)).alloc (.cells #[.string ⟨#[]⟩, .slice none 0 0] 26)) w.heap.size [.string (strT d), .slice a0 (kidsOf d).length cap0] 26) := (Box.new w _ _).alloc _
  have br0 : Hid (Box ((w.alloc (.cells #[.string (strT d), .slice a0 (kidsOf d).length cap0] 26)).alloc (.cells #[.string ⟨#[]⟩, .slice none 0 0] 26)) (w.heap.size + 1) [.string ⟨#[]⟩, .slice none 0 0] 26) := by
    have := Box.new (w.alloc (.cells #[.string (strT d), .slice a0 (kidsOf d).length cap0] 26)) [.string ⟨#[]⟩, .slice none 0 0] 26
    simpa [Hid] using this
  go_enter Try.func38, Try.ntmps38
  go_wp2_with fail
  go_loopw [6] (fun i wr => ∃ (j m : Nat) (aj : Option Addr) (cj : Nat) (D : DataW H), j ≤ path.length ∧ m ≤ n ∧ i = .int .i64 j ∧ Hid (Below w.heap.size w wr) ∧ Hid (okP d (path.take j) = true) ∧ Hid (D = endP d (path.take j)) ∧
      Hid (Box wr w.heap.size [.string (strT D), .slice aj (kidsOf D).length cj] 26) ∧ Hid (Box wr (w.heap.size + 1) [.string ⟨#[]⟩, .slice none 0 0] 26) ∧ Hid (TreeAt w lo m (.string (strT D)) (.slice aj (kidsOf D).length cj) D)) (fun i _ => path.length - (intOf i).toNat)
  case atStart => exact ⟨0, n, a0, cap0, d, by omega, Nat.le_refl _, rfl, hb0, rfl, rfl, bx0, br0, ht0⟩
  case round =>
    obtain ⟨j, m, aj, cj, D, hj, hmn, rfl, hb, hok, hD, bx, br, htj⟩ := hrel
    have c0 := bx.out.cell 0 rfl
    have c1 := bx.out.cell 1 rfl
    have fx := bx.out.unfrozen
    have r0 := br.out.cell 0 rfl
    have r1 := br.out.cell 1 rfl
    have fr := br.out.unfrozen
    by_cases hlt : j < path.length
    · obtain ⟨b, off, rfl, hlo, hbb, hc⟩ := hx'.out (by omega)
      obtain ⟨cs, hcl, lie, hr⟩ := hc j hlt
      have lie1 := Lie.keep (lo := lo2) (lo' := lo2) lie (.of_below hb.out) hlo hbb
      have HO := okP_step (d := d) hlt
      rw [hok.out, Bool.true_and, ← hD.out] at HO
      have HE := endP_step (d := d) hlt
      rw [← hD.out] at HE
      obtain ⟨rfl, hI⟩ := hr
      generalize path[j] = P at HO HE lie1 hI
      have HO' : Hid (okP d (path.take (j + 1)) = inB D P) := HO
      have HE' : Hid (endP d (path.take (j + 1)) = kidP D P) := HE
      have z0 := lie1 0 (by simp)
      simp only [List.getElem?_cons_zero, Nat.add_zero, Nat.mul_one] at z0
      have hlt' : (j : Int) < (path.length : Int) := by omega
      have hj0 : (0 : Int) ≤ (j : Int) := by omega
      have hml : ((kidsOf D).length : Int) ≤ 9223372036854775807 := by have := htj.out.many; unfold maxLen at this; omega
      have hwr : IntKind.i64.wrap (((kidsOf D).length : Int) - 1) = ((kidsOf D).length : Int) - 1 := by rw [IntKind.wrap_i64]; omega
      obtain ⟨hI1, hI2⟩ := hI
      clear lie lie1 hcl hc hx' HO HE
      have hcall : ∀ (w : World) (v : Bool), (decide (0 ≤ P) && decide (P ≤ ((kidsOf D).length : Int) - 1)) = v → Calls Try.prog 53 #[.int .i64 P, .int .i64 0, .int .i64 (((kidsOf D).length : Int) - 1)] w fun e w' => e = .returned (.bool v) ∧ w' = w := fun w v hv => by
        rw [← hv]; exact l1In_any _ _ _ _
      have hcall' : Hid (∀ (w : World) (v : Bool), (decide (0 ≤ P) && decide (P ≤ ((kidsOf D).length : Int) - 1)) = v → Calls Try.prog 53 #[.int .i64 P, .int .i64 0, .int .i64 (((kidsOf D).length : Int) - 1)] w fun e w' => e = .returned (.bool v) ∧ w' = w) := hcall
      clear hcall
      by_cases hin : 0 ≤ P ∧ P < ((kidsOf D).length : Int)
      · obtain ⟨p0, p1⟩ := hin
        have hyes : Hid ((decide (0 ≤ P) && decide (P ≤ ((kidsOf D).length : Int) - 1)) = true) := by show _ = _; simp; omega
        have HI : Hid (inB D P = true) := inB_yes p0 p1
        obtain ⟨q, rfl⟩ := Int.eq_ofNat_of_zero_le p0
        obtain ⟨bk, ok, t', k', rfl, hbk, k0, k1, htk⟩ := htj.out.kid (p := q) (by omega)
        have k0' : wr.cell? ⟨bk, ok + q * 2, none⟩ = some t' := (hb.out.cell (p := ⟨bk, ok + q * 2, none⟩) hbk).trans k0
        have k1' : wr.cell? ⟨bk, ok + q * 2 + 1, none⟩ = some k' := (hb.out.cell (p := ⟨bk, ok + q * 2 + 1, none⟩) hbk).trans k1
        obtain ⟨rfl, _⟩ := htk.tag
        obtain ⟨_, a2, cap2, rfl⟩ := htk.form
        have htk' : Hid (TreeAt w lo (m - 1) _ _ (nth (kidsOf D) q)) := htk
        clear k0 k1 htk
        go_wp2_with fail
        go_quiet (first | (go_at_call 53; refine Calls.quiet_of_same (hcall'.out _ _ hyes.out)))
        go_wp2_with fail
        go_region
        go_wp2_with fail
        go_roundw
        case rel =>
          refine ⟨j + 1, m - 1, a2, cap2, nth (kidsOf D) q, by omega, by omega, by go_num, ?_, ?_, ?_, ?_, ?_, htk'⟩
          · exact ((below_drewN hb.out _).setCell (by exact Nat.le_refl _) _).setCell (by exact Nat.le_refl _) _
          · show _ = _; rw [HO'.out]; exact HI.out
          · show _ = _; rw [HE'.out]; rfl
          · exact ((bx.out.set (i := 0) _).set (i := 1) _)
          · exact ((br.out.other (by omega) _).other (by omega) _)
        case measure => simp [intOf]; omega
      · have hno : Hid ((decide (0 ≤ P) && decide (P ≤ ((kidsOf D).length : Int) - 1)) = false) := by
          show _ = _
          by_cases h0 : 0 ≤ P
          · rw [decide_eq_false (p := P ≤ ((kidsOf D).length : Int) - 1) (by omega)]; simp
          · rw [decide_eq_false h0]; rfl
        have HI : Hid (inB D P = false) := by
          by_cases h0 : 0 ≤ P
          · exact inB_high (by omega)
          · exact inB_low h0
        clear hin
        go_wp2_with fail
        go_quiet (first | (go_at_call 53; refine Calls.quiet_of_same (hcall'.out _ _ hno.out)))
        go_wp2_with fail
        refine bodyPost_ret (v := .tuple #[.agg #[.string ⟨#[]⟩, .slice none 0 0], .bool false]) (by simp [results, Try.results38, go_sem, r0, r1]) rfl ⟨Or.inr ⟨okP_take_false (j + 1) (by rw [HO'.out]; exact HI.out), rfl⟩, ?_⟩
        exact ((below_drewN hb.out _).setCell (by show w.heap.size ≤ w.heap.size + 1; omega) _).setCell (by show w.heap.size ≤ w.heap.size + 1; omega) _
    · have hfull : Hid (path.take j = path) := List.take_of_length_le (by omega)
      go_wp2_with fail
      refine bodyPost_ret (v := .tuple #[.agg #[.string (strT D), .slice aj (kidsOf D).length cj], .bool true]) (by simp [results, Try.results38, go_sem, r0, r1]) rfl ⟨Or.inl ⟨by rw [← hfull.out]; exact hok.out, m, aj, cj, ?_, ?_, hmn⟩, ?_⟩
      · have := hD.out; rw [hfull.out] at this; rw [← this]
      · have := hD.out; rw [hfull.out] at this; rw [← this]; exact htj.out
      · exact ((hb.out.setCell (by show w.heap.size ≤ w.heap.size + 1; omega) _).setCell (by show w.heap.size ≤ w.heap.size + 1; omega) _)
end Go.Proofs.Ytndffcogddefiaa
