/- What hasKid and wayTo of the program return. -/
import Derived.Test.YtndffcogddefiaaPathsPlain
import Derived.Test.YtndffcogddefiaaOkWalks
import Derived.Test.YtndffcogddefiaaGrowAppB
import Derived.Test.YtndffcogddefiaaTakeLit
namespace Go.Proofs.Ytndffcogddefiaa
open Go.RowKit
theorem hasKid_any (t : Value) (a : Option Addr) (n cap : Nat) (P : Int) (w : World) :
    Calls Try.prog 55 #[.agg #[t, .slice a n cap], .int .i64 P] w fun e w' => e = .returned (.bool (decide (0 ≤ P) && decide (P < (n : Int)))) ∧ Below w.heap.size w w' := by
  have hb0 : Below w.heap.size w (w.alloc (.cells #[t, .slice a n cap] 26)) := (Below.refl _ _).alloc (Nat.le_refl _) _
  by_cases h1 : 0 ≤ P
  · by_cases h2 : P < (n : Int)
    · go_enter Try.func55, Try.ntmps55
      go_wp2_with fail
      go_ret
      exact ⟨ret_bool (by simp [h1, h2]), hb0⟩
    · go_enter Try.func55, Try.ntmps55
      go_wp2_with fail
      go_ret
      exact ⟨ret_bool (by rw [decide_eq_false (p := P < (n : Int)) (by omega)]), hb0⟩
  · go_enter Try.func55, Try.ntmps55
    go_wp2_with fail
    go_ret
    exact ⟨ret_bool (by rw [decide_eq_false (by omega)]; rfl), hb0⟩
/-- one on the way: its tag, its kids, in an elder world -/
def WayC {H : Type} (w : World) (lo n : Nat) (cs : List Value) (D : DataW H) : Prop :=
  ∃ (m : Nat) (a : Option Addr) (c : Nat), cs = [.string (strT D), .slice a (kidsOf D).length c] ∧ TreeAt w lo m (.string (strT D)) (.slice a (kidsOf D).length c) D ∧ m ≤ n
def WayO {H : Type} (w : World) (lo n : Nat) (_ : World) (cs : List Value) (D : DataW H) (fs : List Nat) : Prop := WayC w lo n cs D ∧ fs = []
def WayA {H : Type} (w : World) (lo n : Nat) (_ : World) (_ : Nat) (cs : List Value) (D : DataW H) : Prop := WayC w lo n cs D
theorem wayO_stays {H : Type} (w : World) (lo n : Nat) : OwnStays (WayO (H := H) w lo n) := fun _ _ _ _ _ _ h => h
theorem wayA_stays {H : Type} (w : World) (lo n : Nat) : Stays (WayA (H := H) w lo n) := fun _ _ _ _ _ _ _ h => h
/-- all on the way, as far as the j-th -/
def wayJ {H : Type} (d : DataW H) (path : List Int) (j : Nat) : List (DataW H) := (List.range (j + 1)).map fun i => endP d (path.take i)
theorem wayJ_succ {H : Type} (d : DataW H) (path : List Int) (j : Nat) : wayJ d path (j + 1) = wayJ d path j ++ [endP d (path.take (j + 1))] := by
  unfold wayJ
  rw [List.range_succ, List.map_append]; rfl
theorem wayJ_length {H : Type} (d : DataW H) (path : List Int) (j : Nat) : (wayJ d path j).length = j + 1 := by simp [wayJ]
theorem wayJ_get {H : Type} (d : DataW H) (path : List Int) (j i : Nat) (h : i < (wayJ d path j).length) : (wayJ d path j)[i] = endP d (path.take i) := by simp [wayJ]
theorem infoTree : ((Try.prog.info? 26).map fun i => (i.zero, i.size, i.bytes)) = some (some (.agg #[.string ByteArray.empty, .slice none 0 0]), 2, 40) := by kernel_rfl
theorem info_parts {P : Program} {T : TypeId} {z : Value} {s b : Nat} (h : ((P.info? T).map fun i => (i.zero, i.size, i.bytes)) = some (some z, s, b)) : ∃ i, P.info? T = some i ∧ i.zero = some z ∧ i.size = s ∧ i.bytes = b := by
  obtain ⟨i, hi, he⟩ := Option.map_eq_some_iff.1 h
  simp only [Prod.mk.injEq] at he
  exact ⟨i, hi, he.1, he.2.1, he.2.2⟩
/-- what wayTo tells -/
def WayRes {H : Type} (w w' : World) (lo n : Nat) (ok : Bool) (d : DataW H) (path : List Int) (e : Ending) : Prop :=
  (ok = true ∧ okP d path = true ∧ ∃ kw, e = .returned (.tuple #[kw, .bool true]) ∧ SeqAt 2 (WayA w lo n) w' w.heap.size kw (wayJ d path path.length)) ∨
  ((ok && okP d path) = false ∧ e = .returned (.tuple #[.slice none 0 0, .bool false]))
set_option maxHeartbeats 4000000 in
theorem wayTo_any {H : Type} {n : Nat} {w : World} {lo lo2 : Nat} {t k kp : Value} {d : DataW H} {path : List Int} (ht : TreeAt w lo n t k d) (hp : SeqAt 1 IntAt w lo2 kp path) (hpl : path.length ≤ 1048576) :
    Calls Try.prog 35 #[.agg #[t, k], kp] w fun e w' => WayRes w w' lo n (okB (szD n d 30)) d path e ∧ Below w.heap.size w w' := by
  obtain ⟨rfl, _⟩ := ht.tag
  obtain ⟨_, a0, cap0, rfl⟩ := ht.form
  have ht0 : Hid (TreeAt w lo n _ _ d) := ht
  obtain ⟨ap, capp, rfl, hm, hx⟩ := hp
  unfold maxLen at hm
  have hx' : Hid (0 < path.length → ∃ b off, ap = some ⟨b, off, none⟩ ∧ lo2 ≤ b ∧ b < w.heap.size ∧ ∀ i, (h : i < path.length) → ∃ cs, cs.length = 1 ∧ Lie w b (off + i * 1) cs ∧ IntAt w lo2 cs path[i]) := hx
  clear hx ht
  obtain ⟨iT, hiT0, heT0, heT1, heT2⟩ := info_parts infoTree
  have hiT : Hid (Try.prog.info? 26 = some iT) := hiT0
  have heT : Hid (iT.zero = some (.agg #[.string ByteArray.empty, .slice none 0 0]) ∧ iT.size = 2 ∧ iT.bytes = 40) := ⟨heT0, heT1, heT2⟩
  clear hiT0 heT0 heT1 heT2
  have hb0 : Hid (Below w.heap.size w (w.alloc (.cells #[.string (strT d), .slice a0 (kidsOf d).length cap0] 26))) := (Below.refl _ _).alloc (Nat.le_refl _) _
  have bx0 : Hid (Box (w.alloc (.cells #[.string (strT d), .slice a0 (kidsOf d).length cap0] 26)) w.heap.size [.string (strT d), .slice a0 (kidsOf d).length cap0] 26) := Box.new w _ _
  go_enter Try.func35, Try.ntmps35
  go_wp2_with fail
  refine (implTreeOk_any (ht0.out.below hb0.out)).mono ?_
  rintro e w1 ⟨rfl, hb1⟩
  have hB1 : Hid (Below w.heap.size w w1) := hb0.out.trans (hb1.mono hb0.out.size)
  have bx1 : Hid (Box w1 w.heap.size [.string (strT d), .slice a0 (kidsOf d).length cap0] 26) := bx0.out.below hb1 bx0.out.lt
  have hz1 : w.heap.size + 1 ≤ w1.heap.size := bx1.out.lt
  clear hb1 bx0 hb0
  cases hok : okB (szD n d 30)
  · go_wp2_with fail
    go_ret2
    exact ⟨Or.inr ⟨by rw [hok]; rfl, rfl⟩, hB1.out⟩
  have c0 := bx1.out.cell 0 rfl
  have c1 := bx1.out.cell 1 rfl
  go_wp2_with fail
  clear c0 c1
  have bx2 : Hid (Box (w1.alloc (.cells #[.string (strT d), .slice a0 (kidsOf d).length cap0] 26)) w.heap.size [.string (strT d), .slice a0 (kidsOf d).length cap0] 26) := bx1.out.alloc _
  have hB2 : Hid (Below w.heap.size w (w1.alloc (.cells #[.string (strT d), .slice a0 (kidsOf d).length cap0] 26))) := hB1.out.alloc hB1.out.size _
  have gr2 : Hid (GrowOwn 26 2 (WayO w lo n) (w.heap.size + 1) (w1.alloc (.cells #[.string (strT d), .slice a0 (kidsOf d).length cap0] 26)) (.slice (some ⟨w1.heap.size, 0, none⟩) 1 1) [d] [[]] [[.string (strT d), .slice a0 (kidsOf d).length cap0]]) :=
    GrowOwn.one (Box.new w1 _ _) rfl hz1 ⟨⟨n, a0, cap0, rfl, ht0.out, Nat.le_refl _⟩, rfl⟩ List.nodup_nil (by simp)
  go_loopw [6, 16] (fun v i wr => ∃ (j m : Nat) (aj aw : Option Addr) (cj cw : Nat) (D : DataW H) (bss : List (List Nat)) (css : List (List Value)), j ≤ path.length ∧ m ≤ n ∧ v = .slice aw (j + 1) cw ∧ i = .int .i64 j ∧ Hid (Below w.heap.size w wr) ∧ Hid (okP d (path.take j) = true) ∧ Hid (D = endP d (path.take j)) ∧
      Hid (Box wr w.heap.size [.string (strT D), .slice aj (kidsOf D).length cj] 26) ∧ Hid (GrowOwn 26 2 (WayO w lo n) (w.heap.size + 1) wr (.slice aw (j + 1) cw) (wayJ d path j) bss css) ∧ Hid (TreeAt w lo m (.string (strT D)) (.slice aj (kidsOf D).length cj) D)) (fun _ i _ => path.length - (intOf i).toNat)
  case atStart => exact ⟨0, n, a0, _, cap0, _, d, _, _, by omega, Nat.le_refl _, rfl, rfl, hB2, rfl, rfl, bx2, gr2, ht0⟩
  case round =>
    obtain ⟨j, m, aj, aw, cj, cw, D, bss, css, hj, hmn, rfl, rfl, hb, hokj, hD, bx, gr, htj⟩ := hrel
    have hzr : w.heap.size + 1 ≤ wr.heap.size := bx.out.lt
    have c0 := bx.out.cell 0 rfl
    have c1 := bx.out.cell 1 rfl
    have fx := bx.out.unfrozen
    by_cases hlt : j < path.length
    · obtain ⟨b, off, rfl, hlo, hbb, hc⟩ := hx'.out (by omega)
      obtain ⟨cs, hcl, lie, hr⟩ := hc j hlt
      have lie1 := Lie.keep (lo := lo2) (lo' := lo2) lie (.of_below hb.out) hlo hbb
      have HO := okP_step (d := d) hlt
      rw [hokj.out, Bool.true_and, ← hD.out] at HO
      have HE := endP_step (d := d) hlt
      rw [← hD.out] at HE
      obtain ⟨rfl, hI⟩ := hr
      generalize path[j] = P at HO HE lie1 hI
      have HO' : Hid (okP d (path.take (j + 1)) = inB D P) := HO
      have HE' : Hid (endP d (path.take (j + 1)) = kidP D P) := HE
      have z0 := lie1 0 (by simp)
      simp only [List.getElem?_cons_zero, Nat.add_zero, Nat.mul_one] at z0
      clear lie lie1 hcl hc hx' HO HE hI
      go_wp2_with fail
      refine (hasKid_any _ _ _ _ _ _).mono ?_
      rintro e w2 ⟨rfl, hb2⟩
      have hB2 : Hid (Below w.heap.size w w2) := hb.out.trans (hb2.mono hb.out.size)
      have hb2' : Hid (Below wr.heap.size wr w2) := hb2
      have bx2 : Hid (Box w2 w.heap.size [.string (strT D), .slice aj (kidsOf D).length cj] 26) := bx.out.below hb2 bx.out.lt
      clear hb2 c0 c1 fx z0
      have c0 := bx2.out.cell 0 rfl
      have c1 := bx2.out.cell 1 rfl
      have fx := bx2.out.unfrozen
      cases hin : (decide (0 ≤ P) && decide (P < ((kidsOf D).length : Int)))
      · have HI : Hid (inB D P = false) := hin
        go_wp2_with fail
        go_ret2
        exact ⟨Or.inr ⟨by rw [okP_take_false (j + 1) (by rw [HO'.out]; exact HI.out)]; simp, rfl⟩, hB2.out⟩
      · have HI : Hid (inB D P = true) := hin
        simp only [Bool.and_eq_true, decide_eq_true_eq] at hin
        obtain ⟨p0, p1⟩ := hin
        obtain ⟨q, rfl⟩ := Int.eq_ofNat_of_zero_le p0
        obtain ⟨bk, ok, t', k', rfl, hbk, k0, k1, htk⟩ := htj.out.kid (p := q) (by omega)
        have k0' : w2.cell? ⟨bk, ok + q * 2, none⟩ = some t' := (hB2.out.cell (p := ⟨bk, ok + q * 2, none⟩) hbk).trans k0
        have k1' : w2.cell? ⟨bk, ok + q * 2 + 1, none⟩ = some k' := (hB2.out.cell (p := ⟨bk, ok + q * 2 + 1, none⟩) hbk).trans k1
        obtain ⟨rfl, _⟩ := htk.tag
        obtain ⟨_, a2, cap2, rfl⟩ := htk.form
        have htk' : Hid (TreeAt w lo (m - 1) _ _ (nth (kidsOf D) q)) := htk
        have hlen : Hid ((wayJ d path j).length = j + 1) := wayJ_length _ _ _
        clear k0 k1 htk
        generalize hK : nth (kidsOf D) q = K at htk' k0' k1'
        have hK' : Hid (kidP D (q : Int) = K) := hK
        clear hK
        have b3 : Hid (Box (putCells w2 w.heap.size 0 [.string (strT K), .slice a2 (kidsOf K).length cap2]) w.heap.size [.string (strT K), .slice a2 (kidsOf K).length cap2] 26) := (bx2.out.set (i := 0) _).set (i := 1) _
        have hB3 : Hid (Below w.heap.size w (putCells w2 w.heap.size 0 [.string (strT K), .slice a2 (kidsOf K).length cap2])) := putCells_below _ _ _ _ _ _ (Nat.le_refl _) hB2.out
        have gr3 : Hid (GrowOwn 26 2 (WayO w lo n) (w.heap.size + 1) (putCells w2 w.heap.size 0 [.string (strT K), .slice a2 (kidsOf K).length cap2]) (.slice aw (j + 1) cw) (wayJ d path j) bss css) := ((gr.out.below (wayO_stays w lo n) hb2'.out).set (wayO_stays w lo n) (by omega)).set (wayO_stays w lo n) (by omega)
        have hz3 : (putCells w2 w.heap.size 0 [.string (strT K), .slice a2 (kidsOf K).length cap2]).heap.size = w2.heap.size := putCells_size _ _ _ _
        have hz2 : w.heap.size + 1 ≤ w2.heap.size := bx2.out.lt
        have bN : Hid (Box ((putCells w2 w.heap.size 0 [.string (strT K), .slice a2 (kidsOf K).length cap2]).alloc (.cells #[.string (strT K), .slice a2 (kidsOf K).length cap2] 26)) w2.heap.size [.string (strT K), .slice a2 (kidsOf K).length cap2] 26) := by
          have := Box.new (putCells w2 w.heap.size 0 [.string (strT K), .slice a2 (kidsOf K).length cap2]) [.string (strT K), .slice a2 (kidsOf K).length cap2] 26
          rw [hz3] at this; exact this
        simp only [putCells] at b3 hB3 gr3 hz3 bN
        have d0 := b3.out.cell 0 rfl
        have d1 := b3.out.cell 1 rfl
        go_wp2_with (at_builtin; refine wpList_append_grow (wayO_stays w lo n) rfl _ _ 24 rfl (w.heap.size + 1) iT _ 40 Try.underlying24 hiT.out heT.out.1 heT.out.2.1 heT.out.2.2 rfl (by decide) rfl gr3.out ((Below.refl _ _).alloc (Nat.le_refl _) _) (by simp; omega) ⟨w2.heap.size, 0, none⟩ 1 (cs := [.string (strT K), .slice a2 (kidsOf K).length cap2]) (y := K) (fs := []) rfl rfl (by intro i u hu; match i, hu with | 0, hu => (simp at hu; subst hu; exact bN.out.cell 0 rfl) | 1, hu => (simp at hu; subst hu; exact bN.out.cell 1 rfl) | i + 2, hu => simp at hu) (by intro u hu; simp at hu; rcases hu with rfl | rfl <;> rfl) ⟨⟨m - 1, a2, cap2, rfl, htk'.out, by omega⟩, rfl⟩ List.nodup_nil (by simp) (by simp) (by have := hlen.out; unfold maxLen; omega) (by have := hlen.out; omega) ?_; intro g capg w4 hgr4 hgrow4 hbel4)
        have hgr4' : Hid (GrowOwn 26 2 (WayO w lo n) (w.heap.size + 1) w4 (.slice (some ⟨g, 0, none⟩) ((wayJ d path j).length + 1) capg) (wayJ d path j ++ [K]) (bss ++ [[]]) (css ++ [[.string (strT K), .slice a2 (kidsOf K).length cap2]])) := hgr4
        have hbel4' : Hid (Below (w.heap.size + 1) _ w4) := hbel4
        clear hgr4 hgrow4 hbel4
        go_roundw
        case rel =>
          refine ⟨j + 1, m - 1, a2, some ⟨g, 0, none⟩, cap2, capg, K, bss ++ [[]], css ++ [[.string (strT K), .slice a2 (kidsOf K).length cap2]], by omega, by omega, by rw [hlen.out], by go_num, ?_, ?_, ?_, ?_, ?_, htk'⟩
          · exact (hB3.out.alloc hB3.out.size _).trans (hbel4'.out.mono (by omega))
          · show _ = _; rw [HO'.out]; exact HI.out
          · show _ = _; rw [HE'.out]; exact hK'.out.symm
          · exact (b3.out.alloc _).below hbel4'.out (by omega)
          · show GrowOwn _ _ _ _ _ _ _ _ _
            rw [wayJ_succ, HE'.out, hK'.out]
            have := hgr4'.out
            rw [hlen.out] at this
            exact this
        case measure => simp [intOf]; omega
    · have hfull : Hid (j = path.length) := by show _ = _; omega
      go_wp2_with fail
      go_ret2
      refine ⟨Or.inl ⟨hok, ?_, _, rfl, ?_⟩, hb.out⟩
      · have := hokj.out; rw [hfull.out, List.take_length] at this; exact this
      · obtain ⟨fs, hs, hlo⟩ := gr.out.done
        rw [← hfull.out]
        exact hs.at (lo := w.heap.size) (fun _ _ _ _ h _ => h.1) (fun b q => by have := hlo b q; omega)
end Go.Proofs.Ytndffcogddefiaa
