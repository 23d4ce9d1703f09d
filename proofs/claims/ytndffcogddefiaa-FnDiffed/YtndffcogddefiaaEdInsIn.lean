/- slices.Insert of trees, one record, walked: at the end; in room; without room. -/
import Derived.Test.YtndffcogddefiaaEdDel2
import Derived.Test.YtndffcogddefiaaEdRoom
import Derived.Laws.CopyOwn
import Derived.Lib.AppendZeros
import Derived.Lib.AppendZerosOnto
import Derived.Lib.Overlaps
import Derived.Maps.AppendAt
import Derived.Deep.RegionLaw
import Derived.Test.YtndffcogddefiaaEdDelIn
namespace Go.Proofs.Ytndffcogddefiaa
open Go.RowKit Go.Deep
theorem run_copy_rows {P : Program} (w : World) (dT sT ty elem : TypeId) (g o dLen dCap : Nat) (a : Addr) (sLen sCap k n : Nat) (cur : Array Value) (t : TypeId) (cs : List Value)
    (hu : P.underlying dT = some (.slice elem)) (hs : (P.info? elem).map (·.size) = some k)
    (hg : w.heap[g]? = some (.cells cur t (0, 0))) (hmin : Nat.min sLen dLen = n) (hn : cs.length = n * k)
    (hsrc : ∀ j v, cs[j]? = some v → w.cell? (a.add j) = some v) (hfit : o + cs.length ≤ cur.size) (h1 : ∀ v ∈ cs, v.oneCell' = true) :
    (Builtin.copy_ #[dT, sT] ty #[.slice (some ⟨g, o, none⟩) dLen dCap, .slice (some a) sLen sCap]).run P w =
      .ok (goInt n) (w.setRow g (cur.toList.take o ++ cs ++ cur.toList.drop (o + cs.length)).toArray) := by
  have hl := run_loadCells_list (P := P) w a cs hsrc
  have hst := run_storeCells_at P g o t cs 0 cur w hg (by simpa using hfit) h1
  cases hq : P.info? elem with
  | none => simp [hq] at hs
  | some i =>
    have hi : i.size = k := by simpa [hq] using hs
    simp [Builtin.copy_, run_underlying hu, Builtin.lenOf, Builtin.firstCells, sizeOf, typeInfo, hq, hi, hmin, ← hn, hl, hst]
theorem row_cellsX {w : World} {g o n : Nat} {cur : Array Value} {T : TypeId} {L : List Value} (hg : w.heap[g]? = some (.cells cur T (0, 0))) (hL : cur.toList.take n = L) : ∀ j v, (L.drop o)[j]? = some v → w.cell? ((⟨g, o, none⟩ : Addr).add j) = some v := by
  intro j v hj
  rw [add_lit, blk_cell hg]
  rw [← hL, List.getElem?_drop, List.getElem?_take] at hj
  split at hj
  · simpa using hj
  · cases hj
theorem sl_to1 (g o n cap : Nat) (h : n + 1 ≤ cap) (w : World) : (Instr.slice 24 (.slice (some ⟨g, o, none⟩) n cap) none (some (.int .i64 ((n : Int) + 1))) none).run Try.prog w = .ok (.slice (some ⟨g, o, none⟩) (n + 1) cap) w := by
  have h1 : (0 : Int) ≤ (n : Int) + 1 := by omega
  have h2 : (n : Int) + 1 ≤ (cap : Int) := by omega
  have h3 : ((n : Int) + 1).toNat = n + 1 := by omega
  simp [go_sem, Try.underlying24, h1, h2, h3]
theorem sl_low (g n cap k : Nat) (h : k ≤ n) (hn : n ≤ cap) : ∃ o' c', (∀ w : World, (Instr.slice 24 (.slice (some ⟨g, 0, none⟩) n cap) (some (.int .i64 (k : Int))) none none).run Try.prog w = .ok (.slice (some ⟨g, o', none⟩) (n - k) c') w) ∧ (k < n → o' = k * 2) := by
  have h1 : (0 : Int) ≤ (k : Int) := by omega
  have h2 : (k : Int) ≤ (n : Int) := by omega
  by_cases e : k = cap
  · refine ⟨0, 0, fun w => ?_, fun q => by omega⟩
    have en : n = cap := by omega
    subst en
    subst e
    simp [go_sem, Try.underlying24, h1]
  · refine ⟨k * 2, cap - k, fun w => ?_, fun _ => rfl⟩
    simp [go_sem, Try.underlying24, h1, h2]
    intro q; omega
theorem sl_low1 (g n cap k : Nat) (h : k + 1 < n) (hn : n ≤ cap) (w : World) : (Instr.slice 24 (.slice (some ⟨g, 0, none⟩) n cap) (some (.int .i64 ((k : Int) + 1))) none none).run Try.prog w = .ok (.slice (some ⟨g, k * 2 + 2, none⟩) (n - (k + 1)) (cap - (k + 1))) w := by
  have h1 : (0 : Int) ≤ (k : Int) + 1 := by omega
  have h2 : (k : Int) + 1 ≤ (n : Int) := by omega
  have h3 : ((k : Int) + 1).toNat = k + 1 := by omega
  have h4 : ¬ (k + 1 = cap) := by omega
  simp [go_sem, Try.underlying24, h1, h2, h3]
  rw [if_neg (fun q => h4 q.symm), Nat.succ_mul]
theorem wrap_one {n : Nat} (h : n ≤ 9223372036854775806) : wrap64 ((n : Int) + 1) = (n : Int) + 1 := by unfold wrap64; omega
theorem sizeT : ∀ w, (Go.sizeOf 26).run Try.prog w = .ok 2 w := by
  obtain ⟨i, hi, _, h1, _⟩ := info_parts infoTree
  intro w
  simp [Go.sizeOf, typeInfo, hi, h1]
theorem splice_roomT {L X : List Value} {u0 u1 : Value} {a : Nat} (hX : L.take X.length = X) (ha : a ≤ X.length) (hL : X.length + 2 ≤ L.length) : ((L.take (a + 2) ++ X.drop a ++ L.drop (a + 2 + (X.drop a).length)).take a ++ [u0, u1] ++ (L.take (a + 2) ++ X.drop a ++ L.drop (a + 2 + (X.drop a).length)).drop (a + [u0, u1].length)).take (X.length + 2) = X.take a ++ [u0, u1] ++ X.drop a := by
  have e1 : (L.take (a + 2) ++ X.drop a ++ L.drop (a + 2 + (X.drop a).length)).take a = X.take a := by
    rw [List.append_assoc, List.take_append_of_le_length (by simp; omega), List.take_take, Nat.min_eq_left (by omega), ← hX, List.take_take, Nat.min_eq_left ha]
  have e2 : (L.take (a + 2) ++ X.drop a ++ L.drop (a + 2 + (X.drop a).length)).drop (a + [u0, u1].length) = X.drop a ++ L.drop (a + 2 + (X.drop a).length) := by
    rw [List.append_assoc]
    exact List.drop_left' (by simp; omega)
  rw [e1, e2, ← List.append_assoc]
  exact List.take_left' (by simp; omega)
theorem splice_newT {L X : List Value} {u0 u1 : Value} {a : Nat} (hX : L.take a = X.take a) (ha : a ≤ X.length) : ((L.take a ++ [u0, u1] ++ L.drop (a + [u0, u1].length)).take (a + 2) ++ X.drop a ++ (L.take a ++ [u0, u1] ++ L.drop (a + [u0, u1].length)).drop (a + 2 + (X.drop a).length)).take (X.length + 2) = X.take a ++ [u0, u1] ++ X.drop a := by
  have e1 : (L.take a ++ [u0, u1] ++ L.drop (a + [u0, u1].length)).take (a + 2) = X.take a ++ [u0, u1] := by
    rw [hX]
    exact List.take_left' (by simp; omega)
  rw [e1]
  exact List.take_left' (by simp; omega)
theorem boxNews {w : World} {vb : Nat} {u0 u1 : Value} {TV : TypeId} (hv : Box w vb [u0, u1] TV) : ∀ j u, [u0, u1][j]? = some u → w.cell? ((⟨vb, 0, none⟩ : Addr).add j) = some u := by
  intro j u hj
  rw [add_lit, Nat.zero_add]
  exact hv.cell j hj
set_option maxRecDepth 100000 in
set_option maxHeartbeats 4000000 in
/-- at the end -/
theorem insT_end {w : World} {base vb n : Nat} {v : Value} {X : List Value} {u0 u1 : Value} {TV : TypeId} (hown : w.ownsRow base 26 2 v n X) (hn : n ≤ 1000) (hbase : base ≤ w.heap.size) (hv : Box w vb [u0, u1] TV) (hu1 : ∀ u ∈ [u0, u1], u.oneCell' = true) :
    Calls Try.prog 75 #[v, .int .i64 (n : Int), .slice (some ⟨vb, 0, none⟩) 1 1] w fun e w' => (∃ v', e = .returned v' ∧ w'.ownsRow base 26 2 v' (n + 1) (X ++ [u0, u1]) ∧ (v'.ownBlock = v.ownBlock ∨ v'.ownBlock = some w.heap.size)) ∧ w.grownBy w' v.ownBlock := by
  obtain ⟨iT, hiT0, heT0, heT1, heT2⟩ := info_parts infoTree
  have hiT : Hid (Try.prog.info? 26 = some iT) := hiT0
  have heT : Hid (iT.zero = some (.agg #[.string ByteArray.empty, .slice none 0 0]) ∧ iT.size = 2 ∧ iT.bytes = 40) := ⟨heT0, heT1, heT2⟩
  clear hiT0 heT0 heT1 heT2
  have hown' : Hid (w.ownsRow base 26 2 v n X) := hown
  have hsrc : Hid (∀ j u, [u0, u1][j]? = some u → w.cell? ((⟨vb, 0, none⟩ : Addr).add j) = some u) := boxNews hv
  have hu : Hid (∀ u ∈ [u0, u1], u.oneCell' = true) := hu1
  rcases hown.2 with ⟨rfl, rfl⟩ | ⟨g, cap, cur, rfl, _, _, q3, _, _, _⟩
  · clear hown hv hu1
    go_enter Try.func75, Try.ntmps75
    go_wp2_with (at_builtin; refine wpList_append_own_at _ rfl _ _ 24 rfl base 26 iT _ 2 40 Try.underlying24 hiT.out heT.out.1 heT.out.2.1 heT.out.2.2 rfl (by decide) _ 0 X rfl hown'.out ⟨vb, 0, none⟩ 1 1 [u0, u1] rfl rfl hsrc.out hu.out (by decide) (by decide) hbase ?_; intro v1 w1 ho1 hg1 _ hat1; have ho1' : Hid _ := ho1; have hg1' : Hid _ := hg1; have hat1' : Hid _ := hat1; clear ho1 hg1 hat1)
    go_ret
    exact ⟨⟨_, rfl, ho1'.out, hat1'.out⟩, hg1'.out⟩
  · obtain ⟨o1, c1, hsl, _⟩ := sl_low g n cap n (Nat.le_refl _) q3
    clear hown hv hu1
    go_enter Try.func75, Try.ntmps75
    go_wp2_with (at_builtin; refine wpList_append_own_at _ rfl _ _ 24 rfl base 26 iT _ 2 40 Try.underlying24 hiT.out heT.out.1 heT.out.2.1 heT.out.2.2 rfl (by decide) _ n X rfl hown'.out ⟨vb, 0, none⟩ 1 1 [u0, u1] rfl rfl hsrc.out hu.out (by unfold maxLen; omega) (by omega) hbase ?_; intro v1 w1 ho1 hg1 _ hat1; have ho1' : Hid _ := ho1; have hg1' : Hid _ := hg1; have hat1' : Hid _ := hat1; clear ho1 hg1 hat1)
    go_ret
    exact ⟨⟨_, rfl, ho1'.out, hat1'.out⟩, hg1'.out⟩
set_option maxRecDepth 100000 in
set_option maxHeartbeats 4000000 in
/-- there is room -/
theorem insT_room {w : World} {base g n i c vb : Nat} {cur : Array Value} {X : List Value} {u0 u1 : Value} {TV : TypeId} (hn : X.length = n * 2) (hi : i < n) (hc : n + 1 ≤ c) (hm : c ≤ maxLen) (hb : base ≤ g) (hg : w.heap[g]? = some (.cells cur 26 (0, 0))) (hs : cur.size = c * 2) (hX : cur.toList.take (n * 2) = X) (hX1 : ∀ x ∈ X, x.oneCell' = true) (hu1 : ∀ u ∈ [u0, u1], u.oneCell' = true) (hv : Box w vb [u0, u1] TV) (hne : vb ≠ g) :
    Calls Try.prog 75 #[.slice (some ⟨g, 0, none⟩) n c, .int .i64 (i : Int), .slice (some ⟨vb, 0, none⟩) 1 1] w fun e w' => (∃ v', e = .returned v' ∧ w'.ownsRow base 26 2 v' (n + 1) (X.take (i * 2) ++ [u0, u1] ++ X.drop (i * 2)) ∧ (v'.ownBlock = some g ∨ v'.ownBlock = some w.heap.size)) ∧ w.grownBy w' (some g) := by
  have hm' : c ≤ 9223372036854775807 := by simpa [maxLen] using hm
  have hwn : wrap64 ((n : Int) + 1) = (n : Int) + 1 := wrap_one (by omega)
  have hwi : wrap64 ((i : Int) + 1) = (i : Int) + 1 := wrap_one (by omega)
  have hz2 : ¬ ((i : Int) = (n : Int)) := by omega
  have hz3 : ¬ ((c : Int) < (n : Int) + 1) := by omega
  have hsz : (Try.prog.info? 26).map (·.size) = some 2 := by
    obtain ⟨i, hi, _, h1, _⟩ := info_parts infoTree
    rw [hi]; simp [h1]
  have hdl : (X.drop (i * 2)).length = (n - i) * 2 := by simp [hn]; omega
  obtain ⟨R1, hR1⟩ : ∃ R1, R1 = (cur.toList.take (i * 2 + 2) ++ X.drop (i * 2) ++ cur.toList.drop (i * 2 + 2 + (X.drop (i * 2)).length)).toArray := ⟨_, rfl⟩
  obtain ⟨R2, hR2⟩ : ∃ R2, R2 = (R1.toList.take (i * 2) ++ [u0, u1] ++ R1.toList.drop (i * 2 + [u0, u1].length)).toArray := ⟨_, rfl⟩
  have hR1s : R1.size = c * 2 := by rw [hR1]; simp [hn]; omega
  have hR2s : R2.size = c * 2 := by rw [hR2]; simp; omega
  have hR2t : Hid (R2.toList.take ((n + 1) * 2) = X.take (i * 2) ++ [u0, u1] ++ X.drop (i * 2)) := by
    show R2.toList.take ((n + 1) * 2) = _
    rw [hR2, hR1, show (n + 1) * 2 = X.length + 2 by omega]
    exact splice_roomT (by rw [hn]; exact hX) (by omega) (by have := Array.length_toList (xs := cur); omega)
  have hov : Hid (∀ lb cb, (callFunc 79 #[.slice (some ⟨vb, 0, none⟩) 1 1, .slice (some ⟨g, i * 2 + 2, none⟩) lb cb]).run Try.prog w = .ok (.value (.bool false)) w) := fun lb cb => by
    rw [run_callFunc_extern Try.func79 (by kernel_rfl) (by kernel_rfl) (by kernel_rfl) (e := Extern.SlicesOverlaps.overlaps #[24, 24] #[4]) (by kernel_rfl),
      Lib.run_overlaps_apart w 24 4 26 Try.underlying24 2 sizeT ⟨vb, 0, none⟩ ⟨g, i * 2 + 2, none⟩ 1 1 lb cb hne TV 26 2 (c * 2) (by simp [World.shape?, show w.heap[vb]? = _ from hv]) (by simp [World.shape?, hg, hs]) (by omega) (by simp [World.frozen?, show w.heap[vb]? = _ from hv]) (by simp [World.frozen?, show w.heap[vb]? = _ from hv])]
    rfl
  have hcp1 : Hid (∀ (W : World), W.heap = w.heap → ∀ ty dc sl sc, n - i ≤ sl → (Builtin.copy_ #[24, 24] ty #[.slice (some ⟨g, i * 2 + 2, none⟩) (n - i) dc, .slice (some ⟨g, i * 2, none⟩) sl sc]).run Try.prog W = .ok (goInt (n - i : Nat)) (W.setRow g R1)) := fun W hW ty dc sl sc hsl => by
    have h := run_copy_rows (P := Try.prog) W 24 24 ty 26 g (i * 2 + 2) (n - i) dc ⟨g, i * 2, none⟩ sl sc 2 (n - i) cur 26 (X.drop (i * 2)) Try.underlying24 hsz (by rw [hW]; exact hg) (by simp only [Nat.min_def]; split <;> omega) hdl (row_cellsX (by rw [hW]; exact hg) hX) (by rw [hdl]; omega) (fun v hv => hX1 v (List.mem_of_mem_drop hv))
    rw [h, hR1]
  have hcp2 : Hid (∀ (W : World), W.heap = (w.setRow g R1).heap → ∀ ty dl dc, 1 ≤ dl → (Builtin.copy_ #[24, 24] ty #[.slice (some ⟨g, i * 2, none⟩) dl dc, .slice (some ⟨vb, 0, none⟩) 1 1]).run Try.prog W = .ok (goInt 1) (W.setRow g R2)) := fun W hW ty dl dc hdl2 => by
    have h := run_copy_rows (P := Try.prog) W 24 24 ty 26 g (i * 2) dl dc ⟨vb, 0, none⟩ 1 1 2 1 R1 26 [u0, u1] Try.underlying24 hsz (by rw [hW]; exact setRow_heap w g _ _ _ _ hg) (by simp only [Nat.min_def]; split <;> omega) rfl (boxNews (TV := TV) (by show W.heap[vb]? = _; rw [hW, setRow_other w g vb R1 hne]; exact hv)) (by simp; omega) hu1
    rw [h, hR2]; rfl
  have hend : Hid (∀ (W : World), W.os = w.os → W.tape = w.tape → W.output = w.output → W.heap = ((w.setRow g R1).setRow g R2).heap → W.ownsRow base 26 2 (.slice (some ⟨g, 0, none⟩) (n + 1) c) (n + 1) (X.take (i * 2) ++ [u0, u1] ++ X.drop (i * 2)) ∧ w.grownBy W (some g)) := fun W e1 e2 e3 hW => by
    refine ⟨⟨by simp [hn]; omega, Or.inr ⟨g, c, R2, rfl, hb, ?_, hc, hm, by omega, hR2t.out⟩⟩, ⟨e1, e2, e3, by rw [hW]; simp, fun k hk hne => ?_⟩⟩
    · rw [hW]; exact setRow_heap _ g _ _ _ _ (setRow_heap w g _ _ _ _ hg)
    · have hkg : k ≠ g := fun e => hne (by rw [e])
      rw [hW, setRow_other _ g k _ hkg, setRow_other _ g k _ hkg]
  obtain ⟨o1, c1, hsl1, ho1⟩ := sl_low g n c i (by omega) (by omega)
  have hsl2 := sl_to1 g 0 n c hc
  have hsl3 := sl_low1 g (n + 1) c i (by omega) hc
  rw [show n + 1 - (i + 1) = n - i by omega] at hsl3
  obtain ⟨o4, c4, hsl4, ho4⟩ := sl_low g (n + 1) c i (by omega) hc
  obtain rfl : o4 = i * 2 := ho4 (by omega)
  have hov' := hov.out
  clear hX hg hs hv hR1 hR2 hR1s hR2s hR2t hX1 hu1 hov hdl ho1 ho4
  go_enter Try.func75, Try.ntmps75
  go_wp2_with (simp only [hov'])
  have hcpX := hcp1.out w.drew rfl 3 (c - (i + 1)) (n + 1 - i) c4 (by omega)
  go_region
  have hcpY := hcp2.out (w.drew.setRow g R1) rfl 3 (n + 1 - i) c4 (by omega)
  go_wp2_with (simp only [hcpY])
  go_ret
  obtain ⟨q1, q2⟩ := hend.out ((w.drew.setRow g R1).setRow g R2) rfl rfl rfl rfl
  exact ⟨⟨_, rfl, q1, Or.inl rfl⟩, q2⟩
set_option maxRecDepth 100000 in
set_option maxHeartbeats 4000000 in
/-- there is no room -/
theorem insT_grow {w : World} {base g n i vb : Nat} {cur : Array Value} {X : List Value} {u0 u1 : Value} {TV : TypeId} (hn : X.length = n * 2) (hi : i < n) (h12 : n ≤ 1000) (hb : base ≤ w.heap.size) (hg : w.heap[g]? = some (.cells cur 26 (0, 0))) (hX : cur.toList.take (n * 2) = X) (hX1 : ∀ x ∈ X, x.oneCell' = true) (hu1 : ∀ u ∈ [u0, u1], u.oneCell' = true) (hv : Box w vb [u0, u1] TV) :
    Calls Try.prog 75 #[.slice (some ⟨g, 0, none⟩) n n, .int .i64 (i : Int), .slice (some ⟨vb, 0, none⟩) 1 1] w fun e w' => (∃ v', e = .returned v' ∧ w'.ownsRow base 26 2 v' (n + 1) (X.take (i * 2) ++ [u0, u1] ++ X.drop (i * 2)) ∧ (v'.ownBlock = some g ∨ v'.ownBlock = some w.heap.size)) ∧ w.grownBy w' (some g) := by
  have hgw : g < w.heap.size := (Array.getElem?_eq_some_iff.1 hg).1
  have hvw : vb < w.heap.size := hv.lt
  have hwn : wrap64 ((n : Int) + 1) = (n : Int) + 1 := wrap_one (by omega)
  have hwi : wrap64 ((i : Int) + 1) = (i : Int) + 1 := wrap_one (by omega)
  have hz2 : ¬ ((i : Int) = (n : Int)) := by omega
  obtain ⟨iT, hi0, hz0, hzs, hzb⟩ := info_parts infoTree
  have hsz : (Try.prog.info? 26).map (·.size) = some 2 := by rw [hi0]; simp [hzs]
  have hdl : (X.drop (i * 2)).length = (n - i) * 2 := by simp [hn]; omega
  have htl : (X.take (i * 2)).length = i * 2 := by simp [hn]; omega
  have hold : (Builtin.firstCells iT.size i (.slice (some ⟨g, 0, none⟩) i n)).run Try.prog w.drew = .ok (X.take (i * 2)).toArray w.drew := by
    rw [hzs]
    refine run_firstCells_some w.drew 2 i ⟨g, 0, none⟩ i n (X.take (i * 2)) htl (fun j u hj => ?_)
    rw [add_lit, blk_cell (w := w.drew) hg, Nat.zero_add]
    rw [← hX, List.take_take, List.getElem?_take] at hj
    split at hj
    · simpa using hj
    · cases hj
  have hrz := fun ty => Lib.run_append_grow_zeros (P := Try.prog) w 24 3 ty 26 iT _ .i64 .i64 Try.underlying24 Try.underlying3 hi0 hz0 (some ⟨g, 0, none⟩) i n (X.take (i * 2)) hold (n + 1 - i) (by omega) (by omega) (by omega) (by omega) (by rw [hzb]; omega) (by rw [hzb]; exact growslice_fits (by omega) (by omega))
  rw [show i + (n + 1 - i) = n + 1 by omega] at hrz
  obtain ⟨G, hG⟩ : ∃ G, G = grownCap w (n + 1) n 26 := ⟨_, rfl⟩
  rw [← hG] at hrz
  obtain ⟨ROW, hROW⟩ : ∃ ROW : Array Value, ROW = (X.take (i * 2)).toArray ++ Builtin.zeroCells (Value.agg #[.string ByteArray.empty, .slice none 0 0]).cells (n + 1 - i) ++ Builtin.zeroCells (Value.agg #[.string ByteArray.empty, .slice none 0 0]).cells (G - (n + 1)) := ⟨_, rfl⟩
  rw [← hROW] at hrz
  have hGn : n + 1 ≤ G := by rw [hG]; exact grownCap_ge w _ _ _
  have hGm : G ≤ maxLen := by rw [hG]; exact grownCap_le_maxLen w _ _ _ (by unfold maxLen; omega)
  have hG63 : G ≤ 9223372036854775807 := by simpa [maxLen] using hGm
  have hRl : ROW.size = G * 2 := by rw [hROW]; simp [Builtin.zeroCells, Value.cells, hn]; omega
  have hRt : ROW.toList.take (i * 2) = X.take (i * 2) := by rw [hROW, Array.toList_append, Array.toList_append, List.append_assoc]; exact List.take_left' htl
  obtain ⟨R1, hR1⟩ : ∃ R1, R1 = (ROW.toList.take (i * 2) ++ [u0, u1] ++ ROW.toList.drop (i * 2 + [u0, u1].length)).toArray := ⟨_, rfl⟩
  obtain ⟨R2, hR2⟩ : ∃ R2, R2 = (R1.toList.take (i * 2 + 2) ++ X.drop (i * 2) ++ R1.toList.drop (i * 2 + 2 + (X.drop (i * 2)).length)).toArray := ⟨_, rfl⟩
  have hR1s : R1.size = G * 2 := by rw [hR1]; simp; omega
  have hR2s : R2.size = G * 2 := by rw [hR2]; simp [hn]; omega
  have hR2t : Hid (R2.toList.take ((n + 1) * 2) = X.take (i * 2) ++ [u0, u1] ++ X.drop (i * 2)) := by
    show R2.toList.take ((n + 1) * 2) = _
    rw [hR2, hR1, show (n + 1) * 2 = X.length + 2 by omega]
    exact splice_newT hRt (by omega)
  have hnew : (w.alloc (.cells ROW 26)).heap[w.heap.size]? = some (.cells ROW 26 (0, 0)) := (MapKept.heap_alloc w _).1
  have hold2 : ∀ k, k < w.heap.size → (w.alloc (.cells ROW 26)).heap[k]? = w.heap[k]? := fun k hk => ((Below.refl w.heap.size w).alloc (Nat.le_refl _) (.cells ROW 26)).block k hk
  have hcp1 : ∀ (W : World), W.heap = (w.alloc (.cells ROW 26)).heap → ∀ ty c9, (Builtin.copy_ #[24, 24] ty #[.slice (some ⟨w.heap.size, i * 2, none⟩) (n + 1 - i) c9, .slice (some ⟨vb, 0, none⟩) 1 1]).run Try.prog W = .ok (goInt 1) (W.setRow w.heap.size R1) := fun W hW ty c9 => by
    have h := run_copy_rows (P := Try.prog) W 24 24 ty 26 w.heap.size (i * 2) (n + 1 - i) c9 ⟨vb, 0, none⟩ 1 1 2 1 ROW 26 [u0, u1] Try.underlying24 hsz (by rw [hW]; exact hnew) (by simp only [Nat.min_def]; split <;> omega) rfl (boxNews (TV := TV) (by show W.heap[vb]? = _; rw [hW, hold2 vb hvw]; exact hv)) (by simp; omega) hu1
    rw [h, hR1]; rfl
  have hcp2 : ∀ (W : World), W.heap = ((w.alloc (.cells ROW 26)).setRow w.heap.size R1).heap → ∀ ty c9, (Builtin.copy_ #[24, 24] ty #[.slice (some ⟨w.heap.size, i * 2 + 2, none⟩) (n - i) (G - (i + 1)), .slice (some ⟨g, i * 2, none⟩) (n - i) c9]).run Try.prog W = .ok (goInt (n - i : Nat)) (W.setRow w.heap.size R2) := fun W hW ty c9 => by
    have h := run_copy_rows (P := Try.prog) W 24 24 ty 26 w.heap.size (i * 2 + 2) (n - i) (G - (i + 1)) ⟨g, i * 2, none⟩ (n - i) c9 2 (n - i) R1 26 (X.drop (i * 2)) Try.underlying24 hsz (by rw [hW]; exact setRow_heap _ _ _ _ _ _ hnew) (by simp) hdl (row_cellsX (by rw [hW, setRow_other _ _ g R1 (by omega), hold2 g hgw]; exact hg) hX) (by rw [hdl]; omega) (fun v hv => hX1 v (List.mem_of_mem_drop hv))
    rw [h, hR2]
  have hend : Hid (∀ (W : World), W.os = w.os → W.tape = w.tape → W.output = w.output → W.heap = (((w.alloc (.cells ROW 26)).setRow w.heap.size R1).setRow w.heap.size R2).heap → W.ownsRow base 26 2 (.slice (some ⟨w.heap.size, 0, none⟩) (n + 1) G) (n + 1) (X.take (i * 2) ++ [u0, u1] ++ X.drop (i * 2)) ∧ w.grownBy W (some g)) := fun W e1 e2 e3 hW => by
    refine ⟨⟨by simp [hn]; omega, Or.inr ⟨w.heap.size, G, R2, rfl, hb, ?_, hGn, hGm, by omega, hR2t.out⟩⟩, ⟨e1, e2, e3, by rw [hW]; simp, fun k hk _ => ?_⟩⟩
    · rw [hW]; exact setRow_heap _ _ _ _ _ _ (setRow_heap _ _ _ _ _ _ hnew)
    · rw [hW, setRow_other _ _ k _ (by omega), setRow_other _ _ k _ (by omega)]; exact hold2 k hk
  obtain ⟨o1, c1, hsl1, ho1⟩ := sl_low g n n i (by omega) (by omega)
  obtain rfl : o1 = i * 2 := ho1 hi
  have hsl2 := sl_to_at g 0 n n i (by omega)
  obtain ⟨o3, c3, hsl3, ho3⟩ := sl_low w.heap.size (n + 1) G i (by omega) hGn
  obtain rfl : o3 = i * 2 := ho3 (by omega)
  have hsl4 := sl_low1 w.heap.size (n + 1) G i (by omega) hGn
  rw [show n + 1 - (i + 1) = n - i by omega] at hsl4
  have hcA := hcp1 (w.alloc (.cells ROW 26)).drew rfl 3 c3
  have hcB := hcp2 ((w.alloc (.cells ROW 26)).drew.setRow w.heap.size R1).drew rfl 3 c1
  have hrz' : Hid _ := hrz
  obtain ⟨kk, hkk⟩ : ∃ kk, n + 1 - i = kk := ⟨_, rfl⟩
  obtain ⟨rr, hrr⟩ : ∃ rr, n - i = rr := ⟨_, rfl⟩
  simp only [hkk, hrr] at hrz' hcA hcB hsl1 hsl3 hsl4
  have hkI : (kk : Int) = (n : Int) + 1 - (i : Int) := by omega
  rw [hkI] at hrz'
  clear hX hg hv hR1 hR2 hR1s hR2s hR2t hX1 hu1 hcp1 hcp2 hnew hold2 hrz hold hROW hRl hG hGm hi0 hz0 hzs hzb hsz hRt htl hdl ho1 ho3 hkk hrr hGn hG63 hkI
  go_enter Try.func75, Try.ntmps75
  go_wp2_with (first | (at_builtin; refine Lib.wpList_append_run _ rfl _ _ _ _ rfl _ _ rfl rfl _ _ (hrz'.out _) ?_) | (simp only [hcA]))
  go_region
  go_wp2
  go_ret
  obtain ⟨q1, q2⟩ := hend.out (((w.alloc (.cells ROW 26)).drew.setRow w.heap.size R1).drew.setRow w.heap.size R2) rfl rfl rfl rfl
  exact ⟨⟨_, rfl, q1, Or.inr rfl⟩, q2⟩
/-- one record put into a row of trees that the call owns -/
theorem insT_any {w : World} {base vb n i : Nat} {v : Value} {X : List Value} {u0 u1 : Value} {TV : TypeId} (hown : w.ownsRow base 26 2 v n X) (hi : i ≤ n) (hl : n ≤ 1000) (hbase : base ≤ w.heap.size) (hX1 : ∀ x ∈ X, x.oneCell' = true) (hu1 : ∀ u ∈ [u0, u1], u.oneCell' = true) (hv : Box w vb [u0, u1] TV) (hne : v.ownBlock ≠ some vb) :
    Calls Try.prog 75 #[v, .int .i64 (i : Int), .slice (some ⟨vb, 0, none⟩) 1 1] w fun e w' => (∃ v', e = .returned v' ∧ w'.ownsRow base 26 2 v' (n + 1) (X.take (i * 2) ++ [u0, u1] ++ X.drop (i * 2)) ∧ (v'.ownBlock = v.ownBlock ∨ v'.ownBlock = some w.heap.size)) ∧ w.grownBy w' v.ownBlock := by
  by_cases h0 : i = n
  · subst h0
    have hlen : X.length = i * 2 := hown.1
    rw [List.take_of_length_le (by omega), List.drop_of_length_le (by omega), List.append_nil]
    exact insT_end hown hl hbase hv hu1
  rcases hown.2 with ⟨_, q⟩ | ⟨g, cap, cur, rfl, e2, e3, e4, e5, e6, e7⟩
  · omega
  · have hng : vb ≠ g := fun e => hne (by rw [e]; rfl)
    by_cases hc : n + 1 ≤ cap
    · exact insT_room hown.1 (by omega) hc e5 e2 e3 e6 e7 hX1 hu1 hv hng
    · obtain rfl : cap = n := by omega
      exact insT_grow hown.1 (by omega) hl hbase e3 e7 hX1 hu1 hv
end Go.Proofs.Ytndffcogddefiaa
namespace Go.Proofs.Ytndffcogddefiaa
open Go.RowKit Go.Deep
theorem flat_take {css : List (List Value)} {c : Nat} (h : ∀ cs ∈ css, cs.length = c) : ∀ i, css.flatten.take (i * c) = (css.take i).flatten := by
  induction css with
  | nil => intro i; simp
  | cons a css ih =>
    intro i
    cases i with
    | zero => simp
    | succ i =>
      have ha : a.length = c := h a List.mem_cons_self
      rw [List.flatten_cons, List.take_succ_cons, List.flatten_cons, List.take_append, List.take_of_length_le (by rw [ha, Nat.succ_mul]; omega), ha, show (i + 1) * c - c = i * c by rw [Nat.succ_mul]; omega, ih (fun cs hc => h cs (List.mem_cons_of_mem _ hc))]
theorem flat_drop {css : List (List Value)} {c : Nat} (h : ∀ cs ∈ css, cs.length = c) : ∀ i, css.flatten.drop (i * c) = (css.drop i).flatten := by
  induction css with
  | nil => intro i; simp
  | cons a css ih =>
    intro i
    cases i with
    | zero => simp
    | succ i =>
      have ha : a.length = c := h a List.mem_cons_self
      rw [List.flatten_cons, List.drop_succ_cons, List.drop_append, List.drop_of_length_le (by rw [ha, Nat.succ_mul]; omega), ha, show (i + 1) * c - c = i * c by rw [Nat.succ_mul]; omega, ih (fun cs hc => h cs (List.mem_cons_of_mem _ hc)), List.nil_append]
/-- a row that is known whole, and the records that lie in it -/
theorem owns_of_items {α : Type} {R : World → List Value → α → List Nat → Prop} {w : World} {g cap : Nat} {T : TypeId} {C : Array Value} {es : List (It α)} {xs : List α} {fs : List Nat} (h : Items 2 R w g 0 T C es xs fs) (hr : RoomB w g cap) (hc : xs.length ≤ cap) : w.ownsRow 0 26 2 (.slice (some ⟨g, 0, none⟩) xs.length cap) xs.length (es.map (·.1)).flatten := by
  obtain ⟨rfl, h1, h2, rfl, h4, h5⟩ := h
  obtain ⟨r1, C', r2, r3⟩ := hr
  rw [h1] at r2
  injection r2 with r2
  injection r2 with r2 r4 _
  subst r2 r4
  simp only [List.length_map] at h2 hc ⊢
  have hcs : ∀ cs ∈ es.map (·.1), cs.length = 2 := fun cs hcs => by
    obtain ⟨e, he, rfl⟩ := List.mem_map.1 hcs
    obtain ⟨j, hj, rfl⟩ := List.getElem_of_mem he
    exact (h5 j hj).1
  have hl := flat_len hcs
  simp only [List.length_map] at hl
  refine ⟨hl, Or.inr ⟨g, cap, C, rfl, Nat.zero_le _, h1, hc, r1, r3, ?_⟩⟩
  apply List.ext_getElem?
  intro j
  rw [List.getElem?_take]
  by_cases hj : j < es.length * 2
  · rw [if_pos hj]
    have e := flat_get hcs (i := j / 2) (m := j % 2) (by simp; omega) (by omega)
    rw [show j / 2 * 2 + j % 2 = j by omega] at e
    rw [e]
    have q := (h5 (j / 2) (by omega)).2.1 (j % 2) (by omega)
    rw [show 0 + j / 2 * 2 + j % 2 = j by omega] at q
    simpa using q
  · rw [if_neg hj, List.getElem?_eq_none (by omega)]
/-- records in a row that is known whole -/
theorem seqOwn_of_owns {α : Type} {R : World → List Value → α → List Nat → Prop} {w : World} {n T : Nat} {v : Value} {es : List (It α)} (hn : es.length = n) (hpos : 0 < n) (h : w.ownsRow 0 T 2 v n (es.map (·.1)).flatten) (hes : ∀ i, (h : i < es.length) → es[i].1.length = 2 ∧ R w es[i].1 es[i].2.1 es[i].2.2) :
    ∃ g cap, v = .slice (some ⟨g, 0, none⟩) n cap ∧ ((g :: (es.map (·.2.2)).flatten).Nodup → SeqOwn 2 R w v (es.map (·.2.1)) (g :: (es.map (·.2.2)).flatten)) := by
  rcases h.2 with ⟨_, q⟩ | ⟨g, cap, cur, rfl, _, h1, h2, h3, h4, h5⟩
  · omega
  have hcs : ∀ cs ∈ es.map (·.1), cs.length = 2 := fun cs hcs => by
    obtain ⟨e, he, rfl⟩ := List.mem_map.1 hcs
    obtain ⟨j, hj, rfl⟩ := List.getElem_of_mem he
    exact (hes j hj).1
  refine ⟨g, cap, rfl, fun hnd => ⟨some ⟨g, 0, none⟩, cap, by simp [hn], ⟨by simp [hn]; omega, by simp [hn]; omega⟩, Or.inr ⟨g, 0, rfl, cur, T, es.map (·.2.2), h1, by simp [hn]; omega, by simp, rfl, hnd, fun i hi hi' => ?_⟩⟩⟩
  simp only [List.length_map] at hi
  obtain ⟨q1, q2⟩ := hes i hi
  refine ⟨es[i].1, q1, fun m hm => ?_, by simpa using q2⟩
  have e := flat_get hcs (i := i) (m := m) (by simpa using hi) hm
  rw [← h5, List.getElem?_take_of_lt (by omega)] at e
  simp only [List.getElem_map] at e
  rw [Nat.zero_add]
  simpa using e
/-- the kids with one more -/
def KidsIns (n : Nat) (w w' : World) (kids : List TD) (i : Nat) (x : TD) (fs fx : List Nat) (e : Ending) : Prop :=
  ∃ (a' : Option Addr) (cap' : Nat) (fs' : List Nat), e = .returned (.slice a' (insK kids i x).length cap') ∧ SeqOwn 2 (TreeO n) w' (.slice a' (insK kids i x).length cap') (insK kids i x) fs' ∧ fs'.Nodup ∧ (∀ b ∈ fs', b ∈ fs ∨ b ∈ fx ∨ b = w.heap.size) ∧ Out fs w w'
theorem insK_length (ks : List TD) (i : Nat) (x : TD) (h : i ≤ ks.length) : (insK ks i x).length = ks.length + 1 := by simp [insK]; omega
theorem insK_map {α : Type} (es : List (It α)) (i : Nat) (e : It α) {β : Type} (f : It α → β) : (es.take i ++ e :: es.drop i).map f = (es.map f).take i ++ f e :: (es.map f).drop i := by simp [List.map_take, List.map_drop]
theorem treeO_one {n : Nat} {w : World} {cs : List Value} {x : TD} {fs : List Nat} (h : TreeO n w cs x fs) : cs.length = 2 ∧ ∀ u ∈ cs, u.oneCell' = true := by
  obtain ⟨k1, e1, hs, _⟩ := h.opened
  obtain ⟨a2, c2, rfl⟩ := hs.form
  subst e1
  refine ⟨rfl, fun u hu => ?_⟩
  simp at hu
  rcases hu with rfl | rfl <;> rfl
theorem kids_insert {n : Nat} {w : World} {a : Option Addr} {cap i vb : Nat} {kids : List TD} {x : TD} {fs fx : List Nat} {u0 u1 : Value} {TV : TypeId} (h : SeqOwn 2 (TreeO n) w (.slice a kids.length cap) kids fs) (hr : (a = none ∧ cap = 0) ∨ ∃ g, a = some ⟨g, 0, none⟩ ∧ 0 < kids.length ∧ RoomB w g cap)
    (hi : i ≤ kids.length) (hl : kids.length ≤ 1000) (hx : TreeO n w [u0, u1] x fx) (hxn : fx.Nodup) (hxf : ∀ b ∈ fx, b ∉ fs) (hv : Box w vb [u0, u1] TV) (hvf : vb ∉ fs) :
    Calls Try.prog 75 #[.slice a kids.length cap, .int .i64 (i : Int), .slice (some ⟨vb, 0, none⟩) 1 1] w fun e w' => KidsIns n w w' kids i x fs fx e := by
  obtain ⟨es, hmap, hown, hone, hR, hfs, hnd, hblk⟩ : ∃ es : List (It TD), es.map (·.2.1) = kids ∧ w.ownsRow 0 26 2 (.slice a kids.length cap) kids.length (es.map (·.1)).flatten ∧ (∀ u ∈ (es.map (·.1)).flatten, u.oneCell' = true) ∧ (∀ i, (h : i < es.length) → es[i].1.length = 2 ∧ TreeO n w es[i].1 es[i].2.1 es[i].2.2) ∧ (∀ b ∈ (es.map (·.2.2)).flatten, b ∈ fs) ∧ (es.map (·.2.2)).flatten.Nodup ∧ ∀ g, (Value.slice a kids.length cap).ownBlock = some g → g ∈ fs ∧ g ∉ (es.map (·.2.2)).flatten := by
    rcases hr with ⟨rfl, rfl⟩ | ⟨g, rfl, hpos, hroom⟩
    · obtain ⟨a', c', e, hm, hx⟩ := h
      have hk0 : kids = [] := List.eq_nil_of_length_eq_zero (by injection e with _ _ e3; omega)
      subst hk0
      exact ⟨[], rfl, World.ownsRow_nil _ _ _ _, by simp, by simp, by simp, by simp, by simp [Value.ownBlock]⟩
    · obtain ⟨a', c', e, ⟨hm, hcap⟩, hx⟩ := h
      injection e with e1 _ e3
      subst e1 e3
      rcases hx with ⟨h0, _⟩ | ⟨b, o, e, hrow⟩
      · omega
      injection e with e
      injection e with e1 e2
      subst e1 e2
      obtain ⟨T, C, es, hit⟩ := hrow.items
      have ho := owns_of_items hit hroom hcap
      obtain ⟨h1, h2, h3, h4, h5, h6⟩ := hit
      subst h4
      rw [List.nodup_cons] at h5
      refine ⟨es, h1, ho, fun u hu => ?_, fun i hi => ⟨(h6 i hi).1, (h6 i hi).2.2⟩, fun b hb => List.mem_cons_of_mem _ hb, h5.2, fun g' e => ?_⟩
      · obtain ⟨cs, hc, hu⟩ := List.mem_flatten.1 hu
        obtain ⟨e, he, rfl⟩ := List.mem_map.1 hc
        obtain ⟨j, hj, rfl⟩ := List.getElem_of_mem he
        exact (treeO_one (h6 j hj).2.2).2 u hu
      · simp only [Value.ownBlock, Option.some.injEq] at e
        subst e
        exact ⟨List.mem_cons_self, h5.1⟩
  have hel : es.length = kids.length := by rw [← hmap, List.length_map]
  have hcs : ∀ cs ∈ es.map (·.1), cs.length = 2 := fun cs hcs => by
    obtain ⟨e, he, rfl⟩ := List.mem_map.1 hcs
    obtain ⟨j, hj, rfl⟩ := List.getElem_of_mem he
    exact (hR j hj).1
  refine (insT_any (u0 := u0) (u1 := u1) hown hi hl (Nat.zero_le _) hone (treeO_one hx).2 hv (fun e => hvf (hblk vb e).1)).mono ?_
  rintro e w' ⟨⟨v', rfl, ho', hb'⟩, hg'⟩
  have hO : Out fs w w' := ⟨hg'.os, hg'.tape, hg'.output, hg'.size, fun k hk hn => hg'.block k hk (fun e => hn (hblk k e.symm).1)⟩
  have hkeep : ∀ b, b < w.heap.size → (∀ g, (Value.slice a kids.length cap).ownBlock = some g → b ≠ g) → w'.heap[b]? = w.heap[b]? := fun b h1 h2 => hg'.block b h1 (fun e => h2 b e.symm rfl)
  have hflat : (es.map (·.1)).flatten.take (i * 2) ++ [u0, u1] ++ (es.map (·.1)).flatten.drop (i * 2) = ((es.take i ++ ([u0, u1], x, fx) :: es.drop i).map (·.1)).flatten := by
    rw [flat_take hcs, flat_drop hcs, insK_map]
    simp
  rw [hflat] at ho'
  have hfx : ∀ b ∈ fx, b < w.heap.size := TreeO_lt n _ _ _ _ hx
  have hfsl : ∀ b ∈ (es.map (·.2.2)).flatten, b < w.heap.size := fun b hb => by
    obtain ⟨l, hl, hbl⟩ := List.mem_flatten.1 hb
    obtain ⟨e, he, rfl⟩ := List.mem_map.1 hl
    obtain ⟨j, hj, rfl⟩ := List.getElem_of_mem he
    exact TreeO_lt n _ _ _ _ (hR j hj).2 b hbl
  have hall : ∀ j, (hj : j < (es.take i ++ (([u0, u1], x, fx) : It TD) :: es.drop i).length) → (es.take i ++ (([u0, u1], x, fx) : It TD) :: es.drop i)[j].1.length = 2 ∧ TreeO n w' (es.take i ++ (([u0, u1], x, fx) : It TD) :: es.drop i)[j].1 (es.take i ++ (([u0, u1], x, fx) : It TD) :: es.drop i)[j].2.1 (es.take i ++ (([u0, u1], x, fx) : It TD) :: es.drop i)[j].2.2 := fun j hj => by
    have hm : (es.take i ++ (([u0, u1], x, fx) : It TD) :: es.drop i)[j] ∈ es.take i ++ (([u0, u1], x, fx) : It TD) :: es.drop i := List.getElem_mem hj
    generalize (es.take i ++ (([u0, u1], x, fx) : It TD) :: es.drop i)[j] = e at hm
    have hm2 : e ∈ es ∨ e = ([u0, u1], x, fx) := by
      rcases List.mem_append.1 hm with q | q
      · exact Or.inl (List.mem_of_mem_take q)
      · rcases List.mem_cons.1 q with q | q
        · exact Or.inr q
        · exact Or.inl (List.mem_of_mem_drop q)
    rcases hm2 with q | rfl
    · obtain ⟨k, hk, rfl⟩ := List.getElem_of_mem q
      obtain ⟨r1, r2⟩ := hR k hk
      refine ⟨r1, TreeO_stays n _ _ _ _ _ (fun b hb => ?_) r2⟩
      have hbf : b ∈ (es.map (·.2.2)).flatten := List.mem_flatten.2 ⟨_, List.mem_map.2 ⟨_, List.getElem_mem hk, rfl⟩, hb⟩
      exact hkeep b (hfsl b hbf) (fun g e h => (hblk g e).2 (h ▸ hbf))
    · exact ⟨rfl, TreeO_stays n _ _ _ _ _ (fun b hb => hkeep b (hfx b hb) (fun g e h => hxf b hb (h ▸ (hblk g e).1))) hx⟩
  have hlen : (es.take i ++ (([u0, u1], x, fx) : It TD) :: es.drop i).length = kids.length + 1 := by simp; omega
  obtain ⟨g', cap', rfl, hso⟩ := seqOwn_of_owns hlen (by omega) ho' hall
  have hm1 : (es.take i ++ (([u0, u1], x, fx) : It TD) :: es.drop i).map (·.2.1) = insK kids i x := by
    rw [insK_map, hmap]; rfl
  have hm2 : ((es.take i ++ (([u0, u1], x, fx) : It TD) :: es.drop i).map (·.2.2)).flatten = ((es.map (·.2.2)).take i).flatten ++ (fx ++ ((es.map (·.2.2)).drop i).flatten) := by
    rw [insK_map]; simp
  have hsp : (es.map (·.2.2)).flatten = ((es.map (·.2.2)).take i).flatten ++ ((es.map (·.2.2)).drop i).flatten := by
    rw [← List.flatten_append, List.take_append_drop]
  rw [hsp, List.nodup_append] at hnd
  obtain ⟨n1, n2, n3⟩ := hnd
  rw [hsp] at hfs hfsl hblk
  have hnd' : (g' :: ((es.take i ++ (([u0, u1], x, fx) : It TD) :: es.drop i).map (·.2.2)).flatten).Nodup := by
    rw [hm2, List.nodup_cons]
    refine ⟨fun q => ?_, List.nodup_append.2 ⟨n1, List.nodup_append.2 ⟨hxn, n2, fun b hb c hc e => ?_⟩, fun b hb c hc e => ?_⟩⟩
    · have hq : g' ∈ ((es.map (·.2.2)).take i).flatten ++ ((es.map (·.2.2)).drop i).flatten ∨ g' ∈ fx := by
        rcases List.mem_append.1 q with q | q
        · exact Or.inl (List.mem_append.2 (Or.inl q))
        · rcases List.mem_append.1 q with q | q
          · exact Or.inr q
          · exact Or.inl (List.mem_append.2 (Or.inr q))
      rcases hb' with e | e
      · simp only [Value.ownBlock] at e
        have e2 := hblk g' e.symm
        rcases hq with q | q
        · exact e2.2 q
        · exact hxf g' q e2.1
      · simp only [Value.ownBlock, Option.some.injEq] at e
        rcases hq with q | q
        · have := hfsl g' q; omega
        · have := hfx g' q; omega
    · subst e
      exact hxf b hb (hfs b (List.mem_append.2 (Or.inr hc)))
    · subst e
      rcases List.mem_append.1 hc with q | q
      · exact hxf b q (hfs b (List.mem_append.2 (Or.inl hb)))
      · exact n3 b hb b q rfl
  have hso' := hso hnd'
  rw [hm1] at hso'
  refine ⟨some ⟨g', 0, none⟩, cap', _, by rw [insK_length _ _ _ hi], by rw [insK_length _ _ _ hi]; exact hso', hnd', fun b hb => ?_, hO⟩
  rw [hm2] at hb
  rcases List.mem_cons.1 hb with rfl | hb
  · rcases hb' with e | e
    · simp only [Value.ownBlock] at e
      exact Or.inl (hblk b e.symm).1
    · simp only [Value.ownBlock, Option.some.injEq] at e
      exact Or.inr (Or.inr e)
  · rcases List.mem_append.1 hb with q | q
    · exact Or.inl (hfs b (List.mem_append.2 (Or.inl q)))
    · rcases List.mem_append.1 q with q | q
      · exact Or.inr (Or.inl q)
      · exact Or.inl (hfs b (List.mem_append.2 (Or.inr q)))
end Go.Proofs.Ytndffcogddefiaa
namespace Go.Proofs.Ytndffcogddefiaa
open Go.RowKit Go.Deep
/-- may a tree be put in there? -/
def insP (d : TD) (q : List Int) (p : Int) : Prop := okP d q = true ∧ 0 ≤ p ∧ p ≤ ((kidsOf (endP d q)).length : Int)
/-- what insertIn answers -/
def InsR (w w' : World) (R : Nat) (C : Array Value) (fs : List Nat) (d : TD) (kp : Value) (q : List Int) (p : Int) (x : TD) (e : Ending) : Prop :=
  (okP d q = true ∧ 0 ≤ p ∧ p ≤ ((kidsOf (endP d q)).length : Int) ∧ e = .returned (.tuple #[.iface 88 (.agg #[kp]), .bool true]) ∧ Turned w w' R C fs (setP d q (mkT (strT (endP d q)) (insK (kidsOf (endP d q)) p.toNat x))) ∧ Out (R :: fs) w w') ∨ (¬ insP d q p ∧ e = .returned (.tuple #[.nilIface, .bool false]) ∧ Below w.heap.size w w')
set_option maxRecDepth 100000 in
set_option maxHeartbeats 8000000 in
theorem insertIn_any {w : World} {n nx R lo m cp : Nat} {ap : Option Addr} {C : Array Value} {cs : List Value} {d x : TD} {fs : List Nat} {path : List Int} {p : Int} {tx kx : Value} (hrow0 : RowIs w R 0 C 26 cs) (hl0 : cs.length = 2) (htP : TreeP n w cs d fs) (hnd0 : fs.Nodup) (hb00 : R ∉ fs) (hRd : RightT d) (hp0 : SeqAt 1 IntAt w lo (.slice ap path.length cp) path) (hpt0 : SeqAt 1 IntAt w lo (.slice ap m cp) (path.take m)) (hm0 : path.length = m + 1) (hcp0 : path.length ≤ cp) (hpp : path = path.take m ++ [p]) (htx0 : TreeAt w lo nx tx kx x) (hRx0 : RightT x) :
    Calls Try.prog 66 #[.pointer (some ⟨R, 0, none⟩), .agg #[.slice ap path.length cp, tx, kx]] w fun e w' => InsR w w' R C fs d (.slice ap path.length cp) (path.take m) p x e := by
  obtain ⟨rfl, _⟩ := htx0.tag
  obtain ⟨_, ax, cx, rfl⟩ := htx0.form
  have hrow : Hid (RowIs w R 0 C 26 cs) := hrow0
  have hl : Hid (cs.length = 2) := hl0
  have htp : Hid (TreeP n w cs d fs) := htP
  have ht : Hid (TreeO n w cs d fs) := TreeP.toO _ _ _ _ _ htP
  have hnd : Hid (fs.Nodup) := hnd0
  have hb : Hid (R ∉ fs) := hb00
  have hp : Hid (SeqAt 1 IntAt w lo (.slice ap path.length cp) path) := hp0
  have hpt : Hid (SeqAt 1 IntAt w lo (.slice ap m cp) (path.take m)) := hpt0
  have hm : Hid (path.length = m + 1) := hm0
  have hcp : Hid (path.length ≤ cp) := hcp0
  have hpq : Hid (path = path.take m ++ [p]) := hpp
  have htx : Hid (TreeAt w lo nx (.string (strT x)) (.slice ax (kidsOf x).length cx) x) := htx0
  have hRx : Hid (RightT x) := hRx0
  have hRd' : Hid (RightT d) := hRd
  clear hrow0 hl0 htP hnd0 hb00 hp0 hpt0 hm0 hcp0 hpp htx0 hRx0 hRd
  have hb0 : Hid (Below w.heap.size w (w.alloc (.cells #[.slice ap path.length cp, .string (strT x), .slice ax (kidsOf x).length cx] 90))) := (Below.refl _ _).alloc (Nat.le_refl _) _
  have bC0 : Hid (Box (w.alloc (.cells #[.slice ap path.length cp, .string (strT x), .slice ax (kidsOf x).length cx] 90)) w.heap.size [.slice ap path.length cp, .string (strT x), .slice ax (kidsOf x).length cx] 90) := Box.new w _ _
  have hfl : Hid (∀ x ∈ fs, x < w.heap.size) := fun x hx => TreeO_lt n _ _ _ _ ht.out x hx
  go_enter Try.func66, Try.ntmps66
  have p0 := bC0.out.cell 0 rfl
  go_wp2_with fail
  refine (splitPath_any (hp.out.below intAt_stays hb0.out) hm.out hcp.out).mono ?_
  rintro e w2 ⟨P, ⟨rfl, hpath⟩, hb2⟩
  have hB2 : Hid (Below w.heap.size w w2) := hb0.out.trans (hb2.mono hb0.out.size)
  have bC2 : Hid (Box w2 w.heap.size [.slice ap path.length cp, .string (strT x), .slice ax (kidsOf x).length cx] 90) := bC0.out.below hb2 bC0.out.lt
  have hPp : P = p := by
    have q := hpath.symm.trans hpq.out
    have q2 := List.append_cancel_left q
    injection q2
  subst hPp
  clear p0 hpath
  go_wp2_with fail
  refine (nodeAt_any (hrow.out.below hB2.out) hl.out (TreeO_stays n _ _ _ _ _ (fun x hx => hB2.out.block x (hfl.out x hx)) ht.out) hnd.out hb.out (hpt.out.below intAt_stays hB2.out)).mono ?_
  rintro e w3 ⟨hn3, hb3⟩
  have hB3 : Hid (Below w.heap.size w w3) := hB2.out.trans (hb3.mono hB2.out.size)
  have bC3 : Hid (Box w3 w.heap.size [.slice ap path.length cp, .string (strT x), .slice ax (kidsOf x).length cx] 90) := bC2.out.below hb3 bC2.out.lt
  rcases hn3 with ⟨hoka, bq, oq, rfl, hloc3⟩ | ⟨hoka, rfl⟩
  · have hokh : Hid (okP d (path.take m) = true) := hoka
    obtain ⟨b8, o8, n8, C8, T8, cs8, fs8, y1, y2, y3, y4, y5, y6, y7, _, y9, y10⟩ := zoom (path.take m) n w R 0 C 26 cs d fs hrow.out hl.out ht.out hnd.out hb.out hoka
    obtain ⟨rfl, rfl⟩ := LocP.one _ hloc3 (LocP.keep _ y9 hB2.out)
    obtain ⟨k8, rfl, hs8, htg8⟩ := y3.opened
    obtain ⟨a8, c8, rfl⟩ := hs8.form
    have hrn := zoomR (path.take m) n w R 0 bq oq cs d fs (fun m hm => by
      obtain ⟨C1, q1, _, _, _, q5⟩ := hrow.out
      rw [blk_cell q1]
      exact q5 m (by rw [hl.out]; exact hm)) htp.out hoka y9
    have hfew : (kidsOf (endP d (path.take m))).length ≤ 30 := (hRd'.out.ends _ hoka).few
    have c1 := y1.cell 1 rfl
    have hrn2 : (a8 = none ∧ c8 = 0) ∨ ∃ g, a8 = some ⟨g, 0, none⟩ ∧ 0 < (kidsOf (endP d (path.take m))).length ∧ RoomB w g c8 := by
      rcases hrn with e | ⟨g, n1, cap1, e, h0, hr⟩
      · rw [c1] at e
        injection e with e
        injection e with e1 _ e3
        exact Or.inl ⟨e1, e3⟩
      · rw [c1] at e
        injection e with e
        injection e with e1 e2 e3
        subst e1 e3
        exact Or.inr ⟨g, rfl, by omega, hr⟩
    have hroom : Hid (∀ (w5 : World) (o : Obj), Below w3.heap.size w3 w5 → (a8 = none ∧ c8 = 0) ∨ ∃ g, a8 = some ⟨g, 0, none⟩ ∧ 0 < (kidsOf (endP d (path.take m))).length ∧ RoomB (w5.alloc o) g c8) := fun w5 o hb5 => by
      rcases hrn2 with q | ⟨g, e, h0, hr⟩
      · exact Or.inl q
      · exact Or.inr ⟨g, e, h0, hr.keep ((hB3.out.trans ((hb5.alloc hb5.size o).mono hB3.out.size)).block g hr.lt)⟩
    have hs6 : Hid (∀ (w5 : World) (o : Obj), Below w3.heap.size w3 w5 → SeqOwn 2 (TreeO (n8 - 1 + nx)) (w5.alloc o) (.slice a8 (kidsOf (endP d (path.take m))).length c8) (kidsOf (endP d (path.take m))) fs8) := fun w5 o hb5 => SeqOwn.stays (TreeO_stays _) (SeqOwn.turn (fun _ _ _ _ h => TreeO_mono (by omega) h) hs8) (fun x hx => (hB3.out.trans ((hb5.alloc hb5.size o).mono hB3.out.size)).block x (hfl.out x (y7 x hx)))
    have hx6 : Hid (∀ (w5 : World) (o : Obj) (cs5 : List Value) (fs5 : List Nat), Below w3.heap.size w3 w5 → TreeO nx w5 cs5 x fs5 → TreeO (n8 - 1 + nx) (w5.alloc o) cs5 x fs5) := fun w5 o cs5 fs5 _ h => TreeO_stays _ _ _ _ _ _ (fun b hb => ((Below.refl w5.heap.size w5).alloc (Nat.le_refl _) o).block b (TreeO_lt _ _ _ _ _ h b hb)) (TreeO_mono (by omega) h)
    have hap : Hid (∀ (w5 : World) (fs5 : List Nat), Below w3.heap.size w3 w5 → (∀ b ∈ fs5, w3.heap.size ≤ b) → ∀ b ∈ fs5, b ∉ fs8) := fun w5 fs5 _ h b hb hq => by have h1 := h b hb; have h2 := hfl.out b (y7 b hq); have := hB3.out.size; omega
    have hvb : Hid (∀ (w5 : World), Below w3.heap.size w3 w5 → w5.heap.size ∉ fs8) := fun w5 hb5 hq => by have h2 := hfl.out _ (y7 _ hq); have h3 := hB3.out.size; have h4 := hb5.size; omega
    have bC6 : Hid (∀ (w5 : World) (o : Obj), Below w3.heap.size w3 w5 → Box (w5.alloc o) w.heap.size [.slice ap path.length cp, .string (strT x), .slice ax (kidsOf x).length cx] 90) := fun w5 o hb5 => (bC3.out.below hb5 bC3.out.lt).alloc o
    have hne8 : Hid (w.heap.size ∉ fs8) := fun hq => by have h2 := hfl.out _ (y7 _ hq); omega
    have hbql : Hid (bq < w.heap.size) := y1.lt
    have hneq : Hid (w.heap.size ≠ bq) := by have := y1.lt; show _ ≠ _; omega
    have hsub : Hid (∀ x ∈ bq :: fs8, x ∈ R :: fs) := fun x hx => by
      rcases List.mem_cons.1 hx with rfl | hx
      · rcases y6 with q | q
        · rw [q]; exact List.mem_cons_self
        · exact List.mem_cons_of_mem _ q
      · exact List.mem_cons_of_mem _ (y7 x hx)
    have hSall : Hid (∀ W', Below w3.heap.size w3 W' → W'.cell? ⟨w.heap.size, 1, none⟩ = some (.string (strT x)) ∧ W'.cell? ⟨w.heap.size, 2, none⟩ = some (.slice ax (kidsOf x).length cx)) := fun W' hb => by
      have b := bC3.out.below hb bC3.out.lt
      exact ⟨b.cell 1 rfl, b.cell 2 rfl⟩
    have hSk : Hid (∀ W', Below w3.heap.size w3 W' → W'.cell? ⟨bq, oq + 1, none⟩ = some (.slice a8 (kidsOf (endP d (path.take m))).length c8)) := fun W' hb => (y1.below (hB3.out.trans (hb.mono hB3.out.size))).cell 1 rfl
    have z1 := (y1.below hB3.out).cell 1 rfl
    have y1h : Hid (RowIs w bq oq C8 T8 [.string (strT (endP d (path.take m))), .slice a8 (kidsOf (endP d (path.take m))).length c8]) := y1
    have y5h : Hid (bq ∉ fs8) := y5
    have y10h : Hid _ := y10
    have tgh : Hid ((strT (endP d (path.take m))).size ≤ maxLen) := htg8
    clear y1 y2 y3 y4 y5 y6 y7 y9 y10 hs8 htg8 hrn hrn2 c1 hloc3 hb3 hb2 hoka
    by_cases hp0 : 0 ≤ P
    · by_cases hp1 : P ≤ ((kidsOf (endP d (path.take m))).length : Int)
      · obtain ⟨k, rfl⟩ := Int.eq_ofNat_of_zero_le hp0
        have hk : k ≤ (kidsOf (endP d (path.take m))).length := by omega
        have hp2 : ¬ ((k : Int) < 0) := by omega
        have hp3 : ¬ (((kidsOf (endP d (path.take m))).length : Int) < (k : Int)) := by omega
        go_upto_region 5 with fail
        refine wp_region_held_drew (S := fun w' => w'.cell? ⟨w.heap.size, 1, none⟩ = some (.string (strT x)) ∧ w'.cell? ⟨w.heap.size, 2, none⟩ = some (.slice ax (kidsOf x).length cx)) (by kernel_rfl) (hSall.out _ (Below.drew (Below.refl _ _))) (fun hHeld => ?_)
        refine tq (i := 0) (d := 33) ?_
        simp only [sz, ss]
        refine tq (i := 1) (d := 34) ?_
        simp only [sz, ss]
        refine tq (i := 2) (d := 35) ?_
        simp only [sz, ss]
        refine tq (i := 3) (d := 36) ?_
        simp only [sz, ss]
        refine tq (i := 5) (d := 38) ?_
        simp only [sz, ss]
        refine tq (i := 6) (d := 39) ?_
        simp only [sz, ss]
        refine tq (i := 7) (d := 40) ?_
        simp only [sz, ss]
        refine wpAnyH_ready (rs := [4, 8]) (by kernel_rfl) (by simp) ?_
        refine (AllReadyH.cons rfl (fun K hK => ?_) (AllReadyH.cons rfl (fun K hK => ?_) AllReadyH.nil))
        · have cF : w3.drew.cell? ⟨bq, oq + 1, none⟩ = some (.slice a8 (kidsOf (endP d (path.take m))).length c8) := hSk.out _ (Below.drew (Below.refl _ _))
          go_simp
          clear cF
          refine hK.out _ _ hHeld (fun hHeld => ?_)
          clear hK K
          refine wpAnyH_ready (rs := [8]) (by kernel_rfl) (by simp) ?_
          refine AllReadyH.cons rfl (fun K hK => ?_) AllReadyH.nil
          go_simp
          refine (cpI_all nx _ lo _ _ x (by exact TreeAt.below htx.out (Below.drew hB3.out)) hRx.out).mono ?_
          rintro e w5 ⟨⟨cs5, fs5, rfl, ho5, nd5, lo5⟩, hb5⟩
          have hb5h : Hid (Below w3.heap.size w3 w5) := undrew hb5
          obtain ⟨k5, rfl, hs5, _⟩ := ho5.opened
          obtain ⟨a5, c5, rfl⟩ := hs5.form
          have ho5h : Hid (TreeO nx w5 [.string (strT x), .slice a5 (kidsOf x).length c5] x fs5) := ho5
          have nd5h : Hid (fs5.Nodup) := nd5
          have lo5h : Hid (∀ b ∈ fs5, w3.heap.size ≤ b) := lo5
          clear ho5 nd5 lo5 hb5 hs5
          refine hK.out _ _ (hSall.out _ hb5h.out) (fun hHeld => ?_)
          clear hK K
          refine wpAnyH_ready (rs := [9]) (by kernel_rfl) (by simp) ?_
          refine AllReadyH.cons rfl (fun K hK => ?_) AllReadyH.nil
          go_simp
          have hb6h : Hid (Below w3.heap.size w3 (w5.alloc (.cells #[.string (strT x), .slice a5 (kidsOf x).length c5] 26))) := hb5h.out.alloc (by have := hb5h.out.size; exact this) _
          refine hK.out _ _ (hSall.out _ hb6h.out) (fun hHeld => ?_)
          clear hK K
          refine wpAnyH_ready (rs := [10]) (by kernel_rfl) (by simp) ?_
          refine AllReadyH.cons rfl (fun K hK => ?_) AllReadyH.nil
          go_simp
          refine (kids_insert (n := n8 - 1 + nx) (w := (w5.alloc (.cells #[.string (strT x), .slice a5 (kidsOf x).length c5] 26))) (vb := w5.heap.size) (TV := 26) (fs := fs8) (fx := fs5) (x := x) (by exact hs6.out w5 _ hb5h.out) (by exact hroom.out w5 _ hb5h.out) (by omega) (by omega) (by exact hx6.out w5 _ _ _ hb5h.out ho5h.out) nd5h.out (by exact hap.out w5 fs5 hb5h.out lo5h.out) (by exact Box.new w5 [_, _] _) (by exact hvb.out w5 hb5h.out)).mono ?_
          rintro e w7 ⟨a7, c7, fs7, rfl, hs7, hn7, hf7, hO7⟩
          have hs7h : Hid _ := hs7
          have hn7h : Hid _ := hn7
          have hf7h : Hid _ := hf7
          have hO7h : Hid (Out fs8 (w5.alloc (.cells #[.string (strT x), .slice a5 (kidsOf x).length c5] 26)) w7) := hO7
          clear hs7 hn7 hf7
          have r7 := (y1h.out.below (hB3.out.trans (hb6h.out.mono hB3.out.size))).out hO7 y5h.out
          have bC7 : Hid (Box w7 w.heap.size [.slice ap path.length cp, .string (strT x), .slice ax (kidsOf x).length cx] 90) := (hO7.keep (bC6.out w5 _ hb5h.out).lt hne8.out).trans (bC6.out w5 _ hb5h.out)
          have r71 := r7.cell 1 rfl
          have f71 := r7.unfrozen (oq + 1)
          have r7h : Hid (RowIs w7 bq oq C8 T8 [.string (strT (endP d (path.take m))), .slice a8 (kidsOf (endP d (path.take m))).length c8]) := r7
          clear hO7 r7
          refine hK.out _ _ ⟨bC7.out.cell 1 rfl, bC7.out.cell 2 rfl⟩ (fun hHeld => ?_)
          clear hK K
          refine tq (i := 11) (d := 44) ?_
          simp only [sz, ss]
          refine tq (i := 12) (d := 45) ?_
          simp only [sz, ss]
          refine wpAnyH_ready (rs := [13]) (by kernel_rfl) (by simp) ?_
          refine AllReadyH.cons rfl (fun K hK => ?_) AllReadyH.nil
          go_simp
          have bC8 : Hid (Box (w7.setCell ⟨bq, oq + 1, none⟩ (.slice a7 (insK (kidsOf (endP d (path.take m))) k x).length c7)) w.heap.size [.slice ap path.length cp, .string (strT x), .slice ax (kidsOf x).length cx] 90) := bC7.out.other (by have := bC3.out.lt; exact hneq.out) _
          have r8h : Hid (RowIs (w7.setCell ⟨bq, oq + 1, none⟩ (.slice a7 (insK (kidsOf (endP d (path.take m))) k x).length c7)) bq oq C8 T8 [.string (strT (endP d (path.take m))), .slice a7 (insK (kidsOf (endP d (path.take m))) k x).length c7]) := r7h.out.set (m := 1) (by simp) _
          refine hK.out _ _ ⟨bC8.out.cell 1 rfl, bC8.out.cell 2 rfl⟩ (fun hHeld => ?_)
          clear hK K
          refine wpAnyH_done (by kernel_rfl) ?_ _
          have k0 := bC8.out.cell 0 rfl
          go_wp2_with fail
          go_ret2
          have hO8 : Out (bq :: fs8) w (w7.setCell ⟨bq, oq + 1, none⟩ (.slice a7 (insK (kidsOf (endP d (path.take m))) k x).length c7)) := Out.set ((out_of_below (hB3.out.trans (hb6h.out.mono hB3.out.size))).trans (hO7h.out.wider (fun x hx => List.mem_cons_of_mem _ hx))) List.mem_cons_self _
          have hb7 : bq ∉ fs7 := fun q => by
            rcases hf7h.out bq q with q | q | q
            · exact y5h.out q
            · have h1 := lo5h.out bq q; have h2 := hbql.out; have h3 := hB3.out.size; omega
            · have h1 := hb5h.out.size; have h2 := hbql.out; have h3 := hB3.out.size; simp only [World.size_alloc] at q; omega
          refine Or.inl ⟨hokh.out, hp0, by omega, rfl, ?_, hO8.wider hsub.out⟩
          obtain ⟨cs3, fs3, q⟩ := y10h.out _ _ (mkT (strT (endP d (path.take m))) (insK (kidsOf (endP d (path.take m))) k x)) fs7 (n8 - 1 + nx + 1) rfl r8h.out hO8 ⟨_, fs7, rfl, SeqOwn.stays (TreeO_stays _) hs7h.out (fun x hx => set_other (fun q => hb7 (by rw [← q]; exact hx)) _), tgh.out, rfl⟩ hn7h.out hb7 (fun y hy => by
            rcases hf7h.out y hy with q | q | q
            · exact Or.inl q
            · have h1 := lo5h.out y q; have h3 := hB3.out.size; exact Or.inr (by omega)
            · have h1 := hb5h.out.size; have h3 := hB3.out.size; simp only [World.size_alloc] at q; exact Or.inr (by omega))
          exact ⟨cs3, fs3, _, q⟩
        · go_simp
          refine (cpI_all nx _ lo _ _ x (by exact TreeAt.below htx.out (Below.drew hB3.out)) hRx.out).mono ?_
          rintro e w5 ⟨⟨cs5, fs5, rfl, ho5, nd5, lo5⟩, hb5⟩
          have hb5h : Hid (Below w3.heap.size w3 w5) := undrew hb5
          obtain ⟨k5, rfl, hs5, _⟩ := ho5.opened
          obtain ⟨a5, c5, rfl⟩ := hs5.form
          have ho5h : Hid (TreeO nx w5 [.string (strT x), .slice a5 (kidsOf x).length c5] x fs5) := ho5
          have nd5h : Hid (fs5.Nodup) := nd5
          have lo5h : Hid (∀ b ∈ fs5, w3.heap.size ≤ b) := lo5
          clear ho5 nd5 lo5 hb5 hs5
          refine hK.out _ _ (hSall.out _ hb5h.out) (fun hHeld => ?_)
          clear hK K
          refine wpAnyH_ready (rs := [4, 9]) (by kernel_rfl) (by simp) ?_
          refine (AllReadyH.cons rfl (fun K hK => ?_) (AllReadyH.cons rfl (fun K hK => ?_) AllReadyH.nil))
          · have cF : w5.cell? ⟨bq, oq + 1, none⟩ = some (.slice a8 (kidsOf (endP d (path.take m))).length c8) := hSk.out _ hb5h.out
            go_simp
            clear cF
            refine hK.out _ _ hHeld (fun hHeld => ?_)
            clear hK K
            refine wpAnyH_ready (rs := [9]) (by kernel_rfl) (by simp) ?_
            refine AllReadyH.cons rfl (fun K hK => ?_) AllReadyH.nil
            go_simp
            have hb6h : Hid (Below w3.heap.size w3 (w5.alloc (.cells #[.string (strT x), .slice a5 (kidsOf x).length c5] 26))) := hb5h.out.alloc (by have := hb5h.out.size; exact this) _
            refine hK.out _ _ (hSall.out _ hb6h.out) (fun hHeld => ?_)
            clear hK K
            refine wpAnyH_ready (rs := [10]) (by kernel_rfl) (by simp) ?_
            refine AllReadyH.cons rfl (fun K hK => ?_) AllReadyH.nil
            go_simp
            refine (kids_insert (n := n8 - 1 + nx) (w := (w5.alloc (.cells #[.string (strT x), .slice a5 (kidsOf x).length c5] 26))) (vb := w5.heap.size) (TV := 26) (fs := fs8) (fx := fs5) (x := x) (by exact hs6.out w5 _ hb5h.out) (by exact hroom.out w5 _ hb5h.out) (by omega) (by omega) (by exact hx6.out w5 _ _ _ hb5h.out ho5h.out) nd5h.out (by exact hap.out w5 fs5 hb5h.out lo5h.out) (by exact Box.new w5 [_, _] _) (by exact hvb.out w5 hb5h.out)).mono ?_
            rintro e w7 ⟨a7, c7, fs7, rfl, hs7, hn7, hf7, hO7⟩
            have hs7h : Hid _ := hs7
            have hn7h : Hid _ := hn7
            have hf7h : Hid _ := hf7
            have hO7h : Hid (Out fs8 (w5.alloc (.cells #[.string (strT x), .slice a5 (kidsOf x).length c5] 26)) w7) := hO7
            clear hs7 hn7 hf7
            have r7 := (y1h.out.below (hB3.out.trans (hb6h.out.mono hB3.out.size))).out hO7 y5h.out
            have bC7 : Hid (Box w7 w.heap.size [.slice ap path.length cp, .string (strT x), .slice ax (kidsOf x).length cx] 90) := (hO7.keep (bC6.out w5 _ hb5h.out).lt hne8.out).trans (bC6.out w5 _ hb5h.out)
            have r71 := r7.cell 1 rfl
            have f71 := r7.unfrozen (oq + 1)
            have r7h : Hid (RowIs w7 bq oq C8 T8 [.string (strT (endP d (path.take m))), .slice a8 (kidsOf (endP d (path.take m))).length c8]) := r7
            clear hO7 r7
            refine hK.out _ _ ⟨bC7.out.cell 1 rfl, bC7.out.cell 2 rfl⟩ (fun hHeld => ?_)
            clear hK K
            refine tq (i := 11) (d := 44) ?_
            simp only [sz, ss]
            refine tq (i := 12) (d := 45) ?_
            simp only [sz, ss]
            refine wpAnyH_ready (rs := [13]) (by kernel_rfl) (by simp) ?_
            refine AllReadyH.cons rfl (fun K hK => ?_) AllReadyH.nil
            go_simp
            have bC8 : Hid (Box (w7.setCell ⟨bq, oq + 1, none⟩ (.slice a7 (insK (kidsOf (endP d (path.take m))) k x).length c7)) w.heap.size [.slice ap path.length cp, .string (strT x), .slice ax (kidsOf x).length cx] 90) := bC7.out.other (by have := bC3.out.lt; exact hneq.out) _
            have r8h : Hid (RowIs (w7.setCell ⟨bq, oq + 1, none⟩ (.slice a7 (insK (kidsOf (endP d (path.take m))) k x).length c7)) bq oq C8 T8 [.string (strT (endP d (path.take m))), .slice a7 (insK (kidsOf (endP d (path.take m))) k x).length c7]) := r7h.out.set (m := 1) (by simp) _
            refine hK.out _ _ ⟨bC8.out.cell 1 rfl, bC8.out.cell 2 rfl⟩ (fun hHeld => ?_)
            clear hK K
            refine wpAnyH_done (by kernel_rfl) ?_ _
            have k0 := bC8.out.cell 0 rfl
            go_wp2_with fail
            go_ret2
            have hO8 : Out (bq :: fs8) w (w7.setCell ⟨bq, oq + 1, none⟩ (.slice a7 (insK (kidsOf (endP d (path.take m))) k x).length c7)) := Out.set ((out_of_below (hB3.out.trans (hb6h.out.mono hB3.out.size))).trans (hO7h.out.wider (fun x hx => List.mem_cons_of_mem _ hx))) List.mem_cons_self _
            have hb7 : bq ∉ fs7 := fun q => by
              rcases hf7h.out bq q with q | q | q
              · exact y5h.out q
              · have h1 := lo5h.out bq q; have h2 := hbql.out; have h3 := hB3.out.size; omega
              · have h1 := hb5h.out.size; have h2 := hbql.out; have h3 := hB3.out.size; simp only [World.size_alloc] at q; omega
            refine Or.inl ⟨hokh.out, hp0, by omega, rfl, ?_, hO8.wider hsub.out⟩
            obtain ⟨cs3, fs3, q⟩ := y10h.out _ _ (mkT (strT (endP d (path.take m))) (insK (kidsOf (endP d (path.take m))) k x)) fs7 (n8 - 1 + nx + 1) rfl r8h.out hO8 ⟨_, fs7, rfl, SeqOwn.stays (TreeO_stays _) hs7h.out (fun x hx => set_other (fun q => hb7 (by rw [← q]; exact hx)) _), tgh.out, rfl⟩ hn7h.out hb7 (fun y hy => by
              rcases hf7h.out y hy with q | q | q
              · exact Or.inl q
              · have h1 := lo5h.out y q; have h3 := hB3.out.size; exact Or.inr (by omega)
              · have h1 := hb5h.out.size; have h3 := hB3.out.size; simp only [World.size_alloc] at q; exact Or.inr (by omega))
            exact ⟨cs3, fs3, _, q⟩
          · go_simp
            have hb6h : Hid (Below w3.heap.size w3 (w5.alloc (.cells #[.string (strT x), .slice a5 (kidsOf x).length c5] 26))) := hb5h.out.alloc (by have := hb5h.out.size; exact this) _
            refine hK.out _ _ (hSall.out _ hb6h.out) (fun hHeld => ?_)
            clear hK K
            refine wpAnyH_ready (rs := [4]) (by kernel_rfl) (by simp) ?_
            refine AllReadyH.cons rfl (fun K hK => ?_) AllReadyH.nil
            have cF : (w5.alloc (.cells #[.string (strT x), .slice a5 (kidsOf x).length c5] 26)).cell? ⟨bq, oq + 1, none⟩ = some (.slice a8 (kidsOf (endP d (path.take m))).length c8) := hSk.out _ hb6h.out
            go_simp
            clear cF
            refine hK.out _ _ hHeld (fun hHeld => ?_)
            clear hK K
            refine wpAnyH_ready (rs := [10]) (by kernel_rfl) (by simp) ?_
            refine AllReadyH.cons rfl (fun K hK => ?_) AllReadyH.nil
            go_simp
            refine (kids_insert (n := n8 - 1 + nx) (w := (w5.alloc (.cells #[.string (strT x), .slice a5 (kidsOf x).length c5] 26))) (vb := w5.heap.size) (TV := 26) (fs := fs8) (fx := fs5) (x := x) (by exact hs6.out w5 _ hb5h.out) (by exact hroom.out w5 _ hb5h.out) (by omega) (by omega) (by exact hx6.out w5 _ _ _ hb5h.out ho5h.out) nd5h.out (by exact hap.out w5 fs5 hb5h.out lo5h.out) (by exact Box.new w5 [_, _] _) (by exact hvb.out w5 hb5h.out)).mono ?_
            rintro e w7 ⟨a7, c7, fs7, rfl, hs7, hn7, hf7, hO7⟩
            have hs7h : Hid _ := hs7
            have hn7h : Hid _ := hn7
            have hf7h : Hid _ := hf7
            have hO7h : Hid (Out fs8 (w5.alloc (.cells #[.string (strT x), .slice a5 (kidsOf x).length c5] 26)) w7) := hO7
            clear hs7 hn7 hf7
            have r7 := (y1h.out.below (hB3.out.trans (hb6h.out.mono hB3.out.size))).out hO7 y5h.out
            have bC7 : Hid (Box w7 w.heap.size [.slice ap path.length cp, .string (strT x), .slice ax (kidsOf x).length cx] 90) := (hO7.keep (bC6.out w5 _ hb5h.out).lt hne8.out).trans (bC6.out w5 _ hb5h.out)
            have r71 := r7.cell 1 rfl
            have f71 := r7.unfrozen (oq + 1)
            have r7h : Hid (RowIs w7 bq oq C8 T8 [.string (strT (endP d (path.take m))), .slice a8 (kidsOf (endP d (path.take m))).length c8]) := r7
            clear hO7 r7
            refine hK.out _ _ ⟨bC7.out.cell 1 rfl, bC7.out.cell 2 rfl⟩ (fun hHeld => ?_)
            clear hK K
            refine tq (i := 11) (d := 44) ?_
            simp only [sz, ss]
            refine tq (i := 12) (d := 45) ?_
            simp only [sz, ss]
            refine wpAnyH_ready (rs := [13]) (by kernel_rfl) (by simp) ?_
            refine AllReadyH.cons rfl (fun K hK => ?_) AllReadyH.nil
            go_simp
            have bC8 : Hid (Box (w7.setCell ⟨bq, oq + 1, none⟩ (.slice a7 (insK (kidsOf (endP d (path.take m))) k x).length c7)) w.heap.size [.slice ap path.length cp, .string (strT x), .slice ax (kidsOf x).length cx] 90) := bC7.out.other (by have := bC3.out.lt; exact hneq.out) _
            have r8h : Hid (RowIs (w7.setCell ⟨bq, oq + 1, none⟩ (.slice a7 (insK (kidsOf (endP d (path.take m))) k x).length c7)) bq oq C8 T8 [.string (strT (endP d (path.take m))), .slice a7 (insK (kidsOf (endP d (path.take m))) k x).length c7]) := r7h.out.set (m := 1) (by simp) _
            refine hK.out _ _ ⟨bC8.out.cell 1 rfl, bC8.out.cell 2 rfl⟩ (fun hHeld => ?_)
            clear hK K
            refine wpAnyH_done (by kernel_rfl) ?_ _
            have k0 := bC8.out.cell 0 rfl
            go_wp2_with fail
            go_ret2
            have hO8 : Out (bq :: fs8) w (w7.setCell ⟨bq, oq + 1, none⟩ (.slice a7 (insK (kidsOf (endP d (path.take m))) k x).length c7)) := Out.set ((out_of_below (hB3.out.trans (hb6h.out.mono hB3.out.size))).trans (hO7h.out.wider (fun x hx => List.mem_cons_of_mem _ hx))) List.mem_cons_self _
            have hb7 : bq ∉ fs7 := fun q => by
              rcases hf7h.out bq q with q | q | q
              · exact y5h.out q
              · have h1 := lo5h.out bq q; have h2 := hbql.out; have h3 := hB3.out.size; omega
              · have h1 := hb5h.out.size; have h2 := hbql.out; have h3 := hB3.out.size; simp only [World.size_alloc] at q; omega
            refine Or.inl ⟨hokh.out, hp0, by omega, rfl, ?_, hO8.wider hsub.out⟩
            obtain ⟨cs3, fs3, q⟩ := y10h.out _ _ (mkT (strT (endP d (path.take m))) (insK (kidsOf (endP d (path.take m))) k x)) fs7 (n8 - 1 + nx + 1) rfl r8h.out hO8 ⟨_, fs7, rfl, SeqOwn.stays (TreeO_stays _) hs7h.out (fun x hx => set_other (fun q => hb7 (by rw [← q]; exact hx)) _), tgh.out, rfl⟩ hn7h.out hb7 (fun y hy => by
              rcases hf7h.out y hy with q | q | q
              · exact Or.inl q
              · have h1 := lo5h.out y q; have h3 := hB3.out.size; exact Or.inr (by omega)
              · have h1 := hb5h.out.size; have h3 := hB3.out.size; simp only [World.size_alloc] at q; exact Or.inr (by omega))
            exact ⟨cs3, fs3, _, q⟩
      · have hp2 : ¬ (P < 0) := by omega
        have hp3 : ((kidsOf (endP d (path.take m))).length : Int) < P := by omega
        go_wp2_with fail
        go_ret2
        exact Or.inr ⟨fun q => by have := q.2.2; omega, rfl, hB3.out⟩
    · have hp2 : P < 0 := by omega
      go_wp2_with fail
      go_ret2
      exact Or.inr ⟨fun q => by have := q.2.1; omega, rfl, hB3.out⟩
  · have hok' : Hid (okP d (path.take m) = false) := hoka
    go_wp2_with fail
    go_ret2
    exact Or.inr ⟨fun q => absurd q.1 (by rw [hok'.out]; simp), rfl, hB3.out⟩
end Go.Proofs.Ytndffcogddefiaa
