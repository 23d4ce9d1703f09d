/- slices.Insert of trees, one record, walked: at the end; in room; without room. -/
import Derived.Test.YtfncmndgdomjiaaEdDel2
import Derived.Test.YtfncmndgdomjiaaEdRoom
import Derived.Laws.CopyOwn
import Derived.Lib.AppendZeros
import Derived.Lib.AppendZerosOnto
import Derived.Lib.Overlaps
import Derived.Maps.AppendAt
import Derived.Deep.RegionLaw
namespace Go.Proofs.Ytfncmndgdomjiaa
open Go.RowKit Go.Deep
theorem run_copy_rows {P : Program} (w : World) (dT sT ty elem : TypeId) (g o dLen dCap : Nat) (a : Addr) (sLen sCap k n : Nat) (cur : Array Value) (t : TypeId) (cs : List Value)
    (hu : P.underlying dT = some (.slice elem)) (hs : (P.info? elem).map (·.size) = some k)
    (hg : w.heap[g]? = some (.cells cur t (0, 0))) (hmin : Nat.min sLen dLen = n) (hn : cs.length = n * k)
    (hsrc : ∀ j v, cs[j]? = some v → w.cell? (a.add j) = some v) (hfit : o + cs.length ≤ cur.size) (h1 : ∀ v ∈ cs, v.oneCell' = true) :
    (Builtin.copy_ #[dT, sT] ty #[.slice (some ⟨g, o, none⟩) dLen dCap, .slice (some a) sLen sCap]).run P w =
      .ok (goInt n) (w.setRow g (cur.toList.take o ++ cs ++ cur.toList.drop (o + cs.length)).toArray) := by
  have hl := run_loadCells_list (P := P) w a cs hsrc
  have hst := run_storeCells_at P g o t cs 0 cur w hg (by simpa using hfit) h1
  cases hq : P.info? elem with
  | none => simp [hq] at hs
  | some i =>
    have hi : i.size = k := by simpa [hq] using hs
    simp [Builtin.copy_, run_underlying hu, Builtin.lenOf, Builtin.firstCells, sizeOf, typeInfo, hq, hi, hmin, ← hn, hl, hst]
theorem row_cellsX {w : World} {g o n : Nat} {cur : Array Value} {T : TypeId} {L : List Value} (hg : w.heap[g]? = some (.cells cur T (0, 0))) (hL : cur.toList.take n = L) : ∀ j v, (L.drop o)[j]? = some v → w.cell? ((⟨g, o, none⟩ : Addr).add j) = some v := by
  intro j v hj
  rw [add_lit, blk_cell hg]
  rw [← hL, List.getElem?_drop, List.getElem?_take] at hj
  split at hj
  · simpa using hj
  · cases hj
theorem sl_to1 (g o n cap : Nat) (h : n + 1 ≤ cap) (w : World) : (Instr.slice 31 (.slice (some ⟨g, o, none⟩) n cap) none (some (.int .i64 ((n : Int) + 1))) none).run Try.prog w = .ok (.slice (some ⟨g, o, none⟩) (n + 1) cap) w := by
  have h1 : (0 : Int) ≤ (n : Int) + 1 := by omega
  have h2 : (n : Int) + 1 ≤ (cap : Int) := by omega
  have h3 : ((n : Int) + 1).toNat = n + 1 := by omega
  simp [go_sem, Try.underlying31, h1, h2, h3]
theorem sl_low (g n cap k : Nat) (h : k ≤ n) (hn : n ≤ cap) : ∃ o' c', (∀ w : World, (Instr.slice 31 (.slice (some ⟨g, 0, none⟩) n cap) (some (.int .i64 (k : Int))) none none).run Try.prog w = .ok (.slice (some ⟨g, o', none⟩) (n - k) c') w) ∧ (k < n → o' = k * 2) := by
  have h1 : (0 : Int) ≤ (k : Int) := by omega
  have h2 : (k : Int) ≤ (n : Int) := by omega
  by_cases e : k = cap
  · refine ⟨0, 0, fun w => ?_, fun q => by omega⟩
    have en : n = cap := by omega
    subst en
    subst e
    simp [go_sem, Try.underlying31, h1]
  · refine ⟨k * 2, cap - k, fun w => ?_, fun _ => rfl⟩
    simp [go_sem, Try.underlying31, h1, h2]
    intro q; omega
theorem sl_low1 (g n cap k : Nat) (h : k + 1 < n) (hn : n ≤ cap) (w : World) : (Instr.slice 31 (.slice (some ⟨g, 0, none⟩) n cap) (some (.int .i64 ((k : Int) + 1))) none none).run Try.prog w = .ok (.slice (some ⟨g, k * 2 + 2, none⟩) (n - (k + 1)) (cap - (k + 1))) w := by
  have h1 : (0 : Int) ≤ (k : Int) + 1 := by omega
  have h2 : (k : Int) + 1 ≤ (n : Int) := by omega
  have h3 : ((k : Int) + 1).toNat = k + 1 := by omega
  have h4 : ¬ (k + 1 = cap) := by omega
  simp [go_sem, Try.underlying31, h1, h2, h3]
  rw [if_neg (fun q => h4 q.symm), Nat.succ_mul]
theorem wrap_one {n : Nat} (h : n ≤ 9223372036854775806) : wrap64 ((n : Int) + 1) = (n : Int) + 1 := by unfold wrap64; omega
theorem sizeT : ∀ w, (Go.sizeOf 33).run Try.prog w = .ok 2 w := by
  obtain ⟨i, hi, _, h1, _⟩ := info_parts infoTree
  intro w
  simp [Go.sizeOf, typeInfo, hi, h1]
theorem splice_roomT {L X : List Value} {u0 u1 : Value} {a : Nat} (hX : L.take X.length = X) (ha : a ≤ X.length) (hL : X.length + 2 ≤ L.length) : ((L.take (a + 2) ++ X.drop a ++ L.drop (a + 2 + (X.drop a).length)).take a ++ [u0, u1] ++ (L.take (a + 2) ++ X.drop a ++ L.drop (a + 2 + (X.drop a).length)).drop (a + [u0, u1].length)).take (X.length + 2) = X.take a ++ [u0, u1] ++ X.drop a := by
  have e1 : (L.take (a + 2) ++ X.drop a ++ L.drop (a + 2 + (X.drop a).length)).take a = X.take a := by
    rw [List.append_assoc, List.take_append_of_le_length (by simp; omega), List.take_take, Nat.min_eq_left (by omega), ← hX, List.take_take, Nat.min_eq_left ha]
  have e2 : (L.take (a + 2) ++ X.drop a ++ L.drop (a + 2 + (X.drop a).length)).drop (a + [u0, u1].length) = X.drop a ++ L.drop (a + 2 + (X.drop a).length) := by
    rw [List.append_assoc]
    exact List.drop_left' (by simp; omega)
  rw [e1, e2, ← List.append_assoc]
  exact List.take_left' (by simp; omega)
theorem splice_newT {L X : List Value} {u0 u1 : Value} {a : Nat} (hX : L.take a = X.take a) (ha : a ≤ X.length) : ((L.take a ++ [u0, u1] ++ L.drop (a + [u0, u1].length)).take (a + 2) ++ X.drop a ++ (L.take a ++ [u0, u1] ++ L.drop (a + [u0, u1].length)).drop (a + 2 + (X.drop a).length)).take (X.length + 2) = X.take a ++ [u0, u1] ++ X.drop a := by
  have e1 : (L.take a ++ [u0, u1] ++ L.drop (a + [u0, u1].length)).take (a + 2) = X.take a ++ [u0, u1] := by
    rw [hX]
    exact List.take_left' (by simp; omega)
  rw [e1]
  exact List.take_left' (by simp; omega)
theorem boxNews {w : World} {vb : Nat} {u0 u1 : Value} {TV : TypeId} (hv : Box w vb [u0, u1] TV) : ∀ j u, [u0, u1][j]? = some u → w.cell? ((⟨vb, 0, none⟩ : Addr).add j) = some u := by
  intro j u hj
  rw [add_lit, Nat.zero_add]
  exact hv.cell j hj
set_option maxRecDepth 100000 in
set_option maxHeartbeats 4000000 in
/-- at the end -/
theorem insT_end {w : World} {base vb n : Nat} {v : Value} {X : List Value} {u0 u1 : Value} {TV : TypeId} (hown : w.ownsRow base 33 2 v n X) (hn : n ≤ 1000) (hbase : base ≤ w.heap.size) (hv : Box w vb [u0, u1] TV) (hu1 : ∀ u ∈ [u0, u1], u.oneCell' = true) :
    Calls Try.prog 75 #[v, .int .i64 (n : Int), .slice (some ⟨vb, 0, none⟩) 1 1] w fun e w' => (∃ v', e = .returned v' ∧ w'.ownsRow base 33 2 v' (n + 1) (X ++ [u0, u1]) ∧ (v'.ownBlock = v.ownBlock ∨ v'.ownBlock = some w.heap.size)) ∧ w.grownBy w' v.ownBlock := by
  obtain ⟨iT, hiT0, heT0, heT1, heT2⟩ := info_parts infoTree
  have hiT : Hid (Try.prog.info? 33 = some iT) := hiT0
  have heT : Hid (iT.zero = some (.agg #[.string ByteArray.empty, .slice none 0 0]) ∧ iT.size = 2 ∧ iT.bytes = 40) := ⟨heT0, heT1, heT2⟩
  clear hiT0 heT0 heT1 heT2
  have hown' : Hid (w.ownsRow base 33 2 v n X) := hown
  have hsrc : Hid (∀ j u, [u0, u1][j]? = some u → w.cell? ((⟨vb, 0, none⟩ : Addr).add j) = some u) := boxNews hv
  have hu : Hid (∀ u ∈ [u0, u1], u.oneCell' = true) := hu1
  rcases hown.2 with ⟨rfl, rfl⟩ | ⟨g, cap, cur, rfl, _, _, q3, _, _, _⟩
  · clear hown hv hu1
    go_enter Try.func75, Try.ntmps75
    go_wp2_with (at_builtin; refine wpList_append_own_at _ rfl _ _ 31 rfl base 33 iT _ 2 40 Try.underlying31 hiT.out heT.out.1 heT.out.2.1 heT.out.2.2 rfl (by decide) _ 0 X rfl hown'.out ⟨vb, 0, none⟩ 1 1 [u0, u1] rfl rfl hsrc.out hu.out (by decide) (by decide) hbase ?_; intro v1 w1 ho1 hg1 _ hat1; have ho1' : Hid _ := ho1; have hg1' : Hid _ := hg1; have hat1' : Hid _ := hat1; clear ho1 hg1 hat1)
    go_ret
    exact ⟨⟨_, rfl, ho1'.out, hat1'.out⟩, hg1'.out⟩
  · obtain ⟨o1, c1, hsl, _⟩ := sl_low g n cap n (Nat.le_refl _) q3
    clear hown hv hu1
    go_enter Try.func75, Try.ntmps75
    go_wp2_with (at_builtin; refine wpList_append_own_at _ rfl _ _ 31 rfl base 33 iT _ 2 40 Try.underlying31 hiT.out heT.out.1 heT.out.2.1 heT.out.2.2 rfl (by decide) _ n X rfl hown'.out ⟨vb, 0, none⟩ 1 1 [u0, u1] rfl rfl hsrc.out hu.out (by unfold maxLen; omega) (by omega) hbase ?_; intro v1 w1 ho1 hg1 _ hat1; have ho1' : Hid _ := ho1; have hg1' : Hid _ := hg1; have hat1' : Hid _ := hat1; clear ho1 hg1 hat1)
    go_ret
    exact ⟨⟨_, rfl, ho1'.out, hat1'.out⟩, hg1'.out⟩
set_option maxRecDepth 100000 in
set_option maxHeartbeats 4000000 in
/-- there is room -/
theorem insT_room {w : World} {base g n i c vb : Nat} {cur : Array Value} {X : List Value} {u0 u1 : Value} {TV : TypeId} (hn : X.length = n * 2) (hi : i < n) (hc : n + 1 ≤ c) (hm : c ≤ maxLen) (hb : base ≤ g) (hg : w.heap[g]? = some (.cells cur 33 (0, 0))) (hs : cur.size = c * 2) (hX : cur.toList.take (n * 2) = X) (hX1 : ∀ x ∈ X, x.oneCell' = true) (hu1 : ∀ u ∈ [u0, u1], u.oneCell' = true) (hv : Box w vb [u0, u1] TV) (hne : vb ≠ g) :
    Calls Try.prog 75 #[.slice (some ⟨g, 0, none⟩) n c, .int .i64 (i : Int), .slice (some ⟨vb, 0, none⟩) 1 1] w fun e w' => (∃ v', e = .returned v' ∧ w'.ownsRow base 33 2 v' (n + 1) (X.take (i * 2) ++ [u0, u1] ++ X.drop (i * 2)) ∧ (v'.ownBlock = some g ∨ v'.ownBlock = some w.heap.size)) ∧ w.grownBy w' (some g) := by
  have hm' : c ≤ 9223372036854775807 := by simpa [maxLen] using hm
  have hwn : wrap64 ((n : Int) + 1) = (n : Int) + 1 := wrap_one (by omega)
  have hwi : wrap64 ((i : Int) + 1) = (i : Int) + 1 := wrap_one (by omega)
  have hz2 : ¬ ((i : Int) = (n : Int)) := by omega
  have hz3 : ¬ ((c : Int) < (n : Int) + 1) := by omega
  have hsz : (Try.prog.info? 33).map (·.size) = some 2 := by
    obtain ⟨i, hi, _, h1, _⟩ := info_parts infoTree
    rw [hi]; simp [h1]
  have hdl : (X.drop (i * 2)).length = (n - i) * 2 := by simp [hn]; omega
  obtain ⟨R1, hR1⟩ : ∃ R1, R1 = (cur.toList.take (i * 2 + 2) ++ X.drop (i * 2) ++ cur.toList.drop (i * 2 + 2 + (X.drop (i * 2)).length)).toArray := ⟨_, rfl⟩
  obtain ⟨R2, hR2⟩ : ∃ R2, R2 = (R1.toList.take (i * 2) ++ [u0, u1] ++ R1.toList.drop (i * 2 + [u0, u1].length)).toArray := ⟨_, rfl⟩
  have hR1s : R1.size = c * 2 := by rw [hR1]; simp [hn]; omega
  have hR2s : R2.size = c * 2 := by rw [hR2]; simp; omega
  have hR2t : Hid (R2.toList.take ((n + 1) * 2) = X.take (i * 2) ++ [u0, u1] ++ X.drop (i * 2)) := by
    show R2.toList.take ((n + 1) * 2) = _
    rw [hR2, hR1, show (n + 1) * 2 = X.length + 2 by omega]
    exact splice_roomT (by rw [hn]; exact hX) (by omega) (by have := Array.length_toList (xs := cur); omega)
  have hov : Hid (∀ lb cb, (callFunc 79 #[.slice (some ⟨vb, 0, none⟩) 1 1, .slice (some ⟨g, i * 2 + 2, none⟩) lb cb]).run Try.prog w = .ok (.value (.bool false)) w) := fun lb cb => by
    rw [run_callFunc_extern Try.func79 (by kernel_rfl) (by kernel_rfl) (by kernel_rfl) (e := Extern.SlicesOverlaps.overlaps #[31, 31] #[4]) (by kernel_rfl),
      Lib.run_overlaps_apart w 31 4 33 Try.underlying31 2 sizeT ⟨vb, 0, none⟩ ⟨g, i * 2 + 2, none⟩ 1 1 lb cb hne TV 33 2 (c * 2) (by simp [World.shape?, show w.heap[vb]? = _ from hv]) (by simp [World.shape?, hg, hs]) (by omega) (by simp [World.frozen?, show w.heap[vb]? = _ from hv]) (by simp [World.frozen?, show w.heap[vb]? = _ from hv])]
    rfl
  have hcp1 : Hid (∀ (W : World), W.heap = w.heap → ∀ ty dc sl sc, n - i ≤ sl → (Builtin.copy_ #[31, 31] ty #[.slice (some ⟨g, i * 2 + 2, none⟩) (n - i) dc, .slice (some ⟨g, i * 2, none⟩) sl sc]).run Try.prog W = .ok (goInt (n - i : Nat)) (W.setRow g R1)) := fun W hW ty dc sl sc hsl => by
    have h := run_copy_rows (P := Try.prog) W 31 31 ty 33 g (i * 2 + 2) (n - i) dc ⟨g, i * 2, none⟩ sl sc 2 (n - i) cur 33 (X.drop (i * 2)) Try.underlying31 hsz (by rw [hW]; exact hg) (by simp only [Nat.min_def]; split <;> omega) hdl (row_cellsX (by rw [hW]; exact hg) hX) (by rw [hdl]; omega) (fun v hv => hX1 v (List.mem_of_mem_drop hv))
    rw [h, hR1]
  have hcp2 : Hid (∀ (W : World), W.heap = (w.setRow g R1).heap → ∀ ty dl dc, 1 ≤ dl → (Builtin.copy_ #[31, 31] ty #[.slice (some ⟨g, i * 2, none⟩) dl dc, .slice (some ⟨vb, 0, none⟩) 1 1]).run Try.prog W = .ok (goInt 1) (W.setRow g R2)) := fun W hW ty dl dc hdl2 => by
    have h := run_copy_rows (P := Try.prog) W 31 31 ty 33 g (i * 2) dl dc ⟨vb, 0, none⟩ 1 1 2 1 R1 33 [u0, u1] Try.underlying31 hsz (by rw [hW]; exact setRow_heap w g _ _ _ _ hg) (by simp only [Nat.min_def]; split <;> omega) rfl (boxNews (TV := TV) (by show W.heap[vb]? = _; rw [hW, setRow_other w g vb R1 hne]; exact hv)) (by simp; omega) hu1
    rw [h, hR2]; rfl
  have hend : Hid (∀ (W : World), W.os = w.os → W.tape = w.tape → W.output = w.output → W.heap = ((w.setRow g R1).setRow g R2).heap → W.ownsRow base 33 2 (.slice (some ⟨g, 0, none⟩) (n + 1) c) (n + 1) (X.take (i * 2) ++ [u0, u1] ++ X.drop (i * 2)) ∧ w.grownBy W (some g)) := fun W e1 e2 e3 hW => by
    refine ⟨⟨by simp [hn]; omega, Or.inr ⟨g, c, R2, rfl, hb, ?_, hc, hm, by omega, hR2t.out⟩⟩, ⟨e1, e2, e3, by rw [hW]; simp, fun k hk hne => ?_⟩⟩
    · rw [hW]; exact setRow_heap _ g _ _ _ _ (setRow_heap w g _ _ _ _ hg)
    · have hkg : k ≠ g := fun e => hne (by rw [e])
      rw [hW, setRow_other _ g k _ hkg, setRow_other _ g k _ hkg]
  obtain ⟨o1, c1, hsl1, ho1⟩ := sl_low g n c i (by omega) (by omega)
  have hsl2 := sl_to1 g 0 n c hc
  have hsl3 := sl_low1 g (n + 1) c i (by omega) hc
  rw [show n + 1 - (i + 1) = n - i by omega] at hsl3
  obtain ⟨o4, c4, hsl4, ho4⟩ := sl_low g (n + 1) c i (by omega) hc
  obtain rfl : o4 = i * 2 := ho4 (by omega)
  have hov' := hov.out
  clear hX hg hs hv hR1 hR2 hR1s hR2s hR2t hX1 hu1 hov hdl ho1 ho4
  go_enter Try.func75, Try.ntmps75
  go_wp2_with (simp only [hov'])
  have hcpX := hcp1.out w.drew rfl 3 (c - (i + 1)) (n + 1 - i) c4 (by omega)
  go_region
  have hcpY := hcp2.out (w.drew.setRow g R1) rfl 3 (n + 1 - i) c4 (by omega)
  go_wp2_with (simp only [hcpY])
  go_ret
  obtain ⟨q1, q2⟩ := hend.out ((w.drew.setRow g R1).setRow g R2) rfl rfl rfl rfl
  exact ⟨⟨_, rfl, q1, Or.inl rfl⟩, q2⟩
set_option maxRecDepth 100000 in
set_option maxHeartbeats 4000000 in
/-- there is no room -/
theorem insT_grow {w : World} {base g n i vb : Nat} {cur : Array Value} {X : List Value} {u0 u1 : Value} {TV : TypeId} (hn : X.length = n * 2) (hi : i < n) (h12 : n ≤ 1000) (hb : base ≤ w.heap.size) (hg : w.heap[g]? = some (.cells cur 33 (0, 0))) (hX : cur.toList.take (n * 2) = X) (hX1 : ∀ x ∈ X, x.oneCell' = true) (hu1 : ∀ u ∈ [u0, u1], u.oneCell' = true) (hv : Box w vb [u0, u1] TV) :
    Calls Try.prog 75 #[.slice (some ⟨g, 0, none⟩) n n, .int .i64 (i : Int), .slice (some ⟨vb, 0, none⟩) 1 1] w fun e w' => (∃ v', e = .returned v' ∧ w'.ownsRow base 33 2 v' (n + 1) (X.take (i * 2) ++ [u0, u1] ++ X.drop (i * 2)) ∧ (v'.ownBlock = some g ∨ v'.ownBlock = some w.heap.size)) ∧ w.grownBy w' (some g) := by
  have hgw : g < w.heap.size := (Array.getElem?_eq_some_iff.1 hg).1
  have hvw : vb < w.heap.size := hv.lt
  have hwn : wrap64 ((n : Int) + 1) = (n : Int) + 1 := wrap_one (by omega)
  have hwi : wrap64 ((i : Int) + 1) = (i : Int) + 1 := wrap_one (by omega)
  have hz2 : ¬ ((i : Int) = (n : Int)) := by omega
  obtain ⟨iT, hi0, hz0, hzs, hzb⟩ := info_parts infoTree
  have hsz : (Try.prog.info? 33).map (·.size) = some 2 := by rw [hi0]; simp [hzs]
  have hdl : (X.drop (i * 2)).length = (n - i) * 2 := by simp [hn]; omega
  have htl : (X.take (i * 2)).length = i * 2 := by simp [hn]; omega
  have hold : (Builtin.firstCells iT.size i (.slice (some ⟨g, 0, none⟩) i n)).run Try.prog w.drew = .ok (X.take (i * 2)).toArray w.drew := by
    rw [hzs]
    refine run_firstCells_some w.drew 2 i ⟨g, 0, none⟩ i n (X.take (i * 2)) htl (fun j u hj => ?_)
    rw [add_lit, blk_cell (w := w.drew) hg, Nat.zero_add]
    rw [← hX, List.take_take, List.getElem?_take] at hj
    split at hj
    · simpa using hj
    · cases hj
  have hrz := fun ty => Lib.run_append_grow_zeros (P := Try.prog) w 31 3 ty 33 iT _ .i64 .i64 Try.underlying31 Try.underlying3 hi0 hz0 (some ⟨g, 0, none⟩) i n (X.take (i * 2)) hold (n + 1 - i) (by omega) (by omega) (by omega) (by omega) (by rw [hzb]; omega) (by rw [hzb]; exact growslice_fits (by omega) (by omega))
  rw [show i + (n + 1 - i) = n + 1 by omega] at hrz
  obtain ⟨G, hG⟩ : ∃ G, G = grownCap w (n + 1) n 33 := ⟨_, rfl⟩
  rw [← hG] at hrz
  obtain ⟨ROW, hROW⟩ : ∃ ROW : Array Value, ROW = (X.take (i * 2)).toArray ++ Builtin.zeroCells (Value.agg #[.string ByteArray.empty, .slice none 0 0]).cells (n + 1 - i) ++ Builtin.zeroCells (Value.agg #[.string ByteArray.empty, .slice none 0 0]).cells (G - (n + 1)) := ⟨_, rfl⟩
  rw [← hROW] at hrz
  have hGn : n + 1 ≤ G := by rw [hG]; exact grownCap_ge w _ _ _
  have hGm : G ≤ maxLen := by rw [hG]; exact grownCap_le_maxLen w _ _ _ (by unfold maxLen; omega)
  have hG63 : G ≤ 9223372036854775807 := by simpa [maxLen] using hGm
  have hRl : ROW.size = G * 2 := by rw [hROW]; simp [Builtin.zeroCells, Value.cells, hn]; omega
  have hRt : ROW.toList.take (i * 2) = X.take (i * 2) := by rw [hROW, Array.toList_append, Array.toList_append, List.append_assoc]; exact List.take_left' htl
  obtain ⟨R1, hR1⟩ : ∃ R1, R1 = (ROW.toList.take (i * 2) ++ [u0, u1] ++ ROW.toList.drop (i * 2 + [u0, u1].length)).toArray := ⟨_, rfl⟩
  obtain ⟨R2, hR2⟩ : ∃ R2, R2 = (R1.toList.take (i * 2 + 2) ++ X.drop (i * 2) ++ R1.toList.drop (i * 2 + 2 + (X.drop (i * 2)).length)).toArray := ⟨_, rfl⟩
  have hR1s : R1.size = G * 2 := by rw [hR1]; simp; omega
  have hR2s : R2.size = G * 2 := by rw [hR2]; simp [hn]; omega
  have hR2t : Hid (R2.toList.take ((n + 1) * 2) = X.take (i * 2) ++ [u0, u1] ++ X.drop (i * 2)) := by
    show R2.toList.take ((n + 1) * 2) = _
    rw [hR2, hR1, show (n + 1) * 2 = X.length + 2 by omega]
    exact splice_newT hRt (by omega)
  have hnew : (w.alloc (.cells ROW 33)).heap[w.heap.size]? = some (.cells ROW 33 (0, 0)) := (MapKept.heap_alloc w _).1
  have hold2 : ∀ k, k < w.heap.size → (w.alloc (.cells ROW 33)).heap[k]? = w.heap[k]? := fun k hk => ((Below.refl w.heap.size w).alloc (Nat.le_refl _) (.cells ROW 33)).block k hk
  have hcp1 : ∀ (W : World), W.heap = (w.alloc (.cells ROW 33)).heap → ∀ ty c9, (Builtin.copy_ #[31, 31] ty #[.slice (some ⟨w.heap.size, i * 2, none⟩) (n + 1 - i) c9, .slice (some ⟨vb, 0, none⟩) 1 1]).run Try.prog W = .ok (goInt 1) (W.setRow w.heap.size R1) := fun W hW ty c9 => by
    have h := run_copy_rows (P := Try.prog) W 31 31 ty 33 w.heap.size (i * 2) (n + 1 - i) c9 ⟨vb, 0, none⟩ 1 1 2 1 ROW 33 [u0, u1] Try.underlying31 hsz (by rw [hW]; exact hnew) (by simp only [Nat.min_def]; split <;> omega) rfl (boxNews (TV := TV) (by show W.heap[vb]? = _; rw [hW, hold2 vb hvw]; exact hv)) (by simp; omega) hu1
    rw [h, hR1]; rfl
  have hcp2 : ∀ (W : World), W.heap = ((w.alloc (.cells ROW 33)).setRow w.heap.size R1).heap → ∀ ty c9, (Builtin.copy_ #[31, 31] ty #[.slice (some ⟨w.heap.size, i * 2 + 2, none⟩) (n - i) (G - (i + 1)), .slice (some ⟨g, i * 2, none⟩) (n - i) c9]).run Try.prog W = .ok (goInt (n - i : Nat)) (W.setRow w.heap.size R2) := fun W hW ty c9 => by
    have h := run_copy_rows (P := Try.prog) W 31 31 ty 33 w.heap.size (i * 2 + 2) (n - i) (G - (i + 1)) ⟨g, i * 2, none⟩ (n - i) c9 2 (n - i) R1 33 (X.drop (i * 2)) Try.underlying31 hsz (by rw [hW]; exact setRow_heap _ _ _ _ _ _ hnew) (by simp) hdl (row_cellsX (by rw [hW, setRow_other _ _ g R1 (by omega), hold2 g hgw]; exact hg) hX) (by rw [hdl]; omega) (fun v hv => hX1 v (List.mem_of_mem_drop hv))
    rw [h, hR2]
  have hend : Hid (∀ (W : World), W.os = w.os → W.tape = w.tape → W.output = w.output → W.heap = (((w.alloc (.cells ROW 33)).setRow w.heap.size R1).setRow w.heap.size R2).heap → W.ownsRow base 33 2 (.slice (some ⟨w.heap.size, 0, none⟩) (n + 1) G) (n + 1) (X.take (i * 2) ++ [u0, u1] ++ X.drop (i * 2)) ∧ w.grownBy W (some g)) := fun W e1 e2 e3 hW => by
    refine ⟨⟨by simp [hn]; omega, Or.inr ⟨w.heap.size, G, R2, rfl, hb, ?_, hGn, hGm, by omega, hR2t.out⟩⟩, ⟨e1, e2, e3, by rw [hW]; simp, fun k hk _ => ?_⟩⟩
    · rw [hW]; exact setRow_heap _ _ _ _ _ _ (setRow_heap _ _ _ _ _ _ hnew)
    · rw [hW, setRow_other _ _ k _ (by omega), setRow_other _ _ k _ (by omega)]; exact hold2 k hk
  obtain ⟨o1, c1, hsl1, ho1⟩ := sl_low g n n i (by omega) (by omega)
  obtain rfl : o1 = i * 2 := ho1 hi
  have hsl2 := sl_to_at g 0 n n i (by omega)
  obtain ⟨o3, c3, hsl3, ho3⟩ := sl_low w.heap.size (n + 1) G i (by omega) hGn
  obtain rfl : o3 = i * 2 := ho3 (by omega)
  have hsl4 := sl_low1 w.heap.size (n + 1) G i (by omega) hGn
  rw [show n + 1 - (i + 1) = n - i by omega] at hsl4
  have hcA := hcp1 (w.alloc (.cells ROW 33)).drew rfl 3 c3
  have hcB := hcp2 ((w.alloc (.cells ROW 33)).drew.setRow w.heap.size R1).drew rfl 3 c1
  have hrz' : Hid _ := hrz
  obtain ⟨kk, hkk⟩ : ∃ kk, n + 1 - i = kk := ⟨_, rfl⟩
  obtain ⟨rr, hrr⟩ : ∃ rr, n - i = rr := ⟨_, rfl⟩
  simp only [hkk, hrr] at hrz' hcA hcB hsl1 hsl3 hsl4
  have hkI : (kk : Int) = (n : Int) + 1 - (i : Int) := by omega
  rw [hkI] at hrz'
  clear hX hg hv hR1 hR2 hR1s hR2s hR2t hX1 hu1 hcp1 hcp2 hnew hold2 hrz hold hROW hRl hG hGm hi0 hz0 hzs hzb hsz hRt htl hdl ho1 ho3 hkk hrr hGn hG63 hkI
  go_enter Try.func75, Try.ntmps75
  go_wp2_with (first | (at_builtin; refine Lib.wpList_append_run _ rfl _ _ _ _ rfl _ _ rfl rfl _ _ (hrz'.out _) ?_) | (simp only [hcA]))
  go_region
  go_wp2
  go_ret
  obtain ⟨q1, q2⟩ := hend.out (((w.alloc (.cells ROW 33)).drew.setRow w.heap.size R1).drew.setRow w.heap.size R2) rfl rfl rfl rfl
  exact ⟨⟨_, rfl, q1, Or.inr rfl⟩, q2⟩
/-- one record put into a row of trees that the call owns -/
theorem insT_any {w : World} {base vb n i : Nat} {v : Value} {X : List Value} {u0 u1 : Value} {TV : TypeId} (hown : w.ownsRow base 33 2 v n X) (hi : i ≤ n) (hl : n ≤ 1000) (hbase : base ≤ w.heap.size) (hX1 : ∀ x ∈ X, x.oneCell' = true) (hu1 : ∀ u ∈ [u0, u1], u.oneCell' = true) (hv : Box w vb [u0, u1] TV) (hne : v.ownBlock ≠ some vb) :
    Calls Try.prog 75 #[v, .int .i64 (i : Int), .slice (some ⟨vb, 0, none⟩) 1 1] w fun e w' => (∃ v', e = .returned v' ∧ w'.ownsRow base 33 2 v' (n + 1) (X.take (i * 2) ++ [u0, u1] ++ X.drop (i * 2)) ∧ (v'.ownBlock = v.ownBlock ∨ v'.ownBlock = some w.heap.size)) ∧ w.grownBy w' v.ownBlock := by
  by_cases h0 : i = n
  · subst h0
    have hlen : X.length = i * 2 := hown.1
    rw [List.take_of_length_le (by omega), List.drop_of_length_le (by omega), List.append_nil]
    exact insT_end hown hl hbase hv hu1
  rcases hown.2 with ⟨_, q⟩ | ⟨g, cap, cur, rfl, e2, e3, e4, e5, e6, e7⟩
  · omega
  · have hng : vb ≠ g := fun e => hne (by rw [e]; rfl)
    by_cases hc : n + 1 ≤ cap
    · exact insT_room hown.1 (by omega) hc e5 e2 e3 e6 e7 hX1 hu1 hv hng
    · obtain rfl : cap = n := by omega
      exact insT_grow hown.1 (by omega) hl hbase e3 e7 hX1 hu1 hv
end Go.Proofs.Ytfncmndgdomjiaa
