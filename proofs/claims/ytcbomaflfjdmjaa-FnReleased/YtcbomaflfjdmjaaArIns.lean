/- slices.Insert of whole numbers, one value ahead of all, walked: nothing there; room; no room. -/
import Derived.Test.YtcbomaflfjdmjaaOwnRows
import Derived.Test.YtcbomaflfjdmjaaListCopy
import Derived.Laws.CopyOwn
import Derived.Lib.AppendZeros
import Derived.Lib.AppendZerosOnto
import Derived.Lib.Overlaps
import Derived.Maps.AppendAt
import Derived.Deep.RegionLaw
namespace Go.Proofs.Ytcbomaflfjdmjaa
open Go.RowKit
/-- a copy in a region that draws, into a row that is known whole -/
theorem step_copy_row {P : Program} {ops : Array Oper} {o : Oper} {a : Act} {w : World} {K : Act → World → Prop} {Q : Exit → Act → World → Prop} {E : Prop} (hgd : o.guard = none) (d s : Operand) (dT sT : TypeId)
    (ho : o.op = .call { callee := .builtin .copy, args := #[d, s], argTypes := #[dT, sT] }) (u v : Value) (hd : a.eval d = u) (hs : a.eval s = v) (r : Value) (w' : World) (hr : (Builtin.copy_ #[dT, sT] o.type #[u, v]).run P w = .ok r w')
    (h : K (a.put o.dst r) w') : if Region.wanted o (yielded ops a.tmps) = true then Oper.wp P o a w K Q else E := by
  rw [if_pos (by simp [Region.wanted, hgd])]
  unfold Oper.wp
  simp [execOp, ho, resolve, invoke, builtin, hd, hs, hr, Result.andThen]
  exact h
theorem wpList_copy_eq {P : Program} {w : World} {ops : Array Oper} {rest : List Oper} {o : Oper} {a : Act} {Q : Exit → Act → World → Prop} (hgd : o.guard = none) (d s : Operand) (dT sT : TypeId)
    (ho : o.op = .call { callee := .builtin .copy, args := #[d, s], argTypes := #[dT, sT] }) (u v : Value) (hd : a.eval d = u) (hs : a.eval s = v) (r : Value) (w' : World) (hr : (Builtin.copy_ #[dT, sT] o.type #[u, v]).run P w = .ok r w')
    (h : wpList P ops Q rest (a.put o.dst r) w') : wpList P ops Q (o :: rest) a w := by
  refine wpList_plain hgd fun K hK => ?_
  unfold Oper.wp
  simp [execOp, ho, resolve, invoke, builtin, hd, hs, hr, Result.andThen]
  exact hK _ _ h
theorem row_cells {w : World} {g n : Nat} {cur : Array Value} {T : TypeId} {L : List Value} (hg : w.heap[g]? = some (.cells cur T (0, 0))) (hL : cur.toList.take n = L) {j : Nat} {u : Value} (hj : L[j]? = some u) : w.cell? ((⟨g, 0, none⟩ : Addr).add j) = some u := by
  have h1 : cur.toList[j]? = some u := by
    rw [← hL, List.getElem?_take] at hj
    split at hj
    · exact hj
    · cases hj
  have h2 : cur[j]? = some u := by simpa using h1
  unfold Addr.add
  by_cases e0 : j = 0
  · subst e0; simp [World.cell?, hg, h2]
  · rw [if_neg e0]; simp [World.cell?, hg, h2]
theorem sizeI : ∀ w, (Go.sizeOf 2).run Try.prog w = .ok 1 w := by
  obtain ⟨i, hi, _, h1, _⟩ := info_parts2 infoI
  intro w
  simp [Go.sizeOf, typeInfo, hi, h1]
set_option maxRecDepth 100000 in
set_option maxHeartbeats 2000000 in
/-- nothing there yet -/
theorem insertI_none {w : World} {base vb : Nat} {v : Value} {h : Int} (hown : w.ownsRow base 2 1 v 0 []) (hbase : base ≤ w.heap.size) (hv : w.cell? ⟨vb, 0, none⟩ = some (.int .i64 h)) :
    Calls Try.prog 39 #[v, .int .i64 0, .slice (some ⟨vb, 0, none⟩) 1 1] w fun e w' => (∃ v', e = .returned v' ∧ w'.ownsRow base 2 1 v' 1 [.int .i64 h] ∧ (v'.ownBlock = v.ownBlock ∨ v'.ownBlock = some w.heap.size)) ∧ w.grownBy w' v.ownBlock := by
  obtain ⟨iT, hiT0, heT0, heT1, heT2⟩ := info_parts2 infoI
  have hiT : Hid (Try.prog.info? 2 = some iT) := hiT0
  have heT : Hid (iT.zero = some (.int .i64 0) ∧ iT.size = 1 ∧ iT.bytes = 8) := ⟨heT0, heT1, heT2⟩
  clear hiT0 heT0 heT1 heT2
  have hown' : Hid (w.ownsRow base 2 1 v 0 []) := hown
  have hsrc : Hid (∀ j u, [Value.int .i64 h][j]? = some u → w.cell? ((⟨vb, 0, none⟩ : Addr).add j) = some u) := by
    intro j u hj
    match j, hj with
    | 0, hj => simp at hj; subst hj; simpa [Addr.add] using hv
    | j + 1, hj => simp at hj
  have hvc : ∃ ad c, v = .slice ad 0 c := by
    rcases hown.2 with ⟨rfl, _⟩ | ⟨g, cap, cur, rfl, _⟩
    · exact ⟨_, _, rfl⟩
    · exact ⟨_, _, rfl⟩
  obtain ⟨ad, c, rfl⟩ := hvc
  clear hown hv
  go_enter Try.func39, Try.ntmps39
  cases ad with
  | none =>
    go_wp2_with (at_builtin; refine wpList_append_own_at _ rfl _ _ 25 rfl base 2 iT _ 1 8 Try.underlying25 hiT.out heT.out.1 heT.out.2.1 heT.out.2.2 rfl (by decide) _ 0 [] rfl hown'.out ⟨vb, 0, none⟩ 1 1 [.int .i64 h] rfl rfl hsrc.out (by simp [Value.oneCell']) (by decide) (by decide) hbase ?_; intro v1 w1 ho1 hg1 _ hat1; have ho1' : Hid _ := ho1; have hg1' : Hid _ := hg1; have hat1' : Hid _ := hat1; clear ho1 hg1 hat1)
    go_ret
    exact ⟨⟨_, rfl, ho1'.out, hat1'.out⟩, hg1'.out⟩
  | some a =>
    obtain ⟨ab, ao, asp⟩ := a
    go_wp2_with (at_builtin; refine wpList_append_own_at _ rfl _ _ 25 rfl base 2 iT _ 1 8 Try.underlying25 hiT.out heT.out.1 heT.out.2.1 heT.out.2.2 rfl (by decide) _ 0 [] rfl hown'.out ⟨vb, 0, none⟩ 1 1 [.int .i64 h] rfl rfl hsrc.out (by simp [Value.oneCell']) (by decide) (by decide) hbase ?_; intro v1 w1 ho1 hg1 _ hat1; have ho1' : Hid _ := ho1; have hg1' : Hid _ := hg1; have hat1' : Hid _ := hat1; clear ho1 hg1 hat1)
    all_goals (go_ret; exact ⟨⟨_, rfl, ho1'.out, hat1'.out⟩, hg1'.out⟩)
theorem splice_room {L X : List Value} {u : Value} (h : X.length + 1 ≤ L.length) : ((L.take 1 ++ X ++ L.drop (1 + X.length)).take 0 ++ [u] ++ (L.take 1 ++ X ++ L.drop (1 + X.length)).drop (0 + [u].length)).take (X.length + 1) = u :: X := by
  cases L with
  | nil => simp at h
  | cons y L => simp
set_option maxRecDepth 100000 in
set_option maxHeartbeats 2000000 in
/-- there is room -/
theorem insertI_room {w : World} {base g n c vb : Nat} {cur : Array Value} {X : List Value} {u : Value} {TV : TypeId} (hn : X.length = n) (h1 : 0 < n) (hc : n + 1 ≤ c) (hm : c ≤ maxLen) (hb : base ≤ g) (hg : w.heap[g]? = some (.cells cur 2 (0, 0))) (hs : cur.size = c) (hX : cur.toList.take n = X) (hX1 : ∀ x ∈ X, x.oneCell' = true) (hu1 : u.oneCell' = true) (hv : Box w vb [u] TV) (hne : vb ≠ g) :
    Calls Try.prog 39 #[.slice (some ⟨g, 0, none⟩) n c, .int .i64 0, .slice (some ⟨vb, 0, none⟩) 1 1] w fun e w' => (∃ v', e = .returned v' ∧ w'.ownsRow base 2 1 v' (n + 1) (u :: X) ∧ (v'.ownBlock = some g ∨ v'.ownBlock = some w.heap.size)) ∧ w.grownBy w' (some g) := by
  have hm' : c ≤ 9223372036854775807 := by simpa [maxLen] using hm
  have hsz : (Try.prog.info? 2).map (·.size) = some 1 := by
    obtain ⟨i, hi, _, h1, _⟩ := info_parts2 infoI
    rw [hi]; simp [h1]
  obtain ⟨R1, hR1⟩ : ∃ R1, R1 = (cur.toList.take 1 ++ X ++ cur.toList.drop (1 + X.length)).toArray := ⟨_, rfl⟩
  obtain ⟨R2, hR2⟩ : ∃ R2, R2 = (R1.toList.take 0 ++ [u] ++ R1.toList.drop (0 + [u].length)).toArray := ⟨_, rfl⟩
  have hR1s : R1.size = c := by rw [hR1]; simp; omega
  have hR2s : R2.size = c := by rw [hR2]; simp; omega
  have hR2t : Hid (R2.toList.take (n + 1) = u :: X) := by
    show R2.toList.take (n + 1) = u :: X
    rw [hR2, hR1, ← hn]
    exact splice_room (by have := Array.length_toList (xs := cur); omega)
  have hov : Hid (∀ lb cb, (callFunc 52 #[.slice (some ⟨vb, 0, none⟩) 1 1, .slice (some ⟨g, 1, none⟩) lb cb]).run Try.prog w = .ok (.value (.bool false)) w) := fun lb cb => by
    rw [run_callFunc_extern Try.func52 (by kernel_rfl) (by kernel_rfl) (by kernel_rfl) (e := Extern.SlicesOverlaps.overlaps #[25, 25] #[4]) (by kernel_rfl),
      Lib.run_overlaps_apart w 25 4 2 Try.underlying25 1 sizeI ⟨vb, 0, none⟩ ⟨g, 1, none⟩ 1 1 lb cb hne TV 2 1 c (by simp [World.shape?, show w.heap[vb]? = _ from hv]) (by simp [World.shape?, hg, hs]) (by omega) (by simp [World.frozen?, show w.heap[vb]? = _ from hv]) (by simp [World.frozen?, show w.heap[vb]? = _ from hv])]
    rfl
  have hcp1 : Hid (∀ (W : World), W.heap = w.heap → ∀ ty dc sl sc, n ≤ sl → (Builtin.copy_ #[25, 25] ty #[.slice (some ⟨g, 1, none⟩) n dc, .slice (some ⟨g, 0, none⟩) sl sc]).run Try.prog W = .ok (goInt n) (W.setRow g R1)) := fun W hW ty dc sl sc hsl => by
    have h := run_copy_row (P := Try.prog) W 25 25 ty 2 g 1 n dc ⟨g, 0, none⟩ sl sc cur 2 X Try.underlying25 hsz (by rw [hW]; exact hg) (by rw [hn]; simp only [Nat.min_def]; split <;> omega) (fun j v hj => row_cells (by rw [hW]; exact hg) hX hj) (by omega) hX1
    rw [h, hn, hR1, hn]
  have hcp2 : Hid (∀ (W : World), W.heap = (w.setRow g R1).heap → ∀ ty dl dc, 1 ≤ dl → (Builtin.copy_ #[25, 25] ty #[.slice (some ⟨g, 0, none⟩) dl dc, .slice (some ⟨vb, 0, none⟩) 1 1]).run Try.prog W = .ok (goInt 1) (W.setRow g R2)) := fun W hW ty dl dc hdl => by
    have h := run_copy_row (P := Try.prog) W 25 25 ty 2 g 0 dl dc ⟨vb, 0, none⟩ 1 1 R1 2 [u] Try.underlying25 hsz (by rw [hW]; exact setRow_heap w g _ _ _ _ hg) (by simp only [Nat.min_def]; split <;> simp <;> omega) (fun j v hj => by
      refine row_cells (cur := #[u]) (T := TV) (n := 1) (L := [u]) ?_ rfl hj
      rw [hW, setRow_other w g vb R1 hne]; exact hv) (by simp; omega) (by simpa using hu1)
    rw [h, hR2]; rfl
  have hend : Hid (∀ (W : World), W.os = w.os → W.tape = w.tape → W.output = w.output → W.heap = ((w.setRow g R1).setRow g R2).heap → W.ownsRow base 2 1 (.slice (some ⟨g, 0, none⟩) (n + 1) c) (n + 1) (u :: X) ∧ w.grownBy W (some g)) := fun W e1 e2 e3 hW => by
    refine ⟨⟨by simp [hn], Or.inr ⟨g, c, R2, rfl, hb, ?_, hc, hm, by omega, by simpa using hR2t.out⟩⟩, ⟨e1, e2, e3, by rw [hW]; simp, fun k hk hne => ?_⟩⟩
    · rw [hW]; exact setRow_heap _ g _ _ _ _ (setRow_heap w g _ _ _ _ hg)
    · have hkg : k ≠ g := fun e => hne (by rw [e])
      rw [hW, setRow_other _ g k _ hkg, setRow_other _ g k _ hkg]
  have hz2 : ¬ ((0 : Int) = (n : Int)) := by omega
  have hz3 : ¬ ((c : Int) < (n : Int) + 1) := by omega
  have hz4 : ¬ (c = 1) := by omega
  have hz5 : ¬ (c = 0) := by omega
  have hz6 : (n : Int) + 1 ≤ (c : Int) := by omega
  have hz7 : IntKind.i64.wrap 1 = 1 := rfl
  have hz8 : (1 : Int) ≤ (n : Int) + 1 := by omega
  have hz9 : (0 : Int) ≤ (n : Int) + 1 := by omega
  have hov' := hov.out
  clear hX hg hs hv hR1 hR2 hR1s hR2s hR2t hX1 hu1 hov
  go_enter Try.func39, Try.ntmps39
  go_wp2_with (simp only [hov'])
  have hcpX := hcp1.out w.drew rfl 3 (c - 1) (n + 1) c (by omega)
  go_region
  have hcpY := hcp2.out (w.drew.setRow g R1) rfl 3 (n + 1) c (by omega)
  go_wp2_with (simp only [hcpY])
  go_ret
  obtain ⟨q1, q2⟩ := hend.out ((w.drew.setRow g R1).setRow g R2) rfl rfl rfl rfl
  exact ⟨⟨_, rfl, q1, Or.inl rfl⟩, q2⟩
theorem splice_new {L X : List Value} {u : Value} (h : X.length + 1 ≤ L.length) : ((L.take 0 ++ [u] ++ L.drop (0 + [u].length)).take 1 ++ X ++ (L.take 0 ++ [u] ++ L.drop (0 + [u].length)).drop (1 + X.length)).take (X.length + 1) = u :: X := by
  cases L with
  | nil => simp at h
  | cons y L => simp
set_option maxRecDepth 100000 in
set_option maxHeartbeats 2000000 in
/-- there is no room -/
theorem insertI_grow {w : World} {base g n vb : Nat} {cur : Array Value} {X : List Value} {u : Value} {TV : TypeId} (hn : X.length = n) (h1 : 0 < n) (h12 : n ≤ 1000) (hb : base ≤ w.heap.size) (hg : w.heap[g]? = some (.cells cur 2 (0, 0))) (hX : cur.toList.take n = X) (hX1 : ∀ x ∈ X, x.oneCell' = true) (hu1 : u.oneCell' = true) (hv : Box w vb [u] TV) :
    Calls Try.prog 39 #[.slice (some ⟨g, 0, none⟩) n n, .int .i64 0, .slice (some ⟨vb, 0, none⟩) 1 1] w fun e w' => (∃ v', e = .returned v' ∧ w'.ownsRow base 2 1 v' (n + 1) (u :: X) ∧ (v'.ownBlock = some g ∨ v'.ownBlock = some w.heap.size)) ∧ w.grownBy w' (some g) := by
  have hgw : g < w.heap.size := (Array.getElem?_eq_some_iff.1 hg).1
  have hvw : vb < w.heap.size := hv.lt
  obtain ⟨iT, hi0, hz0, hzs, hzb⟩ := info_parts2 infoI
  have hsz : (Try.prog.info? 2).map (·.size) = some 1 := by rw [hi0]; simp [hzs]
  have hold : (Builtin.firstCells iT.size 0 (.slice (some ⟨g, 0, none⟩) 0 n)).run Try.prog w.drew = .ok ([] : List Value).toArray w.drew := by
    rw [hzs]; exact run_firstCells_some w.drew 1 0 ⟨g, 0, none⟩ 0 n [] rfl (by simp)
  have hrz := fun ty => Lib.run_append_grow_zeros (P := Try.prog) w 25 3 ty 2 iT _ .i64 .i64 Try.underlying25 Try.underlying3 hi0 hz0 (some ⟨g, 0, none⟩) 0 n [] hold (n + 1) (by omega) (by omega) (by omega) (by omega) (by rw [hzb]; omega) (by rw [hzb, Nat.zero_add]; exact growslice_fits (by omega) (by omega))
  simp only [Nat.zero_add] at hrz
  obtain ⟨G, hG⟩ : ∃ G, G = grownCap w (n + 1) n 2 := ⟨_, rfl⟩
  rw [← hG] at hrz
  obtain ⟨ROW, hROW⟩ : ∃ ROW : Array Value, ROW = ([] : List Value).toArray ++ Builtin.zeroCells (Value.int .i64 0).cells (n + 1) ++ Builtin.zeroCells (Value.int .i64 0).cells (G - (n + 1)) := ⟨_, rfl⟩
  rw [← hROW] at hrz
  have hGn : n + 1 ≤ G := by rw [hG]; exact grownCap_ge w _ _ _
  have hGm : G ≤ maxLen := by rw [hG]; exact grownCap_le_maxLen w _ _ _ (by unfold maxLen; omega)
  have hG63 : G ≤ 9223372036854775807 := by simpa [maxLen] using hGm
  have hRl : ROW.size = G := by rw [hROW]; simp [Builtin.zeroCells, Value.cells]; omega
  obtain ⟨R1, hR1⟩ : ∃ R1, R1 = (ROW.toList.take 0 ++ [u] ++ ROW.toList.drop (0 + [u].length)).toArray := ⟨_, rfl⟩
  obtain ⟨R2, hR2⟩ : ∃ R2, R2 = (R1.toList.take 1 ++ X ++ R1.toList.drop (1 + X.length)).toArray := ⟨_, rfl⟩
  have hR1s : R1.size = G := by rw [hR1]; simp; omega
  have hR2s : R2.size = G := by rw [hR2]; simp; omega
  have hR2t : Hid (R2.toList.take (n + 1) = u :: X) := by
    show R2.toList.take (n + 1) = u :: X
    rw [hR2, hR1, ← hn]
    exact splice_new (by have := Array.length_toList (xs := ROW); omega)
  have hnew : (w.alloc (.cells ROW 2)).heap[w.heap.size]? = some (.cells ROW 2 (0, 0)) := (MapKept.heap_alloc w _).1
  have hold2 : ∀ k, k < w.heap.size → (w.alloc (.cells ROW 2)).heap[k]? = w.heap[k]? := fun k hk => ((Below.refl w.heap.size w).alloc (Nat.le_refl _) (.cells ROW 2)).block k hk
  have hcp1 : ∀ (W : World), W.heap = (w.alloc (.cells ROW 2)).heap → ∀ ty, (Builtin.copy_ #[25, 25] ty #[.slice (some ⟨w.heap.size, 0, none⟩) (n + 1) G, .slice (some ⟨vb, 0, none⟩) 1 1]).run Try.prog W = .ok (goInt 1) (W.setRow w.heap.size R1) := fun W hW ty => by
    have h := run_copy_row (P := Try.prog) W 25 25 ty 2 w.heap.size 0 (n + 1) G ⟨vb, 0, none⟩ 1 1 ROW 2 [u] Try.underlying25 hsz (by rw [hW]; exact hnew) (by simp only [Nat.min_def]; split <;> simp <;> omega) (fun j v hj => by
      refine row_cells (cur := #[u]) (T := TV) (n := 1) (L := [u]) ?_ rfl hj
      rw [hW, hold2 vb hvw]; exact hv) (by simp; omega) (by simpa using hu1)
    rw [h, hR1]; rfl
  have hcp2 : ∀ (W : World), W.heap = ((w.alloc (.cells ROW 2)).setRow w.heap.size R1).heap → ∀ ty, (Builtin.copy_ #[25, 25] ty #[.slice (some ⟨w.heap.size, 1, none⟩) n (G - 1), .slice (some ⟨g, 0, none⟩) n n]).run Try.prog W = .ok (goInt n) (W.setRow w.heap.size R2) := fun W hW ty => by
    have h := run_copy_row (P := Try.prog) W 25 25 ty 2 w.heap.size 1 n (G - 1) ⟨g, 0, none⟩ n n R1 2 X Try.underlying25 hsz (by rw [hW]; exact setRow_heap _ _ _ _ _ _ hnew) (by rw [hn]; simp only [Nat.min_def]; split <;> omega) (fun j v hj => by
      refine row_cells (cur := cur) (T := 2) (n := n) ?_ hX hj
      rw [hW, setRow_other _ _ g R1 (by omega), hold2 g hgw]; exact hg) (by omega) hX1
    rw [h, hn, hR2, hn]
  have hend : Hid (∀ (W : World), W.os = w.os → W.tape = w.tape → W.output = w.output → W.heap = (((w.alloc (.cells ROW 2)).setRow w.heap.size R1).setRow w.heap.size R2).heap → W.ownsRow base 2 1 (.slice (some ⟨w.heap.size, 0, none⟩) (n + 1) G) (n + 1) (u :: X) ∧ w.grownBy W (some g)) := fun W e1 e2 e3 hW => by
    refine ⟨⟨by simp [hn], Or.inr ⟨w.heap.size, G, R2, rfl, hb, ?_, hGn, hGm, by omega, by simpa using hR2t.out⟩⟩, ⟨e1, e2, e3, by rw [hW]; simp, fun k hk _ => ?_⟩⟩
    · rw [hW]; exact setRow_heap _ _ _ _ _ _ (setRow_heap _ _ _ _ _ _ hnew)
    · rw [hW, setRow_other _ _ k _ (by omega), setRow_other _ _ k _ (by omega)]; exact hold2 k hk
  have hz2 : ¬ ((0 : Int) = (n : Int)) := by omega
  have hz4 : ¬ (G = 1) := by omega
  have hz5 : ¬ (n = 0) := by omega
  have hz7 : IntKind.i64.wrap 1 = 1 := rfl
  have hz8 : (1 : Int) ≤ (n : Int) + 1 := by omega
  have hz9 : (0 : Int) ≤ (n : Int) + 1 := by omega
  have hcA := hcp1 (w.alloc (.cells ROW 2)).drew rfl 3
  have hcB := hcp2 ((w.alloc (.cells ROW 2)).drew.setRow w.heap.size R1).drew rfl 3
  have hrz' : Hid _ := hrz
  clear hX hg hv hR1 hR2 hR1s hR2s hR2t hX1 hu1 hcp1 hcp2 hnew hold2 hrz hold hROW hRl hG hGm hi0 hz0 hzs hzb hsz
  go_enter Try.func39, Try.ntmps39
  go_wp2_with (first | (at_builtin; refine Lib.wpList_append_run _ rfl _ _ _ _ rfl _ _ rfl rfl _ _ (hrz'.out _) ?_) | (simp only [hcA]))
  go_region
  go_wp2
  go_ret
  obtain ⟨q1, q2⟩ := hend.out (((w.alloc (.cells ROW 2)).drew.setRow w.heap.size R1).drew.setRow w.heap.size R2) rfl rfl rfl rfl
  exact ⟨⟨_, rfl, q1, Or.inr rfl⟩, q2⟩
theorem intOne {xs : List Int} : ∀ u ∈ (xs.map fun n => Value.int .i64 n), u.oneCell' = true := by
  intro u hu
  obtain ⟨q, _, rfl⟩ := List.mem_map.1 hu
  rfl
/-- one value laid ahead of a row of numbers that the call owns -/
theorem insertI_any {w : World} {base vb : Nat} {v : Value} {xs : List Int} {h : Int} {TV : TypeId} (hown : w.ownsRow base 2 1 v xs.length (xs.map fun n => Value.int .i64 n)) (hl : xs.length ≤ 12) (hbase : base ≤ w.heap.size) (hv : Box w vb [.int .i64 h] TV) (hne : v.ownBlock ≠ some vb) :
    Calls Try.prog 39 #[v, .int .i64 0, .slice (some ⟨vb, 0, none⟩) 1 1] w fun e w' => (∃ v', e = .returned v' ∧ w'.ownsRow base 2 1 v' (xs.length + 1) ((h :: xs).map fun n => Value.int .i64 n) ∧ (v'.ownBlock = v.ownBlock ∨ v'.ownBlock = some w.heap.size)) ∧ w.grownBy w' v.ownBlock := by
  by_cases h0 : xs.length = 0
  · obtain rfl := List.eq_nil_of_length_eq_zero h0
    exact insertI_none hown hbase (hv.cell 0 rfl)
  rcases hown.2 with ⟨_, q⟩ | ⟨g, cap, cur, rfl, e2, e3, e4, e5, e6, e7⟩
  · exact absurd q h0
  · rw [Nat.mul_one] at e6 e7
    have hng : vb ≠ g := fun e => hne (by rw [e]; rfl)
    by_cases hc : xs.length + 1 ≤ cap
    · exact insertI_room (by simp) (by omega) hc e5 e2 e3 e6 e7 intOne rfl hv hng
    · obtain rfl : cap = xs.length := by omega
      exact insertI_grow (by simp) (by omega) (by omega) hbase e3 e7 intOne rfl hv
end Go.Proofs.Ytcbomaflfjdmjaa
