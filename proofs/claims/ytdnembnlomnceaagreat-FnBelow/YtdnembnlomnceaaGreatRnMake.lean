/- New things, and names for what there is: plain. -/
import Derived.Test.YtdnembnlomnceaaGreatAppendRows
import Derived.Test.YtdnembnlomnceaaGreatHpBox
import Derived.Test.YtdnembnlomnceaaGreatAbb
import Derived.Test.YtdnembnlomnceaaGreatTakeMore
import Derived.Test.YtdnembnlomnceaaGreatWrapW
namespace Go.Proofs.YtdnembnlomnceaaGreat
open Go.RowKit Go.Deep
theorem infoIntP : ((Tryz.prog.info? 2).map fun i => (i.zero, i.size, i.bytes)) = some (some (.int .i64 0), 1, 8) := by kernel_rfl
theorem box1P {w : World} {g : Nat} {x : Int} (h : Box w g [.int .i64 x] 2) (hx : InI x) : SeqAt 1 IntAt w 0 (.slice (some ⟨g, 0, none⟩) 1 1) [x] := by
 refine ⟨some ⟨g, 0, none⟩, 1, rfl, ⟨by show 1 ≤ maxLen; unfold maxLen; omega, Nat.le_refl _⟩, fun _ => ⟨g, 0, rfl, Nat.zero_le _, h.lt, fun i hi => ⟨[.int .i64 x], rfl, fun m hm => ?_, ?_⟩⟩⟩
 · obtain rfl : i = 0 := by simp at hi; omega
   obtain rfl : m = 0 := by simp at hm; omega
   exact h.cell 0 rfl
 · obtain rfl : i = 0 := by simp at hi; omega
   exact ⟨rfl, hx⟩
/-- a row of numbers that a call makes -/
def RowI (base : Nat) (w : World) (v : Value) (ks : List Int) : Prop := v ≠ .slice none 0 0 ∧ w.ownsRow base 2 1 v ks.length (ks.map fun n => .int .i64 n) ∧ ∀ k ∈ ks, InI k
theorem RowI.start {w : World} : RowI w.heap.size (w.alloc (.cells #[] 2)) (.slice (some ⟨w.heap.size, 0, none⟩) 0 0) [] := ⟨by simp, row_start (Nat.le_refl _), by simp⟩
theorem RowI.form {base : Nat} {w : World} {v : Value} {ks : List Int} (h : RowI base w v ks) : ∃ g cap, v = .slice (some ⟨g, 0, none⟩) ks.length cap := nonnil_row h.2.1 h.1
theorem RowI.below {base : Nat} {w w' : World} {v : Value} {ks : List Int} (h : RowI base w v ks) (hb : Below w.heap.size w w') : RowI base w' v ks := ⟨h.1, row_below h.2.1 hb, h.2.2⟩
theorem RowI.more {base : Nat} {w : World} {v' : Value} {ks : List Int} {k : Int} {n : Nat} (hk : ∀ k ∈ ks, InI k) (hk2 : InI k) (hn : n = ks.length + 1) (h1 : w.ownsRow base 2 1 v' n ((ks.map fun n => Value.int .i64 n) ++ [k].map fun n => Value.int .i64 n)) (h3 : v' ≠ .slice none 0 0) : RowI base w v' (ks ++ [k]) := by
 subst hn
 refine ⟨h3, by rw [List.length_append, List.map_append]; exact h1, fun z hz => ?_⟩
 rcases List.mem_append.1 hz with q | q
 · exact hk z q
 · rw [List.mem_singleton] at q; rw [q]; exact hk2
theorem RowI.seq {base : Nat} {w : World} {v : Value} {ks : List Int} (h : RowI base w v ks) : ∃ fs, SeqOwn 1 IntOwn w v ks fs ∧ ∀ b ∈ fs, base ≤ b := seqOwn_of_row h.2.1 h.2.2
theorem RowI.blocks {base : Nat} {w : World} {v : Value} {ks : List Int} (h : RowI base w v ks) : ∀ k, v.ownBlock = some k → base ≤ k := own_block2 h.2.1
end Go.Proofs.YtdnembnlomnceaaGreat
namespace Go.Proofs.YtdnembnlomnceaaGreat
open Go.RowKit Go.Deep
theorem detachD_some {x : HeapD} {node : Int} {i u : Nat} (hi : i < x.vNodes.length) (hu : u < x.vNodes.length) (h1 : idxN x node = (i : Int)) (h2 : idxN x (parOf x node) = (u : Int)) : detachD x node = { x with vNodes := (x.vNodes.set u { x.vNodes[u] with vKids := x.vNodes[u].vKids.filter fun k => decide (k ≠ node) }).set i { (x.vNodes.set u { x.vNodes[u] with vKids := x.vNodes[u].vKids.filter fun k => decide (k ≠ node) })[i]'(by rw [List.length_set]; exact hi) with vParent := 0 } } := by
 unfold detachD
 rw [h2, if_neg (by omega), h1, Int.toNat_natCast, Int.toNat_natCast, modify_set _ _ _ hu, modify_set _ _ _ (by rw [List.length_set]; exact hi)]
theorem filter_succ {K : List Int} {node : Int} {j : Nat} (h : j < K.length) : ((K.take (j + 1)).filter fun k => decide (k ≠ node)) = ((K.take j).filter fun k => decide (k ≠ node)) ++ if K[j] = node then [] else [K[j]] := by
 rw [List.take_succ_eq_append_getElem h, List.filter_append]
 congr 1
 by_cases e : K[j] = node <;> simp [e]
set_option maxRecDepth 100000 in
set_option maxHeartbeats 4000000 in
theorem l4Detach_any {w : World} {cs : List Value} {x : HeapD} {fs : List Nat} {node : Int} (hp : HeapP w cs x fs) (hin : 0 ≤ idxN x node) (hkl : ∀ y ∈ x.vNodes, y.vKids.length ≤ 1000) :
 Calls Tryz.prog 134 #[.agg cs.toArray, .int .i64 node] w fun e w' => ∃ cs', e = .returned (.agg cs'.toArray) ∧ HR w fs w' cs' (detachD x node) := by
 obtain ⟨iI, hiI0, heI0, heI1, heI2⟩ := info_partsP infoIntP
 have hiI : Hid (Tryz.prog.info? 2 = some iI) := hiI0
 have heI : Hid (iI.zero = some (.int .i64 0) ∧ iI.size = 1 ∧ iI.bytes = 8) := ⟨heI0, heI1, heI2⟩
 clear hiI0 heI0 heI1 heI2
 obtain ⟨aN, kN, aO, kO, aG, kG, rfl⟩ := hp.form
 have hZ0 : Hid (HB w fs w.heap.size (w.heap.size + 1) ((w.alloc (.cells (cHp x aN kN aO kO aG kG).toArray 28)).alloc (.cells cZp.toArray 28)) (cHp x aN kN aO kO aG kG) x fs) := HB.start hp
 obtain ⟨i, hi, hidx, hpr⟩ : ∃ i, ∃ hi : i < x.vNodes.length, idxN x node = (i : Int) ∧ parOf x node = x.vNodes[i].vParent := by
  rcases idxN_is x node with ⟨q, _⟩ | ⟨i, hi, q, _, q2⟩
  · omega
  · exact ⟨i, hi, q, by unfold parOf; rw [q2]⟩
 have hidx' : Hid (idxN x node = (i : Int)) := hidx
 have hkl' : Hid (∀ y ∈ x.vNodes, y.vKids.length ≤ 1000) := hkl
 obtain ⟨gN, a3, c3, a5, c5, rfl, _, _, hc2, _⟩ := hZ0.out.nodeAt hi
 obtain ⟨pr, hprd⟩ : ∃ pr, parOf x node = pr := ⟨_, rfl⟩
 have hprh : Hid (parOf x node = pr) := hprd
 have hx2 : Hid (World.cell? ((w.alloc (.cells (cHp x (some ⟨gN, 0, none⟩) kN aO kO aG kG).toArray 28)).alloc (.cells cZp.toArray 28)) ⟨gN, i * 6 + 2, none⟩ = some (.int .i64 pr)) := by rw [← hprd, hpr]; exact hc2
 have hiI2 : (i : Int) < (x.vNodes.length : Int) := by omega
 have hi0 : (0 : Int) ≤ (i : Int) := by omega
 clear hp hkl hin hpr hc2 hprd hidx
 obtain ⟨d0, d1, d2, d3, d4⟩ := fv5 hZ0.out.bH
 go_enter Tryz.func134, Tryz.ntmps134
 go_wp2_with fail
 refine (l2Node_any hZ0.out.hp.at0).mono ?_
 rintro e w1 ⟨rfl, hb1⟩
 have hZ1 : Hid (HB w fs w.heap.size (w.heap.size + 1) w1 (cHp x (some ⟨gN, 0, none⟩) kN aO kO aG kG) x fs) := hZ0.out.below hb1
 have hx1 : Hid (w1.cell? ⟨gN, i * 6 + 2, none⟩ = some (.int .i64 pr)) := cell_on hb1 hx2.out
 rw [hidx'.out]
 clear hb1 hZ0 hx2 d0 d1 d2 d3 d4
 go_upto_region 2 with fail
 have hZd : Hid (HB w fs w.heap.size (w.heap.size + 1) w1.drew (cHp x (some ⟨gN, 0, none⟩) kN aO kO aG kG) x fs) := hZ1.out.below (Below.drew (Below.refl _ _))
 refine wp_region_held_drew (S := fun w' => w'.cell? ⟨w.heap.size, 0, none⟩ = some (.int .i64 x.vNext) ∧ w'.cell? ⟨w.heap.size, 1, none⟩ = some (.int .i64 x.vDoc) ∧ w'.cell? ⟨w.heap.size, 2, none⟩ = some (.slice (some ⟨gN, 0, none⟩) x.vNodes.length kN) ∧ w'.cell? ⟨w.heap.size, 3, none⟩ = some (.slice aO x.vObjs.length kO) ∧ w'.cell? ⟨w.heap.size, 4, none⟩ = some (.slice aG x.vGlobals.length kG) ∧ w'.cell? ⟨gN, i * 6 + 2, none⟩ = some (.int .i64 pr)) (by kernel_rfl) (fv5a hZ1.out.bH (hx1.out)) (fun hHeld => ?_)
 refine tk 0 ?_
 refine tk 1 ?_
 refine tk 2 ?_
 refine tk 3 ?_
 refine tk 4 ?_
 refine tk 5 ?_
 refine tk 6 ?_
 refine rd1 7 (fun K hK => ?_)
 go_simp
 refine (l2Node_any hZd.out.hp.at0).mono ?_
 rintro e w2 ⟨rfl, hb5⟩
 have hZ5 : Hid (HB w fs w.heap.size (w.heap.size + 1) w2 (cHp x (some ⟨gN, 0, none⟩) kN aO kO aG kG) x fs) := hZd.out.below hb5
 have hx5 : Hid (w2.cell? ⟨gN, i * 6 + 2, none⟩ = some (.int .i64 pr)) := cell_on hb5 hx1.out
 clear hb5
 refine hK.out _ _ (fv5a hZ5.out.bH (hx5.out)) (fun hHeld => ?_)
 clear hK K
 refine tk 8 ?_
 refine wpAnyH_done (by kernel_rfl) ?_ _
 clear hHeld hx5
 have hZ2 : Hid (HB w fs w.heap.size (w.heap.size + 1) w2 (cHp x (some ⟨gN, 0, none⟩) kN aO kO aG kG) x fs) := hZ5
 clear hZ5 hZ1 hx1 hZd
 rcases (by omega : idxN x pr < 0 ∨ 0 ≤ idxN x pr) with hneg | hpos
 · have hd2 : Hid (detachD x node = x) := by show _ = _; unfold detachD; rw [hprh.out, if_pos hneg]
   clear hprh
   obtain ⟨d0, d1, d2, d3, d4⟩ := fv5 hZ2.out.bH
   obtain ⟨z0, z1, z2, z3, z4⟩ := fv5 hZ2.out.bR
   have uz := hZ2.out.bR.unfrozen
   go_wp2_with fail
   have bF : Box (putCells w2 (w.heap.size + 1) 0 (cHp x (some ⟨gN, 0, none⟩) kN aO kO aG kG)) (w.heap.size + 1) (cHp x (some ⟨gN, 0, none⟩) kN aO kO aG kG) 28 := Box.puts5 hZ2.out.bR
   obtain ⟨g0, g1, g2, g3, g4⟩ := fv5 bF
   exact bodyPost_ret (v := .agg (List.toArray (cHp x (some ⟨gN, 0, none⟩) kN aO kO aG kG))) (by simp only [putCells] at g0 g1 g2 g3 g4; simp [results, Tryz.results134, go_sem, g0, g1, g2, g3, g4]) rfl ⟨(cHp x (some ⟨gN, 0, none⟩) kN aO kO aG kG), rfl, by rw [hd2.out]; exact hZ2.out.ret (cHp x (some ⟨gN, 0, none⟩) kN aO kO aG kG)⟩
 · obtain ⟨u, hu, hudx⟩ : ∃ u, ∃ hu : u < x.vNodes.length, idxN x pr = (u : Int) := by
    rcases idxN_is x pr with ⟨q, _⟩ | ⟨u, hu, q, _⟩
    · omega
    · exact ⟨u, hu, q⟩
   have hdF : Hid (detachD x node = { x with vNodes := (x.vNodes.set u { x.vNodes[u] with vKids := x.vNodes[u].vKids.filter fun k => decide (k ≠ node) }).set i { (x.vNodes.set u { x.vNodes[u] with vKids := x.vNodes[u].vKids.filter fun k => decide (k ≠ node) })[i]'(by rw [List.length_set]; exact hi) with vParent := 0 } }) := detachD_some hi hu hidx'.out (by rw [hprh.out]; exact hudx)
   obtain ⟨_, b3, k3, b5, k5, eg, _, _, _, hc3, _, _, hK0⟩ := hZ2.out.nodeAt hu
   injection eg with eg
   injection eg with eg
   subst eg
   have hKl : x.vNodes[u].vKids.length ≤ 1000 := hkl'.out _ (List.getElem_mem hu)
   obtain ⟨K, hKe⟩ : ∃ K, x.vNodes[u].vKids = K := ⟨_, rfl⟩
   have hKh : Hid (x.vNodes[u].vKids = K) := hKe
   rw [hKe] at hc3 hK0 hKl
   have hc3h : Hid (w2.cell? ⟨gN, u * 6 + 3, none⟩ = some (.slice b3 K.length k3)) := hc3
   have hK : Hid (SeqAt 1 IntAt w2 0 (.slice b3 K.length k3) K) := hK0
   have huI : (u : Int) < (x.vNodes.length : Int) := by omega
   have hu0 : (0 : Int) ≤ (u : Int) := by omega
   rw [hudx]
   clear hpos hc3 hK0 hKe hprh hudx hidx' hkl'
   have hrow0 : Hid (RowI w2.heap.size (w2.alloc (.cells #[] 2)) (.slice (some ⟨w2.heap.size, 0, none⟩) 0 0) []) := RowI.start
   have hB0 : Hid (Below w2.heap.size w2 (w2.alloc (.cells #[] 2))) := (Below.refl _ _).alloc (Nat.le_refl _) _
   go_wp2_with fail
   go_loopw [7, 8] (fun v i wr => ∃ (j : Nat) (ks : List Int), j ≤ K.length ∧ i = .int .i64 j ∧ Hid (ks = (K.take j).filter fun k => decide (k ≠ node)) ∧ Hid (RowI w2.heap.size wr v ks) ∧ Hid (Below w2.heap.size w2 wr)) (fun _ i _ => K.length - (intOf i).toNat)
   case atStart => exact ⟨0, [], Nat.zero_le _, rfl, rfl, hrow0, hB0⟩
   case round =>
    obtain ⟨j, ks, hj, rfl, hks, hrow, hB⟩ := hrel
    obtain ⟨g7, cap7, rfl⟩ := hrow.out.form
    clear hrow0 hB0
    have hZr : Hid (HB w fs w.heap.size (w.heap.size + 1) wr (cHp x (some ⟨gN, 0, none⟩) kN aO kO aG kG) x fs) := hZ2.out.below hB.out
    have cN := hZr.out.bH.cell 2 rfl
    have c3r : wr.cell? ⟨gN, u * 6 + 3, none⟩ = some (.slice b3 K.length k3) := cell_on hB.out hc3h.out
    by_cases hlt : j < K.length
    · obtain ⟨a', c', e, _, hx⟩ := hK.out
      injection e with e1 e2 e3
      subst e1
      obtain ⟨bk, ok, rfl, _, hbk, hc⟩ := hx (by omega)
      obtain ⟨cs, _, lie, rfl, hkI0⟩ := hc j hlt
      have hsucc : Hid (((K.take (j + 1)).filter fun k => decide (k ≠ node)) = ks ++ if K[j] = node then [] else [K[j]]) := by show _ = _; rw [filter_succ hlt, ← hks.out]
      have hksl : ks.length ≤ j := by rw [hks.out]; have := List.length_filter_le (fun k => decide (k ≠ node)) (K.take j); rw [List.length_take] at this; omega
      generalize K[j] = k at lie hkI0 hsucc
      have hkI : Hid (InI k) := hkI0
      have l0 := lie 0 (by simp)
      simp only [List.getElem?_cons_zero, Nat.add_zero, Nat.mul_one] at l0
      have z0 : wr.cell? ⟨bk, ok + j, none⟩ = some (.int .i64 k) := cell_on hB.out l0
      have hltI : (j : Int) < (K.length : Int) := by omega
      have hj0 : (0 : Int) ≤ (j : Int) := by omega
      clear lie hc l0 hkI0
      by_cases hnk : k = node
      · have hst : Hid (ks = (K.take (j + 1)).filter fun k => decide (k ≠ node)) := by show _ = _; rw [hsucc.out, if_pos hnk]; simp
        go_wp2_with fail
        go_roundw
        case rel => exact ⟨j + 1, ks, by omega, by go_num, hst, hrow, hB⟩
        case measure => simp [intOf]; omega
      · have hst : Hid (ks ++ [k] = (K.take (j + 1)).filter fun k => decide (k ≠ node)) := by show _ = _; rw [hsucc.out, if_neg hnk]
        go_wp2_with (at_builtin; refine wpList_append_ints rfl _ _ 29 rfl w2.heap.size 0 2 iI Tryz.underlying29 hiI.out heI.out.1 heI.out.2.1 heI.out.2.2 (.slice (some ⟨g7, 0, none⟩) ks.length cap7) ks.length (ks.map fun n => .int .i64 n) rfl hrow.out.1 (row_below hrow.out.2.1 ((Below.refl _ _).alloc (Nat.le_refl _) _)) _ [k] rfl (box1P (Box.new wr [.int .i64 k] 2) hkI.out) (by simp; omega) (by have := hB.out.size; simp; omega) ?_; intro v9 w9 ho9 hg9 hn9; have hrow9 : Hid (RowI w2.heap.size w9 v9 (ks ++ [k])) := RowI.more hrow.out.2.2 hkI.out rfl ho9 hn9; have hB9 : Hid (Below w2.heap.size w2 w9) := (hB.out.alloc hB.out.size _).grown hg9 (by have := hB.out.size; simp; omega) (fun b e => own_block2 (row_below hrow.out.2.1 ((Below.refl _ wr).alloc (Nat.le_refl _) (.cells #[.int .i64 k] 2))) b e); clear ho9 hg9 hn9)
        go_roundw
        case rel => exact ⟨j + 1, ks ++ [k], by omega, by go_num, hst, hrow9, hB9⟩
        case measure => simp [intOf]; omega
    · obtain rfl : j = K.length := by omega
      have hks' : Hid (ks = K.filter fun k => decide (k ≠ node)) := by have := hks.out; rw [List.take_length] at this; exact this
      clear hks
      obtain ⟨C, fi, hC, hcell, hfn, hfl, hset⟩ := hZ2.out.node hu
      obtain ⟨f7, hs7, hf7⟩ := hrow.out.seq
      obtain ⟨fi', hC', hn', hs'⟩ := hC.kids (w1 := wr) hfn (fun b hb => hB.out.block b (hfl b hb).1) hs7 hf7
      obtain ⟨fs8, hz8⟩ := hset wr 3 (.slice (some ⟨g7, 0, none⟩) ks.length cap7) _ fi' (by decide) hB.out hC' hn' hs'
      have e8 : { x with vNodes := x.vNodes.set u { x.vNodes[u] with vKids := ks } } = { x with vNodes := x.vNodes.set u { x.vNodes[u] with vKids := x.vNodes[u].vKids.filter fun k => decide (k ≠ node) } } := by rw [hks'.out, hKh.out]
      rw [e8] at hz8
      have hZ8 : Hid (HB w fs w.heap.size (w.heap.size + 1) (wr.setCell ⟨gN, u * 6 + 3, none⟩ (.slice (some ⟨g7, 0, none⟩) ks.length cap7)) (cHp x (some ⟨gN, 0, none⟩) kN aO kO aG kG) { x with vNodes := x.vNodes.set u { x.vNodes[u] with vKids := x.vNodes[u].vKids.filter fun k => decide (k ≠ node) } } fs8) := hz8
      obtain ⟨_, eg, ufN⟩ := hZr.out.hp.posN (show 0 < x.vNodes.length by omega)
      injection eg with eg
      injection eg with eg
      subst eg
      have c2 := hZ8.out.bH.cell 2 rfl
      have hi' : i < (x.vNodes.set u { x.vNodes[u] with vKids := x.vNodes[u].vKids.filter fun k => decide (k ≠ node) }).length := by rw [List.length_set]; exact hi
      obtain ⟨C2, fi2, hC2, hcell2, hfn2, _, hset2⟩ := hZ8.out.node hi'
      obtain ⟨p3, q3, p5, q5, e5⟩ := hC2.len
      have cP := hcell2 2 _ (by rw [e5]; rfl)
      obtain ⟨fs9, hz9⟩ := hset2 _ 2 (.int .i64 0) _ fi2 (by decide) (Below.refl _ _) (hC2.par (by unfold InI; omega)) hfn2 (fun b hb => Or.inl hb)
      obtain ⟨_, eg, ufN2⟩ := hZ8.out.hp.posN (by rw [List.length_set]; omega)
      injection eg with eg
      injection eg with eg
      subst eg
      have hZ9 : Hid (HB w fs w.heap.size (w.heap.size + 1) ((wr.setCell ⟨gN, u * 6 + 3, none⟩ (.slice (some ⟨g7, 0, none⟩) ks.length cap7)).setCell ⟨gN, i * 6 + 2, none⟩ (.int .i64 0)) (cHp x (some ⟨gN, 0, none⟩) kN aO kO aG kG) { x with vNodes := (x.vNodes.set u { x.vNodes[u] with vKids := x.vNodes[u].vKids.filter fun k => decide (k ≠ node) }).set i { (x.vNodes.set u { x.vNodes[u] with vKids := x.vNodes[u].vKids.filter fun k => decide (k ≠ node) })[i]'(by rw [List.length_set]; exact hi) with vParent := 0 } } fs9) := hz9
      clear hz9 hz8 hset hset2 hC hC2 hcell hcell2 hfn hfn2 hfl hs7 hf7 hC' hn' hs' e5 e8
      go_upto_region 12 with fail
      clear cN c3r ufN
      generalize (wr.setCell ⟨gN, u * 6 + 3, none⟩ (.slice (some ⟨g7, 0, none⟩) ks.length cap7)) = w8 at hZ8 hZ9 c2 cP ufN2 ⊢
      go_upto_region 13 with fail
      clear c2 cP ufN2 hZ8
      generalize (w8.setCell ⟨gN, i * 6 + 2, none⟩ (.int .i64 0)) = w9 at hZ9 ⊢
      obtain ⟨d0, d1, d2, d3, d4⟩ := fv5 hZ9.out.bH
      obtain ⟨z0, z1, z2, z3, z4⟩ := fv5 hZ9.out.bR
      have uz := hZ9.out.bR.unfrozen
      go_wp2_with fail
      have bF : Box (putCells w9 (w.heap.size + 1) 0 (cHp x (some ⟨gN, 0, none⟩) kN aO kO aG kG)) (w.heap.size + 1) (cHp x (some ⟨gN, 0, none⟩) kN aO kO aG kG) 28 := Box.puts5 hZ9.out.bR
      obtain ⟨g0, g1, g2, g3, g4⟩ := fv5 bF
      exact bodyPost_ret (v := .agg (List.toArray (cHp x (some ⟨gN, 0, none⟩) kN aO kO aG kG))) (by simp only [putCells] at g0 g1 g2 g3 g4; simp [results, Tryz.results134, go_sem, g0, g1, g2, g3, g4]) rfl ⟨(cHp x (some ⟨gN, 0, none⟩) kN aO kO aG kG), rfl, by rw [hdF.out]; exact hZ9.out.ret (cHp x (some ⟨gN, 0, none⟩) kN aO kO aG kG)⟩
end Go.Proofs.YtdnembnlomnceaaGreat
namespace Go.Proofs.YtdnembnlomnceaaGreat
open Go.RowKit Go.Deep
theorem findI_set {α : Type} {f : α → Int} {id : Int} : ∀ (xs : List α) (i : Nat) (y : α) (k : Nat), (∀ h : i < xs.length, f y = f xs[i]) → findI f (xs.set i y) id k = findI f xs id k := by
 intro xs
 induction xs with
 | nil => intro i y k _; rfl
 | cons x xs ih =>
  intro i y k h
  cases i with
  | zero =>
   have e := h (by simp)
   simp only [List.getElem_cons_zero] at e
   simp only [List.set_cons_zero, findI, e]
  | succ i =>
   simp only [List.set_cons_succ, findI]
   rw [ih i y (k + 1) (fun hh => by have := h (by simp; omega); simpa using this)]
theorem idxN_set {x : HeapD} {i : Nat} {y : NodeD} {id : Int} (h : ∀ hi : i < x.vNodes.length, y.vId = x.vNodes[i].vId) : idxN { x with vNodes := x.vNodes.set i y } id = idxN x id := findI_set _ _ _ _ h
theorem modify_idx {x : HeapD} {i : Nat} {f : NodeD → NodeD} {id : Int} (hf : ∀ y, (f y).vId = y.vId) : idxN { x with vNodes := x.vNodes.modify i f } id = idxN x id := by
 rcases Nat.lt_or_ge i x.vNodes.length with q | q
 · rw [modify_set _ _ _ q]; exact idxN_set fun _ => hf _
 · rw [List.modify_eq_self q]
theorem detach_idx (x : HeapD) (node id : Int) : idxN (detachD x node) id = idxN x id := by
 unfold detachD
 split
 · rfl
 · exact (modify_idx (x := { x with vNodes := x.vNodes.modify (idxN x (parOf x node)).toNat fun x => { x with vKids := x.vKids.filter fun k => decide (k ≠ node) } }) (i := (idxN x node).toNat) (f := fun x => { x with vParent := 0 }) (fun _ => rfl)).trans (modify_idx fun _ => rfl)
theorem mem_modify {l : List NodeD} {i : Nat} {f : NodeD → NodeD} {P : NodeD → Prop} (h : ∀ y ∈ l, P y) (hf : ∀ y, P y → P (f y)) : ∀ y ∈ l.modify i f, P y := by
 intro y hy
 rcases Nat.lt_or_ge i l.length with q | q
 · rw [modify_set _ _ _ q] at hy
   rcases List.mem_or_eq_of_mem_set hy with r | r
   · exact h y r
   · rw [r]; exact hf _ (h _ (List.getElem_mem q))
 · rw [List.modify_eq_self q] at hy; exact h y hy
theorem detach_kids {x : HeapD} {node : Int} {m : Nat} (h : ∀ y ∈ x.vNodes, y.vKids.length ≤ m) : ∀ y ∈ (detachD x node).vNodes, y.vKids.length ≤ m := by
 unfold detachD
 split
 · exact h
 · exact mem_modify (mem_modify h fun y q => Nat.le_trans (List.length_filter_le _ _) q) fun y q => q
theorem insertD_some {x : HeapD} {parent node before : Int} {y : HeapD} {i u : Nat} (hy : detachD x node = y) (hi : i < y.vNodes.length) (hu : u < y.vNodes.length) (h1 : idxN y node = (i : Int)) (h2 : idxN y parent = (u : Int)) : insertD x parent node before = { y with vNodes := (y.vNodes.set u { y.vNodes[u] with vKids := putK y.vNodes[u].vKids node before }).set i { (y.vNodes.set u { y.vNodes[u] with vKids := putK y.vNodes[u].vKids node before })[i]'(by rw [List.length_set]; exact hi) with vParent := parent } } := by
 unfold insertD
 simp only [hy, h1, h2, Int.toNat_natCast]
 rw [modify_set _ _ _ hu, modify_set _ _ _ (by rw [List.length_set]; exact hi)]
theorem flat_succ {K : List Int} {node before : Int} {j : Nat} (h : j < K.length) : ((K.take (j + 1)).flatMap fun k => if k = before then [node, k] else [k]) = ((K.take j).flatMap fun k => if k = before then [node, k] else [k]) ++ if K[j] = before then [node, K[j]] else [K[j]] := by
 rw [List.take_succ_eq_append_getElem h, List.flatMap_append]; simp
theorem flat_few (node before : Int) : ∀ K : List Int, (K.flatMap fun k => if k = before then [node, k] else [k]).length ≤ 2 * K.length := by
 intro K
 induction K with
 | nil => simp
 | cons k K ih =>
  rw [List.flatMap_cons, List.length_append, List.length_cons]
  have : (if k = before then [node, k] else [k]).length ≤ 2 := by split <;> simp
  omega
set_option maxRecDepth 100000 in
set_option maxHeartbeats 8000000 in
theorem l4Insert_any {w : World} {cs : List Value} {x : HeapD} {fs : List Nat} {parent node before : Int} (hp : HeapP w cs x fs) (hnn : InI node) (hpp : InI parent) (hin : 0 ≤ idxN x node) (hip : 0 ≤ idxN x parent) (hkl : ∀ y ∈ x.vNodes, y.vKids.length ≤ 1000) :
 Calls Tryz.prog 136 #[.agg cs.toArray, .int .i64 parent, .int .i64 node, .int .i64 before] w fun e w' => ∃ cs', e = .returned (.agg cs'.toArray) ∧ HR w fs w' cs' (insertD x parent node before) := by
 obtain ⟨iI, hiI0, heI0, heI1, heI2⟩ := info_partsP infoIntP
 have hiI : Hid (Tryz.prog.info? 2 = some iI) := hiI0
 have heI : Hid (iI.zero = some (.int .i64 0) ∧ iI.size = 1 ∧ iI.bytes = 8) := ⟨heI0, heI1, heI2⟩
 clear hiI0 heI0 heI1 heI2
 obtain ⟨aN, kN, aO, kO, aG, kG, rfl⟩ := hp.form
 have hZ0 : Hid (HB w fs w.heap.size (w.heap.size + 1) ((w.alloc (.cells (cHp x aN kN aO kO aG kG).toArray 28)).alloc (.cells cZp.toArray 28)) (cHp x aN kN aO kO aG kG) x fs) := HB.start hp
 have hnn' : Hid (InI node) := hnn
 have hpp' : Hid (InI parent) := hpp
 obtain ⟨d0, d1, d2, d3, d4⟩ := fv5 hZ0.out.bH
 have hin' : Hid (0 ≤ idxN x node) := hin
 have hip' : Hid (0 ≤ idxN x parent) := hip
 have hkl' : Hid (∀ y ∈ x.vNodes, y.vKids.length ≤ 1000) := hkl
 clear hp hin hip hkl hnn hpp
 go_enter Tryz.func136, Tryz.ntmps136
 go_wp2_with fail
 refine (l4Detach_any hZ0.out.hp hin'.out hkl'.out).mono ?_
 rintro e w1 ⟨cs1, rfl, hr1⟩
 obtain ⟨y, hy⟩ : ∃ y, detachD x node = y := ⟨_, rfl⟩
 have hyh : Hid (detachD x node = y) := hy
 have hin2 : 0 ≤ idxN y node := by rw [← hy, detach_idx]; exact hin'.out
 have hip2 : 0 ≤ idxN y parent := by rw [← hy, detach_idx]; exact hip'.out
 have hkl2 : Hid (∀ z ∈ y.vNodes, z.vKids.length ≤ 1000) := by rw [← hy]; exact detach_kids hkl'.out
 rw [hy] at hr1
 obtain ⟨aN1, kN1, aO1, kO1, aG1, kG1, rfl⟩ := hr1.form
 obtain ⟨fs2, hz2⟩ := hZ0.out.step rfl hr1
 obtain ⟨i, hi, hidx⟩ : ∃ i, ∃ hi : i < y.vNodes.length, idxN y node = (i : Int) := by
  rcases idxN_is y node with ⟨q, _⟩ | ⟨i, hi, q, _⟩
  · omega
  · exact ⟨i, hi, q⟩
 obtain ⟨u, hu, hudx⟩ : ∃ u, ∃ hu : u < y.vNodes.length, idxN y parent = (u : Int) := by
  rcases idxN_is y parent with ⟨q, _⟩ | ⟨u, hu, q, _⟩
  · omega
  · exact ⟨u, hu, q⟩
 have hdF : Hid (insertD x parent node before = { y with vNodes := (y.vNodes.set u { y.vNodes[u] with vKids := putK y.vNodes[u].vKids node before }).set i { (y.vNodes.set u { y.vNodes[u] with vKids := putK y.vNodes[u].vKids node before })[i]'(by rw [List.length_set]; exact hi) with vParent := parent } }) := insertD_some hy hi hu hidx hudx
 have hidx' : Hid (idxN y node = (i : Int)) := hidx
 have hudx' : Hid (idxN y parent = (u : Int)) := hudx
 have hZ2 : Hid (HB w fs w.heap.size (w.heap.size + 1) (putCells w1 w.heap.size 0 (cHp y aN1 kN1 aO1 kO1 aG1 kG1)) (cHp y aN1 kN1 aO1 kO1 aG1 kG1) y fs2) := hz2
 have hb1 : Hid (Box w1 w.heap.size (cHp x aN kN aO kO aG kG) 28) := by
  obtain ⟨fs1, hp1, hs1, ho1⟩ := hr1
  exact (ho1.keep hZ0.out.bH.lt (fun q => (hZ0.out.sub _ q).2.1 rfl)).trans hZ0.out.bH
 obtain ⟨s0, s1, s2, s3, s4⟩ := fv5 hb1.out
 have su := hb1.out.unfrozen
 clear hr1 hz2 hy hin2 hip2 hidx hudx hin' hip' hkl' d0 d1 d2 d3 d4 hZ0
 go_upto_region 2 with fail
 clear s0 s1 s2 s3 s4 su hb1
 simp only [putCells] at hZ2
 generalize (World.setCell (World.setCell (World.setCell (World.setCell (World.setCell w1 ⟨w.heap.size, 0, none⟩ (.int .i64 y.vNext)) ⟨w.heap.size, 0 + 1, none⟩ (.int .i64 y.vDoc)) ⟨w.heap.size, 0 + 1 + 1, none⟩ (.slice aN1 y.vNodes.length kN1)) ⟨w.heap.size, 0 + 1 + 1 + 1, none⟩ (.slice aO1 y.vObjs.length kO1)) ⟨w.heap.size, 0 + 1 + 1 + 1 + 1, none⟩ (.slice aG1 y.vGlobals.length kG1)) = w2 at hZ2 ⊢
 clear hyh
 obtain ⟨d0, d1, d2, d3, d4⟩ := fv5 hZ2.out.bH
 go_wp2_with fail
 refine (l2Node_any hZ2.out.hp.at0).mono ?_
 rintro e w3 ⟨rfl, hb3⟩
 have hZ3 : Hid (HB w fs w.heap.size (w.heap.size + 1) w3 (cHp y aN1 kN1 aO1 kO1 aG1 kG1) y fs2) := hZ2.out.below hb3
 rw [hudx'.out]
 clear hb3 hZ2 d0 d1 d2 d3 d4
 obtain ⟨gN, b3, k3, b5, k5, rfl, _, _, _, hc3, _, _, hK0⟩ := hZ3.out.nodeAt hu
 have hKl : y.vNodes[u].vKids.length ≤ 1000 := hkl2.out _ (List.getElem_mem hu)
 obtain ⟨K, hKe⟩ : ∃ K, y.vNodes[u].vKids = K := ⟨_, rfl⟩
 have hKh : Hid (y.vNodes[u].vKids = K) := hKe
 rw [hKe] at hc3 hK0 hKl
 have hc3h : Hid (w3.cell? ⟨gN, u * 6 + 3, none⟩ = some (.slice b3 K.length k3)) := hc3
 have hK : Hid (SeqAt 1 IntAt w3 0 (.slice b3 K.length k3) K) := hK0
 have huI : (u : Int) < (y.vNodes.length : Int) := by omega
 have hu0 : (0 : Int) ≤ (u : Int) := by omega
 have hiI2 : (i : Int) < (y.vNodes.length : Int) := by omega
 have hi0 : (0 : Int) ≤ (i : Int) := by omega
 clear hc3 hK0 hKe hudx' hkl2
 have hrow0 : Hid (RowI w3.heap.size (w3.alloc (.cells #[] 2)) (.slice (some ⟨w3.heap.size, 0, none⟩) 0 0) []) := RowI.start
 have hB0 : Hid (Below w3.heap.size w3 (w3.alloc (.cells #[] 2))) := (Below.refl _ _).alloc (Nat.le_refl _) _
 go_wp2_with fail
 go_loopw [10, 11] (fun v i wr => ∃ (j : Nat) (ks : List Int), j ≤ K.length ∧ i = .int .i64 j ∧ Hid (ks = (K.take j).flatMap fun k => if k = before then [node, k] else [k]) ∧ Hid (RowI w3.heap.size wr v ks) ∧ Hid (Below w3.heap.size w3 wr)) (fun _ i _ => K.length - (intOf i).toNat)
 case atStart => exact ⟨0, [], Nat.zero_le _, rfl, rfl, hrow0, hB0⟩
 case round =>
  obtain ⟨j, ks, hj, rfl, hks, hrow, hB⟩ := hrel
  obtain ⟨g7, cap7, rfl⟩ := hrow.out.form
  clear hrow0 hB0
  have hZr : Hid (HB w fs w.heap.size (w.heap.size + 1) wr (cHp y (some ⟨gN, 0, none⟩) kN1 aO1 kO1 aG1 kG1) y fs2) := hZ3.out.below hB.out
  have cN := hZr.out.bH.cell 2 rfl
  have c3r : wr.cell? ⟨gN, u * 6 + 3, none⟩ = some (.slice b3 K.length k3) := cell_on hB.out hc3h.out
  have hksl : ks.length ≤ 2 * j := by rw [hks.out]; have := flat_few node before (K.take j); rw [List.length_take] at this; omega
  by_cases hlt : j < K.length
  · obtain ⟨a', c', e, _, hx⟩ := hK.out
    injection e with e1 e2 e3
    subst e1
    obtain ⟨bk, ok, rfl, _, hbk, hc⟩ := hx (by omega)
    obtain ⟨cs, _, lie, rfl, hkI0⟩ := hc j hlt
    have hsucc : Hid (((K.take (j + 1)).flatMap fun k => if k = before then [node, k] else [k]) = ks ++ if K[j] = before then [node, K[j]] else [K[j]]) := by show _ = _; rw [flat_succ hlt, ← hks.out]
    generalize K[j] = k at lie hkI0 hsucc
    have hkI : Hid (InI k) := hkI0
    have l0 := lie 0 (by simp)
    simp only [List.getElem?_cons_zero, Nat.add_zero, Nat.mul_one] at l0
    have l0h : Hid (w3.cell? ⟨bk, ok + j, none⟩ = some (.int .i64 k)) := l0
    have z0 : wr.cell? ⟨bk, ok + j, none⟩ = some (.int .i64 k) := cell_on hB.out l0
    have hltI : (j : Int) < (K.length : Int) := by omega
    have hj0 : (0 : Int) ≤ (j : Int) := by omega
    clear lie hc l0 hkI0
    by_cases hnk : k = before
    · have hst : Hid ((ks ++ [node]) ++ [k] = (K.take (j + 1)).flatMap fun k => if k = before then [node, k] else [k]) := by show _ = _; rw [hsucc.out, if_pos hnk]; simp
      go_upto_region 9 with (at_builtin; refine wpList_append_ints rfl _ _ 29 rfl w3.heap.size 0 2 iI Tryz.underlying29 hiI.out heI.out.1 heI.out.2.1 heI.out.2.2 (.slice (some ⟨g7, 0, none⟩) ks.length cap7) ks.length ((ks).map fun n => .int .i64 n) rfl hrow.out.1 (row_below hrow.out.2.1 ((Below.refl _ _).alloc (Nat.le_refl _) _)) _ [node] rfl (box1P (Box.new wr [.int .i64 node] 2) hnn'.out) (by simp; omega) (by have := hB.out.size; simp; omega) ?_; intro v8 w8 ho8 hg8 hn8; have hrow8 : Hid (RowI w3.heap.size w8 v8 (ks ++ [node])) := RowI.more hrow.out.2.2 hnn'.out rfl ho8 hn8; have hB8 : Hid (Below w3.heap.size w3 w8) := (hB.out.alloc hB.out.size _).grown hg8 (by have := hB.out.size; simp; omega) (fun b e => own_block2 (row_below hrow.out.2.1 ((Below.refl _ wr).alloc (Nat.le_refl _) (.cells #[.int .i64 node] 2))) b e); clear ho8 hg8 hn8)
      clear hnk
      obtain ⟨g8, cap8, e8⟩ := hrow8.out.form
      have e8' : v8 = .slice (some ⟨g8, 0, none⟩) (ks ++ [node]).length cap8 := e8
      clear e8
      subst e8'
      clear z0 cN c3r
      have hZ8 : Hid (HB w fs w.heap.size (w.heap.size + 1) w8 (cHp y (some ⟨gN, 0, none⟩) kN1 aO1 kO1 aG1 kG1) y fs2) := hZ3.out.below hB8.out
      have cN := hZ8.out.bH.cell 2 rfl
      have c3r : w8.cell? ⟨gN, u * 6 + 3, none⟩ = some (.slice (some ⟨bk, ok, none⟩) K.length k3) := cell_on hB8.out hc3h.out
      have z0 : w8.cell? ⟨bk, ok + j, none⟩ = some (.int .i64 k) := cell_on hB8.out l0h.out
      have hksl2 : (ks ++ [node]).length ≤ 2 * j + 1 := by rw [List.length_append, List.length_singleton]; omega
      generalize ks ++ [node] = ks8 at hrow8 hst hksl2 ⊢
      go_wp2_with (at_builtin; refine wpList_append_ints rfl _ _ 29 rfl w3.heap.size 0 2 iI Tryz.underlying29 hiI.out heI.out.1 heI.out.2.1 heI.out.2.2 (.slice (some ⟨g8, 0, none⟩) ks8.length cap8) ks8.length ((ks8).map fun n => .int .i64 n) rfl hrow8.out.1 (row_below hrow8.out.2.1 ((Below.refl _ _).alloc (Nat.le_refl _) _)) _ [k] rfl (box1P (Box.new w8 [.int .i64 k] 2) hkI.out) (by simp; omega) (by have := hB8.out.size; simp; omega) ?_; intro v9 w9 ho9 hg9 hn9; have hrow9 : Hid (RowI w3.heap.size w9 v9 (ks8 ++ [k])) := RowI.more hrow8.out.2.2 hkI.out rfl ho9 hn9; have hB9 : Hid (Below w3.heap.size w3 w9) := (hB8.out.alloc hB8.out.size _).grown hg9 (by have := hB8.out.size; simp; omega) (fun b e => own_block2 (row_below hrow8.out.2.1 ((Below.refl _ w8).alloc (Nat.le_refl _) (.cells #[.int .i64 k] 2))) b e); clear ho9 hg9 hn9)
      go_roundw
      case rel => exact ⟨j + 1, ks8 ++ [k], by omega, by go_num, hst, hrow9, hB9⟩
      case measure => simp [intOf]; omega
    · have hst : Hid (ks ++ [k] = (K.take (j + 1)).flatMap fun k => if k = before then [node, k] else [k]) := by show _ = _; rw [hsucc.out, if_neg hnk]
      go_wp2_with (at_builtin; refine wpList_append_ints rfl _ _ 29 rfl w3.heap.size 0 2 iI Tryz.underlying29 hiI.out heI.out.1 heI.out.2.1 heI.out.2.2 (.slice (some ⟨g7, 0, none⟩) ks.length cap7) ks.length ((ks).map fun n => .int .i64 n) rfl hrow.out.1 (row_below hrow.out.2.1 ((Below.refl _ _).alloc (Nat.le_refl _) _)) _ [k] rfl (box1P (Box.new wr [.int .i64 k] 2) hkI.out) (by simp; omega) (by have := hB.out.size; simp; omega) ?_; intro v9 w9 ho9 hg9 hn9; have hrow9 : Hid (RowI w3.heap.size w9 v9 (ks ++ [k])) := RowI.more hrow.out.2.2 hkI.out rfl ho9 hn9; have hB9 : Hid (Below w3.heap.size w3 w9) := (hB.out.alloc hB.out.size _).grown hg9 (by have := hB.out.size; simp; omega) (fun b e => own_block2 (row_below hrow.out.2.1 ((Below.refl _ wr).alloc (Nat.le_refl _) (.cells #[.int .i64 k] 2))) b e); clear ho9 hg9 hn9)
      go_roundw
      case rel => exact ⟨j + 1, ks ++ [k], by omega, by go_num, hst, hrow9, hB9⟩
      case measure => simp [intOf]; omega
  · obtain rfl : j = K.length := by omega
    have hks' : Hid (ks = K.flatMap fun k => if k = before then [node, k] else [k]) := by have := hks.out; rw [List.take_length] at this; exact this
    clear hks
    go_upto_if 58 with fail
    obtain ⟨bz, hbz⟩ : ∃ bz, (before == 0) = bz := ⟨_, rfl⟩
    rw [hbz]
    have hbzh : Hid (decide (before = 0) = bz) := by rw [← hbz]; rfl
    clear hbz
    go_cut [10] (fun s10 wx => ∃ (ksF : List Int) (gF capF : Nat), s10 = .slice (some ⟨gF, 0, none⟩) ksF.length capF ∧ Hid (ksF = putK K node before) ∧ Hid (RowI w3.heap.size wx (.slice (some ⟨gF, 0, none⟩) ksF.length capF) ksF) ∧ Hid (Below w3.heap.size w3 wx))
    case first =>
     cases bz
     case' true =>
      go_wp2_with (at_builtin; refine wpList_append_ints rfl _ _ 29 rfl w3.heap.size 0 2 iI Tryz.underlying29 hiI.out heI.out.1 heI.out.2.1 heI.out.2.2 (.slice (some ⟨g7, 0, none⟩) ks.length cap7) ks.length ((ks).map fun n => .int .i64 n) rfl hrow.out.1 (row_below hrow.out.2.1 ((Below.refl _ _).alloc (Nat.le_refl _) _)) _ [node] rfl (box1P (Box.new wr [.int .i64 node] 2) hnn'.out) (by simp; omega) (by have := hB.out.size; simp; omega) ?_; intro v8 w8 ho8 hg8 hn8; have hrow8 : Hid (RowI w3.heap.size w8 v8 (ks ++ [node])) := RowI.more hrow.out.2.2 hnn'.out rfl ho8 hn8; have hB8 : Hid (Below w3.heap.size w3 w8) := (hB.out.alloc hB.out.size _).grown hg8 (by have := hB.out.size; simp; omega) (fun b e => own_block2 (row_below hrow.out.2.1 ((Below.refl _ wr).alloc (Nat.le_refl _) (.cells #[.int .i64 node] 2))) b e); clear ho8 hg8 hn8)
      obtain ⟨g8, cap8, e8⟩ := hrow8.out.form
      go_meet
      exact ⟨ks ++ [node], g8, cap8, e8, by show _ = _; rw [hks'.out]; unfold putK; rw [if_pos (of_decide_eq_true hbzh.out)], by rw [← e8]; exact hrow8, hB8⟩
     case' false =>
      go_wp2_with fail
      go_meet
      exact ⟨ks, g7, cap7, rfl, by show _ = _; rw [hks'.out]; unfold putK; rw [if_neg (of_decide_eq_false hbzh.out)]; simp, hrow, hB⟩
    case rest =>
     clear hrow hB hZr cN c3r hksl hks'
     obtain ⟨ksF, gF, capF, rfl, hksF, hrow, hB⟩ := hcut
     have hZr : Hid (HB w fs w.heap.size (w.heap.size + 1) wc (cHp y (some ⟨gN, 0, none⟩) kN1 aO1 kO1 aG1 kG1) y fs2) := hZ3.out.below hB.out
     have cN := hZr.out.bH.cell 2 rfl
     have c3r : wc.cell? ⟨gN, u * 6 + 3, none⟩ = some (.slice b3 K.length k3) := cell_on hB.out hc3h.out
     obtain ⟨C, fi, hC, hcell, hfn, hfl, hset⟩ := hZ3.out.node hu
     obtain ⟨f7, hs7, hf7⟩ := hrow.out.seq
     obtain ⟨fi', hC', hn', hs'⟩ := hC.kids (w1 := wc) hfn (fun b hb => hB.out.block b (hfl b hb).1) hs7 hf7
     obtain ⟨fs8, hz8⟩ := hset wc 3 (.slice (some ⟨gF, 0, none⟩) ksF.length capF) _ fi' (by decide) hB.out hC' hn' hs'
     have e8 : { y with vNodes := y.vNodes.set u { y.vNodes[u] with vKids := ksF } } = { y with vNodes := y.vNodes.set u { y.vNodes[u] with vKids := putK y.vNodes[u].vKids node before } } := by rw [hksF.out, hKh.out]
     rw [e8] at hz8
     have hZ8 : Hid (HB w fs w.heap.size (w.heap.size + 1) (wc.setCell ⟨gN, u * 6 + 3, none⟩ (.slice (some ⟨gF, 0, none⟩) ksF.length capF)) (cHp y (some ⟨gN, 0, none⟩) kN1 aO1 kO1 aG1 kG1) { y with vNodes := y.vNodes.set u { y.vNodes[u] with vKids := putK y.vNodes[u].vKids node before } } fs8) := hz8
     obtain ⟨_, eg, ufN⟩ := hZr.out.hp.posN (show 0 < y.vNodes.length by omega)
     injection eg with eg
     injection eg with eg
     subst eg
     have hidU : Hid (idxN { y with vNodes := y.vNodes.set u { y.vNodes[u] with vKids := putK y.vNodes[u].vKids node before } } node = (i : Int)) := (idxN_set fun _ => rfl).trans hidx'.out
     clear hz8 hset hC hcell hfn hfl hs7 hf7 hC' hn' hs' e8
     go_upto_region 13 with fail
     clear cN c3r ufN
     generalize (wc.setCell ⟨gN, u * 6 + 3, none⟩ (.slice (some ⟨gF, 0, none⟩) ksF.length capF)) = w8 at hZ8 ⊢
     have hZd : Hid (HB w fs w.heap.size (w.heap.size + 1) w8.drew (cHp y (some ⟨gN, 0, none⟩) kN1 aO1 kO1 aG1 kG1) { y with vNodes := y.vNodes.set u { y.vNodes[u] with vKids := putK y.vNodes[u].vKids node before } } fs8) := hZ8.out.below (Below.drew (Below.refl _ _))
     have hi' : i < (y.vNodes.set u { y.vNodes[u] with vKids := putK y.vNodes[u].vKids node before }).length := by rw [List.length_set]; exact hi
     refine wp_region_held_drew (S := fun w' => w'.cell? ⟨w.heap.size, 0, none⟩ = some (.int .i64 y.vNext) ∧ w'.cell? ⟨w.heap.size, 1, none⟩ = some (.int .i64 y.vDoc) ∧ w'.cell? ⟨w.heap.size, 2, none⟩ = some (.slice (some ⟨gN, 0, none⟩) y.vNodes.length kN1) ∧ w'.cell? ⟨w.heap.size, 3, none⟩ = some (.slice aO1 y.vObjs.length kO1) ∧ w'.cell? ⟨w.heap.size, 4, none⟩ = some (.slice aG1 y.vGlobals.length kG1)) (by kernel_rfl) (fv5 hZ8.out.bH) (fun hHeld => ?_)
     refine tk 0 ?_
     refine tk 1 ?_
     refine tk 2 ?_
     refine tk 3 ?_
     refine tk 5 ?_
     refine rd1 4 (fun K hK => ?_)
     go_simp
     refine (l2Node_any (h := { y with vNodes := y.vNodes.set u { y.vNodes[u] with vKids := putK y.vNodes[u].vKids node before } }) hZd.out.hp.at0).mono ?_
     rintro e w5 ⟨rfl, hb5⟩
     have hZ5 : Hid (HB w fs w.heap.size (w.heap.size + 1) w5 (cHp y (some ⟨gN, 0, none⟩) kN1 aO1 kO1 aG1 kG1) { y with vNodes := y.vNodes.set u { y.vNodes[u] with vKids := putK y.vNodes[u].vKids node before } } fs8) := hZd.out.below hb5
     rw [hidU.out]
     clear hb5
     refine hK.out _ _ (fv5 hZ5.out.bH) (fun hHeld => ?_)
     clear hK K
     refine tk 6 ?_
     refine tk 7 ?_
     refine rd1 8 (fun K hK => ?_)
     obtain ⟨C2, fi2, hC2, hcell2, hfn2, _, hset2⟩ := hZ5.out.node hi'
     obtain ⟨p3, q3, p5, q5, e5⟩ := hC2.len
     have cP := hcell2 2 _ (by rw [e5]; rfl)
     obtain ⟨_, eg, ufN2⟩ := hZ5.out.hp.posN (by rw [List.length_set]; omega)
     injection eg with eg
     injection eg with eg
     subst eg
     obtain ⟨fs9, hz9⟩ := hset2 w5 2 (.int .i64 parent) _ fi2 (by decide) (Below.refl _ _) (hC2.par hpp'.out) hfn2 (fun b hb => Or.inl hb)
     have hZ9 : Hid (HB w fs w.heap.size (w.heap.size + 1) (w5.setCell ⟨gN, i * 6 + 2, none⟩ (.int .i64 parent)) (cHp y (some ⟨gN, 0, none⟩) kN1 aO1 kO1 aG1 kG1) { y with vNodes := (y.vNodes.set u { y.vNodes[u] with vKids := putK y.vNodes[u].vKids node before }).set i { (y.vNodes.set u { y.vNodes[u] with vKids := putK y.vNodes[u].vKids node before })[i]'(by rw [List.length_set]; exact hi) with vParent := parent } } fs9) := hz9
     have hlU : (((y.vNodes.set u { y.vNodes[u] with vKids := putK y.vNodes[u].vKids node before }).length : Nat) : Int) = (y.vNodes.length : Int) := by rw [List.length_set]
     clear hC2 hcell2 hfn2 hset2 hz9 e5
     go_simp
     refine hK.out _ _ (fv5 hZ9.out.bH) (fun hHeld => ?_)
     clear hK K
     refine wpAnyH_done (by kernel_rfl) ?_ _
     clear hHeld cP ufN2
     obtain ⟨d0, d1, d2, d3, d4⟩ := fv5 hZ9.out.bH
     obtain ⟨z0, z1, z2, z3, z4⟩ := fv5 hZ9.out.bR
     have uz := hZ9.out.bR.unfrozen
     go_wp2_with fail
     have bF : Box (putCells (w5.setCell ⟨gN, i * 6 + 2, none⟩ (.int .i64 parent)) (w.heap.size + 1) 0 (cHp y (some ⟨gN, 0, none⟩) kN1 aO1 kO1 aG1 kG1)) (w.heap.size + 1) (cHp y (some ⟨gN, 0, none⟩) kN1 aO1 kO1 aG1 kG1) 28 := Box.puts5 hZ9.out.bR
     obtain ⟨g0, g1, g2, g3, g4⟩ := fv5 bF
     exact bodyPost_ret (v := .agg (List.toArray (cHp y (some ⟨gN, 0, none⟩) kN1 aO1 kO1 aG1 kG1))) (by simp only [putCells] at g0 g1 g2 g3 g4; simp [results, Tryz.results136, go_sem, g0, g1, g2, g3, g4]) rfl ⟨(cHp y (some ⟨gN, 0, none⟩) kN1 aO1 kO1 aG1 kG1), rfl, by rw [hdF.out]; exact hZ9.out.ret (cHp y (some ⟨gN, 0, none⟩) kN1 aO1 kO1 aG1 kG1)⟩
end Go.Proofs.YtdnembnlomnceaaGreat
namespace Go.Proofs.YtdnembnlomnceaaGreat
open Go.RowKit
def withNode (h : HeapD) (tag : ByteArray) : HeapD := { h with vNext := h.vNext + 1, vNodes := h.vNodes ++ [⟨h.vNext, tag, 0, [], 0, []⟩] }
def makeId (h : HeapD) (o : OpD) : Int := if o.vKind = 1 then h.vNext + 1 else if o.vKind = 2 then h.vNext else if o.vKind = 10 then (wrapD h h.vDoc).2 else 0
def makeH (h : HeapD) (o : OpD) : HeapD := if o.vKind = 1 then newD (withNode h o.vWord) h.vNext else if o.vKind = 2 then newD h 0 else if o.vKind = 10 then (wrapD h h.vDoc).1 else h
def makeD (h : HeapD) (o : OpD) : HeapD := { makeH h o with vGlobals := setD (makeH h o).vGlobals o.vName (makeId h o) }
theorem withNode_idx (h : HeapD) (tag : ByteArray) : 0 ≤ idxN (withNode h tag) h.vNext := by
 rcases idxN_is (withNode h tag) h.vNext with ⟨_, q⟩ | ⟨i, _, q, _⟩
 · exact absurd q (mem_get (f := NodeD.vId) (withNode h tag).vNodes ⟨h.vNext, tag, 0, [], 0, []⟩ (by simp [withNode]))
 · omega
theorem wrap_globs (h : HeapD) (node : Int) : (wrapD h node).1.vGlobals = h.vGlobals := by unfold wrapD; split <;> rfl
theorem make_globs (h : HeapD) (o : OpD) : (makeH h o).vGlobals = h.vGlobals := by
 unfold makeH
 split
 · rfl
 split
 · rfl
 split
 · exact wrap_globs _ _
 · rfl
end Go.Proofs.YtdnembnlomnceaaGreat
