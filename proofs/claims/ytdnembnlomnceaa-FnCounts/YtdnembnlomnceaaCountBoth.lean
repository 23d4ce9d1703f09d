/- CountsOf, of the specification: walked. -/
import Derived.Test.YtdnembnlomnceaaAbb
import Derived.Test.YtdnembnlomnceaaCountImpl
import Derived.Test.YtdnembnlomnceaaHeapSpec
namespace Go.Proofs.Ytdnembnlomnceaa
open Go.RowKit
theorem step_append_ints {P : Program} {w : World} {ops : Array Oper} {o : Oper} {a : Act} {K : Act → World → Prop} {Q : Exit → Act → World → Prop} {E : Prop} (hgd : o.guard = none) (s x : Operand) (t : TypeId)
 (ho : o.op = .call { callee := .builtin .append, args := #[s, x], argTypes := #[t, t] }) (base lo : Nat) (e : TypeId) (i : TypeInfo) (ht : P.underlying t = some (.slice e)) (hi : P.info? e = some i) (hz : i.zero = some (.int .i64 0)) (hsize : i.size = 1) (hby : i.bytes = 8)
 (v : Value) (n : Nat) (xs : List Value) (hs : a.eval s = v) (hv : v ≠ .slice none 0 0) (hown : w.ownsRow base e 1 v n xs) (k : Value) (ks : List Int) (hx : a.eval x = k) (hk : SeqAt 1 IntAt w lo k ks) (hl : n + ks.length ≤ 1099511627776) (hbase : base ≤ w.heap.size)
 (h : ∀ v' w', w'.ownsRow base e 1 v' (n + ks.length) (xs ++ ks.map fun n => .int .i64 n) → w.grownBy w' v.ownBlock → v' ≠ .slice none 0 0 → K (a.put o.dst v') w') : if Region.wanted o (yielded ops a.tmps) = true then Oper.wp P o a w K Q else E := by
 have hw : Region.wanted o (yielded ops a.tmps) = true := by simp [Region.wanted, hgd]
 rw [if_pos hw]
 obtain ⟨ka, kc, rfl, hm, hc⟩ := hk
 cases ka with
 | none =>
  have h0 : ks.length = 0 := by
   rcases Nat.eq_zero_or_pos ks.length with q | q
   · exact q
   · obtain ⟨b, off, e, _⟩ := hc q; cases e
  have hks : ks = [] := List.eq_nil_of_length_eq_zero h0
  subst hks
  have hown' := hown
  rcases hown.2 with ⟨q, _⟩ | ⟨g, cap, cur, rfl, hg, hh, q1, q2, q3, q4⟩
  · exact absurd q hv
  · have hsrc : Src P i.size t (.slice none 0 kc) 0 [] w := Src.ofNil w ht kc
    have hrun := run_append_room_src (P := P) w t t o.type e i ht hi g 0 n cap (.slice none 0 kc) 0 [] hsrc (by omega) (by simp) (by simp)
    have hset : w.setCells g (0 + n * i.size) [] = w := rfl
    rw [hset] at hrun
    unfold Oper.wp
    simp only [List.length_nil] at hx
    simp [execOp, ho, resolve, invoke, builtin, hs, hx, hrun, Result.andThen]
    exact h _ w (by simpa using hown') ⟨rfl, rfl, rfl, Nat.le_refl _, fun _ _ _ => rfl⟩ (by simp)
 | some ad =>
  refine wp_append_own w s x t ho base e i (.int .i64 0) 1 8 ht hi hz hsize hby rfl (by decide) v n xs hs hown ad ks.length kc (ks.map fun n => .int .i64 n) hx (by simp) (fun j u hj => ?_) (fun u hu => ?_) (by unfold maxLen; omega) (by omega) hbase (fun v' w' h1 h2 h3 => ?_)
  · have hj' : j < ks.length := by
     rcases Nat.lt_or_ge j ks.length with q | q
     · exact q
     · rw [List.getElem?_eq_none (by simpa using q)] at hj; cases hj
    obtain ⟨b, off, q, _, _, hcc⟩ := hc (by omega)
    injection q with q
    subst q
    obtain ⟨cs, hcl, lie, hr⟩ := hcc j hj'
    obtain ⟨rfl, _⟩ := hr
    have z := lie 0 (by simp)
    simp only [List.getElem?_cons_zero, Nat.add_zero, Nat.mul_one] at z
    rw [List.getElem?_map, List.getElem?_eq_getElem hj'] at hj
    simp only [Option.map_some, Option.some.injEq] at hj
    rw [← hj]
    unfold Addr.add
    by_cases e0 : j = 0
    · subst e0; simpa using z
    · rw [if_neg e0]; exact z
  · obtain ⟨q, _, rfl⟩ := List.mem_map.1 hu
    rfl
  · exact h v' w' h1 h2 (fun q => hv (h3.1 q).1)
theorem row_apart {w : World} {b1 e1 z1 n1 b2 e2 z2 n2 : Nat} {v1 v2 : Value} {x1 x2 : List Value} (h1 : w.ownsRow b1 e1 z1 v1 n1 x1) (h2 : w.ownsRow b2 e2 z2 v2 n2 x2) (he : e1 ≠ e2) {g : Nat} (hg : v2.ownBlock = some g) : some g ≠ v1.ownBlock := fun q => by
 obtain ⟨c1, q1⟩ := row_blk h1 q.symm
 obtain ⟨c2, q2⟩ := row_blk h2 hg
 rw [q1] at q2
 injection q2 with q2
 injection q2 with _ q2 _
 exact he q2
set_option maxRecDepth 100000 in
set_option maxHeartbeats 6400000 in
theorem specCountsOf_any {w : World} {lo : Nat} {cs : List Value} {h : HeapD} (hh : HeapAt w lo cs h) (hs : h.small) :
 Calls Try.prog 30 #[.agg cs.toArray] w fun e w' => (∃ v fs, e = .returned v ∧ SeqOwn 2 CountOwn w' v (countsD h) fs ∧ ∀ b ∈ fs, w.heap.size ≤ b) ∧ Below w.heap.size w w' := by
 obtain ⟨iC, hiC, heC⟩ := Option.map_eq_some_iff.1 infoCount
 simp only [Prod.mk.injEq] at heC
 have hC : Hid _ := hiC
 have hEC : Hid _ := heC
 clear hiC heC
 obtain ⟨iI, hiI, heI⟩ := Option.map_eq_some_iff.1 infoI64
 simp only [Prod.mk.injEq] at heI
 have hI : Hid _ := hiI
 have hE : Hid _ := heI
 clear hiI heI
 have hh' : Hid (HeapAt w lo cs h) := hh
 have hs' : Hid h.small := hs
 obtain ⟨k2, k3, k4, rfl, s2, s3, s4, _⟩ := hh
 obtain ⟨a2, cap2, rfl⟩ := s2.form
 obtain ⟨a3, cap3, rfl⟩ := s3.form
 obtain ⟨a4, cap4, rfl⟩ := s4.form
 clear s2 s3 s4 hs
 have hb1 : Below w.heap.size w ((w.alloc (.cells (List.toArray (cHp h a2 cap2 a3 cap3 a4 cap4)) 28)).alloc (.cells #[] 54)) := ((Below.refl _ _).alloc (Nat.le_refl _) _).alloc (by simp) _
 have bH0 : Hid (Box ((w.alloc (.cells (List.toArray (cHp h a2 cap2 a3 cap3 a4 cap4)) 28)).alloc (.cells #[] 54)) w.heap.size (cHp h a2 cap2 a3 cap3 a4 cap4) 28) := (Box.new w (cHp h a2 cap2 a3 cap3 a4 cap4) 28).alloc _
 have hr0 : Hid (((w.alloc (.cells (List.toArray (cHp h a2 cap2 a3 cap3 a4 cap4)) 28)).alloc (.cells #[] 54)).ownsRow (w.heap.size + 1) 54 2 (.slice (some ⟨w.heap.size + 1, 0, none⟩) 0 0) 0 []) := by
  have q : ((w.alloc (.cells (List.toArray (cHp h a2 cap2 a3 cap3 a4 cap4)) 28)).alloc (.cells #[] 54)).heap[(w.alloc (.cells (List.toArray (cHp h a2 cap2 a3 cap3 a4 cap4)) 28)).heap.size]? = some (.cells #[] 54) := (MapKept.heap_alloc (w.alloc (.cells (List.toArray (cHp h a2 cap2 a3 cap3 a4 cap4)) 28)) _).1
  rw [World.size_alloc] at q
  exact ⟨rfl, Or.inr ⟨_, _, #[], rfl, Nat.le_refl _, q, Nat.le_refl _, Nat.zero_le _, rfl, rfl⟩⟩
 have hq0 : Hid (SeqOwn 2 CountOwn ((w.alloc (.cells (List.toArray (cHp h a2 cap2 a3 cap3 a4 cap4)) 28)).alloc (.cells #[] 54)) (.slice (some ⟨w.heap.size + 1, 0, none⟩) 0 0) [] [w.heap.size + 1]) := by
  have q := countsOwn_empty (w.alloc (.cells (List.toArray (cHp h a2 cap2 a3 cap3 a4 cap4)) 28)) 54
  rw [World.size_alloc] at q
  exact q
 go_enter Try.func30, Try.ntmps30
 go_wp2_with fail
 refine (specHeapOk_any (HeapAt_stays _ _ _ lo _ _ (.of_below hb1) hh'.out)).mono ?_
 rintro e w1 ⟨rfl, hb2⟩
 have hB2 : Below w.heap.size w w1 := hb1.trans (hb2.mono hb1.size)
 have hz1 : w.heap.size + 2 ≤ w1.heap.size := by have := hb2.size; simpa using this
 have bH1 : Hid (Box w1 w.heap.size (cHp h a2 cap2 a3 cap3 a4 cap4) 28) := bH0.out.below hb2 bH0.out.lt
 have hr1 : Hid (w1.ownsRow (w.heap.size + 1) 54 2 (.slice (some ⟨w.heap.size + 1, 0, none⟩) 0 0) 0 []) := own_below hr0.out hb2
 have hq1 : Hid (SeqOwn 2 CountOwn w1 (.slice (some ⟨w.heap.size + 1, 0, none⟩) 0 0) [] [w.heap.size + 1]) := SeqOwn.below CountOwn_stays CountOwn_lt hq0.out hb2
 obtain ⟨c0, c1, c2, c3, c4⟩ := fv5 bH1.out
 clear bH0 hr0 hq0 hb2
 cases hp : specB h
 · have HF : Hid (countsD h = []) := by show _ = _; simp [countsD, hp]
   clear hp
   go_wp2_with fail
   go_ret
   exact ⟨⟨_, _, rfl, by rw [HF.out]; exact hq1.out, fun b q => by simp at q; omega⟩, hB2⟩
 have HF : Hid (countsD h = countD h) := by show _ = _; simp [countsD, hp]
 have hp' : Hid (specB h = true) := hp
 have hIc : Hid (∀ x ∈ countD h, InI x.vId ∧ InI x.vN) := countD_in hh'.out hp hs'.out
 have hin : Hid (∀ x ∈ idsD h, InI x) := idsD_in hh'.out
 have hN : (idsD h).length ≤ 32 := idsD_most hp
 clear hp hq1
 go_wp2_with fail
 refine (l5All_any (HeapAt_stays _ _ _ lo _ _ (.of_below hB2) hh'.out) hp'.out).mono ?_
 rintro e w2 ⟨⟨v2, rfl, hown2⟩, hb3⟩
 have hB3 : Below w.heap.size w w2 := hB2.trans (hb3.mono hB2.size)
 have hz2 := hb3.size
 have bH2 : Hid (Box w2 w.heap.size (cHp h a2 cap2 a3 cap3 a4 cap4) 28) := bH1.out.below hb3 bH1.out.lt
 have hr2 : Hid (w2.ownsRow (w.heap.size + 1) 54 2 (.slice (some ⟨w.heap.size + 1, 0, none⟩) 0 0) 0 []) := own_below hr1.out hb3
 obtain ⟨av, cv, rfl⟩ := own_forms hown2
 have hall2 : Hid (w2.ownsRow w1.heap.size 2 1 (.slice av (idsD h).length cv) (idsD h).length ((idsD h).map fun n => .int .i64 n)) := hown2
 clear c0 c1 c2 c3 c4 hown2 hb3 bH1 hr1
 obtain ⟨c0, c1, c2, c3, c4⟩ := fv5 bH2.out
 go_wp2_with fail
 refine (l5Roots_any (HeapAt_stays _ _ _ lo _ _ (.of_below hB3) hh'.out) hs'.out).mono ?_
 rintro e w3 ⟨⟨g3, cap3', rfl, hown3⟩, hb4⟩
 have hroot3 : Hid (w3.ownsRow w2.heap.size 2 1 (.slice (some ⟨g3, 0, none⟩) (rootsD h).length cap3') (rootsD h).length ((rootsD h).map fun n => .int .i64 n)) := hown3
 clear c0 c1 c2 c3 c4 hown3
 go_wp2_with fail
 go_loopw [5, 6] (fun v i wr => ∃ (j : Nat), j ≤ (idsD h).length ∧ i = .int .i64 j ∧ Hid (wr.ownsRow w2.heap.size 2 1 v (heldL h j).length ((heldL h j).map fun n => .int .i64 n)) ∧ Hid (∃ g cap, v = .slice (some ⟨g, 0, none⟩) (heldL h j).length cap) ∧ Below w2.heap.size w2 wr) (fun _ i _ => (idsD h).length - (intOf i).toNat)
 case atStart => exact ⟨0, by omega, rfl, by rw [heldL_zero]; exact hroot3, by rw [heldL_zero]; exact ⟨_, _, rfl⟩, hb4⟩
 case round =>
  clear hroot3 hb4 w3
  obtain ⟨j, hj, rfl, hown, hform, hb⟩ := hrel
  obtain ⟨gv, capv, rfl⟩ := hform.out
  clear hform
  have hz := hb.size
  have hBr : Below w.heap.size w wr := hB3.trans (hb.mono hB3.size)
  by_cases hlt : j < (idsD h).length
  · obtain ⟨ga, rfl, z0⟩ := row_get hall2.out hlt (x := .int .i64 (idsD h)[j]) (by simp [hlt])
    have z0 := cell_on hb z0
    have hstep : Hid (heldL h (j + 1) = heldL h j ++ edgesS h (idsD h)[j]) := heldL_succ hlt
    have hHl : (heldL h j).length ≤ 36700160 := heldL_len hp'.out hs'.out j
    generalize hK : (idsD h)[j] = K at z0 hstep
    have bHr : Hid (Box wr w.heap.size (cHp h a2 cap2 a3 cap3 a4 cap4) 28) := bH2.out.below hb bH2.out.lt
    obtain ⟨d0, d1, d2, d3, d4⟩ := fv5 bHr.out
    obtain ⟨HL, hHL⟩ : ∃ HL, heldL h j = HL := ⟨_, rfl⟩
    rw [hHL] at hHl hstep hown
    rw [hHL]
    have hHL' : Hid _ := hHL
    clear hK hHL
    have hIe : Hid (∀ x ∈ edgesS h K, InI x) := edges_in hh'.out
    have hel : (edgesS h K).length ≤ 1048578 := edges_most hp'.out hs'.out K
    have hown' : Hid (wr.ownsRow w2.heap.size 2 1 (.slice (some ⟨gv, 0, none⟩) HL.length capv) HL.length (HL.map fun n => .int .i64 n)) := hown
    have hgv : w2.heap.size ≤ gv := own_block hown.out gv rfl
    have hga : ga < w2.heap.size := row_lt' hall2.out rfl
    have hHw : w.heap.size < w2.heap.size := bH2.out.lt
    have hneH : some w.heap.size ≠ (Value.slice (some ⟨gv, 0, none⟩) HL.length capv).ownBlock := fun e => by have := own_block hown'.out _ e.symm; omega
    have hneA : some ga ≠ (Value.slice (some ⟨gv, 0, none⟩) HL.length capv).ownBlock := fun e => by have := own_block hown'.out _ e.symm; omega
    obtain ⟨ES, hES⟩ : ∃ ES, edgesS h K = ES := ⟨_, rfl⟩
    have hES' : Hid (edgesS h K = ES) := hES
    rw [hES] at hel hstep hIe
    clear hES hown hgv
    go_wp2_with fail
    go_region_held3 (fun w' => w'.cell? ⟨w.heap.size, 0, none⟩ = some (.int .i64 h.vNext) ∧ w'.cell? ⟨w.heap.size, 1, none⟩ = some (.int .i64 h.vDoc) ∧ w'.cell? ⟨w.heap.size, 2, none⟩ = some (.slice a2 h.vNodes.length cap2) ∧ w'.cell? ⟨w.heap.size, 3, none⟩ = some (.slice a3 h.vObjs.length cap3) ∧ w'.cell? ⟨w.heap.size, 4, none⟩ = some (.slice a4 h.vGlobals.length cap4) ∧ w'.cell? ⟨ga, j, none⟩ = some (.int .i64 K)) (go_keep)
     (first | (go_at_call 60; refine (l5Edges_any (id := K) (by exact HeapAt_stays _ _ _ lo _ _ (.of_below hBr.drew) hh'.out) hs'.out).mono ?_; rintro e w4 ⟨⟨v4, rfl, hown4⟩, hb5⟩; rw [hES'.out] at hown4; have hb5' : Hid (Below wr.heap.size wr w4) := undrew hb5; have hz4 := hb5'.out.size; obtain ⟨a4', c4', rfl⟩ := own_forms hown4; have hsq4 : Hid (SeqAt 1 IntAt w4 0 (.slice a4' ES.length c4') ES) := row_seq hown4 hIe.out; have d0n := cell_on hb5'.out d0; have d1n := cell_on hb5'.out d1; have d2n := cell_on hb5'.out d2; have d3n := cell_on hb5'.out d3; have d4n := cell_on hb5'.out d4; have z0n := cell_on hb5'.out z0; clear hown4 hb5) | (refine step_append_ints (by rfl) _ _ 40 (by rfl) (w2.heap.size) 0 2 iI Try.underlying40 hI.out hE.out.1 hE.out.2.2 hE.out.2.1 (.slice (some ⟨gv, 0, none⟩) HL.length capv) (HL.length) (HL.map fun n => .int .i64 n) (by rfl) (by simp) (by first | exact own_below hown'.out hb5'.out | exact (own_below hown'.out hb5'.out).drew) _ (ES) (by rfl) (by first | exact hsq4.out | exact SeqAt.keep intAt_stays hsq4.out (.of_below (Below.refl _ _).drew)) (by omega) (by first | omega | (simp; omega)) ?_; intro v5 w5 hown5 hgrow5 hnn5; have e0n := (hgrow5.cell_far ⟨w.heap.size, 0, none⟩ (by first | omega | (simp; omega)) (by exact hneH)).trans (by first | exact d0n | exact cell_on (Below.refl _ _).drew d0n); have e1n := (hgrow5.cell_far ⟨w.heap.size, 1, none⟩ (by first | omega | (simp; omega)) (by exact hneH)).trans (by first | exact d1n | exact cell_on (Below.refl _ _).drew d1n); have e2n := (hgrow5.cell_far ⟨w.heap.size, 2, none⟩ (by first | omega | (simp; omega)) (by exact hneH)).trans (by first | exact d2n | exact cell_on (Below.refl _ _).drew d2n); have e3n := (hgrow5.cell_far ⟨w.heap.size, 3, none⟩ (by first | omega | (simp; omega)) (by exact hneH)).trans (by first | exact d3n | exact cell_on (Below.refl _ _).drew d3n); have e4n := (hgrow5.cell_far ⟨w.heap.size, 4, none⟩ (by first | omega | (simp; omega)) (by exact hneH)).trans (by first | exact d4n | exact cell_on (Below.refl _ _).drew d4n); have z0m := (hgrow5.cell_far ⟨ga, j, none⟩ (by first | omega | (simp; omega)) (by exact hneA)).trans (by first | exact z0n | exact cell_on (Below.refl _ _).drew z0n)))
    have hr4 : Hid (w4.ownsRow w2.heap.size 2 1 (.slice (some ⟨gv, 0, none⟩) HL.length capv) HL.length (HL.map fun n => .int .i64 n)) := own_below hown'.out hb5'.out
    have hbr4 : Below w2.heap.size w2 w4 := hb.trans (hb5'.out.mono hb.size)
    obtain ⟨g5, cap5, rfl⟩ := nonnil_row hown5 hnn5
    have hb6 : Below w2.heap.size w2 w5 := by first | exact hbr4.grown hgrow5 hbr4.size (own_block hr4.out) | exact hbr4.drew.grown hgrow5 hbr4.size (own_block hr4.out)
    have hr5 : Hid (w5.ownsRow w2.heap.size 2 1 (.slice (some ⟨g5, 0, none⟩) (HL.length + ES.length) cap5) (heldL h (j + 1)).length ((heldL h (j + 1)).map fun n => .int .i64 n)) := by
     rw [hstep.out, List.length_append, List.map_append]
     exact hown5
    have hl5 : Hid ((heldL h (j + 1)).length = HL.length + ES.length) := by show _ = _; rw [hstep.out, List.length_append]
    clear hown5 hgrow5 hnn5
    go_wp2_with fail
    go_roundw
    case rel => exact ⟨j + 1, by omega, by go_num, hr5, ⟨_, _, by rw [hl5.out]⟩, hb6⟩
    case measure => simp [intOf]; omega
  obtain rfl : j = (idsD h).length := by omega
  have hHl : (heldL h (idsD h).length).length ≤ 36700160 := heldL_len hp'.out hs'.out _
  have hIh : Hid (∀ x ∈ heldL h (idsD h).length, InI x) := fun x hx => hin.out x (heldL_in hp'.out _ x hx)
  have hcnt : Hid (∀ k, ((cntE (heldL h (idsD h).length) k : Nat) : Int) = heldC (accG h) k) := heldL_full hp'.out
  obtain ⟨HL, hHL⟩ : ∃ HL, heldL h (idsD h).length = HL := ⟨_, rfl⟩
  rw [hHL] at hHl hIh hcnt hown
  rw [hHL]
  have hallr : Hid (wr.ownsRow w1.heap.size 2 1 (.slice av (idsD h).length cv) (idsD h).length ((idsD h).map fun n => .int .i64 n)) := own_below hall2.out hb
  have houtr : Hid (wr.ownsRow (w.heap.size + 1) 54 2 (.slice (some ⟨w.heap.size + 1, 0, none⟩) 0 0) 0 []) := own_below hr2.out hb
  clear hHL hall2 hr2 bH2 hb hz
  go_wp2_with fail
  go_loopw [3, 7] (fun v i wr => ∃ (j : Nat), j ≤ (idsD h).length ∧ i = .int .i64 j ∧ Hid (wr.ownsRow (w.heap.size + 1) 54 2 v j (cellsC ((countD h).take j))) ∧ Hid (∃ a cap, v = .slice a j cap) ∧ Hid (wr.ownsRow w1.heap.size 2 1 (.slice av (idsD h).length cv) (idsD h).length ((idsD h).map fun n => .int .i64 n)) ∧ Hid (wr.ownsRow w2.heap.size 2 1 (.slice (some ⟨gv, 0, none⟩) HL.length capv) HL.length (HL.map fun n => .int .i64 n)) ∧ Below w.heap.size w wr) (fun _ i _ => (idsD h).length - (intOf i).toNat)
  case atStart => exact ⟨0, by omega, rfl, houtr, ⟨_, _, rfl⟩, hallr, hown, hBr⟩
  case round =>
   clear hallr houtr hown hBr
   obtain ⟨j, hj, rfl, hown, hform, hallr, hheld, hb⟩ := hrel
   obtain ⟨a5, cap5, rfl⟩ := hform.out
   clear hform
   have hz := hb.size
   have hz' : w.heap.size + 1 ≤ wr.heap.size := by have q := row_lt' (g := gv) hheld.out rfl; have := own_block hheld.out gv rfl; omega
   by_cases hlt : j < (idsD h).length
   · obtain ⟨ga, rfl, z0⟩ := row_get hallr.out hlt (x := .int .i64 (idsD h)[j]) (by simp [hlt])
     have hstep : Hid (cellsC ((countD h).take (j + 1)) = cellsC ((countD h).take j) ++ [.int .i64 (idsD h)[j], .int .i64 (heldC (accG h) (idsD h)[j])]) := by show _ = _; rw [countD_step hlt, cellsC_snoc]
     have hck : Hid (((cntE HL (idsD h)[j] : Nat) : Int) = heldC (accG h) (idsD h)[j]) := hcnt.out _
     generalize hK : (idsD h)[j] = K at z0 hstep hck
     generalize hH : heldC (accG h) K = H at hstep hck
     obtain ⟨L, hL⟩ : ∃ L, cellsC ((countD h).take j) = L := ⟨_, rfl⟩
     have hownL : Hid (wr.ownsRow (w.heap.size + 1) 54 2 (.slice a5 j cap5) j L) := by rw [← hL]; exact hown
     have hL' : Hid _ := hL
     have hsq : Hid (SeqAt 1 IntAt wr 0 (.slice (some ⟨gv, 0, none⟩) HL.length capv) HL) := row_seq hheld.out hIh.out
     clear hK hL hH hown
     have hne : some ga ≠ (Value.slice a5 j cap5).ownBlock := row_apart hownL.out hallr.out (by decide) rfl
     have hga : ga < wr.heap.size := row_lt' hallr.out rfl
     go_wp2_with fail
     go_region_held3 (fun w' => w'.cell? ⟨ga, j, none⟩ = some (.int .i64 K))
      (go_keep)
      (first | (go_at_call 61; refine (l5Count_any (xs := HL) (lo := 0) (by exact SeqAt.keep intAt_stays hsq.out (.of_below (Below.refl _ _).drew)) (by omega)).mono ?_; rintro e w4 ⟨rfl, rfl⟩; rw [hck.out]) | (refine step_append_lies _ (by rfl) _ _ _ (by rfl) (w.heap.size + 1) 54 iC (.agg #[.int .i64 0, .int .i64 0]) 2 16 Try.underlying51 hC.out hEC.out.1 hEC.out.2.2 hEC.out.2.1 rfl (by omega) _ (j) (L) (by rfl) (by first | exact (hownL.out.alloc _).drew | exact hownL.out.drew.alloc _ | exact (hownL.out.drew.alloc _).drew) ⟨wr.heap.size, 0, none⟩ 1 1 [.int .i64 K, .int .i64 H] (by rfl) (by rfl) (World.news_of_block (cs := List.toArray [.int .i64 K, .int .i64 H]) (t := 54) (fr := (0, 0)) (by first | exact heap_alloc_new _ _ | simpa using heap_alloc_new _ _)) (by simp [Value.oneCell']) (by omega) (by unfold maxLen; omega) (by omega) (by simp; omega) (wr.heap.size + 1) (by simp) ?_; intro g5 cap5' w5 hown5 hgrow5 hat5 hlt5; have q1 := (hgrow5.cell_far ⟨ga, j, none⟩ (by simp; omega) (by exact hne)).trans (show _ = some (Value.int .i64 K) from by first | assumption | exact cell_on (((Below.refl _ _).alloc (Nat.le_refl _) _).drew) z0)))
     have hb4 : Below w.heap.size w w5 := ((hb.alloc hz _).drew).grown hgrow5 (by simp; omega) (fun k e => by have := own_block hownL.out k e; omega)
     have hall5 : Hid (w5.ownsRow w1.heap.size 2 1 (.slice (some ⟨ga, 0, none⟩) (idsD h).length cv) (idsD h).length ((idsD h).map fun n => .int .i64 n)) :=
      row_keep ((hallr.out.alloc _).drew) (fun q hq => hgrow5.block _ (row_lt' ((hallr.out.alloc _).drew) hq) (row_apart hownL.out hallr.out (by decide) hq))
     have hheld5 : Hid (w5.ownsRow w2.heap.size 2 1 (.slice (some ⟨gv, 0, none⟩) HL.length capv) HL.length (HL.map fun n => .int .i64 n)) :=
      row_keep ((hheld.out.alloc _).drew) (fun q hq => hgrow5.block _ (row_lt' ((hheld.out.alloc _).drew) hq) (row_apart hownL.out hheld.out (by decide) hq))
     have hown1 : Hid (w5.ownsRow (w.heap.size + 1) 54 2 (.slice (some ⟨g5, 0, none⟩) (j + 1) cap5') (j + 1) (L ++ [.int .i64 K, .int .i64 H])) := hown5
     clear hown5 hgrow5 hat5 hlt5
     go_wp2_with fail
     go_roundw
     case rel => exact ⟨j + 1, by omega, by go_num, by rw [hstep.out, hL'.out]; exact hown1.out, ⟨_, _, rfl⟩, hall5, hheld5, hb4⟩
     case measure => simp [intOf]; omega
   obtain rfl : j = (idsD h).length := by omega
   have hown2 : Hid (wr.ownsRow (w.heap.size + 1) 54 2 (.slice a5 (idsD h).length cap5) (countD h).length (cellsC (countD h))) := by
    have q := hown.out
    have e : (countD h).length = (idsD h).length := by simp [countD]
    rw [show (countD h).take (idsD h).length = countD h by rw [← e, List.take_length]] at q
    rw [e]
    exact q
   obtain ⟨fs, ho, hl⟩ := seqOwn_of_counts hown2.out hIc.out
   have ho' : Hid (SeqOwn 2 CountOwn wr (.slice a5 (idsD h).length cap5) (countsD h) fs) := by rw [HF.out]; exact ho
   have hl' : Hid (∀ b ∈ fs, w.heap.size ≤ b) := fun b q => by have := hl b q; omega
   clear hown ho hl
   go_wp2_with fail
   go_ret
   exact ⟨⟨_, fs, rfl, ho'.out, hl'.out⟩, hb⟩
end Go.Proofs.Ytdnembnlomnceaa
