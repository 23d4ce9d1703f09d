/- A trial, of the specification: walked. -/
import Derived.Test.YtnonfehmbabfhaaGreatTrialPlain
import Derived.Maps.AppendAt
import Derived.Test.YtnonfehmbabfhaaGreatHeapSpec
namespace Go.Proofs.YtnonfehmbabfhaaGreat
open Go.RowKit
theorem step_append_ints_at {P : Program} {w : World} {ops : Array Oper} {o : Oper} {a : Act} {K : Act → World → Prop} {Q : Exit → Act → World → Prop} {E : Prop} (hgd : o.guard = none) (s x : Operand) (t : TypeId)
    (ho : o.op = .call { callee := .builtin .append, args := #[s, x], argTypes := #[t, t] }) (base lo : Nat) (e : TypeId) (i : TypeInfo) (ht : P.underlying t = some (.slice e)) (hi : P.info? e = some i) (hz : i.zero = some (.int .i64 0)) (hsize : i.size = 1) (hby : i.bytes = 8)
    (v : Value) (n : Nat) (xs : List Value) (hs : a.eval s = v) (hv : v ≠ .slice none 0 0) (hown : w.ownsRow base e 1 v n xs) (k : Value) (ks : List Int) (hx : a.eval x = k) (hk : SeqAt 1 IntAt w lo k ks) (hl : n + ks.length ≤ 1099511627776) (hbase : base ≤ w.heap.size)
    (h : ∀ v' w', w'.ownsRow base e 1 v' (n + ks.length) (xs ++ ks.map fun n => .int .i64 n) → w.grownBy w' v.ownBlock → v' ≠ .slice none 0 0 → (v'.ownBlock = v.ownBlock ∨ v'.ownBlock = some w.heap.size) → K (a.put o.dst v') w') : if Region.wanted o (yielded ops a.tmps) = true then Oper.wp P o a w K Q else E := by
  have hw : Region.wanted o (yielded ops a.tmps) = true := by simp [Region.wanted, hgd]
  rw [if_pos hw]
  obtain ⟨ka, kc, rfl, hm, hc⟩ := hk
  cases ka with
  | none =>
    have h0 : ks.length = 0 := by
      rcases Nat.eq_zero_or_pos ks.length with q | q
      · exact q
      · obtain ⟨b, off, e, _⟩ := hc q; cases e
    have hks : ks = [] := List.eq_nil_of_length_eq_zero h0
    subst hks
    have hown' := hown
    rcases hown.2 with ⟨q, _⟩ | ⟨g, cap, cur, rfl, hg, hh, q1, q2, q3, q4⟩
    · exact absurd q hv
    · have hsrc : Src P i.size t (.slice none 0 kc) 0 [] w := Src.ofNil w ht kc
      have hrun := run_append_room_src (P := P) w t t o.type e i ht hi g 0 n cap (.slice none 0 kc) 0 [] hsrc (by omega) (by simp) (by simp)
      have hset : w.setCells g (0 + n * i.size) [] = w := rfl
      rw [hset] at hrun
      unfold Oper.wp
      simp only [List.length_nil] at hx
      simp [execOp, ho, resolve, invoke, builtin, hs, hx, hrun, Result.andThen]
      exact h _ w (by simpa using hown') ⟨rfl, rfl, rfl, Nat.le_refl _, fun _ _ _ => rfl⟩ (by simp) (Or.inl rfl)
  | some ad =>
    obtain ⟨v', w', hr, h1, h2, h3, h4⟩ := run_append_own_at (P := P) w base t o.type e i (.int .i64 0) 1 8 ht hi hz hsize hby rfl (by decide) v n xs hown ad ks.length kc (ks.map fun n => .int .i64 n) (by simp) (fun j u hj => by
      have hj' : j < ks.length := by
        rcases Nat.lt_or_ge j ks.length with q | q
        · exact q
        · rw [List.getElem?_eq_none (by simpa using q)] at hj; cases hj
      obtain ⟨b, off, q, _, _, hcc⟩ := hc (by omega)
      injection q with q
      subst q
      obtain ⟨cs, hcl, lie, hr⟩ := hcc j hj'
      obtain ⟨rfl, _⟩ := hr
      have z := lie 0 (by simp)
      simp only [List.getElem?_cons_zero, Nat.add_zero, Nat.mul_one] at z
      rw [List.getElem?_map, List.getElem?_eq_getElem hj'] at hj
      simp only [Option.map_some, Option.some.injEq] at hj
      rw [← hj]
      unfold Addr.add
      by_cases e0 : j = 0
      · subst e0; simpa using z
      · rw [if_neg e0]; exact z) (fun u hu => by
      obtain ⟨q, _, rfl⟩ := List.mem_map.1 hu
      rfl) (by unfold maxLen; omega) (by omega) hbase
    unfold Oper.wp execOp
    simp only [ho, resolve, invoke, builtin, Sem.run_bind, Sem.run_pure, Result.andThen_ok, List.map_toArray, List.map_cons, List.map_nil, hs, hx, hr]
    exact h v' w' h1 h2 (fun q => hv (h3.1 q).1) h4
set_option maxRecDepth 100000 in
set_option maxHeartbeats 12800000 in
theorem l6Trial_any {w : World} {lo : Nat} {cs : List Value} {h : HeapD} {k : Value} {ids : List Int} (hh : HeapAt w lo cs h) (hs : h.small) (hp : specB h = true) (hk : SeqAt 1 IntAt w lo k ids) (hf : ∀ x ∈ ids, x ∈ idsD h) (hl : ids.length ≤ 100) :
    Calls Tryz.prog 42 #[.agg cs.toArray, k] w fun e w' => (∃ v, e = .returned v ∧ w'.ownsRow w.heap.size 2 1 v (trialL h ids).length ((trialL h ids).map fun n => .int .i64 n)) ∧ Below w.heap.size w w' := by
  obtain ⟨iI, hiI, heI⟩ := Option.map_eq_some_iff.1 infoI64
  simp only [Prod.mk.injEq] at heI
  have hI : Hid _ := hiI
  have hE : Hid _ := heI
  clear hiI heI
  have hh' : Hid (HeapAt w lo cs h) := hh
  have hs' : Hid h.small := hs
  have hp' : Hid (specB h = true) := hp
  have hk' : Hid (SeqAt 1 IntAt w lo k ids) := hk
  have hf' : Hid (∀ x ∈ ids, x ∈ idsD h) := hf
  have hin : Hid (∀ x ∈ idsD h, InI x) := idsD_in hh
  have hN : (idsD h).length ≤ 32 := idsD_most hp
  obtain ⟨k2, k3, k4, rfl, s2, s3, s4, _⟩ := hh
  obtain ⟨a2, cap2, rfl⟩ := s2.form
  obtain ⟨a3, cap3, rfl⟩ := s3.form
  obtain ⟨a4, cap4, rfl⟩ := s4.form
  obtain ⟨ak, ck, rfl⟩ := hk.form
  clear s2 s3 s4 hs hp hk hf
  have hSB : Hid (∀ x ∈ belD h ids, x ∈ idsD h) := below_there hp'.out hs'.out hf'.out
  have hSl : (belD h ids).length ≤ 32 := belD_len hp'.out hs'.out hf'.out
  have hLT : Hid (∀ x ∈ liveL h (belD h ids), x ∈ idsD h) := live_there hp'.out hs'.out hf'.out
  have hTR : Hid (trialL h ids = (belD h ids).filter fun k => !hasB (belD h (liveL h (belD h ids))) k) := rfl
  have hb1 : Below w.heap.size w (w.alloc (.cells #[.int .i64 h.vNext, .int .i64 h.vDoc, .slice a2 h.vNodes.length cap2, .slice a3 h.vObjs.length cap3, .slice a4 h.vGlobals.length cap4] 32)) := (Below.refl _ _).alloc (Nat.le_refl _) _
  have bH0 : Hid (Box (w.alloc (.cells #[.int .i64 h.vNext, .int .i64 h.vDoc, .slice a2 h.vNodes.length cap2, .slice a3 h.vObjs.length cap3, .slice a4 h.vGlobals.length cap4] 32)) w.heap.size [.int .i64 h.vNext, .int .i64 h.vDoc, .slice a2 h.vNodes.length cap2, .slice a3 h.vObjs.length cap3, .slice a4 h.vGlobals.length cap4] 32) := Box.new w [.int .i64 h.vNext, .int .i64 h.vDoc, .slice a2 h.vNodes.length cap2, .slice a3 h.vObjs.length cap3, .slice a4 h.vGlobals.length cap4] 32
  go_enter Tryz.func42, Tryz.ntmps42
  go_wp2_with fail
  refine (l5Below_any (HeapAt_stays _ _ _ lo _ _ (.of_below hb1) hh'.out) hs'.out hp'.out (SeqAt.keep intAt_stays hk'.out (.of_below hb1)) hf'.out (by omega)).mono ?_
  rintro e w1 ⟨⟨v1, rfl, hown1⟩, hb2⟩
  obtain ⟨SM, hSM⟩ : ∃ SM, belD h ids = SM := ⟨_, rfl⟩
  rw [hSM] at hown1 hSB hSl hLT hTR
  have hTR' : Hid (trialL h ids = SM.filter fun k => !hasB (belD h (liveL h SM)) k) := hTR
  clear hTR
  clear hSM
  have hB2 : Below w.heap.size w w1 := hb1.trans (hb2.mono hb1.size)
  have hz1 : w.heap.size + 1 ≤ w1.heap.size := by have := hb2.size; simpa using this
  have bH1 : Hid (Box w1 w.heap.size [.int .i64 h.vNext, .int .i64 h.vDoc, .slice a2 h.vNodes.length cap2, .slice a3 h.vObjs.length cap3, .slice a4 h.vGlobals.length cap4] 32) := bH0.out.below hb2 bH0.out.lt
  obtain ⟨aS, cps, rfl⟩ := own_forms hown1
  have hsm1 : Hid (w1.ownsRow (w.heap.size + 1) 2 1 (.slice aS SM.length cps) SM.length (SM.map fun n => .int .i64 n)) := by have q := hown1; rw [World.size_alloc] at q; exact q
  have c0 := bH1.out.cell 0 rfl
  have c1 := bH1.out.cell 1 rfl
  have c2 := bH1.out.cell 2 rfl
  have c3 := bH1.out.cell 3 rfl
  have c4 := bH1.out.cell 4 rfl
  clear bH0 hown1 hb2
  go_wp2_with fail
  refine (l5All_any (HeapAt_stays _ _ _ lo _ _ (.of_below hB2) hh'.out) hp'.out).mono ?_
  rintro e w2 ⟨⟨v2, rfl, hown2⟩, hb3⟩
  have hB3 : Below w.heap.size w w2 := hB2.trans (hb3.mono hB2.size)
  have hz2 := hb3.size
  have bH2 : Hid (Box w2 w.heap.size [.int .i64 h.vNext, .int .i64 h.vDoc, .slice a2 h.vNodes.length cap2, .slice a3 h.vObjs.length cap3, .slice a4 h.vGlobals.length cap4] 32) := bH1.out.below hb3 bH1.out.lt
  have hsm2 : Hid (w2.ownsRow (w.heap.size + 1) 2 1 (.slice aS SM.length cps) SM.length (SM.map fun n => .int .i64 n)) := own_below hsm1.out hb3
  obtain ⟨av, cv, rfl⟩ := own_forms hown2
  have hall2 : Hid (w2.ownsRow w1.heap.size 2 1 (.slice av (idsD h).length cv) (idsD h).length ((idsD h).map fun n => .int .i64 n)) := hown2
  clear c0 c1 c2 c3 c4 hown2 hb3 bH1 hsm1
  have c0 := bH2.out.cell 0 rfl
  have c1 := bH2.out.cell 1 rfl
  have c2 := bH2.out.cell 2 rfl
  have c3 := bH2.out.cell 3 rfl
  have c4 := bH2.out.cell 4 rfl
  go_wp2_with fail
  refine (l5Roots_any (HeapAt_stays _ _ _ lo _ _ (.of_below hB3) hh'.out) hs'.out).mono ?_
  rintro e w3 ⟨⟨g3, cap3', rfl, hown3⟩, hb4⟩
  have hz3 := hb4.size
  have hg3 : g3 < w3.heap.size := row_lt' hown3 rfl
  have hr3 : Hid ((w3.alloc (.cells #[] 2)).ownsRow w2.heap.size 2 1 (.slice (some ⟨g3, 0, none⟩) (rootsD h).length cap3') (rootsD h).length ((rootsD h).map fun n => .int .i64 n)) := hown3.alloc _
  have hi3 : Hid ((w3.alloc (.cells #[] 2)).ownsRow w2.heap.size 2 1 (.slice (some ⟨w3.heap.size, 0, none⟩) 0 0) 0 []) := row_start hz3
  have hb5 : Below w2.heap.size w2 (w3.alloc (.cells #[] 2)) := hb4.alloc hz3 _
  have hne3 : Hid ((Value.slice (some ⟨g3, 0, none⟩) (rootsD h).length cap3').ownBlock ≠ (Value.slice (some ⟨w3.heap.size, 0, none⟩) 0 0).ownBlock) := by show _ ≠ _; simp only [Value.ownBlock]; intro q; injection q with q; omega
  clear c0 c1 c2 c3 c4 hown3 hb4
  go_wp2_with fail
  go_loopw [7, 8, 9] (fun vh vi i wr => ∃ (j : Nat), j ≤ (idsD h).length ∧ i = .int .i64 j ∧ Hid (wr.ownsRow w2.heap.size 2 1 vh (heldL h j).length ((heldL h j).map fun n => .int .i64 n)) ∧ Hid (∃ g cap, vh = .slice (some ⟨g, 0, none⟩) (heldL h j).length cap) ∧ Hid (wr.ownsRow w2.heap.size 2 1 vi (innerL h SM j).length ((innerL h SM j).map fun n => .int .i64 n)) ∧ Hid (∃ g cap, vi = .slice (some ⟨g, 0, none⟩) (innerL h SM j).length cap) ∧ Hid (vh.ownBlock ≠ vi.ownBlock) ∧ Below w2.heap.size w2 wr) (fun _ _ i _ => (idsD h).length - (intOf i).toNat)
  case atStart => exact ⟨0, by omega, rfl, by rw [heldL_zero]; exact hr3, by rw [heldL_zero]; exact ⟨_, _, rfl⟩, by rw [innerL_zero]; exact hi3, by rw [innerL_zero]; exact ⟨_, _, rfl⟩, hne3, hb5⟩
  case round =>
    clear hr3 hi3 hne3 hb5 hg3 hz3
    obtain ⟨j, hj, rfl, hown, hform, hiown, hiform, hne, hb⟩ := hrel
    obtain ⟨gv, capv, rfl⟩ := hform.out
    obtain ⟨gi, capi, rfl⟩ := hiform.out
    clear hform hiform
    have hz := hb.size
    have hBr : Below w.heap.size w wr := hB3.trans (hb.mono hB3.size)
    by_cases hlt : j < (idsD h).length
    · obtain ⟨ga, rfl, z0⟩ := row_get hall2.out hlt (x := .int .i64 (idsD h)[j]) (by simp [hlt])
      have hga : ga < w2.heap.size := row_lt' hall2.out rfl
      have hHw : w.heap.size < w2.heap.size := bH2.out.lt
      have z0w : Hid (w2.cell? ⟨ga, j, none⟩ = some (.int .i64 (idsD h)[j])) := z0
      have z0 := cell_on hb z0
      have hstep : Hid (heldL h (j + 1) = heldL h j ++ edgesS h (idsD h)[j]) := heldL_succ hlt
      have hstepi : Hid (innerL h SM (j + 1) = innerL h SM j ++ if hasB SM (idsD h)[j] then edgesS h (idsD h)[j] else []) := innerL_succ hlt
      have hHl : (heldL h j).length ≤ 36700160 := heldL_len hp'.out hs'.out j
      have hIl : (innerL h SM j).length ≤ 36700160 := innerL_len hp'.out hs'.out SM j
      generalize hK : (idsD h)[j] = K at z0 z0w hstep hstepi
      have pbHr : Hid (Box wr w.heap.size [.int .i64 h.vNext, .int .i64 h.vDoc, .slice a2 h.vNodes.length cap2, .slice a3 h.vObjs.length cap3, .slice a4 h.vGlobals.length cap4] 32) := bH2.out.below hb bH2.out.lt
      have pd0 := pbHr.out.cell 0 rfl
      have pd1 := pbHr.out.cell 1 rfl
      have pd2 := pbHr.out.cell 2 rfl
      have pd3 := pbHr.out.cell 3 rfl
      have pd4 := pbHr.out.cell 4 rfl
      obtain ⟨HL, hHL⟩ : ∃ HL, heldL h j = HL := ⟨_, rfl⟩
      obtain ⟨IL, hIL⟩ : ∃ IL, innerL h SM j = IL := ⟨_, rfl⟩
      rw [hHL] at hHl hstep hown hne
      rw [hIL] at hIl hstepi hiown hne
      rw [hHL, hIL]
      have hownH : Hid (wr.ownsRow w2.heap.size 2 1 (.slice (some ⟨gv, 0, none⟩) HL.length capv) HL.length (HL.map fun n => .int .i64 n)) := hown
      have hownI : Hid (wr.ownsRow w2.heap.size 2 1 (.slice (some ⟨gi, 0, none⟩) IL.length capi) IL.length (IL.map fun n => .int .i64 n)) := hiown
      have hgi : gi < wr.heap.size := row_lt' (g := gi) hownI.out rfl
      have hgne : gv ≠ gi := fun e => hne.out (by simp [Value.ownBlock, e])
      have hIe : Hid (∀ x ∈ edgesS h K, InI x) := edges_in hh'.out
      have hel : (edgesS h K).length ≤ 1048578 := edges_most hp'.out hs'.out K
      obtain ⟨ES, hES⟩ : ∃ ES, edgesS h K = ES := ⟨_, rfl⟩
      have hES' : Hid (edgesS h K = ES) := hES
      rw [hES] at hel hstep hIe hstepi
      clear hK hHL hIL hES hown hiown hne
      have pneH : some w.heap.size ≠ (Value.slice (some ⟨gv, 0, none⟩) HL.length capv).ownBlock := fun e => by have := own_block hownH.out _ e.symm; omega
      have pneA : some ga ≠ (Value.slice (some ⟨gv, 0, none⟩) HL.length capv).ownBlock := fun e => by have := own_block hownH.out _ e.symm; omega
      go_wp2_with fail
      go_region_held3 (fun w' => w'.cell? ⟨w.heap.size, 0, none⟩ = some (.int .i64 h.vNext) ∧ w'.cell? ⟨w.heap.size, 1, none⟩ = some (.int .i64 h.vDoc) ∧ w'.cell? ⟨w.heap.size, 2, none⟩ = some (.slice a2 h.vNodes.length cap2) ∧ w'.cell? ⟨w.heap.size, 3, none⟩ = some (.slice a3 h.vObjs.length cap3) ∧ w'.cell? ⟨w.heap.size, 4, none⟩ = some (.slice a4 h.vGlobals.length cap4) ∧ w'.cell? ⟨ga, j, none⟩ = some (.int .i64 K)) (go_keep) (first | (go_at_call 82; refine (l5Edges_any (id := K) (by exact HeapAt_stays _ _ _ lo _ _ (.of_below hBr.drew) hh'.out) hs'.out).mono ?_; rintro e p4 ⟨⟨pv, rfl, po⟩, phb⟩; rw [hES'.out] at po; have phb' : Hid (Below wr.heap.size wr p4) := undrew phb; have phz := phb'.out.size; obtain ⟨pa, pc, rfl⟩ := own_forms po; have psq : Hid (SeqAt 1 IntAt p4 0 (.slice pa ES.length pc) ES) := row_seq po hIe.out; have pd0n := cell_on phb'.out pd0; have pd1n := cell_on phb'.out pd1; have pd2n := cell_on phb'.out pd2; have pd3n := cell_on phb'.out pd3; have pd4n := cell_on phb'.out pd4; have pzn := cell_on phb'.out z0; clear po phb) | (refine step_append_ints_at (by rfl) _ _ 33 (by rfl) (w2.heap.size) 0 2 iI Tryz.underlying33 hI.out hE.out.1 hE.out.2.2 hE.out.2.1 (.slice (some ⟨gv, 0, none⟩) HL.length capv) (HL.length) (HL.map fun n => .int .i64 n) (by rfl) (by simp) (by first | exact own_below hownH.out phb'.out | exact (own_below hownH.out phb'.out).drew) _ (ES) (by rfl) (by first | exact psq.out | exact SeqAt.keep intAt_stays psq.out (.of_below (Below.refl _ _).drew)) (by omega) (by first | omega | (simp; omega)) ?_; intro pv5 p5 hownp hgrowp hnnp hatp; have pe0n := (hgrowp.cell_far ⟨w.heap.size, 0, none⟩ (by first | omega | (simp; omega)) (by exact pneH)).trans (by first | exact pd0n | exact cell_on (Below.refl _ _).drew pd0n); have pe1n := (hgrowp.cell_far ⟨w.heap.size, 1, none⟩ (by first | omega | (simp; omega)) (by exact pneH)).trans (by first | exact pd1n | exact cell_on (Below.refl _ _).drew pd1n); have pe2n := (hgrowp.cell_far ⟨w.heap.size, 2, none⟩ (by first | omega | (simp; omega)) (by exact pneH)).trans (by first | exact pd2n | exact cell_on (Below.refl _ _).drew pd2n); have pe3n := (hgrowp.cell_far ⟨w.heap.size, 3, none⟩ (by first | omega | (simp; omega)) (by exact pneH)).trans (by first | exact pd3n | exact cell_on (Below.refl _ _).drew pd3n); have pe4n := (hgrowp.cell_far ⟨w.heap.size, 4, none⟩ (by first | omega | (simp; omega)) (by exact pneH)).trans (by first | exact pd4n | exact cell_on (Below.refl _ _).drew pd4n); have pzm := (hgrowp.cell_far ⟨ga, j, none⟩ (by first | omega | (simp; omega)) (by exact pneA)).trans (by first | exact pzn | exact cell_on (Below.refl _ _).drew pzn)))
      obtain ⟨pg, pcap, rfl⟩ := nonnil_row hownp hnnp
      have pb4 : Below w2.heap.size w2 p4 := hb.trans (phb'.out.mono hb.size)
      have pb5 : Below w2.heap.size w2 p5 := by first | exact pb4.grown hgrowp pb4.size (own_block hownH.out) | exact pb4.drew.grown hgrowp pb4.size (own_block hownH.out)
      have hr5 : Hid (p5.ownsRow w2.heap.size 2 1 (.slice (some ⟨pg, 0, none⟩) (HL.length + ES.length) pcap) (heldL h (j + 1)).length ((heldL h (j + 1)).map fun n => .int .i64 n)) := by
        rw [hstep.out, List.length_append, List.map_append]
        exact hownp
      have hl5 : Hid ((heldL h (j + 1)).length = HL.length + ES.length) := by show _ = _; rw [hstep.out, List.length_append]
      have hgi4 : gi < p4.heap.size := by omega
      have hIr5 : Hid (p5.ownsRow w2.heap.size 2 1 (.slice (some ⟨gi, 0, none⟩) IL.length capi) IL.length (IL.map fun n => .int .i64 n)) := row_keep (own_below hownI.out phb'.out) (fun x hx => by simp only [Value.ownBlock, Option.some.injEq] at hx; subst hx; exact hgrowp.block _ (by first | omega | (simp; omega)) (fun q => by simp only [Value.ownBlock, Option.some.injEq] at q; omega))
      have hpgi : pg ≠ gi := by
        rcases hatp with q | q <;> simp only [Value.ownBlock, Option.some.injEq] at q
        · omega
        · first | omega | (simp at q; omega)
      have hBp5 : Below w.heap.size w p5 := hB3.trans (pb5.mono hB3.size)
      have z5 := cell_on pb5 z0w.out
      have hsq5 : Hid (SeqAt 1 IntAt p5 0 (.slice aS SM.length cps) SM) := row_seq (own_below hsm2.out pb5) (fun x hx => hin.out x (hSB.out x hx))
      have hz5 := pb5.size
      have hgi5 : gi < p5.heap.size := row_lt' (g := gi) hIr5.out rfl
      clear hownp hgrowp hnnp hatp phb' psq pd0 pd1 pd2 pd3 pd4 pbHr pb4
      go_wp2_with fail
      refine (l2Has_any hsq5.out).mono ?_
      rintro e w6 ⟨rfl, hw6⟩
      rw [hw6]
      clear hw6 w6
      cases hhas : hasB SM K
      · have hst2 : Hid (innerL h SM (j + 1) = IL) := by show _ = _; rw [hstepi.out, hhas]; simp
        clear hhas hstepi
        go_wp2_with fail
        go_roundw
        case rel => exact ⟨j + 1, by omega, by go_num, hr5, ⟨_, _, by rw [hl5.out]⟩, by rw [hst2.out]; exact hIr5, by rw [hst2.out]; exact ⟨_, _, rfl⟩, fun q => by simp only [Value.ownBlock, Option.some.injEq] at q; omega, pb5⟩
        case measure => simp [intOf]; omega
      · have hst2 : Hid (innerL h SM (j + 1) = IL ++ ES) := by show _ = _; rw [hstepi.out, hhas]; simp
        clear hhas hstepi
        have qbHr : Hid (Box p5 w.heap.size [.int .i64 h.vNext, .int .i64 h.vDoc, .slice a2 h.vNodes.length cap2, .slice a3 h.vObjs.length cap3, .slice a4 h.vGlobals.length cap4] 32) := bH2.out.below pb5 bH2.out.lt
        have qd0 := qbHr.out.cell 0 rfl
        have qd1 := qbHr.out.cell 1 rfl
        have qd2 := qbHr.out.cell 2 rfl
        have qd3 := qbHr.out.cell 3 rfl
        have qd4 := qbHr.out.cell 4 rfl
        have qneH : some w.heap.size ≠ (Value.slice (some ⟨gi, 0, none⟩) IL.length capi).ownBlock := fun e => by have := own_block hIr5.out _ e.symm; omega
        have qneA : some ga ≠ (Value.slice (some ⟨gi, 0, none⟩) IL.length capi).ownBlock := fun e => by have := own_block hIr5.out _ e.symm; omega
        go_wp2_with fail
        go_region_held3 (fun w' => w'.cell? ⟨w.heap.size, 0, none⟩ = some (.int .i64 h.vNext) ∧ w'.cell? ⟨w.heap.size, 1, none⟩ = some (.int .i64 h.vDoc) ∧ w'.cell? ⟨w.heap.size, 2, none⟩ = some (.slice a2 h.vNodes.length cap2) ∧ w'.cell? ⟨w.heap.size, 3, none⟩ = some (.slice a3 h.vObjs.length cap3) ∧ w'.cell? ⟨w.heap.size, 4, none⟩ = some (.slice a4 h.vGlobals.length cap4) ∧ w'.cell? ⟨ga, j, none⟩ = some (.int .i64 K)) (go_keep) (first | (go_at_call 82; refine (l5Edges_any (id := K) (by exact HeapAt_stays _ _ _ lo _ _ (.of_below hBp5.drew) hh'.out) hs'.out).mono ?_; rintro e q4 ⟨⟨qv, rfl, qo⟩, qhb⟩; rw [hES'.out] at qo; have qhb' : Hid (Below p5.heap.size p5 q4) := undrew qhb; have qhz := qhb'.out.size; obtain ⟨qa, qc, rfl⟩ := own_forms qo; have qsq : Hid (SeqAt 1 IntAt q4 0 (.slice qa ES.length qc) ES) := row_seq qo hIe.out; have qd0n := cell_on qhb'.out qd0; have qd1n := cell_on qhb'.out qd1; have qd2n := cell_on qhb'.out qd2; have qd3n := cell_on qhb'.out qd3; have qd4n := cell_on qhb'.out qd4; have qzn := cell_on qhb'.out z5; clear qo qhb) | (refine step_append_ints_at (by rfl) _ _ 33 (by rfl) (w2.heap.size) 0 2 iI Tryz.underlying33 hI.out hE.out.1 hE.out.2.2 hE.out.2.1 (.slice (some ⟨gi, 0, none⟩) IL.length capi) (IL.length) (IL.map fun n => .int .i64 n) (by rfl) (by simp) (by first | exact own_below hIr5.out qhb'.out | exact (own_below hIr5.out qhb'.out).drew) _ (ES) (by rfl) (by first | exact qsq.out | exact SeqAt.keep intAt_stays qsq.out (.of_below (Below.refl _ _).drew)) (by omega) (by first | omega | (simp; omega)) ?_; intro qv5 q5 hownq hgrowq hnnq hatq; have qe0n := (hgrowq.cell_far ⟨w.heap.size, 0, none⟩ (by first | omega | (simp; omega)) (by exact qneH)).trans (by first | exact qd0n | exact cell_on (Below.refl _ _).drew qd0n); have qe1n := (hgrowq.cell_far ⟨w.heap.size, 1, none⟩ (by first | omega | (simp; omega)) (by exact qneH)).trans (by first | exact qd1n | exact cell_on (Below.refl _ _).drew qd1n); have qe2n := (hgrowq.cell_far ⟨w.heap.size, 2, none⟩ (by first | omega | (simp; omega)) (by exact qneH)).trans (by first | exact qd2n | exact cell_on (Below.refl _ _).drew qd2n); have qe3n := (hgrowq.cell_far ⟨w.heap.size, 3, none⟩ (by first | omega | (simp; omega)) (by exact qneH)).trans (by first | exact qd3n | exact cell_on (Below.refl _ _).drew qd3n); have qe4n := (hgrowq.cell_far ⟨w.heap.size, 4, none⟩ (by first | omega | (simp; omega)) (by exact qneH)).trans (by first | exact qd4n | exact cell_on (Below.refl _ _).drew qd4n); have qzm := (hgrowq.cell_far ⟨ga, j, none⟩ (by first | omega | (simp; omega)) (by exact qneA)).trans (by first | exact qzn | exact cell_on (Below.refl _ _).drew qzn)))
        obtain ⟨qg, qcap, rfl⟩ := nonnil_row hownq hnnq
        have qb4 : Below w2.heap.size w2 q4 := pb5.trans (qhb'.out.mono pb5.size)
        have qb5 : Below w2.heap.size w2 q5 := by first | exact qb4.grown hgrowq qb4.size (own_block hIr5.out) | exact qb4.drew.grown hgrowq qb4.size (own_block hIr5.out)
        have hr6 : Hid (q5.ownsRow w2.heap.size 2 1 (.slice (some ⟨qg, 0, none⟩) (IL.length + ES.length) qcap) (innerL h SM (j + 1)).length ((innerL h SM (j + 1)).map fun n => .int .i64 n)) := by
          rw [hst2.out, List.length_append, List.map_append]
          exact hownq
        have hl6 : Hid ((innerL h SM (j + 1)).length = IL.length + ES.length) := by show _ = _; rw [hst2.out, List.length_append]
        have hpg4 : pg < p5.heap.size := row_lt' (g := pg) hr5.out rfl
        have hHr6 : Hid (q5.ownsRow w2.heap.size 2 1 (.slice (some ⟨pg, 0, none⟩) (HL.length + ES.length) pcap) (heldL h (j + 1)).length ((heldL h (j + 1)).map fun n => .int .i64 n)) := row_keep (own_below hr5.out qhb'.out) (fun x hx => by simp only [Value.ownBlock, Option.some.injEq] at hx; subst hx; exact hgrowq.block _ (by first | omega | (simp; omega)) (fun q => by simp only [Value.ownBlock, Option.some.injEq] at q; omega))
        have hqgi : pg ≠ qg := by
          rcases hatq with q | q <;> simp only [Value.ownBlock, Option.some.injEq] at q
          · omega
          · first | omega | (simp at q; omega)
        clear hownq hgrowq hnnq hatq qhb' qsq qd0 qd1 qd2 qd3 qd4 qbHr qb4
        go_wp2_with fail
        go_roundw
        case rel => exact ⟨j + 1, by omega, by go_num, hHr6, ⟨_, _, by rw [hl5.out]⟩, hr6, ⟨_, _, by rw [hl6.out]⟩, fun q => by simp only [Value.ownBlock, Option.some.injEq] at q; omega, qb5⟩
        case measure => simp [intOf]; omega
    obtain rfl : j = (idsD h).length := by omega
    have hHl : (heldL h (idsD h).length).length ≤ 36700160 := heldL_len hp'.out hs'.out _
    have hIl : (innerL h SM (idsD h).length).length ≤ 36700160 := innerL_len hp'.out hs'.out SM _
    have hIh : Hid (∀ x ∈ heldL h (idsD h).length, InI x) := fun x hx => hin.out x (heldL_in hp'.out _ x hx)
    have hIi : Hid (∀ x ∈ innerL h SM (idsD h).length, InI x) := fun x hx => hin.out x (innerL_in hp'.out _ _ x hx)
    have hLB : Hid (∀ k, liveB h SM k = decide (cntE (innerL h SM (idsD h).length) k < cntE (heldL h (idsD h).length) k)) := fun _ => rfl
    obtain ⟨wq, hwq⟩ : ∃ wq, wq = wr := ⟨_, rfl⟩
    subst hwq
    obtain ⟨HL, hHL⟩ : ∃ HL, heldL h (idsD h).length = HL := ⟨_, rfl⟩
    obtain ⟨IL, hIL⟩ : ∃ IL, innerL h SM (idsD h).length = IL := ⟨_, rfl⟩
    rw [hHL] at hHl hIh hown hLB
    rw [hIL] at hIl hIi hiown hLB
    rw [hHL, hIL]
    have hsqH : Hid (SeqAt 1 IntAt wq 0 (.slice (some ⟨gv, 0, none⟩) HL.length capv) HL) := row_seq hown.out hIh.out
    have hsqI : Hid (SeqAt 1 IntAt wq 0 (.slice (some ⟨gi, 0, none⟩) IL.length capi) IL) := row_seq hiown.out hIi.out
    have hsmr : Hid (wq.ownsRow (w.heap.size + 1) 2 1 (.slice aS SM.length cps) SM.length (SM.map fun n => .int .i64 n)) := own_below hsm2.out hb
    have hbHr : Hid (Box wq w.heap.size [.int .i64 h.vNext, .int .i64 h.vDoc, .slice a2 h.vNodes.length cap2, .slice a3 h.vObjs.length cap3, .slice a4 h.vGlobals.length cap4] 32) := bH2.out.below hb bH2.out.lt
    have hlv0 : Hid ((wq.alloc (.cells #[] 2)).ownsRow wq.heap.size 2 1 (.slice (some ⟨wq.heap.size, 0, none⟩) 0 0) 0 []) := row_start (Nat.le_refl _)
    have hbA : Below wq.heap.size wq (wq.alloc (.cells #[] 2)) := (Below.refl _ _).alloc (Nat.le_refl _) _
    clear hHL hIL hown hiown hne hall2 hsm2 bH2 hb hz
    go_wp2_with fail
    go_loopw [10, 11] (fun v i wr => ∃ (j : Nat), j ≤ SM.length ∧ i = .int .i64 j ∧ Hid (wr.ownsRow wq.heap.size 2 1 v ((SM.take j).filter (liveB h SM)).length (((SM.take j).filter (liveB h SM)).map fun n => .int .i64 n)) ∧ Hid (∃ a cap, v = .slice a ((SM.take j).filter (liveB h SM)).length cap) ∧ Below wq.heap.size wq wr) (fun _ i _ => SM.length - (intOf i).toNat)
    case atStart => exact ⟨0, by omega, rfl, hlv0, ⟨_, _, rfl⟩, hbA⟩
    case round =>
      clear hlv0 hbA
      obtain ⟨j, hj, rfl, hown, hform, hb⟩ := hrel
      obtain ⟨al, capl, rfl⟩ := hform.out
      clear hform
      have hz := hb.size
      by_cases hlt : j < SM.length
      · obtain ⟨gs, rfl, z0⟩ := row_get hsmr.out hlt (x := .int .i64 SM[j]) (by simp [hlt])
        have z0 := cell_on hb z0
        have hst : Hid ((SM.take (j + 1)).filter (liveB h SM) = (SM.take j).filter (liveB h SM) ++ if liveB h SM SM[j] then [SM[j]] else []) := filter_step _ hlt
        have hlb : Hid (liveB h SM SM[j] = decide (cntE IL SM[j] < cntE HL SM[j])) := hLB.out _
        have hfl : ((SM.take j).filter (liveB h SM)).length ≤ 32 := by have := filter_len (liveB h SM) SM j; omega
        have hqH : Hid (SeqAt 1 IntAt wr.drew 0 (.slice (some ⟨gv, 0, none⟩) HL.length capv) HL) := SeqAt.keep intAt_stays hsqH.out (Kept.of_below (hb.drew) |> fun q => ⟨q.1, Nat.zero_le _, q.2.2⟩)
        have hqI : Hid (SeqAt 1 IntAt wr.drew 0 (.slice (some ⟨gi, 0, none⟩) IL.length capi) IL) := SeqAt.keep intAt_stays hsqI.out (Kept.of_below (hb.drew) |> fun q => ⟨q.1, Nat.zero_le _, q.2.2⟩)
        generalize hK : SM[j] = K at z0 hst hlb
        generalize hF : (SM.take j).filter (liveB h SM) = F at hst hfl hown
        obtain ⟨L, hL⟩ : ∃ L, (F.map fun n => Value.int .i64 n) = L := ⟨_, rfl⟩
        have hownL : Hid (wr.ownsRow wq.heap.size 2 1 (.slice al F.length capl) F.length L) := by rw [← hL]; exact hown
        have hL' : Hid _ := hL
        have hcH : cntE HL K ≤ 36700160 := Nat.le_trans (cntE_le HL K) hHl
        have hcI : cntE IL K ≤ 36700160 := Nat.le_trans (cntE_le IL K) hIl
        clear hK hF hL hown
        generalize hnH : cntE HL K = nH at hlb hcH
        generalize hnI : cntE IL K = nI at hlb hcI
        have hnH' : Hid (cntE HL K = nH) := hnH
        have hnI' : Hid (cntE IL K = nI) := hnI
        clear hnH hnI
        go_wp2_with fail
        go_region_held3 (fun w' => w'.cell? ⟨gs, j, none⟩ = some (.int .i64 K)) (go_keep)
          (first | (go_at_call 83; refine (l5Count_any (xs := HL) (lo := 0) (by exact hqH.out) (by omega)).mono ?_; rintro e w4 ⟨rfl, rfl⟩; rw [hnH'.out]) | (go_at_call 83; refine (l5Count_any (xs := IL) (lo := 0) (by exact hqI.out) (by omega)).mono ?_; rintro e w4 ⟨rfl, rfl⟩; rw [hnI'.out]))
        by_cases hgt : nI < nH
        · have hst2 : Hid ((SM.take (j + 1)).filter (liveB h SM) = F ++ [K]) := by show _ = _; rw [hst.out, hlb.out]; simp [hgt]
          have hgt' : ((nI : Nat) : Int) < ((nH : Nat) : Int) := by omega
          clear hst hlb
          go_wp2_with (at_builtin; refine wpList_append_own _ rfl _ _ 33 rfl (wq.heap.size) 2 iI (.int .i64 0) 1 8 Tryz.underlying33 hI.out hE.out.1 hE.out.2.2 hE.out.2.1 rfl (by decide) _ (F.length) (L) rfl (hownL.out.drew.alloc _) ⟨wr.heap.size, 0, none⟩ 1 1 [.int .i64 K] rfl rfl (by intro q u hq; match q, hq with | 0, hq => simp at hq; subst hq; simp [Addr.add]) (by simp [Value.oneCell']) (by unfold maxLen; omega) (by omega) (by simp; omega) ?_)
          intro v' w5 hown' hgrow _
          have hb4 : Below wq.heap.size wq w5 := (hb.drew.alloc (by simp; omega) _).grown hgrow (by simp; omega) (own_block hownL.out)
          obtain ⟨av', capv', rfl⟩ := own_forms hown'
          have hown1 : Hid (w5.ownsRow wq.heap.size 2 1 (.slice av' (F.length + 1) capv') (F.length + 1) (L ++ [.int .i64 K])) := hown'
          clear hown' hgrow
          go_wp2_with fail
          go_roundw
          case rel => exact ⟨j + 1, by omega, by go_num, by rw [hst2.out, List.length_append, List.map_append, hL'.out]; exact hown1.out, by rw [hst2.out, List.length_append]; exact ⟨_, _, rfl⟩, hb4⟩
          case measure => simp [intOf]; omega
        · have hst2 : Hid ((SM.take (j + 1)).filter (liveB h SM) = F) := by show _ = _; rw [hst.out, hlb.out]; simp [hgt]
          have hgt' : decide (((nI : Nat) : Int) < ((nH : Nat) : Int)) = false := by simp; omega
          clear hst hlb
          go_wp2_with fail
          go_roundw
          case rel => exact ⟨j + 1, by omega, by go_num, by rw [hst2.out, hL'.out]; exact hownL.out.drew, by rw [hst2.out]; exact ⟨_, _, rfl⟩, hb.drew⟩
          case measure => simp [intOf]; omega
      obtain rfl : j = SM.length := by omega
      have hownV : Hid (wr.ownsRow wq.heap.size 2 1 (.slice al ((SM.take SM.length).filter (liveB h SM)).length capl) (liveL h SM).length ((liveL h SM).map fun n => .int .i64 n)) := by have q := hown.out; rw [List.take_length] at q ⊢; exact q
      have hsqV0 := row_seq hownV.out (fun x hx => hin.out x (hLT.out x hx))
      have hVl : (liveL h SM).length ≤ 32 := Nat.le_trans (List.length_filter_le _ _) hSl
      have hVe : Hid (((SM.take SM.length).filter (liveB h SM)).length = (liveL h SM).length) := by show _ = _; rw [List.take_length]; rfl
      have hsqV : Hid (SeqAt 1 IntAt wr 0 (.slice al ((SM.take SM.length).filter (liveB h SM)).length capl) (liveL h SM)) := hsqV0
      have hBr2 : Below w.heap.size w wr := hBr.trans (hb.mono hBr.size)
      have hsmw : Hid (wr.ownsRow (w.heap.size + 1) 2 1 (.slice aS SM.length cps) SM.length (SM.map fun n => .int .i64 n)) := own_below hsmr.out hb
      have bHw : Hid (Box wr w.heap.size [.int .i64 h.vNext, .int .i64 h.vDoc, .slice a2 h.vNodes.length cap2, .slice a3 h.vObjs.length cap3, .slice a4 h.vGlobals.length cap4] 32) := hbHr.out.below hb hbHr.out.lt
      have c0 := bHw.out.cell 0 rfl
      have c1 := bHw.out.cell 1 rfl
      have c2 := bHw.out.cell 2 rfl
      have c3 := bHw.out.cell 3 rfl
      have c4 := bHw.out.cell 4 rfl
      clear hown hownV hsqV0 hsqH hsqI hbHr
      go_wp2_with fail
      refine (l5Below_any (lo := 0) (by exact HeapAt_stays _ _ _ _ _ _ (Kept.of_below hBr2 |> fun q => ⟨q.1, Nat.zero_le _, q.2.2⟩) hh'.out) hs'.out hp'.out (by have q := hsqV.out; rw [List.take_length] at q; exact q) hLT.out (by omega)).mono ?_
      rintro e w7 ⟨⟨v7, rfl, hown7⟩, hb7⟩
      obtain ⟨LV, hLV⟩ : ∃ LV, belD h (liveL h SM) = LV := ⟨_, rfl⟩
      rw [hLV] at hown7 hTR'
      have hLVi : Hid (∀ x ∈ LV, InI x) := fun x hx => hin.out x (below_there hp'.out hs'.out hLT.out x (by rw [hLV]; exact hx))
      obtain ⟨a7, c7, rfl⟩ := own_forms hown7
      have hsq7 : Hid (SeqAt 1 IntAt w7 0 (.slice a7 LV.length c7) LV) := row_seq hown7 hLVi.out
      have hsm7 : Hid (w7.ownsRow (w.heap.size + 1) 2 1 (.slice aS SM.length cps) SM.length (SM.map fun n => .int .i64 n)) := own_below hsmw.out hb7
      have hB7 : Below w.heap.size w w7 := hBr2.trans (hb7.mono hBr2.size)
      have ho0 : Hid ((w7.alloc (.cells #[] 2)).ownsRow w7.heap.size 2 1 (.slice (some ⟨w7.heap.size, 0, none⟩) 0 0) 0 []) := row_start (Nat.le_refl _)
      have hbB : Below w7.heap.size w7 (w7.alloc (.cells #[] 2)) := (Below.refl _ _).alloc (Nat.le_refl _) _
      clear c0 c1 c2 c3 c4 hown7 hb7 hLV bHw hsmw hsqV
      go_wp2_with fail
      go_loopw [12, 13] (fun v i wr => ∃ (j : Nat), j ≤ SM.length ∧ i = .int .i64 j ∧ Hid (wr.ownsRow w7.heap.size 2 1 v ((SM.take j).filter fun k => !hasB LV k).length (((SM.take j).filter fun k => !hasB LV k).map fun n => .int .i64 n)) ∧ Hid (∃ a cap, v = .slice a ((SM.take j).filter fun k => !hasB LV k).length cap) ∧ Below w7.heap.size w7 wr) (fun _ i _ => SM.length - (intOf i).toNat)
      case atStart => exact ⟨0, by omega, rfl, ho0, ⟨_, _, rfl⟩, hbB⟩
      case round =>
        clear ho0 hbB
        obtain ⟨j, hj, rfl, hown, hform, hb⟩ := hrel
        obtain ⟨al', capl', rfl⟩ := hform.out
        clear hform
        have hz := hb.size
        by_cases hlt : j < SM.length
        · obtain ⟨gs, rfl, z0⟩ := row_get hsm7.out hlt (x := .int .i64 SM[j]) (by simp [hlt])
          have z0 := cell_on hb z0
          have hst : Hid ((SM.take (j + 1)).filter (fun k => !hasB LV k) = (SM.take j).filter (fun k => !hasB LV k) ++ if (!hasB LV SM[j]) then [SM[j]] else []) := filter_step (fun k => !hasB LV k) hlt
          have hfl : ((SM.take j).filter fun k => !hasB LV k).length ≤ 32 := by have := filter_len (fun k => !hasB LV k) SM j; omega
          have hq7 : Hid (SeqAt 1 IntAt wr 0 (.slice a7 LV.length c7) LV) := SeqAt.keep intAt_stays hsq7.out (Kept.of_below hb |> fun q => ⟨q.1, Nat.zero_le _, q.2.2⟩)
          generalize hK : SM[j] = K at z0 hst
          generalize hF : (SM.take j).filter (fun k => !hasB LV k) = F at hst hfl hown
          obtain ⟨L, hL⟩ : ∃ L, (F.map fun n => Value.int .i64 n) = L := ⟨_, rfl⟩
          have hownL : Hid (wr.ownsRow w7.heap.size 2 1 (.slice al' F.length capl') F.length L) := by rw [← hL]; exact hown
          have hL' : Hid _ := hL
          clear hK hF hL hown
          go_wp2_with fail
          refine (l2Has_any hq7.out).mono ?_
          rintro e w8 ⟨rfl, hw8⟩
          rw [hw8]
          clear hw8 w8
          cases hhas : hasB LV K
          · have hst2 : Hid ((SM.take (j + 1)).filter (fun k => !hasB LV k) = F ++ [K]) := by show _ = _; rw [hst.out, hhas]; simp
            clear hst hhas
            go_wp2_with (at_builtin; refine wpList_append_own _ rfl _ _ 33 rfl (w7.heap.size) 2 iI (.int .i64 0) 1 8 Tryz.underlying33 hI.out hE.out.1 hE.out.2.2 hE.out.2.1 rfl (by decide) _ (F.length) (L) rfl (hownL.out.alloc _) ⟨wr.heap.size, 0, none⟩ 1 1 [.int .i64 K] rfl rfl (by intro q u hq; match q, hq with | 0, hq => simp at hq; subst hq; simp [Addr.add]) (by simp [Value.oneCell']) (by unfold maxLen; omega) (by omega) (by simp; omega) ?_)
            intro v' w5 hown' hgrow _
            have hb4 : Below w7.heap.size w7 w5 := (hb.alloc (by omega) _).grown hgrow (by simp; omega) (own_block hownL.out)
            obtain ⟨av', capv', rfl⟩ := own_forms hown'
            have hown1 : Hid (w5.ownsRow w7.heap.size 2 1 (.slice av' (F.length + 1) capv') (F.length + 1) (L ++ [.int .i64 K])) := hown'
            clear hown' hgrow
            go_wp2_with fail
            go_roundw
            case rel => exact ⟨j + 1, by omega, by go_num, by rw [hst2.out, List.length_append, List.map_append, hL'.out]; exact hown1.out, by rw [hst2.out, List.length_append]; exact ⟨_, _, rfl⟩, hb4⟩
            case measure => simp [intOf]; omega
          · have hst2 : Hid ((SM.take (j + 1)).filter (fun k => !hasB LV k) = F) := by show _ = _; rw [hst.out, hhas]; simp
            clear hst hhas
            go_wp2_with fail
            go_roundw
            case rel => exact ⟨j + 1, by omega, by go_num, by rw [hst2.out, hL'.out]; exact hownL.out, by rw [hst2.out]; exact ⟨_, _, rfl⟩, hb⟩
            case measure => simp [intOf]; omega
        obtain rfl : j = SM.length := by omega
        have hend : Hid (wr.ownsRow w.heap.size 2 1 (.slice al' ((SM.take SM.length).filter fun k => !hasB LV k).length capl') (trialL h ids).length ((trialL h ids).map fun n => .int .i64 n)) := by
          have q := hown.out
          rw [List.take_length] at q ⊢
          show World.ownsRow _ _ _ _ _ _ _
          rw [hTR'.out]
          exact World.ownsRow.mono q (by have := hB7.size; omega)
        clear hown
        go_wp2_with fail
        go_ret
        exact ⟨⟨_, rfl, by exact hend.out⟩, hB7.trans (hb.mono hB7.size)⟩
end Go.Proofs.YtnonfehmbabfhaaGreat
namespace Go.Proofs.YtnonfehmbabfhaaGreat
open Go.RowKit
set_option maxRecDepth 100000 in
set_option maxHeartbeats 3200000 in
theorem implTrial_any {w : World} {lo : Nat} {cs : List Value} {h : HeapD} {k : Value} {ids : List Int} (hh : HeapAt w lo cs h) (hs : h.small) (hk : SeqAt 1 IntAt w lo k ids) (hl : ids.length ≤ 1048576) :
    Calls Tryz.prog 43 #[.agg cs.toArray, k] w fun e w' => (∃ v fs, e = .returned (.tuple #[v, .bool (specB h && thereB h ids)]) ∧ SeqOwn 1 IntOwn w' v (trialD h ids) fs ∧ ∀ b ∈ fs, w.heap.size ≤ b) ∧ Below w.heap.size w w' := by
  have hs' : Hid h.small := hs
  have hk' : Hid (SeqAt 1 IntAt w lo k ids) := hk
  clear hs
  have hh' : Hid (HeapAt w lo cs h) := hh
  obtain ⟨k2, k3, k4, rfl, s2, s3, s4, _⟩ := hh
  obtain ⟨a2, cap2, rfl⟩ := s2.form
  obtain ⟨a3, cap3, rfl⟩ := s3.form
  obtain ⟨a4, cap4, rfl⟩ := s4.form
  clear s2 s3 s4
  have hb1 : Below w.heap.size w (w.alloc (.cells #[.int .i64 h.vNext, .int .i64 h.vDoc, .slice a2 h.vNodes.length cap2, .slice a3 h.vObjs.length cap3, .slice a4 h.vGlobals.length cap4] 32)) := (Below.refl _ _).alloc (Nat.le_refl _) _
  have bH0 : Hid (Box (w.alloc (.cells #[.int .i64 h.vNext, .int .i64 h.vDoc, .slice a2 h.vNodes.length cap2, .slice a3 h.vObjs.length cap3, .slice a4 h.vGlobals.length cap4] 32)) w.heap.size [.int .i64 h.vNext, .int .i64 h.vDoc, .slice a2 h.vNodes.length cap2, .slice a3 h.vObjs.length cap3, .slice a4 h.vGlobals.length cap4] 32) := Box.new w [.int .i64 h.vNext, .int .i64 h.vDoc, .slice a2 h.vNodes.length cap2, .slice a3 h.vObjs.length cap3, .slice a4 h.vGlobals.length cap4] 32
  obtain ⟨ak, ck, rfl⟩ := hk.form
  clear hk
  go_enter Tryz.func43, Tryz.ntmps43
  go_wp2_with fail
  refine (rightBelow_any (HeapAt_stays _ _ _ lo _ _ (.of_below hb1) hh'.out) hs'.out (SeqAt.keep intAt_stays hk'.out (.of_below hb1)) hl).mono ?_
  rintro e w1 ⟨hres, hb2⟩
  have hB2 : Below w.heap.size w w1 := hb1.trans (hb2.mono hb1.size)
  rcases hres with ⟨hp, rfl⟩ | ⟨hp, v, bl, o, Ts, rfl, hBA⟩
  · have HF : Hid (trialD h ids = []) := by show _ = _; simp only [trialD, hp]; rfl
    have hp' : Hid ((specB h && thereB h ids) = false) := hp
    clear hp
    go_wp2_with fail
    go_ret2
    exact ⟨⟨_, [], by rw [hp'.out]; rfl, by rw [HF.out]; exact seqOwn_none _, by simp⟩, hB2⟩
  have HF : Hid (trialD h ids = trialL h ids) := by show _ = _; unfold trialD; rw [if_pos hp]
  have hp' : Hid ((specB h && thereB h ids) = true) := hp
  obtain ⟨e1, e2, _⟩ := there_ids hp
  obtain ⟨_, ⟨hids, hpl⟩, hap, ⟨K, base', hG⟩, hown1, hsub1, hnd1, hfrom1⟩ := hBA
  have hB1 : sortI (bl.map ThD.id) = belD h ids := held_below e1 hs'.out e2 hnd1 hfrom1
  have hbl : bl.length ≤ 32 := by
    have q := sortI_len (bl.map ThD.id)
    rw [hB1, List.length_map] at q
    have := belD_len e1 hs'.out e2
    omega
  have hTl : Ts.length ≤ 32 := by have q := congrArg List.length hids; rw [List.length_map] at q; have := idsD_most e1; omega
  have hT : ∀ k, (getI ThD.id Ts k).isSome = isT h k := things_there hids
  have hin : Hid (∀ t ∈ Ts, ∀ k ∈ holdsC (accG h) t.id, (getI ThD.id Ts k).isSome = true) := fun t _ k hk => (hT k).trans (holdsC_there e1 hk)
  have hpl2 : Hid (∀ u ∈ Ts, ∃ q : Nat, u.pl = (q : Int) ∧ q < 32) := fun u hu => by
    obtain ⟨i, hi, rfl⟩ := List.mem_iff_getElem.1 hu
    exact ⟨i, hpl i hi, by omega⟩
  have hacc : (accG h).length ≤ 1099511627 := accG_len e1 hs'.out
  have hG' : Hid (GSt K base' w1 o Ts (accG h)) := hG
  have hown1' : Hid (w1.ownsRow (w.alloc (.cells #[.int .i64 h.vNext, .int .i64 h.vDoc, .slice a2 h.vNodes.length cap2, .slice a3 h.vObjs.length cap3, .slice a4 h.vGlobals.length cap4] 32)).heap.size 57 1 v bl.length (bl.map fun t => Value.pointer (some ⟨t.blk, 0, none⟩))) := hown1
  have hsub1' : Hid (∀ t ∈ bl, t ∈ Ts) := hsub1
  have hap' : Hid (Apart (o :: Ts)) := hap
  have hI : Hid (∀ x ∈ trialL h ids, InI x) := fun x hx => (reached_in hh'.out e1 hs'.out e2 x (List.mem_filter.1 hx).1).1
  have hfin : Hid (∀ st : List ThD, (∀ t ∈ st, t ∈ Ts) → (st.map ThD.id).Nodup → (∀ k, k ∈ st.map ThD.id ↔ From (holdsC (accG h)) ((bl.filter (elB Ts (accG h) (bl.flatMap fun t => holdsC (accG h) t.id))).map ThD.id) k) → sortI ((bl.filter (ntB st)).map ThD.id) = trialL h ids ∧ (bl.filter (ntB st)).length ≤ 32) := fun st q1 q2 q3 => trial_same e1 hs'.out e2 hids hpl hap hsub1 hnd1 hfrom1 q1 q2 q3
  obtain ⟨av1, cv1, rfl⟩ := own_forms hown1
  clear hown1 hsub1 hnd1 hfrom1 hG hp e1 e2 hids hpl hap hT hB1
  go_wp2_with fail
  refine (heldFromElsewhere_any hG'.out hin.out hpl2.out hacc hown1'.out hsub1'.out hbl).mono ?_
  rintro e w2 ⟨⟨v2, rfl, hown2⟩, hb3⟩
  generalize hEL : bl.filter (elB Ts (accG h) (bl.flatMap fun t => holdsC (accG h) t.id)) = EL at hown2 hfin
  have hELs : Hid (∀ t ∈ EL, t ∈ Ts) := fun t ht => by rw [← hEL] at ht; exact hsub1'.out t (List.mem_filter.1 ht).1
  have hELl : EL.length ≤ 32 := by rw [← hEL]; exact Nat.le_trans (List.length_filter_le _ _) hbl
  have hB3 : Below w.heap.size w w2 := hB2.trans (hb3.mono hB2.size)
  have hG2 : Hid (GSt K base' w2 o Ts (accG h)) := hG'.out.below hb3
  have hown1b : Hid (w2.ownsRow (w.alloc (.cells #[.int .i64 h.vNext, .int .i64 h.vDoc, .slice a2 h.vNodes.length cap2, .slice a3 h.vObjs.length cap3, .slice a4 h.vGlobals.length cap4] 32)).heap.size 57 1 (.slice av1 bl.length cv1) bl.length (bl.map fun t => Value.pointer (some ⟨t.blk, 0, none⟩))) := own_below hown1'.out hb3
  have hown2' : Hid (w2.ownsRow w1.heap.size 57 1 v2 EL.length (EL.map fun t => Value.pointer (some ⟨t.blk, 0, none⟩))) := hown2
  obtain ⟨av2, cv2, rfl⟩ := own_forms hown2
  clear hown2 hb3 hEL hown1'
  go_wp2_with fail
  refine (heldFrom_any hap'.out hG2.out hin.out (by omega) hacc hown2'.out hELs.out (by omega)).mono ?_
  rintro e w3 ⟨⟨v3, st, rfl, hown3, hsub3, hnd3, hfrom3⟩, hb4⟩
  obtain ⟨hsame, hsl⟩ := hfin.out st hsub3 hnd3 hfrom3
  have hstl : st.length ≤ 1048576 := by
    have q := nodup_len (st.map ThD.id) (Ts.map ThD.id) hnd3 (fun k hk => by obtain ⟨t, ht, rfl⟩ := List.mem_map.1 hk; exact List.mem_map_of_mem (hsub3 t ht))
    rw [List.length_map, List.length_map] at q
    omega
  have hB4 : Below w.heap.size w w3 := hB3.trans (hb4.mono hB3.size)
  have hG3 : GSt K base' w3 o Ts (accG h) := hG2.out.below hb4
  have hThT : Hid (∀ u ∈ Ts, ThAt w3 u.blk) := fun u hu => by
    obtain ⟨S2, hS2⟩ := hG3
    exact ⟨_, (hS2.1 u (List.mem_cons_of_mem _ hu)).1⟩
  have hT1 : Hid (∀ u ∈ st, ThAt w3 u.blk) := fun u hu => hThT.out u (hsub3 u hu)
  have hT2 : Hid (∀ u ∈ bl, ThAt w3 u.blk) := fun u hu => hThT.out u (hsub1'.out u hu)
  have hG3' : Hid (GSt K base' w3 o Ts (accG h)) := hG3
  have hown1c : Hid (w3.ownsRow (w.alloc (.cells #[.int .i64 h.vNext, .int .i64 h.vDoc, .slice a2 h.vNodes.length cap2, .slice a3 h.vObjs.length cap3, .slice a4 h.vGlobals.length cap4] 32)).heap.size 57 1 (.slice av1 bl.length cv1) bl.length (bl.map fun t => Value.pointer (some ⟨t.blk, 0, none⟩))) := own_below hown1b.out hb4
  have hown3' : Hid (w3.ownsRow w2.heap.size 57 1 v3 st.length (st.map fun t => Value.pointer (some ⟨t.blk, 0, none⟩))) := hown3
  have hsame' : Hid (sortI ((bl.filter (ntB st)).map ThD.id) = trialL h ids) := hsame
  obtain ⟨av3, cv3, rfl⟩ := own_forms hown3
  clear hown3 hb4 hsub3 hnd3 hfrom3 hsame hG3 hG2 hown1b
  go_wp2_with fail
  refine (notAmong_any hown3'.out hown1c.out hstl (by omega) hT1.out hT2.out).mono ?_
  rintro e w4 ⟨⟨v4, rfl, hown4⟩, hb5⟩
  have hB5 : Below w.heap.size w w4 := hB4.trans (hb5.mono hB4.size)
  have hown4' : Hid (w4.ownsRow w3.heap.size 57 1 v4 (bl.filter (ntB st)).length ((bl.filter (ntB st)).map fun t => Value.pointer (some ⟨t.blk, 0, none⟩))) := hown4
  have hbox : Hid (∀ u ∈ bl.filter (ntB st), w4.cell? ⟨u.blk, 0, none⟩ = some (.int .i64 u.id)) := fun u hu => by
    obtain ⟨S2, hS2⟩ := hG3'.out.below hb5
    exact (hS2.1 u (List.mem_cons_of_mem _ (hsub1'.out u (List.mem_filter.1 hu).1))).1.cell 0 rfl
  obtain ⟨av4, cv4, rfl⟩ := own_forms hown4
  clear hown4 hb5
  go_wp2_with fail
  refine (risingIds_any hown4'.out hbox.out (by omega)).mono ?_
  rintro e w5 ⟨⟨v5, rfl, hown5⟩, hb6⟩
  have hB6 : Below w.heap.size w w5 := hB5.trans (hb6.mono hB5.size)
  rw [hsame'.out] at hown5
  obtain ⟨fs, ho, hl2⟩ := seqOwn_of_row hown5 hI.out
  have hs3 := hB5.size
  have ho' : Hid (SeqOwn 1 IntOwn w5 v5 (trialD h ids) fs) := by rw [HF.out]; exact ho
  have hl' : Hid (∀ b ∈ fs, w.heap.size ≤ b) := fun b q => by have := hl2 b q; omega
  obtain ⟨av5, capv5, rfl⟩ := own_forms hown5
  clear hown5 ho hl2
  go_wp2_with fail
  go_ret2
  exact ⟨⟨_, fs, by rw [hp'.out]; rfl, ho'.out, hl'.out⟩, hB6⟩
end Go.Proofs.YtnonfehmbabfhaaGreat
