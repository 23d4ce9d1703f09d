/- The program's things below some, walked. -/
import Derived.Test.YtnonfehmbabfhaaGreatBelowTop
import Derived.Test.YtnonfehmbabfhaaGreatOwnRows
namespace Go.Proofs.YtnonfehmbabfhaaGreat
open Go.RowKit
/-- the graph lies in memory, and beside it a list of things: all that is held from these -/
def BelowAt (h : HeapD) (ids : List Int) (base : Nat) (w : World) (v : Value) (all : List ThD) (o : ThD) (Ts : List ThD) : Prop :=
  o.id = 0 ∧ (Ts.map ThD.id = idsD h ∧ ∀ i, (hi : i < Ts.length) → Ts[i].pl = (i : Int)) ∧ Apart (o :: Ts) ∧ (∃ K base', GSt K base' w o Ts (accG h)) ∧ w.ownsRow base 57 1 v all.length (all.map fun t => Value.pointer (some ⟨t.blk, 0, none⟩)) ∧ (∀ t ∈ all, t ∈ Ts) ∧ (all.map ThD.id).Nodup ∧ (∀ k, k ∈ all.map ThD.id ↔ From (holdsC (accG h)) ids k)
set_option maxRecDepth 100000 in
set_option maxHeartbeats 4000000 in
theorem rightBelow_any {w : World} {lo : Nat} {cs : List Value} {h : HeapD} {k : Value} {ids : List Int} (hh : HeapAt w lo cs h) (hs : h.small) (hk : SeqAt 1 IntAt w lo k ids) (hl : ids.length ≤ 1048576) :
    Calls Tryz.prog 84 #[.agg cs.toArray, k] w fun e w' => (((specB h && thereB h ids) = false ∧ e = .returned (.tuple #[.slice none 0 0, .bool false])) ∨ ((specB h && thereB h ids) = true ∧ ∃ v all o Ts, e = .returned (.tuple #[v, .bool true]) ∧ BelowAt h ids w.heap.size w' v all o Ts)) ∧ Below w.heap.size w w' := by
  have hs' : Hid h.small := hs
  have hh' : Hid (HeapAt w lo cs h) := hh
  obtain ⟨k2, k3, k4, rfl, s2, s3, s4, _⟩ := hh
  obtain ⟨a2, cap2, rfl⟩ := s2.form
  obtain ⟨a3, cap3, rfl⟩ := s3.form
  obtain ⟨a4, cap4, rfl⟩ := s4.form
  clear s2 s3 s4
  have hb1 : Below w.heap.size w (w.alloc (.cells #[.int .i64 h.vNext, .int .i64 h.vDoc, .slice a2 h.vNodes.length cap2, .slice a3 h.vObjs.length cap3, .slice a4 h.vGlobals.length cap4] 32)) := (Below.refl _ _).alloc (Nat.le_refl _) _
  have bH0 : Hid (Box (w.alloc (.cells #[.int .i64 h.vNext, .int .i64 h.vDoc, .slice a2 h.vNodes.length cap2, .slice a3 h.vObjs.length cap3, .slice a4 h.vGlobals.length cap4] 32)) w.heap.size [.int .i64 h.vNext, .int .i64 h.vDoc, .slice a2 h.vNodes.length cap2, .slice a3 h.vObjs.length cap3, .slice a4 h.vGlobals.length cap4] 32) := Box.new w [.int .i64 h.vNext, .int .i64 h.vDoc, .slice a2 h.vNodes.length cap2, .slice a3 h.vObjs.length cap3, .slice a4 h.vGlobals.length cap4] 32
  obtain ⟨ak, ck, rfl, hmk, hxk⟩ := hk
  have hxk' : Hid _ := hxk
  obtain ⟨iP, hiP, heP⟩ := Option.map_eq_some_iff.1 infoPtr
  simp only [Prod.mk.injEq] at heP
  have hIP : Hid _ := hiP
  have hEP : Hid _ := heP
  clear hxk hmk hiP heP hs
  go_enter Tryz.func84, Tryz.ntmps84
  go_wp2_with fail
  refine (rightGraph_any hh'.out hb1 hs'.out).mono ?_
  rintro e w1 ⟨hres, hb2⟩
  have hB2 : Below w.heap.size w w1 := hb1.trans (hb2.mono hb1.size)
  rcases hres with ⟨hp, rfl⟩ | ⟨hp, o, Ts, bm, g, cap, rfl, hg⟩
  · have HF : Hid ((specB h && thereB h ids) = false) := by show _ = _; simp [hp]
    clear hp
    go_wp2_with fail
    go_ret2
    exact ⟨Or.inl ⟨HF.out, rfl⟩, hB2.alloc hB2.size _⟩
  obtain ⟨ho0, hidp, hap, hG, hM, hrow, hbm⟩ := hg
  have hp' : Hid (specB h = true) := hp
  have hidp' : Hid (Ts.map ThD.id = idsD h ∧ ∀ i, (hi : i < Ts.length) → Ts[i].pl = (i : Int)) := hidp
  have hT : Hid (∀ k, (getI ThD.id Ts k).isSome = isT h k) := things_there hidp.1
  have ho0' : Hid (o.id = 0) := ho0
  have hap' : Hid (Apart (o :: Ts)) := hap
  have hb3 : Below w1.heap.size w1 (w1.alloc (.cells #[.slice (some ⟨g, 0, none⟩) (idsD h).length cap, .map (some bm), .pointer (some ⟨o.blk, 0, none⟩)] 59)) := (Below.refl _ _).alloc (Nat.le_refl _) _
  have hB3 : Below w.heap.size w (w1.alloc (.cells #[.slice (some ⟨g, 0, none⟩) (idsD h).length cap, .map (some bm), .pointer (some ⟨o.blk, 0, none⟩)] 59)) := hB2.alloc hB2.size _
  have bG : Hid (Box (w1.alloc (.cells #[.slice (some ⟨g, 0, none⟩) (idsD h).length cap, .map (some bm), .pointer (some ⟨o.blk, 0, none⟩)] 59)) w1.heap.size (Array.toList #[.slice (some ⟨g, 0, none⟩) (idsD h).length cap, .map (some bm), .pointer (some ⟨o.blk, 0, none⟩)]) 59) := Box.new w1 (Array.toList #[.slice (some ⟨g, 0, none⟩) (idsD h).length cap, .map (some bm), .pointer (some ⟨o.blk, 0, none⟩)]) 59
  have hG3 : Hid (∃ K base', GSt K base' (w1.alloc (.cells #[.slice (some ⟨g, 0, none⟩) (idsD h).length cap, .map (some bm), .pointer (some ⟨o.blk, 0, none⟩)] 59)) o Ts (accG h)) := ⟨_, _, hG.below hb3⟩
  have hM3 : Hid (PMap (w1.alloc (.cells #[.slice (some ⟨g, 0, none⟩) (idsD h).length cap, .map (some bm), .pointer (some ⟨o.blk, 0, none⟩)] 59)) bm Ts) := hM.keep (hb3.block bm hM.lt)
  have hz3 : (w1.alloc (.cells #[.slice (some ⟨g, 0, none⟩) (idsD h).length cap, .map (some bm), .pointer (some ⟨o.blk, 0, none⟩)] 59)).heap.size = w1.heap.size + 1 := by simp
  have hsz1 := hB2.size
  by_cases h100 : ids.length ≤ 100
  rotate_left
  · have h100' : (100 : Int) < (ids.length : Int) := by omega
    have HF : Hid ((specB h && thereB h ids) = false) := by show _ = _; simp [thereB, h100]
    clear hp hap hM hrow ho0 hidp hG h100
    go_wp2_with fail
    go_ret2
    exact ⟨Or.inl ⟨HF.out, rfl⟩, hB3⟩
  have h100' : decide ((100 : Int) < (ids.length : Int)) = false := by simp; omega
  have h100h : Hid (ids.length ≤ 100) := h100
  clear hp hap hM hrow ho0 hidp hG
  go_wp2_with fail
  go_loopw [8, 27] (fun v i wr => ∃ (j : Nat), j ≤ ids.length ∧ i = .int .i64 j ∧ Hid (∀ x ∈ ids.take j, isT h x = true) ∧ Hid (wr.ownsRow (w1.alloc (.cells #[.slice (some ⟨g, 0, none⟩) (idsD h).length cap, .map (some bm), .pointer (some ⟨o.blk, 0, none⟩)] 59)).heap.size 57 1 v j (((ids.take j).map (thOf Ts)).map fun t => Value.pointer (some ⟨t.blk, 0, none⟩))) ∧ Hid (∃ a cap, v = .slice a j cap) ∧ Below (w1.alloc (.cells #[.slice (some ⟨g, 0, none⟩) (idsD h).length cap, .map (some bm), .pointer (some ⟨o.blk, 0, none⟩)] 59)).heap.size (w1.alloc (.cells #[.slice (some ⟨g, 0, none⟩) (idsD h).length cap, .map (some bm), .pointer (some ⟨o.blk, 0, none⟩)] 59)) wr) (fun _ i _ => ids.length - (intOf i).toNat)
  case atStart => exact ⟨0, by omega, rfl, fun x hx => (by cases hx), World.ownsRow_nil _ _ _ _, ⟨_, _, rfl⟩, Below.refl _ _⟩
  case round =>
    obtain ⟨j, hj, rfl, hall, hown, hform, hbr⟩ := hrel
    obtain ⟨av, cv, rfl⟩ := hform.out
    clear hform
    have hzr := hbr.size
    have hBr : Below w.heap.size w wr := hB3.trans (hbr.mono (by omega))
    by_cases hlt : j < ids.length
    · obtain ⟨b, off, rfl, hlo, hbw, hc⟩ := hxk'.out (by omega)
      obtain ⟨cs, hcl, lie, hr⟩ := hc j hlt
      have lie1 := Lie.keep (lo := lo) (lo' := lo) lie (.of_below hBr) hlo hbw
      have hstep : Hid (ids.take (j + 1) = ids.take j ++ [ids[j]]) := List.take_succ_eq_append_getElem hlt
      have hmem : Hid (ids[j] ∈ ids) := List.getElem_mem hlt
      generalize hQ : ids[j] = Q at hr hstep hmem
      obtain ⟨rfl, hIQ⟩ := hr
      have z0 := lie1 0 (by simp)
      simp only [List.getElem?_cons_zero, Nat.add_zero, Nat.mul_one] at z0
      have hMr : PMap wr bm Ts := hM3.out.keep (hbr.block bm hM3.out.lt)
      have bGr := bG.out.below hbr bG.out.lt
      have c1 : wr.cell? ⟨w1.heap.size, 1, none⟩ = some (.map (some bm)) := bGr.cell 1 rfl
      clear lie lie1 hcl hc hQ bGr
      rcases run_lookP hMr Tryz.underlying56 zeroPtr Q with ⟨hq, hlook⟩ | ⟨t, hq, hlook⟩
      · have HF : Hid ((specB h && thereB h ids) = false) := by
          show _ = _
          have hq1 : isT h Q = false := by rw [← hT.out Q, hq]; rfl
          have hq2 : ids.all (isT h) = false := by
            rw [List.all_eq_false]
            exact ⟨Q, hmem.out, by rw [hq1]; simp⟩
          simp [thereB, hq2]
        clear hq hMr
        go_wp2_with fail
        go_ret2
        exact ⟨Or.inl ⟨HF.out, rfl⟩, hBr⟩
      · have hyes : Hid (isT h Q = true) := by show _ = _; rw [← hT.out Q, hq]; rfl
        have hth : Hid (thOf Ts Q = t) := by show _ = _; simp [thOf, hq]
        obtain ⟨L, hL⟩ : ∃ L, (((ids.take j).map (thOf Ts)).map fun t => Value.pointer (some ⟨t.blk, 0, none⟩)) = L := ⟨_, rfl⟩
        have hownL : Hid ((wr.alloc (.cells #[.pointer (some ⟨t.blk, 0, none⟩)] 57)).ownsRow (w1.alloc (.cells #[.slice (some ⟨g, 0, none⟩) (idsD h).length cap, .map (some bm), .pointer (some ⟨o.blk, 0, none⟩)] 59)).heap.size 57 1 (.slice av j cv) j L) := by rw [← hL]; exact hown.out.alloc _
        have hL' : Hid _ := hL
        have h100k : ids.length ≤ 100 := h100h.out
        clear hq hMr hL
        go_wp2_with (at_builtin; refine wpList_append_lies _ rfl _ _ 55 rfl (w1.alloc (.cells #[.slice (some ⟨g, 0, none⟩) (idsD h).length cap, .map (some bm), .pointer (some ⟨o.blk, 0, none⟩)] 59)).heap.size 57 iP (.pointer none) 1 8 Tryz.underlying55 hIP.out hEP.out.1 hEP.out.2.2 hEP.out.2.1 rfl (by decide) _ j L rfl hownL.out ⟨wr.heap.size, 0, none⟩ 1 1 [.pointer (some ⟨t.blk, 0, none⟩)] rfl rfl (by intro q u hq; match q, hq with | 0, hq => simp at hq; subst hq; simp [Addr.add]) (by simp [Value.oneCell']) (by decide) (by unfold maxLen; omega) (by omega) (by simp at *; omega) (wr.heap.size + 1) (by simp) ?_)
        intro gg capg w2 hown2 hgrow2 hat2 hlt2
        have hbr2 : Hid (Below (w1.alloc (.cells #[.slice (some ⟨g, 0, none⟩) (idsD h).length cap, .map (some bm), .pointer (some ⟨o.blk, 0, none⟩)] 59)).heap.size (w1.alloc (.cells #[.slice (some ⟨g, 0, none⟩) (idsD h).length cap, .map (some bm), .pointer (some ⟨o.blk, 0, none⟩)] 59)) w2) := (hbr.alloc hzr _).grown hgrow2 (by simp at *; omega) (own_block hownL.out)
        have hown2' : Hid (w2.ownsRow (w1.alloc (.cells #[.slice (some ⟨g, 0, none⟩) (idsD h).length cap, .map (some bm), .pointer (some ⟨o.blk, 0, none⟩)] 59)).heap.size 57 1 (.slice (some ⟨gg, 0, none⟩) (j + 1) capg) (j + 1) (((ids.take (j + 1)).map (thOf Ts)).map fun t => Value.pointer (some ⟨t.blk, 0, none⟩))) := by
          rw [hz3, hstep.out, List.map_append, List.map_append, hL'.out]
          simp only [List.map_cons, List.map_nil, hth.out]
          exact hown2
        clear hown2 hgrow2 hat2 hlt2
        go_wp2_with fail
        go_roundw
        case rel => exact ⟨j + 1, by omega, by go_num, fun x hx => by rw [hstep.out] at hx; rcases List.mem_append.1 hx with q | q; exact hall.out x q; simp at q; exact q ▸ hyes.out, hown2', ⟨_, _, rfl⟩, hbr2.out⟩
        case measure => simp [intOf]; omega
    obtain rfl : j = ids.length := by omega
    have hallI : Hid (∀ x ∈ ids, isT h x = true) := fun x hx => hall.out x (by rw [List.take_length]; exact hx)
    have HT : Hid ((specB h && thereB h ids) = true) := by
      show _ = _
      have q : ids.all (isT h) = true := List.all_eq_true.2 hallI.out
      simp [thereB, q, hp'.out, h100h.out]
    have hpsl : ((ids.map (thOf Ts))).length = ids.length := by simp
    have hrowN : Hid (wr.ownsRow (w1.alloc (.cells #[.slice (some ⟨g, 0, none⟩) (idsD h).length cap, .map (some bm), .pointer (some ⟨o.blk, 0, none⟩)] 59)).heap.size 57 1 (.slice av ids.length cv) (ids.map (thOf Ts)).length ((ids.map (thOf Ts)).map fun t => Value.pointer (some ⟨t.blk, 0, none⟩))) := by have q := hown.out; rw [List.take_length] at q; rw [hpsl]; exact q
    have hks : ∀ k ∈ ids, (getI ThD.id Ts k).isSome = true := fun k hk => (hT.out k).trans (hallI.out k hk)
    have hpsT : Hid (∀ u ∈ ids.map (thOf Ts), u ∈ Ts) := fun u hu => by
      obtain ⟨k, hk, rfl⟩ := List.mem_map.1 hu
      exact (thOf_is (hks k hk)).1
    have hpid : Hid ((ids.map (thOf Ts)).map ThD.id = ids) := by
      show _ = _
      rw [List.map_map]
      have : ids.map (ThD.id ∘ thOf Ts) = ids.map (fun k => k) := List.map_congr_left fun k hk => (thOf_is (hks k hk)).2.1
      rw [this, List.map_id']
    have hin : Hid (∀ t ∈ Ts, ∀ k ∈ holdsC (accG h) t.id, (getI ThD.id Ts k).isSome = true) := fun t _ k hk => (hT.out k).trans (holdsC_there hp'.out hk)
    have hTl : Hid (Ts.length ≤ 1048576) := by show _ ≤ _; have q := congrArg List.length hidp'.out.1; rw [List.length_map] at q; have := idsD_most hp'.out; omega
    obtain ⟨K, base', hGr0⟩ := hG3.out
    have hGr : Hid (GSt K base' wr o Ts (accG h)) := hGr0.below hbr
    have hpl : Hid ((ids.map (thOf Ts)).length ≤ 1099511627) := by show _ ≤ _; rw [hpsl]; have := h100h.out; omega
    clear hown hall hks hpsl hGr0
    go_wp2_with fail
    refine (heldFrom_any hap'.out hGr.out hin.out hTl.out (accG_len hp'.out hs'.out) hrowN.out hpsT.out hpl.out).mono ?_
    rintro e w2 ⟨⟨v2, all, rfl, hown2, hsub2, hnd2, hfrom2⟩, hb4⟩
    have hB4 : Below w.heap.size w w2 := hBr.trans (hb4.mono hBr.size)
    rw [hpid.out] at hfrom2
    have hBA : Hid (BelowAt h ids w.heap.size w2 v2 all o Ts) := ⟨ho0'.out, hidp'.out, hap'.out, ⟨K, base', hGr.out.below hb4⟩, World.ownsRow.mono hown2 hBr.size, hsub2, hnd2, hfrom2⟩
    obtain ⟨a2', c2', rfl⟩ := own_forms hown2
    clear hown2 hsub2 hnd2 hfrom2 hb4
    go_wp2_with fail
    go_ret2
    exact ⟨Or.inr ⟨HT.out, _, all, o, Ts, rfl, hBA.out⟩, hB4⟩
end Go.Proofs.YtnonfehmbabfhaaGreat
namespace Go.Proofs.YtnonfehmbabfhaaGreat
open Go.RowKit
theorem there_ids {h : HeapD} {ids : List Int} (e : (specB h && thereB h ids) = true) : specB h = true ∧ (∀ x ∈ ids, x ∈ idsD h) ∧ ids.length ≤ 100 := by
  simp only [thereB, Bool.and_eq_true, List.all_eq_true, decide_eq_true_eq] at e
  exact ⟨e.1, fun x hx => mem_idsD.2 (mem_idsU.2 (e.2.1 x hx)), e.2.2⟩
end Go.Proofs.YtnonfehmbabfhaaGreat
