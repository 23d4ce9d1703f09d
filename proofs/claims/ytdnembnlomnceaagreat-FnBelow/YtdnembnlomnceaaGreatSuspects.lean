/- What is drawn as suspects: a few numbers; DrawBelow. -/
import Derived.Test.YtdnembnlomnceaaGreatAbb
import Derived.Test.YtdnembnlomnceaaGreatTakeMore
import Derived.Test.YtdnembnlomnceaaGreatRanWords
import Derived.Test.YtdnembnlomnceaaGreatDrawsNum
import Derived.Test.YtdnembnlomnceaaGreatRnMake
import Derived.Test.YtdnembnlomnceaaGreatAppendRows
import Derived.Deep.RegionHeld3
import Derived.Deep.AppendLies
import Derived.Deep.DeepCutAuto
import Derived.Deep.CutBlock
namespace Go.Proofs.YtdnembnlomnceaaGreat
open Go.RowKit Go.Deep
theorem step_append_ints {P : Program} {w : World} {ops : Array Oper} {o : Oper} {a : Act} {K : Act → World → Prop} {Q : Exit → Act → World → Prop} {E : Prop} (hgd : o.guard = none) (s x : Operand) (t : TypeId)
 (ho : o.op = .call { callee := .builtin .append, args := #[s, x], argTypes := #[t, t] }) (base lo : Nat) (e : TypeId) (i : TypeInfo) (ht : P.underlying t = some (.slice e)) (hi : P.info? e = some i) (hz : i.zero = some (.int .i64 0)) (hsize : i.size = 1) (hby : i.bytes = 8)
 (v : Value) (n : Nat) (xs : List Value) (hs : a.eval s = v) (hv : v ≠ .slice none 0 0) (hown : w.ownsRow base e 1 v n xs) (k : Value) (ks : List Int) (hx : a.eval x = k) (hk : SeqAt 1 IntAt w lo k ks) (hl : n + ks.length ≤ 1099511627776) (hbase : base ≤ w.heap.size)
 (h : ∀ v' w', w'.ownsRow base e 1 v' (n + ks.length) (xs ++ ks.map fun n => .int .i64 n) → w.grownBy w' v.ownBlock → v' ≠ .slice none 0 0 → K (a.put o.dst v') w') : if Region.wanted o (yielded ops a.tmps) = true then Oper.wp P o a w K Q else E := by
 have hw : Region.wanted o (yielded ops a.tmps) = true := by simp [Region.wanted, hgd]
 rw [if_pos hw]
 obtain ⟨ka, kc, rfl, hm, hc⟩ := hk
 cases ka with
 | none =>
  have h0 : ks.length = 0 := by
   rcases Nat.eq_zero_or_pos ks.length with q | q
   · exact q
   · obtain ⟨b, off, e, _⟩ := hc q; cases e
  have hks : ks = [] := List.eq_nil_of_length_eq_zero h0
  subst hks
  have hown' := hown
  rcases hown.2 with ⟨q, _⟩ | ⟨g, cap, cur, rfl, hg, hh, q1, q2, q3, q4⟩
  · exact absurd q hv
  · have hsrc : Src P i.size t (.slice none 0 kc) 0 [] w := Src.ofNil w ht kc
    have hrun := run_append_room_src (P := P) w t t o.type e i ht hi g 0 n cap (.slice none 0 kc) 0 [] hsrc (by omega) (by simp) (by simp)
    have hset : w.setCells g (0 + n * i.size) [] = w := rfl
    rw [hset] at hrun
    unfold Oper.wp
    simp only [List.length_nil] at hx
    simp [execOp, ho, resolve, invoke, builtin, hs, hx, hrun, Result.andThen]
    exact h _ w (by simpa using hown') ⟨rfl, rfl, rfl, Nat.le_refl _, fun _ _ _ => rfl⟩ (by simp)
 | some ad =>
  refine wp_append_own w s x t ho base e i (.int .i64 0) 1 8 ht hi hz hsize hby rfl (by decide) v n xs hs hown ad ks.length kc (ks.map fun n => .int .i64 n) hx (by simp) (fun j u hj => ?_) (fun u hu => ?_) (by unfold maxLen; omega) (by omega) hbase (fun v' w' h1 h2 h3 => ?_)
  · have hj' : j < ks.length := by
     rcases Nat.lt_or_ge j ks.length with q | q
     · exact q
     · rw [List.getElem?_eq_none (by simpa using q)] at hj; cases hj
    obtain ⟨b, off, q, _, _, hcc⟩ := hc (by omega)
    injection q with q
    subst q
    obtain ⟨cs, hcl, lie, hr⟩ := hcc j hj'
    obtain ⟨rfl, _⟩ := hr
    have z := lie 0 (by simp)
    simp only [List.getElem?_cons_zero, Nat.add_zero, Nat.mul_one] at z
    rw [List.getElem?_map, List.getElem?_eq_getElem hj'] at hj
    simp only [Option.map_some, Option.some.injEq] at hj
    rw [← hj]
    unfold Addr.add
    by_cases e0 : j = 0
    · subst e0; simpa using z
    · rw [if_neg e0]; exact z
  · obtain ⟨q, _, rfl⟩ := List.mem_map.1 hu
    rfl
  · exact h v' w' h1 h2 (fun q => hv (h3.1 q).1)
theorem HeapP.idN {w : World} {k0 k1 vO vG : Value} {g nl cap : Nat} {x : HeapD} {fs : List Nat} (h : HeapP w [k0, k1, .slice (some ⟨g, 0, none⟩) nl cap, vO, vG] x fs) {k : Nat} (hk : k < x.vNodes.length) : w.cell? ⟨g, k * 6, none⟩ = some (.int .i64 x.vNodes[k].vId) ∧ InI x.vNodes[k].vId := by
 obtain ⟨CC, fi, h1, h2, _⟩ := h.node hk
 have h3 := h1.len
 obtain ⟨k3, k5, f3, bL, cL, e, _, _, r0, _⟩ := h1
 obtain ⟨a3, c3, a5, c5, e2⟩ := h3
 exact ⟨h2 0 _ (by rw [e2]; rfl), r0⟩
theorem HeapP.idO {w : World} {k0 k1 vN vG : Value} {g nl cap : Nat} {x : HeapD} {fs : List Nat} (h : HeapP w [k0, k1, vN, .slice (some ⟨g, 0, none⟩) nl cap, vG] x fs) {k : Nat} (hk : k < x.vObjs.length) : w.cell? ⟨g, k * 3, none⟩ = some (.int .i64 x.vObjs[k].vId) ∧ InI x.vObjs[k].vId := by
 obtain ⟨CC, fi, h1, h2, _⟩ := h.obj hk
 obtain ⟨k2, f2, e, _, r0, _⟩ := h1
 exact ⟨h2 0 _ (by rw [e]; rfl), r0⟩
theorem rowI_grow {base g : Nat} {W u : World} {v : Value} {ks : List Int} (h : RowI base W v ks) (q : W.grownBy u (some g)) (hlt : g < base) : RowI base u v ks := by
 refine ⟨h.1, ⟨h.2.1.1, ?_⟩, h.2.2⟩
 rcases h.2.1.2 with e | ⟨b, cap, cur, e, h0, h1, h2⟩
 · exact Or.inl e
 · refine Or.inr ⟨b, cap, cur, e, h0, (q.block b ?_ (fun z => by injection z with z; omega)).trans h1, h2⟩
   rcases Nat.lt_or_ge b W.heap.size with z | z
   · exact z
   · rw [Array.getElem?_eq_none z] at h1; cases h1
/-- suspects on their way: the heap's box, the reader, the row -/
structure SU (w : World) (g : Nat) (a : Option Addr) (n cap : Nat) (cs : List Value) (y : HeapD) (fs : List Nat) (v : Value) (ks : List Int) (W : World) : Prop where
 hG : w.grownBy W (some g)
 hR : RdAt W g a n cap
 bx : Box W w.heap.size cs 28
 hp : HeapP W cs y fs
 ng : ∀ b ∈ fs, b < w.heap.size ∧ b ≠ g
 lt : g < w.heap.size
 row : RowI (w.heap.size + 1) W v ks
theorem SU.grow {w W u : World} {g : Nat} {a : Option Addr} {n cap : Nat} {cs : List Value} {y : HeapD} {fs : List Nat} {v : Value} {ks : List Int} (h : SU w g a n cap cs y fs v ks W) (r : RdAt u g a n cap) (q : W.grownBy u (some g)) : SU w g a n cap cs y fs v ks u :=
 ⟨grown_on h.hG q, r, box_other h.bx (by have := h.lt; omega) q, h.hp.stays (fun b hb => q.block b (h.hp.lt b hb) (fun e => by injection e with e; exact (h.ng b hb).2 e)), h.ng, h.lt, rowI_grow h.row q (by have := h.lt; omega)⟩
theorem SU.below {w W u : World} {g : Nat} {a : Option Addr} {n cap : Nat} {cs : List Value} {y : HeapD} {fs : List Nat} {v : Value} {ks : List Int} (h : SU w g a n cap cs y fs v ks W) (q : Below W.heap.size W u) : SU w g a n cap cs y fs v ks u := h.grow (h.hR.below q) (grown_of_below q _)
theorem SU.more {w W u : World} {g : Nat} {a : Option Addr} {n cap : Nat} {cs : List Value} {y : HeapD} {fs : List Nat} {v v' : Value} {ks : List Int} {k : Int} (h : SU w g a n cap cs y fs v ks W) (hk : InI k) (h1 : u.ownsRow (w.heap.size + 1) 2 1 v' (ks.length + 1) ((ks.map fun n => Value.int .i64 n) ++ [k].map fun n => Value.int .i64 n)) (hg : W.grownBy u v.ownBlock) (h3 : v' ≠ .slice none 0 0) : SU w g a n cap cs y fs v' (ks ++ [k]) u := by
 have lt := h.lt
 have hb := h.bx.lt
 have st : ∀ b, b ≤ w.heap.size → u.heap[b]? = W.heap[b]? := fun b q => hg.block b (by omega) (fun e => by have := own_block2 h.row.2.1 _ e.symm; omega)
 exact ⟨⟨hg.os.trans h.hG.os, hg.tape.trans h.hG.tape, hg.output.trans h.hG.output, Nat.le_trans h.hG.size hg.size, fun b q r => (st b (by omega)).trans (h.hG.block b q r)⟩, h.hR.keep (fun b q => st b (by omega)), (st _ (Nat.le_refl _)).trans h.bx, h.hp.stays (fun b q => st b (by have := (h.ng b q).1; omega)), h.ng, lt, RowI.more h.row.2.2 hk rfl h1 h3⟩
set_option maxRecDepth 100000 in
set_option maxHeartbeats 8000000 in
theorem suspects_any {w : World} {g : Nat} {a : Option Addr} {n cap : Nat} {cs : List Value} {y : HeapD} {fs : List Nat} (h : RdAt w g a n cap) (hp : HeapP w cs y fs) (hng : g ∉ fs) (hs : HSz y) :
 Calls Tryz.prog 25 #[.pointer (some ⟨g, 0, none⟩), .agg cs.toArray] w fun e w' => (∃ (v : Value) (ks : List Int) (fr : List Nat), e = .returned v ∧ SeqOwn 1 IntOwn w' v ks fr ∧ (∀ b ∈ fr, w.heap.size ≤ b) ∧ ks.length ≤ 4) ∧ RdAt w' g a n cap ∧ w.grownBy w' (some g) := by
 obtain ⟨aN5, kN5, aO5, kO5, aG5, kG5, rfl⟩ := hp.form
 obtain ⟨iI, hiI0, heI0⟩ := Option.map_eq_some_iff.1 infoIntP
 simp only [Prod.mk.injEq] at heI0
 have hiI : Hid _ := hiI0
 have heI : Hid _ := heI0
 have hN : 0 < y.vNodes.length := hs.1
 have hN16 : y.vNodes.length ≤ 16 := hs.2.1
 have hO16 : y.vObjs.length ≤ 16 := hs.2.2.1
 have hS0 : Hid (SU w g a n cap (cHp y aN5 kN5 aO5 kO5 aG5 kG5) y fs (.slice (some ⟨(w.alloc (.cells (cHp y aN5 kN5 aO5 kO5 aG5 kG5).toArray 28)).heap.size, 0, none⟩) 0 0) [] ((w.alloc (.cells (cHp y aN5 kN5 aO5 kO5 aG5 kG5).toArray 28)).alloc (.cells #[] 2))) := by
  have A1 : Below w.heap.size w (w.alloc (.cells (cHp y aN5 kN5 aO5 kO5 aG5 kG5).toArray 28)) := (Below.refl _ _).alloc (Nat.le_refl _) _
  have A2 : Below (w.alloc (.cells (cHp y aN5 kN5 aO5 kO5 aG5 kG5).toArray 28)).heap.size (w.alloc (.cells (cHp y aN5 kN5 aO5 kO5 aG5 kG5).toArray 28)) ((w.alloc (.cells (cHp y aN5 kN5 aO5 kO5 aG5 kG5).toArray 28)).alloc (.cells #[] 2)) := (Below.refl _ _).alloc (Nat.le_refl _) _
  have A3 : Below w.heap.size w ((w.alloc (.cells (cHp y aN5 kN5 aO5 kO5 aG5 kG5).toArray 28)).alloc (.cells #[] 2)) := A1.trans (A2.mono (by simp))
  have r0 := RowI.start (w := w.alloc (.cells (cHp y aN5 kN5 aO5 kO5 aG5 kG5).toArray 28))
  have e0 : (w.alloc (.cells (cHp y aN5 kN5 aO5 kO5 aG5 kG5).toArray 28)).heap.size = w.heap.size + 1 := by simp
  rw [e0] at r0 ⊢
  exact ⟨grown_of_below A3 _, h.below A3, (Box.new w _ _).below A2 (by simp), hp.below A3, fun b q => ⟨hp.lt b q, fun z => hng (z ▸ q)⟩, h.lt, r0⟩
 clear h hp hng hs hiI0 heI0
 go_enter Tryz.func25, Tryz.ntmps25
 go_upto_region 2 with fail
 have e0 : (w.alloc (.cells (cHp y aN5 kN5 aO5 kO5 aG5 kG5).toArray 28)).heap.size = w.heap.size + 1 := by simp
 first | rw [e0] at hS0 ⊢ | rw [e0] at hS0
 clear e0
 generalize ((w.alloc (.cells (cHp y aN5 kN5 aO5 kO5 aG5 kG5).toArray 28)).alloc (.cells #[] 2)) = w1 at hS0 ⊢
 go_wp2_with fail
 refine (below_any (by exact hS0.out.hR) 4 (by omega) (by omega)).mono ?_
 rintro e w2 ⟨v, rfl, v0, v1, hr, hg⟩
 obtain ⟨m, rfl⟩ := Int.eq_ofNat_of_zero_le v0
 have hm : m ≤ 3 := by omega
 have hS1 : Hid (SU w g a n cap (cHp y aN5 kN5 aO5 kO5 aG5 kG5) y fs (.slice (some ⟨w.heap.size + 1, 0, none⟩) 0 0) [] w2) := hS0.out.grow hr hg
 clear hr hg v0 v1 hS0
 go_upto_block 0 with fail
 go_cut [5] from 6 (fun s wx => ∃ ks : List Int, ks.length ≤ 3 ∧ Hid (SU w g a n cap (cHp y aN5 kN5 aO5 kO5 aG5 kG5) y fs s ks wx))
 case first =>
  go_wp2_with fail
  go_loopw [5, 6] (fun s iv wr => ∃ (i : Nat) (v : Value) (ks : List Int), i + ks.length ≤ 3 ∧ iv = .int .i64 i ∧ v = s ∧ Hid (SU w g a n cap (cHp y aN5 kN5 aO5 kO5 aG5 kG5) y fs v ks wr)) (fun _ iv _ => (intOf iv).toNat)
  case atStart => exact ⟨m, _, [], by simpa using hm, rfl, rfl, hS1⟩
  case round =>
   obtain ⟨i, s, ks, hi, rfl, rfl, hSr⟩ := hrel
   by_cases h0 : i = 0
   · subst h0
     go_wp2_with fail
     go_meet
     exact ⟨ks, by omega, hSr⟩
   · obtain ⟨i', rfl⟩ : ∃ i', i = i' + 1 := ⟨i - 1, by omega⟩
     clear hS1
     have hi1 : (0 : Int) < ((i' + 1 : Nat) : Int) := by omega
     go_upto_region 5 with fail
     obtain ⟨d0, d1, d2, d3, d4⟩ := fv5 hSr.out.bx
     go_cut [21] (fun v wx => ∃ b : Bool, v = .bool b ∧ (b = true → 0 < y.vObjs.length) ∧ Hid (SU w g a n cap (cHp y aN5 kN5 aO5 kO5 aG5 kG5) y fs s ks wx))
     case first =>
      by_cases hO : (0 : Int) < ((y.vObjs.length : Nat) : Int)
      · go_wp2_with fail
        refine (once_any (by exact hSr.out.hR) 2 (by omega) (by omega)).mono ?_
        rintro e w5 ⟨b, rfl, hr, hg⟩
        have hS5 : Hid (SU w g a n cap (cHp y aN5 kN5 aO5 kO5 aG5 kG5) y fs s ks w5) := hSr.out.grow hr hg
        clear hr hg d0 d1 d2 d3 d4
        go_wp2_with fail
        all_goals (go_meet; exact ⟨_, rfl, fun _ => by omega, hS5⟩)
      · go_wp2_with fail
        go_meet
        exact ⟨false, rfl, fun h => by simp at h, hSr⟩
     case rest =>
      obtain ⟨b, rfl, hb, hSc⟩ := hcut
      clear hSr d0 d1 d2 d3 d4
      cases b
      · obtain ⟨gN, rfl, _⟩ := hSc.out.hp.posN hN
        go_upto_region 7 with fail
        have hSd : Hid (SU w g a n cap (cHp y (some ⟨gN, 0, none⟩) kN5 aO5 kO5 aG5 kG5) y fs s ks wc.drew) := hSc.out.below (Below.drew (Below.refl _ _))
        clear hSc
        refine wp_region_held_drew (S := fun w' => w'.cell? ⟨w.heap.size, 0, none⟩ = some (.int .i64 y.vNext) ∧ w'.cell? ⟨w.heap.size, 1, none⟩ = some (.int .i64 y.vDoc) ∧ w'.cell? ⟨w.heap.size, 2, none⟩ = some (.slice (some ⟨gN, 0, none⟩) y.vNodes.length kN5) ∧ w'.cell? ⟨w.heap.size, 3, none⟩ = some (.slice aO5 y.vObjs.length kO5) ∧ w'.cell? ⟨w.heap.size, 4, none⟩ = some (.slice aG5 y.vGlobals.length kG5)) (by kernel_rfl) (fv5 hSd.out.bx) (fun hHeld => ?_)
        refine tk 0 ?_
        refine tk 1 ?_
        refine tk 2 ?_
        refine tk 3 ?_
        refine tk 4 ?_
        refine tk 5 ?_
        refine tk 6 ?_
        refine rd1 7 (fun K hK => ?_)
        go_simp
        refine (below_any (by exact hSd.out.hR) (y.vNodes.length : Int) (by omega) (by omega)).mono ?_
        rintro e u ⟨v, rfl, v0, v1, hru, hgu⟩
        obtain ⟨k, rfl⟩ := Int.eq_ofNat_of_zero_le v0
        have hk : k < y.vNodes.length := by omega
        have hkI : (k : Int) < ((y.vNodes.length : Nat) : Int) := v1
        have hk0 : (0 : Int) ≤ (k : Int) := v0
        have hS3 : Hid (SU w g a n cap (cHp y (some ⟨gN, 0, none⟩) kN5 aO5 kO5 aG5 kG5) y fs s ks u) := hSd.out.grow hru hgu
        obtain ⟨X, hX⟩ : ∃ X, y.vNodes[k].vId = X := ⟨_, rfl⟩
        obtain ⟨lc, hid⟩ := hS3.out.hp.idN hk
        rw [hX] at lc hid
        have hidh : Hid (InI X) := hid
        have lch : Hid _ := lc
        clear hru hgu v1 v0 hX lc hid
        refine hK.out _ _ (fv5 hS3.out.bx) (fun hHeld => ?_)
        clear hK K
        refine tk 8 ?_
        refine tk 9 ?_
        refine rd1 10 (fun K hK => ?_)
        have lc := lch.out
        go_simp
        clear lc
        refine hK.out _ _ hHeld (fun hHeld => ?_)
        clear hK K
        refine rd1 11 (fun K hK => ?_)
        go_simp
        have hS10 : Hid (SU w g a n cap (cHp y (some ⟨gN, 0, none⟩) kN5 aO5 kO5 aG5 kG5) y fs s ks (World.alloc u (.cells #[.int .i64 X] 2))) := hS3.out.below ((Below.refl _ u).alloc (Nat.le_refl _) _)
        have hx10 : Hid (SeqAt 1 IntAt (World.alloc u (.cells #[.int .i64 X] 2)) 0 (.slice (some ⟨u.heap.size, 0, none⟩) 1 1) [X]) := box1P (Box.new u [.int .i64 X] 2) hidh.out
        refine hK.out _ _ (fv5 hS10.out.bx) (fun hHeld => ?_)
        clear hK K
        refine rd1 12 (fun K hK => ?_)
        refine step_append_ints (w := (World.alloc u (.cells #[.int .i64 X] 2))) rfl _ _ 29 rfl (w.heap.size + 1) 0 2 iI Tryz.underlying29 hiI.out heI.out.1 heI.out.2.1 heI.out.2.2 s ks.length (ks.map fun n => .int .i64 n) rfl (by exact hS10.out.row.1) (by exact hS10.out.row.2.1) (.slice (some ⟨u.heap.size, 0, none⟩) 1 1) [X] rfl (by exact hx10.out) (by simp; omega) (by have := hS10.out.bx.lt; omega) ?_
        intro v11 w11 hown11 hgrow11 hnn11
        have hS11 : Hid (SU w g a n cap (cHp y (some ⟨gN, 0, none⟩) kN5 aO5 kO5 aG5 kG5) y fs v11 (ks ++ [X]) w11) := hS10.out.more hidh.out hown11 hgrow11 hnn11
        clear hown11 hgrow11 hnn11
        go_simp
        refine hK.out _ _ (fv5 hS11.out.bx) (fun hHeld => ?_)
        clear hK K
        refine tk 13 ?_
        refine wpAnyH_done (by kernel_rfl) ?_ _
        clear hHeld hS10 hx10 lch
        go_wp2_with fail
        go_roundw
        case rel => exact ⟨i', v11, ks ++ [X], by rw [List.length_append, List.length_singleton]; omega, by go_num, rfl, hS11⟩
        case measure => simp [intOf]
      · have hO := hb rfl
        obtain ⟨gO, rfl, _⟩ := hSc.out.hp.posO hO
        go_upto_region 6 with fail
        have hSd : Hid (SU w g a n cap (cHp y aN5 kN5 (some ⟨gO, 0, none⟩) kO5 aG5 kG5) y fs s ks wc.drew) := hSc.out.below (Below.drew (Below.refl _ _))
        clear hSc
        refine wp_region_held_drew (S := fun w' => w'.cell? ⟨w.heap.size, 0, none⟩ = some (.int .i64 y.vNext) ∧ w'.cell? ⟨w.heap.size, 1, none⟩ = some (.int .i64 y.vDoc) ∧ w'.cell? ⟨w.heap.size, 2, none⟩ = some (.slice aN5 y.vNodes.length kN5) ∧ w'.cell? ⟨w.heap.size, 3, none⟩ = some (.slice (some ⟨gO, 0, none⟩) y.vObjs.length kO5) ∧ w'.cell? ⟨w.heap.size, 4, none⟩ = some (.slice aG5 y.vGlobals.length kG5)) (by kernel_rfl) (fv5 hSd.out.bx) (fun hHeld => ?_)
        refine tk 0 ?_
        refine tk 1 ?_
        refine tk 2 ?_
        refine tk 3 ?_
        refine tk 4 ?_
        refine tk 5 ?_
        refine tk 6 ?_
        refine rd1 7 (fun K hK => ?_)
        go_simp
        refine (below_any (by exact hSd.out.hR) (y.vObjs.length : Int) (by omega) (by omega)).mono ?_
        rintro e u ⟨v, rfl, v0, v1, hru, hgu⟩
        obtain ⟨k, rfl⟩ := Int.eq_ofNat_of_zero_le v0
        have hk : k < y.vObjs.length := by omega
        have hkI : (k : Int) < ((y.vObjs.length : Nat) : Int) := v1
        have hk0 : (0 : Int) ≤ (k : Int) := v0
        have hS3 : Hid (SU w g a n cap (cHp y aN5 kN5 (some ⟨gO, 0, none⟩) kO5 aG5 kG5) y fs s ks u) := hSd.out.grow hru hgu
        obtain ⟨X, hX⟩ : ∃ X, y.vObjs[k].vId = X := ⟨_, rfl⟩
        obtain ⟨lc, hid⟩ := hS3.out.hp.idO hk
        rw [hX] at lc hid
        have hidh : Hid (InI X) := hid
        have lch : Hid _ := lc
        clear hru hgu v1 v0 hX lc hid
        refine hK.out _ _ (fv5 hS3.out.bx) (fun hHeld => ?_)
        clear hK K
        refine tk 8 ?_
        refine tk 9 ?_
        refine rd1 10 (fun K hK => ?_)
        have lc := lch.out
        go_simp
        clear lc
        refine hK.out _ _ hHeld (fun hHeld => ?_)
        clear hK K
        refine rd1 11 (fun K hK => ?_)
        go_simp
        have hS10 : Hid (SU w g a n cap (cHp y aN5 kN5 (some ⟨gO, 0, none⟩) kO5 aG5 kG5) y fs s ks (World.alloc u (.cells #[.int .i64 X] 2))) := hS3.out.below ((Below.refl _ u).alloc (Nat.le_refl _) _)
        have hx10 : Hid (SeqAt 1 IntAt (World.alloc u (.cells #[.int .i64 X] 2)) 0 (.slice (some ⟨u.heap.size, 0, none⟩) 1 1) [X]) := box1P (Box.new u [.int .i64 X] 2) hidh.out
        refine hK.out _ _ (fv5 hS10.out.bx) (fun hHeld => ?_)
        clear hK K
        refine rd1 12 (fun K hK => ?_)
        refine step_append_ints (w := (World.alloc u (.cells #[.int .i64 X] 2))) rfl _ _ 29 rfl (w.heap.size + 1) 0 2 iI Tryz.underlying29 hiI.out heI.out.1 heI.out.2.1 heI.out.2.2 s ks.length (ks.map fun n => .int .i64 n) rfl (by exact hS10.out.row.1) (by exact hS10.out.row.2.1) (.slice (some ⟨u.heap.size, 0, none⟩) 1 1) [X] rfl (by exact hx10.out) (by simp; omega) (by have := hS10.out.bx.lt; omega) ?_
        intro v11 w11 hown11 hgrow11 hnn11
        have hS11 : Hid (SU w g a n cap (cHp y aN5 kN5 (some ⟨gO, 0, none⟩) kO5 aG5 kG5) y fs v11 (ks ++ [X]) w11) := hS10.out.more hidh.out hown11 hgrow11 hnn11
        clear hown11 hgrow11 hnn11
        go_simp
        refine hK.out _ _ (fv5 hS11.out.bx) (fun hHeld => ?_)
        clear hK K
        refine tk 13 ?_
        refine wpAnyH_done (by kernel_rfl) ?_ _
        clear hHeld hS10 hx10 lch
        go_wp2_with fail
        go_roundw
        case rel => exact ⟨i', v11, ks ++ [X], by rw [List.length_append, List.length_singleton]; omega, by go_num, rfl, hS11⟩
        case measure => simp [intOf]
 case rest =>
  obtain ⟨ks, hkl, hSc⟩ := hcut
  clear hS1
  go_wp2_with fail
  refine (once_any (by exact hSc.out.hR) 20 (by omega) (by omega)).mono ?_
  rintro e w5 ⟨b, rfl, hr, hg⟩
  have hS5 : Hid (SU w g a n cap (cHp y aN5 kN5 aO5 kO5 aG5 kG5) y fs _ ks w5) := hSc.out.grow hr hg
  clear hr hg hSc
  cases b
  · go_wp2_with fail
    go_ret
    obtain ⟨fr, o1, o2⟩ := hS5.out.row.seq
    exact ⟨⟨_, ks, fr, rfl, o1, fun b hb => by have := o2 b hb; omega, by omega⟩, hS5.out.hR, hS5.out.hG⟩
  · go_wp2_with fail
    refine (off_any (by exact hS5.out.hR) 1 9 (by omega) (by omega) (by omega) (by omega)).mono ?_
    rintro e u ⟨X, rfl, hX, hr, hg⟩
    have hS6 : Hid (SU w g a n cap (cHp y aN5 kN5 aO5 kO5 aG5 kG5) y fs _ ks u) := hS5.out.grow hr hg
    have hS10 : Hid (SU w g a n cap (cHp y aN5 kN5 aO5 kO5 aG5 kG5) y fs _ ks (u.alloc (.cells #[.int .i64 X] 2))) := hS6.out.below ((Below.refl _ u).alloc (Nat.le_refl _) _)
    have hx10 : Hid (SeqAt 1 IntAt (u.alloc (.cells #[.int .i64 X] 2)) 0 (.slice (some ⟨u.heap.size, 0, none⟩) 1 1) [X]) := box1P (Box.new u [.int .i64 X] 2) hX
    have hXh : Hid (InI X) := hX
    clear hr hg hX hS5 hS6
    go_wp2_with (at_builtin; refine wpList_append_ints rfl _ _ 29 rfl (w.heap.size + 1) 0 2 iI Tryz.underlying29 hiI.out heI.out.1 heI.out.2.1 heI.out.2.2 (_) (ks.length) (ks.map fun n => .int .i64 n) rfl (by exact hS10.out.row.1) (by exact hS10.out.row.2.1) _ ([X]) rfl hx10.out (by simp; omega) (by have := hS10.out.bx.lt; omega) ?_)
    intro v11 w11 hown11 hgrow11 hnn11
    have hS11 : Hid (SU w g a n cap (cHp y aN5 kN5 aO5 kO5 aG5 kG5) y fs v11 (ks ++ [X]) w11) := hS10.out.more hXh.out hown11 hgrow11 hnn11
    clear hown11 hgrow11 hnn11 hS10 hx10
    go_wp2_with fail
    go_ret
    obtain ⟨fr, o1, o2⟩ := hS11.out.row.seq
    exact ⟨⟨_, ks ++ [X], fr, rfl, o1, fun b hb => by have := o2 b hb; omega, by rw [List.length_append, List.length_singleton]; omega⟩, hS11.out.hR, hS11.out.hG⟩
end Go.Proofs.YtdnembnlomnceaaGreat
