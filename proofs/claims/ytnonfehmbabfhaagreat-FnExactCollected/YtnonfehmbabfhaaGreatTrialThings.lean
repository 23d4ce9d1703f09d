/- How often things are held from within: plain facts, and countsWithin walked. -/
import Derived.Test.YtnonfehmbabfhaaGreatBelowImpl
import Derived.Deep.MidRow
import Derived.Deep.RegionHeld3
import Derived.Deep.Upon
namespace Go.Proofs.YtnonfehmbabfhaaGreat
open Go.RowKit
def arrV (xs : List Int) : List Value := xs.map fun n => .int .i64 n
def plC (Ts : List ThD) (ks : List Int) (p : Nat) : Nat := (ks.filter fun k => decide ((thOf Ts k).pl = (p : Int))).length
def wArr (Ts : List ThD) (ks : List Int) : List Int := (List.range 32).map fun p => ((plC Ts ks p : Nat) : Int)
theorem wArr_len (Ts : List ThD) (ks : List Int) : (wArr Ts ks).length = 32 := by simp [wArr]
theorem wArr_get (Ts : List ThD) (ks : List Int) {p : Nat} (hp : p < 32) : (wArr Ts ks)[p]? = some ((plC Ts ks p : Nat) : Int) := by simp [wArr, hp]
theorem plC_le (Ts : List ThD) (ks : List Int) (p : Nat) : plC Ts ks p ≤ ks.length := List.length_filter_le _ _
theorem wArr_snoc {Ts : List ThD} {ks : List Int} {k : Int} {q : Nat} (hq : (thOf Ts k).pl = (q : Int)) (hq32 : q < 32) : wArr Ts (ks ++ [k]) = (wArr Ts ks).set q (((plC Ts ks q : Nat) : Int) + 1) := by
  refine List.ext_getElem? fun i => ?_
  rw [List.getElem?_set, wArr_len]
  by_cases hi : i < 32
  · rw [wArr_get _ _ hi]
    by_cases e : q = i
    · subst e
      rw [if_pos rfl, if_pos hi]
      simp [plC, List.filter_append, hq]
    · rw [if_neg e, wArr_get _ _ hi]
      have : ¬ ((q : Int) = (i : Int)) := by omega
      simp [plC, List.filter_append, hq, this]
  · rw [List.getElem?_eq_none (by rw [wArr_len]; omega), if_neg (by omega), List.getElem?_eq_none (by rw [wArr_len]; omega)]
theorem wArr_nil (Ts : List ThD) : arrV (wArr Ts []) = (List.replicate 32 (Value.int .i64 0)) := by
  have : wArr Ts [] = List.replicate 32 0 := by simp [wArr, plC]; decide
  rw [this]; rfl
theorem arrV_set (xs : List Int) (q : Nat) (x : Int) : (arrV xs).set q (.int .i64 x) = arrV (xs.set q x) := by simp [arrV, List.map_set]
theorem infoArr : ((Tryz.prog.info? 151).map fun i => i.size) = some 32 := by kernel_rfl
theorem Box.range {w : World} {g : Nat} {cs : List Value} {T : TypeId} (h : Box w g cs T) : w.rangeAt g 0 cs := fun j v hv => by rw [Nat.zero_add]; exact h.cell j hv
theorem Box.there {w : World} {g n : Nat} {cs : List Value} {T : TypeId} (h : Box w g cs T) (hn : cs.length = n) : w.there g 0 n := fun j hj => by
  rw [Nat.zero_add]
  exact ⟨by rw [h.cell j (List.getElem?_eq_getElem (by omega))]; rfl, h.unfrozen j⟩
theorem Below.setCells_own {B g : Nat} {w : World} (hg : B ≤ g) : ∀ (vs : List Value) (o : Nat) (wr : World), Below B w wr → Below B w (wr.setCells g o vs)
  | [], _, _, h => h
  | v :: vs, o, wr, h => Below.setCells_own hg vs (o + 1) _ (h.setCell (by exact hg) v)
set_option maxRecDepth 100000 in
set_option maxHeartbeats 4000000 in
theorem countsWithin_any {w : World} {K : Nat → Prop} {base base' : Nat} {o : ThD} {Ts ps : List ThD} {acc : List (Int × Int)} {v : Value} (hG : GSt K base w o Ts acc) (hin : ∀ t ∈ Ts, ∀ k ∈ holdsC acc t.id, (getI ThD.id Ts k).isSome = true) (hpl : ∀ u ∈ Ts, ∃ q : Nat, u.pl = (q : Int) ∧ q < 32) (hacc : acc.length ≤ 1099511627)
    (hrow : w.ownsRow base' 57 1 v ps.length (ps.map fun t => Value.pointer (some ⟨t.blk, 0, none⟩))) (hps : ∀ t ∈ ps, t ∈ Ts) (hl : ps.length ≤ 32) :
    Calls Tryz.prog 105 #[v] w fun e w' => e = .returned (.agg (arrV (wArr Ts (ps.flatMap fun t => holdsC acc t.id))).toArray) ∧ Below w.heap.size w w' := by
  obtain ⟨S, hS⟩ := hG
  obtain ⟨av, cv, rfl⟩ := own_forms hrow
  have hrow' : Hid (w.ownsRow base' 57 1 (.slice av ps.length cv) ps.length (ps.map fun t => Value.pointer (some ⟨t.blk, 0, none⟩))) := hrow
  have hS' : Hid _ := hS
  have hin' : Hid _ := hin
  have hpl' : Hid (∀ u ∈ Ts, ∃ q : Nat, u.pl = (q : Int) ∧ q < 32) := hpl
  have hps' : Hid (∀ t ∈ ps, t ∈ Ts) := hps
  clear hrow hS hin hpl hps
  have bR0 : Hid (Box ((w.alloc (.cells (List.toArray (List.replicate 32 (Value.int .i64 0))) 151)).alloc (.cells (List.toArray (List.replicate 32 (Value.int .i64 0))) 151)) w.heap.size (List.replicate 32 (Value.int .i64 0)) 151) := (Box.new w (List.replicate 32 (Value.int .i64 0)) 151).alloc _
  have bW0 : Hid (Box ((w.alloc (.cells (List.toArray (List.replicate 32 (Value.int .i64 0))) 151)).alloc (.cells (List.toArray (List.replicate 32 (Value.int .i64 0))) 151)) (w.heap.size + 1) (List.replicate 32 (Value.int .i64 0)) 151) := by
    have q := Box.new (w.alloc (.cells (List.toArray (List.replicate 32 (Value.int .i64 0))) 151)) (List.replicate 32 (Value.int .i64 0)) 151
    rw [World.size_alloc] at q
    exact q
  have hB0 : Below w.heap.size w ((w.alloc (.cells (List.toArray (List.replicate 32 (Value.int .i64 0))) 151)).alloc (.cells (List.toArray (List.replicate 32 (Value.int .i64 0))) 151)) := ((Below.refl _ _).alloc (Nat.le_refl _) _).alloc (by simp) _
  go_enter Tryz.func105, Tryz.ntmps105
  go_wp2_with fail
  go_loopw [10] (fun i wr => ∃ (j : Nat), j ≤ ps.length ∧ i = .int .i64 j ∧ Hid (Box wr w.heap.size (List.replicate 32 (Value.int .i64 0)) 151) ∧ Hid (Box wr (w.heap.size + 1) (arrV (wArr Ts ((ps.take j).flatMap fun t => holdsC acc t.id))) 151) ∧ Below w.heap.size w wr) (fun i _ => ps.length - (intOf i).toNat)
  case atStart => exact ⟨0, by omega, rfl, bR0, by rw [List.take_zero]; show Box _ _ (arrV (wArr Ts [])) _; rw [wArr_nil]; exact bW0.out, hB0⟩
  case round =>
    clear bR0 bW0 hB0
    obtain ⟨j, hj, rfl, bR, bW, hb⟩ := hrel
    have hz := hb.size
    have hzr : w.heap.size + 1 < wr.heap.size := bW.out.lt
    by_cases hlt : j < ps.length
    · obtain ⟨g, rfl, z0⟩ := row_get hrow'.out hlt (x := .pointer (some ⟨ps[j].blk, 0, none⟩)) (by simp [hlt])
      have z0 := cell_on hb z0
      have hQT : Hid (ps[j] ∈ Ts) := hps'.out _ (List.getElem_mem hlt)
      obtain ⟨hq1, hq2, _⟩ := hS'.out.1 ps[j] (List.mem_cons_of_mem _ hQT.out)
      have z2 := cell_on hb (hq1.cell 2 rfl)
      have hstep : Hid ((ps.take (j + 1)).flatMap (fun t => holdsC acc t.id) = (ps.take j).flatMap (fun t => holdsC acc t.id) ++ holdsC acc ps[j].id) := by
        show _ = _
        rw [List.take_succ_eq_append_getElem hlt, List.flatMap_append]
        simp
      have hkin : Hid (∀ k ∈ holdsC acc ps[j].id, (getI ThD.id Ts k).isSome = true) := hin'.out _ hQT.out
      have hfl : Hid (((ps.take j).flatMap fun t => holdsC acc t.id).length ≤ 35184372064) := by
        show _ ≤ _
        have h1 := flat_len (f := fun t : ThD => holdsC acc t.id) (B := 1099511627) (ps.take j) (fun t _ => Nat.le_trans (holdsC_len acc t.id) hacc)
        have h2 : (ps.take j).length ≤ 32 := by rw [List.length_take]; omega
        have h3 : (ps.take j).length * 1099511627 ≤ 32 * 1099511627 := Nat.mul_le_mul_right _ h2
        omega
      have hHl : Hid ((holdsC acc ps[j].id).length ≤ 1099511627) := Nat.le_trans (holdsC_len acc _) hacc
      generalize hQ : ps[j] = Q at z0 z2 hstep hq2 hkin hHl
      generalize hF : ((ps.take j).flatMap fun t => holdsC acc t.id) = F at bW hstep hfl
      obtain ⟨aS, capS, hform⟩ := own_forms hq2
      rw [hform] at z2 hq2
      have hq2' : Hid (w.ownsRow base 57 1 (.slice aS (holdsC acc Q.id).length capS) (holdsC acc Q.id).length ((holdsC acc Q.id).map (ptrOf Ts))) := hq2
      generalize hHH : holdsC acc Q.id = H at z2 hstep hq2' hkin hHl
      have hFl : F.length ≤ 35184372064 := hfl.out
      have hHl' : H.length ≤ 1099511627 := hHl.out
      clear hQ hF hHH hform hq2 hq1 hfl hHl
      go_wp2_with fail
      go_loopw [19] (fun i wr => ∃ (m : Nat), m ≤ H.length ∧ i = .int .i64 m ∧ Hid (Box wr w.heap.size (List.replicate 32 (Value.int .i64 0)) 151) ∧ Hid (Box wr (w.heap.size + 1) (arrV (wArr Ts (F ++ H.take m))) 151) ∧ Below w.heap.size w wr) (fun i _ => H.length - (intOf i).toNat)
      case atStart => exact ⟨0, by omega, rfl, bR, by rw [List.take_zero, List.append_nil]; exact bW, hb⟩
      case round =>
        clear bR bW hb hz hzr z0 z2
        obtain ⟨m, hm, rfl, bR, bW, hb⟩ := hrel
        have hz := hb.size
        have hzr : w.heap.size + 1 < wr.heap.size := bW.out.lt
        by_cases hlm : m < H.length
        · have hks := hkin.out H[m] (List.getElem_mem hlm)
          obtain ⟨u1, u2, u3⟩ := thOf_is hks
          obtain ⟨g', rfl, y0⟩ := row_get hq2'.out hlm (x := .pointer (some ⟨(thOf Ts H[m]).blk, 0, none⟩)) (by rw [List.getElem?_map, List.getElem?_eq_getElem hlm, Option.map_some, u3])
          have y0 := cell_on hb y0
          obtain ⟨q, hq, hq32⟩ := hpl'.out _ u1
          obtain ⟨hv1, _⟩ := hS'.out.1 (thOf Ts H[m]) (List.mem_cons_of_mem _ u1)
          have y1 := cell_on hb (hv1.cell 1 rfl)
          rw [hq] at y1
          have hst : Hid (wArr Ts (F ++ H.take (m + 1)) = (wArr Ts (F ++ H.take m)).set q (((plC Ts (F ++ H.take m) q : Nat) : Int) + 1)) := by
            show _ = _
            rw [List.take_succ_eq_append_getElem hlm, ← List.append_assoc, wArr_snoc hq hq32]
          have y2 : wr.cell? ⟨w.heap.size + 1, q, none⟩ = some (.int .i64 ((plC Ts (F ++ H.take m) q : Nat) : Int)) := bW.out.cell q (by unfold arrV; rw [List.getElem?_map, wArr_get _ _ hq32]; rfl)
          have uf := bW.out.unfrozen q
          have hpc : plC Ts (F ++ H.take m) q ≤ 36283883691 := by
            have := plC_le Ts (F ++ H.take m) q
            rw [List.length_append, List.length_take] at this
            omega
          generalize hTh : thOf Ts H[m] = U at y0 y1
          generalize hPC : plC Ts (F ++ H.take m) q = PC at y2 hst hpc
          have bW2 : Hid (Box (wr.setCell ⟨w.heap.size + 1, q, none⟩ (.int .i64 ((PC : Int) + 1))) (w.heap.size + 1) (arrV (wArr Ts (F ++ H.take (m + 1)))) 151) := by
            rw [hst.out, ← arrV_set]
            exact bW.out.set _
          have bR2 : Hid (Box (wr.setCell ⟨w.heap.size + 1, q, none⟩ (.int .i64 ((PC : Int) + 1))) w.heap.size (List.replicate 32 (Value.int .i64 0)) 151) := bR.out.other (by omega) _
          have hb2 : Below w.heap.size w (wr.setCell ⟨w.heap.size + 1, q, none⟩ (.int .i64 ((PC : Int) + 1))) := hb.setCell (by simp) _
          have hq0 : (0 : Int) ≤ (q : Int) := by omega
          have hq1 : (q : Int) < 32 := by omega
          clear hTh hPC hks u1 u2 u3 hq hv1 hst
          go_wp2_with fail
          go_roundw
          case rel => exact ⟨m + 1, by omega, by go_num, bR2, bW2, hb2⟩
          case measure => simp [intOf]; omega
        obtain rfl : m = H.length := by omega
        have bW3 : Hid (Box wr (w.heap.size + 1) (arrV (wArr Ts ((ps.take (j + 1)).flatMap fun t => holdsC acc t.id))) 151) := by
          have q := bW.out
          rw [List.take_length] at q
          show Box _ _ _ _
          rw [hstep.out]
          exact q
        go_wp2_with fail
        go_roundw
        case rel => exact ⟨j + 1, by omega, by go_num, bR, bW3, hb⟩
        case measure => simp [intOf]; omega
    obtain rfl : j = ps.length := by omega
    have bW3 : Hid (Box wr (w.heap.size + 1) (arrV (wArr Ts (ps.flatMap fun t => holdsC acc t.id))) 151) := by
      have q := bW.out
      rw [List.take_length] at q
      exact q
    generalize hA : wArr Ts (ps.flatMap fun t => holdsC acc t.id) = A at bW3
    have hA' : Hid (wArr Ts (ps.flatMap fun t => holdsC acc t.id) = A) := hA
    have hAl : A.length = 32 := by rw [← hA, wArr_len]
    have hAv : (arrV A).length = 32 := by simp [arrV, hAl]
    have hrg := bW3.out.range
    have hni : (Tryz.prog.info? 151).map (·.size) = some (arrV A).length := by rw [hAv]; exact infoArr
    have hnj : (Tryz.prog.info? 151).map (·.size) = some (arrV A).toArray.size := by rw [List.size_toArray, hAv]; exact infoArr
    have hone : ((arrV A).toArray).all (·.oneCell') = true := all_oneCell_toArray (fun v hv => by unfold arrV at hv; obtain ⟨x, _, rfl⟩ := List.mem_map.1 hv; rfl)
    have htj : wr.there w.heap.size 0 (arrV A).toArray.size := by rw [List.size_toArray]; exact bR.out.there (by simp [hAv])
    have hth : wr.there w.heap.size 0 (arrV A).length := bR.out.there (by simp [hAv])
    have hlr : Hid ((loadVar 151 ⟨w.heap.size, 0, none⟩).run Tryz.prog (wr.setCells w.heap.size 0 (arrV A)) = .ok (.agg (arrV A).toArray) (wr.setCells w.heap.size 0 (arrV A))) := run_loadVar_mid _ _ 0 151 (arrV A) _ (World.rangeAt_setCells_same _ _ _ _ hth) Tryz.underlying151 rfl (by rw [hAv]; exact infoArr)
    have hbe : Hid (Below w.heap.size w (wr.setCells w.heap.size 0 (arrV A))) := Below.setCells_own (Nat.le_refl _) (arrV A) 0 wr hb
    have hrg' : Hid _ := hrg
    have hni' : Hid _ := hni
    have hnj' : Hid _ := hnj
    have htj' : Hid _ := htj
    have hone' : Hid _ := hone
    clear hth hone hAv hAl hA bW bW3 bR hrg hni hnj htj
    go_wp2_with (first | (refine wpList_load_mid rfl 151 _ rfl (w.heap.size + 1) 0 rfl (arrV A) _ hrg'.out Tryz.underlying151 rfl hni'.out ?_) | (refine wpList_store_mid rfl 151 _ _ rfl w.heap.size 0 (arrV A).toArray rfl rfl htj'.out hnj'.out hone'.out ?_))
    refine bodyPost_ret (v := .agg (arrV A).toArray) (by simp [results, Tryz.results105, Act.put, asAddr, hlr.out]) rfl ?_
    exact ⟨by rw [hA'.out], hbe.out⟩
end Go.Proofs.YtnonfehmbabfhaaGreat
namespace Go.Proofs.YtnonfehmbabfhaaGreat
open Go.RowKit
def ntB (ps : List ThD) (t : ThD) : Bool := !hasB (blks ps) (t.blk : Int)
def elB (Ts : List ThD) (acc : List (Int × Int)) (ks : List Int) (t : ThD) : Bool := decide (((plC Ts ks t.pl.toNat : Nat) : Int) < heldC acc t.id)
theorem filter_step {α : Type} (p : α → Bool) {xs : List α} {j : Nat} (hj : j < xs.length) : (xs.take (j + 1)).filter p = (xs.take j).filter p ++ if p xs[j] then [xs[j]] else [] := by
  rw [List.take_succ_eq_append_getElem hj, List.filter_append]
  congr 1
  by_cases h : p xs[j] = true
  · simp [h]
  · simp [h]
theorem filter_len {α : Type} (p : α → Bool) (xs : List α) (j : Nat) : ((xs.take j).filter p).length ≤ xs.length := by
  have h1 := List.length_filter_le p (xs.take j)
  rw [List.length_take] at h1
  omega
set_option maxRecDepth 100000 in
set_option maxHeartbeats 2000000 in
theorem notAmong_any {w : World} {b1 b2 : Nat} {v1 v2 : Value} {p1 p2 : List ThD} (h1 : w.ownsRow b1 57 1 v1 p1.length (p1.map fun t => Value.pointer (some ⟨t.blk, 0, none⟩))) (h2 : w.ownsRow b2 57 1 v2 p2.length (p2.map fun t => Value.pointer (some ⟨t.blk, 0, none⟩))) (hl1 : p1.length ≤ 1048576) (hl2 : p2.length ≤ 1048576) (ht1 : ∀ u ∈ p1, ThAt w u.blk) (ht2 : ∀ u ∈ p2, ThAt w u.blk) :
    Calls Tryz.prog 29 #[v1, v2] w fun e w' => (∃ v, e = .returned v ∧ w'.ownsRow w.heap.size 57 1 v (p2.filter (ntB p1)).length ((p2.filter (ntB p1)).map fun t => Value.pointer (some ⟨t.blk, 0, none⟩))) ∧ Below w.heap.size w w' := by
  obtain ⟨iP, hiP, heP⟩ := Option.map_eq_some_iff.1 infoPtr
  simp only [Prod.mk.injEq] at heP
  have hIP : Hid _ := hiP
  have hEP : Hid _ := heP
  clear hiP heP
  obtain ⟨a1, c1, rfl⟩ := own_forms h1
  obtain ⟨a2, c2, rfl⟩ := own_forms h2
  have h1' : Hid (w.ownsRow b1 57 1 (.slice a1 p1.length c1) p1.length (p1.map fun t => Value.pointer (some ⟨t.blk, 0, none⟩))) := h1
  have h2' : Hid (w.ownsRow b2 57 1 (.slice a2 p2.length c2) p2.length (p2.map fun t => Value.pointer (some ⟨t.blk, 0, none⟩))) := h2
  have ht1' : Hid (∀ u ∈ p1, ThAt w u.blk) := ht1
  have ht2' : Hid (∀ u ∈ p2, ThAt w u.blk) := ht2
  clear h1 h2 ht1 ht2
  go_enter Tryz.func29, Tryz.ntmps29
  go_wp2_with fail
  go_loopw [5, 10] (fun v i wr => ∃ (j : Nat), j ≤ p2.length ∧ i = .int .i64 j ∧ Hid (wr.ownsRow w.heap.size 57 1 v ((p2.take j).filter (ntB p1)).length (((p2.take j).filter (ntB p1)).map fun t => Value.pointer (some ⟨t.blk, 0, none⟩))) ∧ Hid (∃ a cap, v = .slice a ((p2.take j).filter (ntB p1)).length cap) ∧ Below w.heap.size w wr) (fun _ i _ => p2.length - (intOf i).toNat)
  case atStart => exact ⟨0, by omega, rfl, World.ownsRow_nil _ _ _ _, ⟨_, _, rfl⟩, Below.refl _ _⟩
  case round =>
    obtain ⟨j, hj, rfl, hown, hform, hb⟩ := hrel
    obtain ⟨a5, cap5, rfl⟩ := hform.out
    clear hform
    have hz := hb.size
    by_cases hlt : j < p2.length
    · obtain ⟨g, rfl, z0⟩ := row_get h2'.out hlt (x := .pointer (some ⟨p2[j].blk, 0, none⟩)) (by simp [hlt])
      have z0 := cell_on hb z0
      have hst : Hid ((p2.take (j + 1)).filter (ntB p1) = (p2.take j).filter (ntB p1) ++ if ntB p1 p2[j] then [p2[j]] else []) := filter_step _ hlt
      have hQ1 : Hid (ThAt wr p2[j].blk) := by obtain ⟨cc, q⟩ := ht2'.out _ (List.getElem_mem hlt); exact ⟨cc, (hb.block _ (Array.getElem?_eq_some_iff.1 q).1).trans q⟩
      have hT1 : Hid (∀ u ∈ p1, ThAt wr u.blk) := fun u hu => by obtain ⟨cc, q⟩ := ht1'.out u hu; exact ⟨cc, (hb.block _ (Array.getElem?_eq_some_iff.1 q).1).trans q⟩
      have hr1 : Hid (wr.ownsRow b1 57 1 (.slice a1 p1.length c1) p1.length (p1.map fun t => Value.pointer (some ⟨t.blk, 0, none⟩))) := own_below h1'.out hb
      have hfl : ((p2.take j).filter (ntB p1)).length ≤ 1048576 := by have := filter_len (ntB p1) p2 j; omega
      have hnb : Hid (ntB p1 p2[j] = !hasB (blks p1) (p2[j].blk : Int)) := rfl
      generalize hQ : p2[j] = Q at z0 hst hQ1 hnb
      generalize hF : (p2.take j).filter (ntB p1) = F at hst hfl hown
      obtain ⟨L, hL⟩ : ∃ L, (F.map fun t => Value.pointer (some ⟨t.blk, 0, none⟩)) = L := ⟨_, rfl⟩
      have hownL : Hid (wr.ownsRow w.heap.size 57 1 (.slice a5 F.length cap5) F.length L) := by rw [← hL]; exact hown
      have hL' : Hid _ := hL
      clear hQ hF hL hown
      go_wp2_with fail
      refine (slContainsP_any hr1.out hl1 hT1.out hQ1.out).mono ?_
      rintro e w1' ⟨rfl, hw1⟩
      rw [hw1]
      clear hw1 w1'
      cases hhas : hasB (blks p1) (Q.blk : Int)
      · rw [hhas] at hnb
        have hst2 : Hid ((p2.take (j + 1)).filter (ntB p1) = F ++ [Q]) := by show _ = _; rw [hst.out, hnb.out]; rfl
        clear hhas hst
        go_wp2_with (at_builtin; refine wpList_append_own _ rfl _ _ 55 rfl (w.heap.size) 57 iP (.pointer none) 1 8 Tryz.underlying55 hIP.out hEP.out.1 hEP.out.2.2 hEP.out.2.1 rfl (by decide) _ (F.length) (L) rfl (hownL.out.alloc _) ⟨wr.heap.size, 0, none⟩ 1 1 [.pointer (some ⟨Q.blk, 0, none⟩)] rfl rfl (by intro q u hq; match q, hq with | 0, hq => simp at hq; subst hq; simp [Addr.add]) (by simp [Value.oneCell']) (by unfold maxLen; omega) (by omega) (by simp; omega) ?_)
        intro v' w2 hown' hgrow _
        have hb3 : Below w.heap.size w w2 := (hb.alloc hz _).grown hgrow (by simp; omega) (own_block hownL.out)
        obtain ⟨av', capv', rfl⟩ := own_forms hown'
        have hown1 : Hid (w2.ownsRow w.heap.size 57 1 (.slice av' (F.length + 1) capv') (F.length + 1) (L ++ [.pointer (some ⟨Q.blk, 0, none⟩)])) := hown'
        clear hown' hgrow
        go_wp2_with fail
        go_roundw
        case rel => exact ⟨j + 1, by omega, by go_num, by rw [hst2.out, List.length_append, List.map_append, hL'.out]; exact hown1.out, by rw [hst2.out, List.length_append]; exact ⟨_, _, rfl⟩, hb3⟩
        case measure => simp [intOf]; omega
      · rw [hhas] at hnb
        have hst2 : Hid ((p2.take (j + 1)).filter (ntB p1) = F) := by show _ = _; rw [hst.out, hnb.out]; simp
        clear hhas hst
        go_wp2_with fail
        go_roundw
        case rel => exact ⟨j + 1, by omega, by go_num, by rw [hst2.out, hL'.out]; exact hownL.out, by rw [hst2.out]; exact ⟨_, _, rfl⟩, hb⟩
        case measure => simp [intOf]; omega
    obtain rfl : j = p2.length := by omega
    have hown2 : Hid (wr.ownsRow w.heap.size 57 1 (.slice a5 ((p2.take p2.length).filter (ntB p1)).length cap5) (p2.filter (ntB p1)).length ((p2.filter (ntB p1)).map fun t => Value.pointer (some ⟨t.blk, 0, none⟩))) := by have q := hown.out; rw [List.take_length] at q ⊢; exact q
    clear hown
    go_wp2_with fail
    go_ret
    exact ⟨⟨_, rfl, hown2.out⟩, hb⟩
theorem setCells_size : ∀ (vs : List Value) (g o : Nat) (w : World), (w.setCells g o vs).heap.size = w.heap.size
  | [], _, _, _ => rfl
  | v :: vs, g, o, w => (setCells_size vs g (o + 1) _).trans (by simp [World.setCell])
set_option maxRecDepth 100000 in
set_option maxHeartbeats 4000000 in
theorem heldFromElsewhere_any {w : World} {K : Nat → Prop} {base base' : Nat} {o : ThD} {Ts ps : List ThD} {acc : List (Int × Int)} {v : Value} (hG : GSt K base w o Ts acc) (hin : ∀ t ∈ Ts, ∀ k ∈ holdsC acc t.id, (getI ThD.id Ts k).isSome = true) (hpl : ∀ u ∈ Ts, ∃ q : Nat, u.pl = (q : Int) ∧ q < 32) (hacc : acc.length ≤ 1099511627)
    (hrow : w.ownsRow base' 57 1 v ps.length (ps.map fun t => Value.pointer (some ⟨t.blk, 0, none⟩))) (hps : ∀ t ∈ ps, t ∈ Ts) (hl : ps.length ≤ 32) :
    Calls Tryz.prog 85 #[v] w fun e w' => (∃ v', e = .returned v' ∧ w'.ownsRow w.heap.size 57 1 v' (ps.filter (elB Ts acc (ps.flatMap fun t => holdsC acc t.id))).length ((ps.filter (elB Ts acc (ps.flatMap fun t => holdsC acc t.id))).map fun t => Value.pointer (some ⟨t.blk, 0, none⟩))) ∧ Below w.heap.size w w' := by
  obtain ⟨iP, hiP, heP⟩ := Option.map_eq_some_iff.1 infoPtr
  simp only [Prod.mk.injEq] at heP
  have hIP : Hid _ := hiP
  have hEP : Hid _ := heP
  clear hiP heP
  have hcw : Hid (Calls Tryz.prog 105 #[v] w fun e w' => e = .returned (.agg (arrV (wArr Ts (ps.flatMap fun t => holdsC acc t.id))).toArray) ∧ Below w.heap.size w w') := countsWithin_any hG hin hpl hacc hrow hps hl
  obtain ⟨S, hS⟩ := hG
  obtain ⟨av, cv, rfl⟩ := own_forms hrow
  have hrow' : Hid (w.ownsRow base' 57 1 (.slice av ps.length cv) ps.length (ps.map fun t => Value.pointer (some ⟨t.blk, 0, none⟩))) := hrow
  have hS' : Hid _ := hS
  have hpl' : Hid (∀ u ∈ Ts, ∃ q : Nat, u.pl = (q : Int) ∧ q < 32) := hpl
  have hps' : Hid (∀ t ∈ ps, t ∈ Ts) := hps
  generalize hFK : (ps.flatMap fun t => holdsC acc t.id) = FK at hcw
  have hA0 : Hid (∀ q, q < 32 → (wArr Ts FK)[q]? = some ((plC Ts FK q : Nat) : Int)) := fun q hq => wArr_get _ _ hq
  have hAl : (wArr Ts FK).length = 32 := wArr_len _ _
  generalize hA : wArr Ts FK = A at hcw hA0 hAl
  have hAv : (arrV A).length = 32 := by simp [arrV, hAl]
  have hone : ((arrV A).toArray).all (·.oneCell') = true := all_oneCell_toArray (fun v hv => by unfold arrV at hv; obtain ⟨x, _, rfl⟩ := List.mem_map.1 hv; rfl)
  have hone' : Hid _ := hone
  have hnj : Hid ((Tryz.prog.info? 151).map (·.size) = some (arrV A).toArray.size) := by show _ = _; rw [List.size_toArray, hAv]; exact infoArr
  clear hrow hS hin hpl hps hFK hA hone hAl
  go_enter Tryz.func85, Tryz.ntmps85
  go_wp2_with fail
  refine Calls.mono hcw.out ?_
  rintro e w1 ⟨rfl, hb1⟩
  have bZ : Box (w1.alloc (.cells #[.int .i64 0, .int .i64 0, .int .i64 0, .int .i64 0, .int .i64 0, .int .i64 0, .int .i64 0, .int .i64 0, .int .i64 0, .int .i64 0, .int .i64 0, .int .i64 0, .int .i64 0, .int .i64 0, .int .i64 0, .int .i64 0, .int .i64 0, .int .i64 0, .int .i64 0, .int .i64 0, .int .i64 0, .int .i64 0, .int .i64 0, .int .i64 0, .int .i64 0, .int .i64 0, .int .i64 0, .int .i64 0, .int .i64 0, .int .i64 0, .int .i64 0, .int .i64 0] 151)) w1.heap.size (List.replicate 32 (Value.int .i64 0)) 151 := Box.new w1 (List.replicate 32 (Value.int .i64 0)) 151
  have htj : Hid ((w1.alloc (.cells #[.int .i64 0, .int .i64 0, .int .i64 0, .int .i64 0, .int .i64 0, .int .i64 0, .int .i64 0, .int .i64 0, .int .i64 0, .int .i64 0, .int .i64 0, .int .i64 0, .int .i64 0, .int .i64 0, .int .i64 0, .int .i64 0, .int .i64 0, .int .i64 0, .int .i64 0, .int .i64 0, .int .i64 0, .int .i64 0, .int .i64 0, .int .i64 0, .int .i64 0, .int .i64 0, .int .i64 0, .int .i64 0, .int .i64 0, .int .i64 0, .int .i64 0, .int .i64 0] 151)).there w1.heap.size 0 (arrV A).toArray.size) := by rw [List.size_toArray]; exact bZ.there (by simp [hAv])
  have htk : (w1.alloc (.cells #[.int .i64 0, .int .i64 0, .int .i64 0, .int .i64 0, .int .i64 0, .int .i64 0, .int .i64 0, .int .i64 0, .int .i64 0, .int .i64 0, .int .i64 0, .int .i64 0, .int .i64 0, .int .i64 0, .int .i64 0, .int .i64 0, .int .i64 0, .int .i64 0, .int .i64 0, .int .i64 0, .int .i64 0, .int .i64 0, .int .i64 0, .int .i64 0, .int .i64 0, .int .i64 0, .int .i64 0, .int .i64 0, .int .i64 0, .int .i64 0, .int .i64 0, .int .i64 0] 151)).there w1.heap.size 0 (arrV A).length := bZ.there (by simp [hAv])
  have hrg : Hid (((w1.alloc (.cells #[.int .i64 0, .int .i64 0, .int .i64 0, .int .i64 0, .int .i64 0, .int .i64 0, .int .i64 0, .int .i64 0, .int .i64 0, .int .i64 0, .int .i64 0, .int .i64 0, .int .i64 0, .int .i64 0, .int .i64 0, .int .i64 0, .int .i64 0, .int .i64 0, .int .i64 0, .int .i64 0, .int .i64 0, .int .i64 0, .int .i64 0, .int .i64 0, .int .i64 0, .int .i64 0, .int .i64 0, .int .i64 0, .int .i64 0, .int .i64 0, .int .i64 0, .int .i64 0] 151)).setCells w1.heap.size 0 (arrV A)).rangeAt w1.heap.size 0 (arrV A)) := World.rangeAt_setCells_same _ _ _ _ htk
  have hbA : Below w.heap.size w (w1.alloc (.cells #[.int .i64 0, .int .i64 0, .int .i64 0, .int .i64 0, .int .i64 0, .int .i64 0, .int .i64 0, .int .i64 0, .int .i64 0, .int .i64 0, .int .i64 0, .int .i64 0, .int .i64 0, .int .i64 0, .int .i64 0, .int .i64 0, .int .i64 0, .int .i64 0, .int .i64 0, .int .i64 0, .int .i64 0, .int .i64 0, .int .i64 0, .int .i64 0, .int .i64 0, .int .i64 0, .int .i64 0, .int .i64 0, .int .i64 0, .int .i64 0, .int .i64 0, .int .i64 0] 151)) := hb1.alloc hb1.size _
  have hb2 : Hid (Below w.heap.size w ((w1.alloc (.cells #[.int .i64 0, .int .i64 0, .int .i64 0, .int .i64 0, .int .i64 0, .int .i64 0, .int .i64 0, .int .i64 0, .int .i64 0, .int .i64 0, .int .i64 0, .int .i64 0, .int .i64 0, .int .i64 0, .int .i64 0, .int .i64 0, .int .i64 0, .int .i64 0, .int .i64 0, .int .i64 0, .int .i64 0, .int .i64 0, .int .i64 0, .int .i64 0, .int .i64 0, .int .i64 0, .int .i64 0, .int .i64 0, .int .i64 0, .int .i64 0, .int .i64 0, .int .i64 0] 151)).setCells w1.heap.size 0 (arrV A))) := Below.setCells_own (by exact hb1.size) (arrV A) 0 _ hbA
  have hsz : Hid (((w1.alloc (.cells #[.int .i64 0, .int .i64 0, .int .i64 0, .int .i64 0, .int .i64 0, .int .i64 0, .int .i64 0, .int .i64 0, .int .i64 0, .int .i64 0, .int .i64 0, .int .i64 0, .int .i64 0, .int .i64 0, .int .i64 0, .int .i64 0, .int .i64 0, .int .i64 0, .int .i64 0, .int .i64 0, .int .i64 0, .int .i64 0, .int .i64 0, .int .i64 0, .int .i64 0, .int .i64 0, .int .i64 0, .int .i64 0, .int .i64 0, .int .i64 0, .int .i64 0, .int .i64 0] 151)).setCells w1.heap.size 0 (arrV A)).heap.size = w1.heap.size + 1) := by
    show _ = _
    have q := (Below.setCells_own (B := w1.heap.size) (g := w1.heap.size) (w := (w1.alloc (.cells #[.int .i64 0, .int .i64 0, .int .i64 0, .int .i64 0, .int .i64 0, .int .i64 0, .int .i64 0, .int .i64 0, .int .i64 0, .int .i64 0, .int .i64 0, .int .i64 0, .int .i64 0, .int .i64 0, .int .i64 0, .int .i64 0, .int .i64 0, .int .i64 0, .int .i64 0, .int .i64 0, .int .i64 0, .int .i64 0, .int .i64 0, .int .i64 0, .int .i64 0, .int .i64 0, .int .i64 0, .int .i64 0, .int .i64 0, .int .i64 0, .int .i64 0, .int .i64 0] 151))) (Nat.le_refl _) (arrV A) 0 _ (Below.refl _ _)).size
    have r := setCells_size (arrV A) w1.heap.size 0 (w1.alloc (.cells #[.int .i64 0, .int .i64 0, .int .i64 0, .int .i64 0, .int .i64 0, .int .i64 0, .int .i64 0, .int .i64 0, .int .i64 0, .int .i64 0, .int .i64 0, .int .i64 0, .int .i64 0, .int .i64 0, .int .i64 0, .int .i64 0, .int .i64 0, .int .i64 0, .int .i64 0, .int .i64 0, .int .i64 0, .int .i64 0, .int .i64 0, .int .i64 0, .int .i64 0, .int .i64 0, .int .i64 0, .int .i64 0, .int .i64 0, .int .i64 0, .int .i64 0, .int .i64 0] 151))
    rw [r, World.size_alloc]
  clear bZ htk hbA hAv
  go_wp2_with (refine wpList_store_mid rfl 151 _ _ rfl w1.heap.size 0 (arrV A).toArray rfl rfl htj.out hnj.out hone'.out ?_)
  go_loopw [4, 11] (fun v i wr => ∃ (j : Nat), j ≤ ps.length ∧ i = .int .i64 j ∧ Hid (wr.ownsRow (w1.heap.size + 1) 57 1 v ((ps.take j).filter (elB Ts acc FK)).length (((ps.take j).filter (elB Ts acc FK)).map fun t => Value.pointer (some ⟨t.blk, 0, none⟩))) ∧ Hid (∃ a cap, v = .slice a ((ps.take j).filter (elB Ts acc FK)).length cap) ∧ Hid (Below (w1.heap.size + 1) ((w1.alloc (.cells #[.int .i64 0, .int .i64 0, .int .i64 0, .int .i64 0, .int .i64 0, .int .i64 0, .int .i64 0, .int .i64 0, .int .i64 0, .int .i64 0, .int .i64 0, .int .i64 0, .int .i64 0, .int .i64 0, .int .i64 0, .int .i64 0, .int .i64 0, .int .i64 0, .int .i64 0, .int .i64 0, .int .i64 0, .int .i64 0, .int .i64 0, .int .i64 0, .int .i64 0, .int .i64 0, .int .i64 0, .int .i64 0, .int .i64 0, .int .i64 0, .int .i64 0, .int .i64 0] 151)).setCells w1.heap.size 0 (arrV A)) wr)) (fun _ i _ => ps.length - (intOf i).toNat)
  case atStart => exact ⟨0, by omega, rfl, World.ownsRow_nil _ _ _ _, ⟨_, _, rfl⟩, Below.refl _ _⟩
  case round =>
    obtain ⟨j, hj, rfl, hown, hform, hbw⟩ := hrel
    obtain ⟨a5, cap5, rfl⟩ := hform.out
    clear hform
    have hz : w1.heap.size + 1 ≤ wr.heap.size := by have := hbw.out.size; have := hsz.out; omega
    have hz1 := hb1.size
    have hbx : Hid (Below ((w1.alloc (.cells #[.int .i64 0, .int .i64 0, .int .i64 0, .int .i64 0, .int .i64 0, .int .i64 0, .int .i64 0, .int .i64 0, .int .i64 0, .int .i64 0, .int .i64 0, .int .i64 0, .int .i64 0, .int .i64 0, .int .i64 0, .int .i64 0, .int .i64 0, .int .i64 0, .int .i64 0, .int .i64 0, .int .i64 0, .int .i64 0, .int .i64 0, .int .i64 0, .int .i64 0, .int .i64 0, .int .i64 0, .int .i64 0, .int .i64 0, .int .i64 0, .int .i64 0, .int .i64 0] 151)).setCells w1.heap.size 0 (arrV A)).heap.size ((w1.alloc (.cells #[.int .i64 0, .int .i64 0, .int .i64 0, .int .i64 0, .int .i64 0, .int .i64 0, .int .i64 0, .int .i64 0, .int .i64 0, .int .i64 0, .int .i64 0, .int .i64 0, .int .i64 0, .int .i64 0, .int .i64 0, .int .i64 0, .int .i64 0, .int .i64 0, .int .i64 0, .int .i64 0, .int .i64 0, .int .i64 0, .int .i64 0, .int .i64 0, .int .i64 0, .int .i64 0, .int .i64 0, .int .i64 0, .int .i64 0, .int .i64 0, .int .i64 0, .int .i64 0] 151)).setCells w1.heap.size 0 (arrV A)) wr) := by rw [hsz.out]; exact hbw
    have hb : Hid (Below w.heap.size w wr) := hb2.out.trans (hbx.out.mono hb2.out.size)
    by_cases hlt : j < ps.length
    · obtain ⟨g, rfl, z0⟩ := row_get hrow'.out hlt (x := .pointer (some ⟨ps[j].blk, 0, none⟩)) (by simp [hlt])
      have z0 := cell_on hb.out z0
      have hQT : ps[j] ∈ Ts := hps'.out _ (List.getElem_mem hlt)
      obtain ⟨hq1, _⟩ := hS'.out.1 ps[j] (List.mem_cons_of_mem _ hQT)
      obtain ⟨q, hq, hq32⟩ := hpl'.out _ hQT
      have z1 := cell_on hb.out (hq1.cell 1 rfl)
      have z3 := cell_on hb.out (hq1.cell 3 rfl)
      rw [hq] at z1
      have hst : Hid ((ps.take (j + 1)).filter (elB Ts acc FK) = (ps.take j).filter (elB Ts acc FK) ++ if elB Ts acc FK ps[j] then [ps[j]] else []) := filter_step _ hlt
      have hel : Hid (elB Ts acc FK ps[j] = decide (((plC Ts FK q : Nat) : Int) < heldC acc ps[j].id)) := by show _ = _; unfold elB; rw [hq]; rfl
      have y0 : wr.cell? ⟨w1.heap.size, q, none⟩ = some (.int .i64 ((plC Ts FK q : Nat) : Int)) := cell_on hbx.out (by have r := hrg.out q (.int .i64 ((plC Ts FK q : Nat) : Int)) (by unfold arrV; rw [List.getElem?_map, hA0.out q hq32]; rfl); rwa [Nat.zero_add] at r)
      have hfl : ((ps.take j).filter (elB Ts acc FK)).length ≤ 32 := by have := filter_len (elB Ts acc FK) ps j; omega
      have hq0 : (0 : Int) ≤ (q : Int) := by omega
      have hq1' : (q : Int) < 32 := by omega
      generalize hHC : heldC acc ps[j].id = HC at z3 hel
      generalize hQ : ps[j] = Q at z0 z1 z3 hst hel
      generalize hF : (ps.take j).filter (elB Ts acc FK) = F at hst hfl hown
      generalize hPC : plC Ts FK q = PC at y0 hel
      obtain ⟨L, hL⟩ : ∃ L, (F.map fun t => Value.pointer (some ⟨t.blk, 0, none⟩)) = L := ⟨_, rfl⟩
      have hownL : Hid (wr.ownsRow (w1.heap.size + 1) 57 1 (.slice a5 F.length cap5) F.length L) := by rw [← hL]; exact hown
      have hL' : Hid _ := hL
      clear hQ hF hL hown hPC hHC hq1 hQT hq
      by_cases hgt : ((PC : Nat) : Int) < HC
      · have hst2 : Hid ((ps.take (j + 1)).filter (elB Ts acc FK) = F ++ [Q]) := by show _ = _; rw [hst.out, hel.out]; simp [hgt]
        clear hst hel
        go_wp2_with fail
        go_region_held3 (fun w' => w'.cell? ⟨Q.blk, 1, none⟩ = some (.int .i64 (q : Int)) ∧ w'.cell? ⟨Q.blk, 3, none⟩ = some (.int .i64 HC) ∧ w'.cell? ⟨w1.heap.size, q, none⟩ = some (.int .i64 ((PC : Nat) : Int))) (go_keep) (first | (fail))
        go_wp2_with (at_builtin; refine wpList_append_own _ rfl _ _ 55 rfl (w1.heap.size + 1) 57 iP (.pointer none) 1 8 Tryz.underlying55 hIP.out hEP.out.1 hEP.out.2.2 hEP.out.2.1 rfl (by decide) _ (F.length) (L) rfl (hownL.out.alloc _) ⟨wr.heap.size, 0, none⟩ 1 1 [.pointer (some ⟨Q.blk, 0, none⟩)] rfl rfl (by intro q u hq; match q, hq with | 0, hq => simp at hq; subst hq; simp [Addr.add]) (by simp [Value.oneCell']) (by unfold maxLen; omega) (by omega) (by simp; omega) ?_)
        intro v' w2 hown' hgrow _
        have hb3 : Hid (Below (w1.heap.size + 1) ((w1.alloc (.cells #[.int .i64 0, .int .i64 0, .int .i64 0, .int .i64 0, .int .i64 0, .int .i64 0, .int .i64 0, .int .i64 0, .int .i64 0, .int .i64 0, .int .i64 0, .int .i64 0, .int .i64 0, .int .i64 0, .int .i64 0, .int .i64 0, .int .i64 0, .int .i64 0, .int .i64 0, .int .i64 0, .int .i64 0, .int .i64 0, .int .i64 0, .int .i64 0, .int .i64 0, .int .i64 0, .int .i64 0, .int .i64 0, .int .i64 0, .int .i64 0, .int .i64 0, .int .i64 0] 151)).setCells w1.heap.size 0 (arrV A)) w2) := (hbw.out.drew.alloc (by simp; omega) _).grown hgrow (by simp; omega) (own_block hownL.out)
        obtain ⟨av', capv', rfl⟩ := own_forms hown'
        have hown1 : Hid (w2.ownsRow (w1.heap.size + 1) 57 1 (.slice av' (F.length + 1) capv') (F.length + 1) (L ++ [.pointer (some ⟨Q.blk, 0, none⟩)])) := hown'
        clear hown' hgrow
        go_wp2_with fail
        go_roundw
        case rel => exact ⟨j + 1, by omega, by go_num, by rw [hst2.out, List.length_append, List.map_append, hL'.out]; exact hown1.out, by rw [hst2.out, List.length_append]; exact ⟨_, _, rfl⟩, hb3⟩
        case measure => simp [intOf]; omega
      · have hst2 : Hid ((ps.take (j + 1)).filter (elB Ts acc FK) = F) := by show _ = _; rw [hst.out, hel.out]; simp [hgt]
        have hgt' : decide (HC > ((PC : Nat) : Int)) = false := by simpa using hgt
        clear hst hel
        go_wp2_with fail
        go_region_held3 (fun w' => w'.cell? ⟨Q.blk, 1, none⟩ = some (.int .i64 (q : Int)) ∧ w'.cell? ⟨Q.blk, 3, none⟩ = some (.int .i64 HC) ∧ w'.cell? ⟨w1.heap.size, q, none⟩ = some (.int .i64 ((PC : Nat) : Int))) (go_keep) (first | (fail))
        go_wp2_with fail
        go_roundw
        case rel => exact ⟨j + 1, by omega, by go_num, by rw [hst2.out, hL'.out]; exact hownL.out.drew, by rw [hst2.out]; exact ⟨_, _, rfl⟩, hbw.out.drew⟩
        case measure => simp [intOf]; omega
    obtain rfl : j = ps.length := by omega
    have hown2 : Hid (wr.ownsRow w.heap.size 57 1 (.slice a5 ((ps.take ps.length).filter (elB Ts acc FK)).length cap5) (ps.filter (elB Ts acc FK)).length ((ps.filter (elB Ts acc FK)).map fun t => Value.pointer (some ⟨t.blk, 0, none⟩))) := by have q := hown.out; rw [List.take_length] at q ⊢; exact World.ownsRow.mono q (by omega)
    clear hown
    go_wp2_with fail
    go_ret
    exact ⟨⟨_, rfl, by exact hown2.out⟩, hb.out⟩
end Go.Proofs.YtnonfehmbabfhaaGreat
