/- Below, of the program: walked. -/
import Derived.Test.YtdnembnlomnceaaGreatAbb
import Derived.Test.YtdnembnlomnceaaGreatTakeMore
import Derived.Test.YtdnembnlomnceaaGreatHeldFrom
import Derived.Test.YtdnembnlomnceaaGreatReachedPlain
import Derived.Test.YtdnembnlomnceaaGreatOwnRows
namespace Go.Proofs.YtdnembnlomnceaaGreat
open Go.RowKit
def thereB (h : HeapD) (ids : List Int) : Bool := ids.all (isT h) && decide (ids.length ≤ 100)
theorem isT_idx (h : HeapD) (k : Int) : isT h k = (decide (0 ≤ idxN h k) || decide (0 ≤ idxO h k)) := by
 unfold isT nodeAt objAt idxN idxO
 rw [some_of_idx, some_of_idx]
set_option maxRecDepth 100000 in
set_option maxHeartbeats 4000000 in
theorem l6There_any {w : World} {lo : Nat} {cs : List Value} {h : HeapD} {k : Value} {ids : List Int} (hh : HeapAt w lo cs h) (hk : SeqAt 1 IntAt w lo k ids) (hl : ids.length ≤ 1048576) :
 Calls Tryz.prog 29 #[.agg cs.toArray, k] w fun e w' => e = .returned (.bool (thereB h ids)) ∧ Below w.heap.size w w' := by
 have hh' : Hid (HeapAt w lo cs h) := hh
 obtain ⟨k2, k3, k4, rfl, s2, s3, s4, _⟩ := hh
 obtain ⟨a2, cap2, rfl⟩ := s2.form
 obtain ⟨a3, cap3, rfl⟩ := s3.form
 obtain ⟨a4, cap4, rfl⟩ := s4.form
 clear s2 s3 s4
 have hb1 : Below w.heap.size w (w.alloc (.cells (List.toArray (cHp h a2 cap2 a3 cap3 a4 cap4)) 28)) := (Below.refl _ _).alloc (Nat.le_refl _) _
 have bH0 : Hid (Box (w.alloc (.cells (List.toArray (cHp h a2 cap2 a3 cap3 a4 cap4)) 28)) w.heap.size (cHp h a2 cap2 a3 cap3 a4 cap4) 28) := Box.new w (cHp h a2 cap2 a3 cap3 a4 cap4) 28
 obtain ⟨ak, ck, rfl, hmk, hxk⟩ := hk
 have hxk' : Hid _ := hxk
 clear hxk hmk
 go_enter Tryz.func29, Tryz.ntmps29
 go_wp2_with fail
 go_loopw [5] (fun i wr => ∃ (j : Nat), j ≤ ids.length ∧ i = .int .i64 j ∧ Hid (∀ x ∈ ids.take j, isT h x = true) ∧ Hid (Box wr w.heap.size (cHp h a2 cap2 a3 cap3 a4 cap4) 28) ∧ Below w.heap.size w wr) (fun i _ => ids.length - (intOf i).toNat)
 case atStart => exact ⟨0, by omega, rfl, fun x hx => (by cases hx), bH0, hb1⟩
 case round =>
  clear bH0 hb1
  obtain ⟨j, hj, rfl, hall, bHr, hbr⟩ := hrel
  have hzr : w.heap.size + 1 ≤ wr.heap.size := bHr.out.lt
  by_cases hlt : j < ids.length
  · obtain ⟨b, off, rfl, hlo, hbw, hc⟩ := hxk'.out (by omega)
    obtain ⟨cs, hcl, lie, hr⟩ := hc j hlt
    have lie1 := Lie.keep (lo := lo) (lo' := lo) lie (.of_below hbr) hlo hbw
    have hstep : Hid (ids.take (j + 1) = ids.take j ++ [ids[j]]) := List.take_succ_eq_append_getElem hlt
    have hmem : Hid (ids[j] ∈ ids) := List.getElem_mem hlt
    generalize hQ : ids[j] = Q at hr hstep hmem
    obtain ⟨rfl, hIQ⟩ := hr
    have z0 := lie1 0 (by simp)
    simp only [List.getElem?_cons_zero, Nat.add_zero, Nat.mul_one] at z0
    have hlt' : (j : Int) < (ids.length : Int) := by omega
    have hj0 : (0 : Int) ≤ (j : Int) := by omega
    obtain ⟨c0, c1, c2, c3, c4⟩ := fv5 bHr.out
    have hhd : Hid (HeapAt wr.drew lo _ h) := HeapAt_stays _ _ _ lo _ _ (.of_below hbr.drew) hh'.out
    clear lie lie1 hcl hc hQ
    rcases idxN_is h Q with ⟨hidx, hat⟩ | ⟨i', hi1, hidx, hid1, hat⟩
    rotate_left
    · have hyes : Hid (isT h Q = true) := by show _ = _; rw [isT_idx, hidx]; simp
      have hp0 : decide ((i' : Int) < 0) = false := by simp
      clear hat hid1
      go_wp2_with fail
      refine wp_region_held_drew (S := fun w' => w'.cell? ⟨w.heap.size, 0, none⟩ = some (.int .i64 h.vNext) ∧ w'.cell? ⟨w.heap.size, 1, none⟩ = some (.int .i64 h.vDoc) ∧ w'.cell? ⟨w.heap.size, 2, none⟩ = some (.slice a2 h.vNodes.length cap2) ∧ w'.cell? ⟨w.heap.size, 3, none⟩ = some (.slice a3 h.vObjs.length cap3) ∧ w'.cell? ⟨w.heap.size, 4, none⟩ = some (.slice a4 h.vGlobals.length cap4) ∧ w'.cell? ⟨b, off + j, none⟩ = some (.int .i64 Q)) (by kernel_rfl) (by refine ⟨?_, ?_, ?_, ?_, ?_, ?_⟩ <;> assumption) (fun hHeld => ?_)
      refine tk 0 ?_
      refine tk 1 ?_
      refine tk 2 ?_
      refine tk 3 ?_
      refine tk 4 ?_
      refine rd1 5 (fun K hK => ?_)
      go_simp
      refine (l2Node_any (by exact hhd.out)).mono ?_
      rintro e w2 ⟨rfl, hb1⟩
      have hbN := hb1
      rw [hidx]
      dsimp only
      refine hK.out _ _ ⟨cell_on hb1 hHeld.1, cell_on hb1 hHeld.2.1, cell_on hb1 hHeld.2.2.1, cell_on hb1 hHeld.2.2.2.1, cell_on hb1 hHeld.2.2.2.2.1, cell_on hb1 hHeld.2.2.2.2.2⟩ (fun hHeld => ?_)
      clear hK K
      refine tk 6 ?_
      refine tk 7 ?_
      refine tu 8 ?_
      refine tu 9 ?_
      refine tu 10 ?_
      refine tu 11 ?_
      refine tu 12 ?_
      refine tu 13 ?_
      refine tu 14 ?_
      refine tk 15 ?_
      refine wpAnyH_done (by kernel_rfl) ?_ _
      have hbr2 : Below w.heap.size w w2 := hbr.drew.trans (hbN.mono hbr.size)
      have bH2 : Hid (Box w2 w.heap.size (cHp h a2 cap2 a3 cap3 a4 cap4) 28) := (Box.below bHr.out (undrew hbN) (by omega))
      clear c0 c1 c2 c3 c4 z0 hbN
      go_wp2_with fail
      go_roundw
      case rel => exact ⟨j + 1, by omega, by go_num, fun x hx => by rw [hstep.out] at hx; rcases List.mem_append.1 hx with q | q; exact hall.out x q; simp at q; exact q ▸ hyes.out, bH2, hbr2⟩
      case measure => simp [intOf]; omega
    rcases idxO_is h Q with ⟨hidxO, hatO⟩ | ⟨i', hi1, hidxO, hid1, hatO⟩
    · have hno : Hid (thereB h ids = false) := by
       show _ = _
       have hq : isT h Q = false := by rw [isT_idx, hidx, hidxO]; rfl
       have hq2 : ids.all (isT h) = false := by
        rw [List.all_eq_false]
        exact ⟨Q, hmem.out, by rw [hq]; simp⟩
       simp [thereB, hq2]
      clear hat hatO
      go_wp2_with fail
      refine wp_region_held_drew (S := fun w' => w'.cell? ⟨w.heap.size, 0, none⟩ = some (.int .i64 h.vNext) ∧ w'.cell? ⟨w.heap.size, 1, none⟩ = some (.int .i64 h.vDoc) ∧ w'.cell? ⟨w.heap.size, 2, none⟩ = some (.slice a2 h.vNodes.length cap2) ∧ w'.cell? ⟨w.heap.size, 3, none⟩ = some (.slice a3 h.vObjs.length cap3) ∧ w'.cell? ⟨w.heap.size, 4, none⟩ = some (.slice a4 h.vGlobals.length cap4) ∧ w'.cell? ⟨b, off + j, none⟩ = some (.int .i64 Q)) (by kernel_rfl) (by refine ⟨?_, ?_, ?_, ?_, ?_, ?_⟩ <;> assumption) (fun hHeld => ?_)
      refine tk 0 ?_
      refine tk 1 ?_
      refine tk 2 ?_
      refine tk 3 ?_
      refine tk 4 ?_
      refine rd1 5 (fun K hK => ?_)
      go_simp
      refine (l2Node_any (by exact hhd.out)).mono ?_
      rintro e w2 ⟨rfl, hb1⟩
      have hbN := hb1
      rw [hidx]
      dsimp only
      refine hK.out _ _ ⟨cell_on hb1 hHeld.1, cell_on hb1 hHeld.2.1, cell_on hb1 hHeld.2.2.1, cell_on hb1 hHeld.2.2.2.1, cell_on hb1 hHeld.2.2.2.2.1, cell_on hb1 hHeld.2.2.2.2.2⟩ (fun hHeld => ?_)
      clear hK K
      refine tk 6 ?_
      refine tk 7 ?_
      refine tk 8 ?_
      refine tk 9 ?_
      refine tk 10 ?_
      refine tk 11 ?_
      refine tk 12 ?_
      refine rd1 13 (fun K hK => ?_)
      go_simp
      refine (l2Obj_any (by exact HeapAt_stays _ _ _ lo _ _ (.of_below hbN) hhd.out)).mono ?_
      rintro e w3 ⟨rfl, hb1⟩
      have hbO := hb1
      rw [hidxO]
      dsimp only
      refine hK.out _ _ ⟨cell_on hb1 hHeld.1, cell_on hb1 hHeld.2.1, cell_on hb1 hHeld.2.2.1, cell_on hb1 hHeld.2.2.2.1, cell_on hb1 hHeld.2.2.2.2.1, cell_on hb1 hHeld.2.2.2.2.2⟩ (fun hHeld => ?_)
      clear hK K
      refine tk 14 ?_
      refine tk 15 ?_
      refine wpAnyH_done (by kernel_rfl) ?_ _
      have hbr2 : Below w.heap.size w w3 := (hbr.drew.trans (hbN.mono hbr.size)).trans (hbO.mono (by have := hbN.size; have := hbr.size; simp at *; omega))
      clear c0 c1 c2 c3 c4 z0 hbN hbO
      go_wp2_with fail
      go_ret
      exact ⟨ret_bool hno.out.symm, hbr2⟩
    · have hyes : Hid (isT h Q = true) := by show _ = _; rw [isT_idx, hidxO]; simp
      have hp0 : decide ((i' : Int) < 0) = false := by simp
      clear hat hatO hid1
      go_wp2_with fail
      refine wp_region_held_drew (S := fun w' => w'.cell? ⟨w.heap.size, 0, none⟩ = some (.int .i64 h.vNext) ∧ w'.cell? ⟨w.heap.size, 1, none⟩ = some (.int .i64 h.vDoc) ∧ w'.cell? ⟨w.heap.size, 2, none⟩ = some (.slice a2 h.vNodes.length cap2) ∧ w'.cell? ⟨w.heap.size, 3, none⟩ = some (.slice a3 h.vObjs.length cap3) ∧ w'.cell? ⟨w.heap.size, 4, none⟩ = some (.slice a4 h.vGlobals.length cap4) ∧ w'.cell? ⟨b, off + j, none⟩ = some (.int .i64 Q)) (by kernel_rfl) (by refine ⟨?_, ?_, ?_, ?_, ?_, ?_⟩ <;> assumption) (fun hHeld => ?_)
      refine tk 0 ?_
      refine tk 1 ?_
      refine tk 2 ?_
      refine tk 3 ?_
      refine tk 4 ?_
      refine rd1 5 (fun K hK => ?_)
      go_simp
      refine (l2Node_any (by exact hhd.out)).mono ?_
      rintro e w2 ⟨rfl, hb1⟩
      have hbN := hb1
      rw [hidx]
      dsimp only
      refine hK.out _ _ ⟨cell_on hb1 hHeld.1, cell_on hb1 hHeld.2.1, cell_on hb1 hHeld.2.2.1, cell_on hb1 hHeld.2.2.2.1, cell_on hb1 hHeld.2.2.2.2.1, cell_on hb1 hHeld.2.2.2.2.2⟩ (fun hHeld => ?_)
      clear hK K
      refine tk 6 ?_
      refine tk 7 ?_
      refine tk 8 ?_
      refine tk 9 ?_
      refine tk 10 ?_
      refine tk 11 ?_
      refine tk 12 ?_
      refine rd1 13 (fun K hK => ?_)
      go_simp
      refine (l2Obj_any (by exact HeapAt_stays _ _ _ lo _ _ (.of_below hbN) hhd.out)).mono ?_
      rintro e w3 ⟨rfl, hb1⟩
      have hbO := hb1
      rw [hidxO]
      dsimp only
      refine hK.out _ _ ⟨cell_on hb1 hHeld.1, cell_on hb1 hHeld.2.1, cell_on hb1 hHeld.2.2.1, cell_on hb1 hHeld.2.2.2.1, cell_on hb1 hHeld.2.2.2.2.1, cell_on hb1 hHeld.2.2.2.2.2⟩ (fun hHeld => ?_)
      clear hK K
      refine tk 14 ?_
      refine tk 15 ?_
      refine wpAnyH_done (by kernel_rfl) ?_ _
      have hbr2 : Below w.heap.size w w3 := (hbr.drew.trans (hbN.mono hbr.size)).trans (hbO.mono (by have := hbN.size; have := hbr.size; simp at *; omega))
      have bH2 : Hid (Box w3 w.heap.size (cHp h a2 cap2 a3 cap3 a4 cap4) 28) := (Box.below (Box.below bHr.out (undrew hbN) (by omega)) hbO (by have := hbN.size; simp at *; omega))
      clear c0 c1 c2 c3 c4 z0 hbN hbO
      go_wp2_with fail
      go_roundw
      case rel => exact ⟨j + 1, by omega, by go_num, fun x hx => by rw [hstep.out] at hx; rcases List.mem_append.1 hx with q | q; exact hall.out x q; simp at q; exact q ▸ hyes.out, bH2, hbr2⟩
      case measure => simp [intOf]; omega
  obtain rfl : j = ids.length := by omega
  have hT : Hid (thereB h ids = decide (ids.length ≤ 100)) := by
   show _ = _
   have q : ids.all (isT h) = true := List.all_eq_true.2 fun x hx => hall.out x (by rw [List.take_length]; exact hx)
   simp [thereB, q]
  by_cases h100 : ids.length ≤ 100
  · have h100' : (ids.length : Int) ≤ 100 := by omega
    have hT2 : Hid (thereB h ids = true) := by show _ = _; rw [hT.out]; simp [h100]
    clear h100
    go_wp2_with fail
    go_ret
    exact ⟨ret_bool (by rw [hT2.out]), hbr⟩
  · have h100' : decide ((ids.length : Int) ≤ 100) = false := by simp; omega
    have hT2 : Hid (thereB h ids = false) := by show _ = _; rw [hT.out]; simp [h100]
    clear h100
    go_wp2_with fail
    go_ret
    exact ⟨ret_bool (by rw [hT2.out]), hbr⟩
end Go.Proofs.YtdnembnlomnceaaGreat
namespace Go.Proofs.YtdnembnlomnceaaGreat
open Go.RowKit
/-- the graph lies in memory, and beside it a list of things: all that is held from these -/
def BelowAt (h : HeapD) (ids : List Int) (base : Nat) (w : World) (v : Value) (all : List ThD) (o : ThD) (Ts : List ThD) : Prop :=
 o.id = 0 ∧ (Ts.map ThD.id = idsD h ∧ ∀ i, (hi : i < Ts.length) → Ts[i].pl = (i : Int)) ∧ Apart (o :: Ts) ∧ (∃ K base', GSt K base' w o Ts (accG h)) ∧ w.ownsRow base 58 1 v all.length (all.map fun t => Value.pointer (some ⟨t.blk, 0, none⟩)) ∧ (∀ t ∈ all, t ∈ Ts) ∧ (all.map ThD.id).Nodup ∧ (∀ k, k ∈ all.map ThD.id ↔ From (holdsC (accG h)) ids k)
set_option maxRecDepth 100000 in
set_option maxHeartbeats 4000000 in
theorem rightBelow_any {w : World} {lo : Nat} {cs : List Value} {h : HeapD} {k : Value} {ids : List Int} (hh : HeapAt w lo cs h) (hs : h.small) (hk : SeqAt 1 IntAt w lo k ids) (hl : ids.length ≤ 1048576) :
 Calls Tryz.prog 26 #[.agg cs.toArray, k] w fun e w' => (((specB h && thereB h ids) = false ∧ e = .returned (.tuple #[.slice none 0 0, .bool false])) ∨ ((specB h && thereB h ids) = true ∧ ∃ v all o Ts, e = .returned (.tuple #[v, .bool true]) ∧ BelowAt h ids w.heap.size w' v all o Ts)) ∧ Below w.heap.size w w' := by
 have hs' : Hid h.small := hs
 have hh' : Hid (HeapAt w lo cs h) := hh
 obtain ⟨k2, k3, k4, rfl, s2, s3, s4, _⟩ := hh
 obtain ⟨a2, cap2, rfl⟩ := s2.form
 obtain ⟨a3, cap3, rfl⟩ := s3.form
 obtain ⟨a4, cap4, rfl⟩ := s4.form
 clear s2 s3 s4
 have hb1 : Below w.heap.size w (w.alloc (.cells (List.toArray (cHp h a2 cap2 a3 cap3 a4 cap4)) 28)) := (Below.refl _ _).alloc (Nat.le_refl _) _
 have bH0 : Hid (Box (w.alloc (.cells (List.toArray (cHp h a2 cap2 a3 cap3 a4 cap4)) 28)) w.heap.size (cHp h a2 cap2 a3 cap3 a4 cap4) 28) := Box.new w (cHp h a2 cap2 a3 cap3 a4 cap4) 28
 obtain ⟨ak, ck, rfl, hmk, hxk⟩ := hk
 have hxk' : Hid _ := hxk
 obtain ⟨iP, hiP, heP⟩ := Option.map_eq_some_iff.1 infoPtr
 simp only [Prod.mk.injEq] at heP
 have hIP : Hid _ := hiP
 have hEP : Hid _ := heP
 clear hxk hmk hiP heP hs
 go_enter Tryz.func26, Tryz.ntmps26
 go_wp2_with fail
 refine (rightGraph_any hh'.out hb1 hs'.out).mono ?_
 rintro e w1 ⟨hres, hb2⟩
 have hB2 : Below w.heap.size w w1 := hb1.trans (hb2.mono hb1.size)
 rcases hres with ⟨hp, rfl⟩ | ⟨hp, o, Ts, bm, g, cap, rfl, hg⟩
 · have HF : Hid ((specB h && thereB h ids) = false) := by show _ = _; simp [hp]
   clear hp
   go_wp2_with fail
   go_ret2
   exact ⟨Or.inl ⟨HF.out, rfl⟩, hB2.alloc hB2.size _⟩
 obtain ⟨ho0, hidp, hap, hG, hM, hrow, hbm⟩ := hg
 have hp' : Hid (specB h = true) := hp
 have hidp' : Hid (Ts.map ThD.id = idsD h ∧ ∀ i, (hi : i < Ts.length) → Ts[i].pl = (i : Int)) := hidp
 have hT : Hid (∀ k, (getI ThD.id Ts k).isSome = isT h k) := things_there hidp.1
 have ho0' : Hid (o.id = 0) := ho0
 have hap' : Hid (Apart (o :: Ts)) := hap
 have hb3 : Below w1.heap.size w1 (w1.alloc (.cells #[.slice (some ⟨g, 0, none⟩) (idsD h).length cap, .map (some bm), .pointer (some ⟨o.blk, 0, none⟩)] 60)) := (Below.refl _ _).alloc (Nat.le_refl _) _
 have hB3 : Below w.heap.size w (w1.alloc (.cells #[.slice (some ⟨g, 0, none⟩) (idsD h).length cap, .map (some bm), .pointer (some ⟨o.blk, 0, none⟩)] 60)) := hB2.alloc hB2.size _
 have bG : Hid (Box (w1.alloc (.cells #[.slice (some ⟨g, 0, none⟩) (idsD h).length cap, .map (some bm), .pointer (some ⟨o.blk, 0, none⟩)] 60)) w1.heap.size (Array.toList #[.slice (some ⟨g, 0, none⟩) (idsD h).length cap, .map (some bm), .pointer (some ⟨o.blk, 0, none⟩)]) 60) := Box.new w1 (Array.toList #[.slice (some ⟨g, 0, none⟩) (idsD h).length cap, .map (some bm), .pointer (some ⟨o.blk, 0, none⟩)]) 60
 have hG3 : Hid (∃ K base', GSt K base' (w1.alloc (.cells #[.slice (some ⟨g, 0, none⟩) (idsD h).length cap, .map (some bm), .pointer (some ⟨o.blk, 0, none⟩)] 60)) o Ts (accG h)) := ⟨_, _, hG.below hb3⟩
 have hM3 : Hid (PMap (w1.alloc (.cells #[.slice (some ⟨g, 0, none⟩) (idsD h).length cap, .map (some bm), .pointer (some ⟨o.blk, 0, none⟩)] 60)) bm Ts) := hM.keep (hb3.block bm hM.lt)
 have hz3 : (w1.alloc (.cells #[.slice (some ⟨g, 0, none⟩) (idsD h).length cap, .map (some bm), .pointer (some ⟨o.blk, 0, none⟩)] 60)).heap.size = w1.heap.size + 1 := by simp
 have hsz1 := hB2.size
 by_cases h100 : ids.length ≤ 100
 rotate_left
 · have h100' : (100 : Int) < (ids.length : Int) := by omega
   have HF : Hid ((specB h && thereB h ids) = false) := by show _ = _; simp [thereB, h100]
   clear hp hap hM hrow ho0 hidp hG h100
   go_wp2_with fail
   go_ret2
   exact ⟨Or.inl ⟨HF.out, rfl⟩, hB3⟩
 have h100' : decide ((100 : Int) < (ids.length : Int)) = false := by simp; omega
 have h100h : Hid (ids.length ≤ 100) := h100
 clear hp hap hM hrow ho0 hidp hG
 go_wp2_with fail
 go_loopw [8, 27] (fun v i wr => ∃ (j : Nat), j ≤ ids.length ∧ i = .int .i64 j ∧ Hid (∀ x ∈ ids.take j, isT h x = true) ∧ Hid (wr.ownsRow (w1.alloc (.cells #[.slice (some ⟨g, 0, none⟩) (idsD h).length cap, .map (some bm), .pointer (some ⟨o.blk, 0, none⟩)] 60)).heap.size 58 1 v j (((ids.take j).map (thOf Ts)).map fun t => Value.pointer (some ⟨t.blk, 0, none⟩))) ∧ Hid (∃ a cap, v = .slice a j cap) ∧ Below (w1.alloc (.cells #[.slice (some ⟨g, 0, none⟩) (idsD h).length cap, .map (some bm), .pointer (some ⟨o.blk, 0, none⟩)] 60)).heap.size (w1.alloc (.cells #[.slice (some ⟨g, 0, none⟩) (idsD h).length cap, .map (some bm), .pointer (some ⟨o.blk, 0, none⟩)] 60)) wr) (fun _ i _ => ids.length - (intOf i).toNat)
 case atStart => exact ⟨0, by omega, rfl, fun x hx => (by cases hx), World.ownsRow_nil _ _ _ _, ⟨_, _, rfl⟩, Below.refl _ _⟩
 case round =>
  obtain ⟨j, hj, rfl, hall, hown, hform, hbr⟩ := hrel
  obtain ⟨av, cv, rfl⟩ := hform.out
  clear hform
  have hzr := hbr.size
  have hBr : Below w.heap.size w wr := hB3.trans (hbr.mono (by omega))
  by_cases hlt : j < ids.length
  · obtain ⟨b, off, rfl, hlo, hbw, hc⟩ := hxk'.out (by omega)
    obtain ⟨cs, hcl, lie, hr⟩ := hc j hlt
    have lie1 := Lie.keep (lo := lo) (lo' := lo) lie (.of_below hBr) hlo hbw
    have hstep : Hid (ids.take (j + 1) = ids.take j ++ [ids[j]]) := List.take_succ_eq_append_getElem hlt
    have hmem : Hid (ids[j] ∈ ids) := List.getElem_mem hlt
    generalize hQ : ids[j] = Q at hr hstep hmem
    obtain ⟨rfl, hIQ⟩ := hr
    have z0 := lie1 0 (by simp)
    simp only [List.getElem?_cons_zero, Nat.add_zero, Nat.mul_one] at z0
    have hMr : PMap wr bm Ts := hM3.out.keep (hbr.block bm hM3.out.lt)
    have bGr := bG.out.below hbr bG.out.lt
    have c1 : wr.cell? ⟨w1.heap.size, 1, none⟩ = some (.map (some bm)) := bGr.cell 1 rfl
    clear lie lie1 hcl hc hQ bGr
    rcases run_lookP hMr Tryz.underlying57 zeroPtr Q with ⟨hq, hlook⟩ | ⟨t, hq, hlook⟩
    · have HF : Hid ((specB h && thereB h ids) = false) := by
       show _ = _
       have hq1 : isT h Q = false := by rw [← hT.out Q, hq]; rfl
       have hq2 : ids.all (isT h) = false := by
        rw [List.all_eq_false]
        exact ⟨Q, hmem.out, by rw [hq1]; simp⟩
       simp [thereB, hq2]
      clear hq hMr
      go_wp2_with fail
      go_ret2
      exact ⟨Or.inl ⟨HF.out, rfl⟩, hBr⟩
    · have hyes : Hid (isT h Q = true) := by show _ = _; rw [← hT.out Q, hq]; rfl
      have hth : Hid (thOf Ts Q = t) := by show _ = _; simp [thOf, hq]
      obtain ⟨L, hL⟩ : ∃ L, (((ids.take j).map (thOf Ts)).map fun t => Value.pointer (some ⟨t.blk, 0, none⟩)) = L := ⟨_, rfl⟩
      have hownL : Hid ((wr.alloc (.cells #[.pointer (some ⟨t.blk, 0, none⟩)] 58)).ownsRow (w1.alloc (.cells #[.slice (some ⟨g, 0, none⟩) (idsD h).length cap, .map (some bm), .pointer (some ⟨o.blk, 0, none⟩)] 60)).heap.size 58 1 (.slice av j cv) j L) := by rw [← hL]; exact hown.out.alloc _
      have hL' : Hid _ := hL
      have h100k : ids.length ≤ 100 := h100h.out
      clear hq hMr hL
      go_wp2_with (at_builtin; refine wpList_append_lies _ rfl _ _ 52 rfl (w1.alloc (.cells #[.slice (some ⟨g, 0, none⟩) (idsD h).length cap, .map (some bm), .pointer (some ⟨o.blk, 0, none⟩)] 60)).heap.size 58 iP (.pointer none) 1 8 Tryz.underlying52 hIP.out hEP.out.1 hEP.out.2.2 hEP.out.2.1 rfl (by decide) _ j L rfl hownL.out ⟨wr.heap.size, 0, none⟩ 1 1 [.pointer (some ⟨t.blk, 0, none⟩)] rfl rfl (by intro q u hq; match q, hq with | 0, hq => simp at hq; subst hq; simp [Addr.add]) (by simp [Value.oneCell']) (by decide) (by unfold maxLen; omega) (by omega) (by simp at *; omega) (wr.heap.size + 1) (by simp) ?_)
      intro gg capg w2 hown2 hgrow2 hat2 hlt2
      have hbr2 : Hid (Below (w1.alloc (.cells #[.slice (some ⟨g, 0, none⟩) (idsD h).length cap, .map (some bm), .pointer (some ⟨o.blk, 0, none⟩)] 60)).heap.size (w1.alloc (.cells #[.slice (some ⟨g, 0, none⟩) (idsD h).length cap, .map (some bm), .pointer (some ⟨o.blk, 0, none⟩)] 60)) w2) := (hbr.alloc hzr _).grown hgrow2 (by simp at *; omega) (own_block hownL.out)
      have hown2' : Hid (w2.ownsRow (w1.alloc (.cells #[.slice (some ⟨g, 0, none⟩) (idsD h).length cap, .map (some bm), .pointer (some ⟨o.blk, 0, none⟩)] 60)).heap.size 58 1 (.slice (some ⟨gg, 0, none⟩) (j + 1) capg) (j + 1) (((ids.take (j + 1)).map (thOf Ts)).map fun t => Value.pointer (some ⟨t.blk, 0, none⟩))) := by
       rw [hz3, hstep.out, List.map_append, List.map_append, hL'.out]
       simp only [List.map_cons, List.map_nil, hth.out]
       exact hown2
      clear hown2 hgrow2 hat2 hlt2
      go_wp2_with fail
      go_roundw
      case rel => exact ⟨j + 1, by omega, by go_num, fun x hx => by rw [hstep.out] at hx; rcases List.mem_append.1 hx with q | q; exact hall.out x q; simp at q; exact q ▸ hyes.out, hown2', ⟨_, _, rfl⟩, hbr2.out⟩
      case measure => simp [intOf]; omega
  obtain rfl : j = ids.length := by omega
  have hallI : Hid (∀ x ∈ ids, isT h x = true) := fun x hx => hall.out x (by rw [List.take_length]; exact hx)
  have HT : Hid ((specB h && thereB h ids) = true) := by
   show _ = _
   have q : ids.all (isT h) = true := List.all_eq_true.2 hallI.out
   simp [thereB, q, hp'.out, h100h.out]
  have hpsl : ((ids.map (thOf Ts))).length = ids.length := by simp
  have hrowN : Hid (wr.ownsRow (w1.alloc (.cells #[.slice (some ⟨g, 0, none⟩) (idsD h).length cap, .map (some bm), .pointer (some ⟨o.blk, 0, none⟩)] 60)).heap.size 58 1 (.slice av ids.length cv) (ids.map (thOf Ts)).length ((ids.map (thOf Ts)).map fun t => Value.pointer (some ⟨t.blk, 0, none⟩))) := by have q := hown.out; rw [List.take_length] at q; rw [hpsl]; exact q
  have hks : ∀ k ∈ ids, (getI ThD.id Ts k).isSome = true := fun k hk => (hT.out k).trans (hallI.out k hk)
  have hpsT : Hid (∀ u ∈ ids.map (thOf Ts), u ∈ Ts) := fun u hu => by
   obtain ⟨k, hk, rfl⟩ := List.mem_map.1 hu
   exact (thOf_is (hks k hk)).1
  have hpid : Hid ((ids.map (thOf Ts)).map ThD.id = ids) := by
   show _ = _
   rw [List.map_map]
   have : ids.map (ThD.id ∘ thOf Ts) = ids.map (fun k => k) := List.map_congr_left fun k hk => (thOf_is (hks k hk)).2.1
   rw [this, List.map_id']
  have hin : Hid (∀ t ∈ Ts, ∀ k ∈ holdsC (accG h) t.id, (getI ThD.id Ts k).isSome = true) := fun t _ k hk => (hT.out k).trans (holdsC_there hp'.out hk)
  have hTl : Hid (Ts.length ≤ 1048576) := by show _ ≤ _; have q := congrArg List.length hidp'.out.1; rw [List.length_map] at q; have := idsD_most hp'.out; omega
  obtain ⟨K, base', hGr0⟩ := hG3.out
  have hGr : Hid (GSt K base' wr o Ts (accG h)) := hGr0.below hbr
  have hpl : Hid ((ids.map (thOf Ts)).length ≤ 1099511627) := by show _ ≤ _; rw [hpsl]; have := h100h.out; omega
  clear hown hall hks hpsl hGr0
  go_wp2_with fail
  refine (heldFrom_any hap'.out hGr.out hin.out hTl.out (accG_len hp'.out hs'.out) hrowN.out hpsT.out hpl.out).mono ?_
  rintro e w2 ⟨⟨v2, all, rfl, hown2, hsub2, hnd2, hfrom2⟩, hb4⟩
  have hB4 : Below w.heap.size w w2 := hBr.trans (hb4.mono hBr.size)
  rw [hpid.out] at hfrom2
  have hBA : Hid (BelowAt h ids w.heap.size w2 v2 all o Ts) := ⟨ho0'.out, hidp'.out, hap'.out, ⟨K, base', hGr.out.below hb4⟩, World.ownsRow.mono hown2 hBr.size, hsub2, hnd2, hfrom2⟩
  obtain ⟨a2', c2', rfl⟩ := own_forms hown2
  clear hown2 hsub2 hnd2 hfrom2 hb4
  go_wp2_with fail
  go_ret2
  exact ⟨Or.inr ⟨HT.out, _, all, o, Ts, rfl, hBA.out⟩, hB4⟩
end Go.Proofs.YtdnembnlomnceaaGreat
namespace Go.Proofs.YtdnembnlomnceaaGreat
open Go.RowKit
def belowA (h : HeapD) (ids : List Int) : List Int := if (specB h && thereB h ids) = true then belD h ids else []
theorem there_ids {h : HeapD} {ids : List Int} (e : (specB h && thereB h ids) = true) : specB h = true ∧ (∀ x ∈ ids, x ∈ idsD h) ∧ ids.length ≤ 100 := by
 simp only [thereB, Bool.and_eq_true, List.all_eq_true, decide_eq_true_eq] at e
 exact ⟨e.1, fun x hx => mem_idsD.2 (mem_idsU.2 (e.2.1 x hx)), e.2.2⟩
theorem belowA_len {h : HeapD} (hs : h.small) (ids : List Int) : (belowA h ids).length ≤ 1048576 := by
 unfold belowA
 split
 · rename_i e
   obtain ⟨e1, e2, _⟩ := there_ids e
   have := belD_len e1 hs e2
   omega
 · simp
set_option maxRecDepth 100000 in
set_option maxHeartbeats 3200000 in
theorem implBelow_any {w : World} {lo : Nat} {cs : List Value} {h : HeapD} {k : Value} {ids : List Int} (hh : HeapAt w lo cs h) (hs : h.small) (hk : SeqAt 1 IntAt w lo k ids) (hl : ids.length ≤ 1048576) :
 Calls Tryz.prog 7 #[.agg cs.toArray, k] w fun e w' => (∃ v fs, e = .returned v ∧ SeqOwn 1 IntOwn w' v (belowA h ids) fs ∧ ∀ b ∈ fs, w.heap.size ≤ b) ∧ Below w.heap.size w w' := by
 have hs' : Hid h.small := hs
 have hk' : Hid (SeqAt 1 IntAt w lo k ids) := hk
 clear hs
 have hh' : Hid (HeapAt w lo cs h) := hh
 obtain ⟨k2, k3, k4, rfl, s2, s3, s4, _⟩ := hh
 obtain ⟨a2, cap2, rfl⟩ := s2.form
 obtain ⟨a3, cap3, rfl⟩ := s3.form
 obtain ⟨a4, cap4, rfl⟩ := s4.form
 clear s2 s3 s4
 have hb1 : Below w.heap.size w (w.alloc (.cells (List.toArray (cHp h a2 cap2 a3 cap3 a4 cap4)) 28)) := (Below.refl _ _).alloc (Nat.le_refl _) _
 have bH0 : Hid (Box (w.alloc (.cells (List.toArray (cHp h a2 cap2 a3 cap3 a4 cap4)) 28)) w.heap.size (cHp h a2 cap2 a3 cap3 a4 cap4) 28) := Box.new w (cHp h a2 cap2 a3 cap3 a4 cap4) 28
 obtain ⟨ak, ck, rfl⟩ := hk.form
 clear hk
 go_enter Tryz.func7, Tryz.ntmps7
 go_wp2_with fail
 refine (rightBelow_any (HeapAt_stays _ _ _ lo _ _ (.of_below hb1) hh'.out) hs'.out (SeqAt.keep intAt_stays hk'.out (.of_below hb1)) hl).mono ?_
 rintro e w1 ⟨hres, hb2⟩
 have hB2 : Below w.heap.size w w1 := hb1.trans (hb2.mono hb1.size)
 rcases hres with ⟨hp, rfl⟩ | ⟨hp, v, all, o, Ts, rfl, hBA⟩
 · have HF : Hid (belowA h ids = []) := by show _ = _; simp only [belowA, hp]; rfl
   clear hp
   go_wp2_with fail
   go_ret
   exact ⟨⟨_, [], rfl, by rw [HF.out]; exact seqOwn_none _, by simp⟩, hB2⟩
 have HF : Hid (belowA h ids = belD h ids) := by show _ = _; unfold belowA; rw [if_pos hp]
 obtain ⟨e1, e2, _⟩ := there_ids hp
 obtain ⟨_, _, _, ⟨K, base', hG⟩, hown2, hsub2, hnd2, hfrom2⟩ := hBA
 have heq : Hid (sortI (all.map ThD.id) = belD h ids) := held_below e1 hs'.out e2 hnd2 hfrom2
 have hI : Hid (∀ x ∈ belD h ids, InI x) := fun x hx => (reached_in hh'.out e1 hs'.out e2 x hx).1
 have hall : Hid (all.length ≤ 1048576) := by
  show _ ≤ _
  have q := sortI_len (all.map ThD.id)
  rw [heq.out, List.length_map] at q
  have := belD_len e1 hs'.out e2
  omega
 have hbox : Hid (∀ u ∈ all, w1.cell? ⟨u.blk, 0, none⟩ = some (.int .i64 u.id)) := fun u hu => by
  obtain ⟨S2, hS2⟩ := hG
  exact (hS2.1 u (List.mem_cons_of_mem _ (hsub2 u hu))).1.cell 0 rfl
 have hown2' : Hid (w1.ownsRow (w.alloc (.cells (List.toArray (cHp h a2 cap2 a3 cap3 a4 cap4)) 28)).heap.size 58 1 v all.length (all.map fun t => Value.pointer (some ⟨t.blk, 0, none⟩))) := hown2
 obtain ⟨av2, cv2, rfl⟩ := own_forms hown2
 clear hown2 hsub2 hnd2 hfrom2 hG hp e1 e2
 go_wp2_with fail
 refine (risingIds_any hown2'.out hbox.out (by have := hall.out; omega)).mono ?_
 rintro e w3 ⟨⟨v, rfl, hown⟩, hb5⟩
 have hB5 : Below w.heap.size w w3 := hB2.trans (hb5.mono hB2.size)
 rw [heq.out] at hown
 obtain ⟨fs, ho, hl2⟩ := seqOwn_of_row hown hI.out
 have hs3 := hB2.size
 have ho' : Hid (SeqOwn 1 IntOwn w3 v (belowA h ids) fs) := by rw [HF.out]; exact ho
 have hl' : Hid (∀ b ∈ fs, w.heap.size ≤ b) := fun b q => by have := hl2 b q; omega
 obtain ⟨av, capv, rfl⟩ := own_forms hown
 clear hown ho hl2
 go_wp2_with fail
 go_ret
 exact ⟨⟨_, fs, rfl, ho'.out, hl'.out⟩, hB5⟩
end Go.Proofs.YtdnembnlomnceaaGreat
