/- What a trial finds: both tellings are one. -/
import Derived.Test.YtoifcfllboeblaaGreatRightBelow
import Derived.Test.YtoifcfllboeblaaGreatOwnRows
import Derived.Test.YtoifcfllboeblaaGreatReachedPlain
import Derived.Deep.MidRow
import Derived.Deep.RegionHeld3
import Derived.Deep.Upon
namespace Go.Proofs.YtoifcfllboeblaaGreat
open Go.RowKit
def belowA (h : HeapD) (ids : List Int) : List Int := if (specB h && thereB h ids) = true then belD h ids else []
theorem there_ids {h : HeapD} {ids : List Int} (e : (specB h && thereB h ids) = true) : specB h = true ∧ (∀ x ∈ ids, x ∈ idsD h) ∧ ids.length ≤ 100 := by
  simp only [thereB, Bool.and_eq_true, List.all_eq_true, decide_eq_true_eq] at e
  exact ⟨e.1, fun x hx => mem_idsD.2 (mem_idsU.2 (e.2.1 x hx)), e.2.2⟩
theorem belowA_len {h : HeapD} (hs : h.small) (ids : List Int) : (belowA h ids).length ≤ 1048576 := by
  unfold belowA
  split
  · rename_i e
    obtain ⟨e1, e2, _⟩ := there_ids e
    have := belD_len e1 hs e2
    omega
  · simp
set_option maxRecDepth 100000 in
set_option maxHeartbeats 3200000 in
theorem implBelow_any {w : World} {lo : Nat} {cs : List Value} {h : HeapD} {k : Value} {ids : List Int} (hh : HeapAt w lo cs h) (hs : h.small) (hk : SeqAt 1 IntAt w lo k ids) (hl : ids.length ≤ 1048576) :
    Calls Tryz.prog 27 #[.agg cs.toArray, k] w fun e w' => (∃ v fs, e = .returned v ∧ SeqOwn 1 IntOwn w' v (belowA h ids) fs ∧ ∀ b ∈ fs, w.heap.size ≤ b) ∧ Below w.heap.size w w' := by
  have hs' : Hid h.small := hs
  have hk' : Hid (SeqAt 1 IntAt w lo k ids) := hk
  clear hs
  have hh' : Hid (HeapAt w lo cs h) := hh
  obtain ⟨k2, k3, k4, rfl, s2, s3, s4, _⟩ := hh
  obtain ⟨a2, cap2, rfl⟩ := s2.form
  obtain ⟨a3, cap3, rfl⟩ := s3.form
  obtain ⟨a4, cap4, rfl⟩ := s4.form
  clear s2 s3 s4
  have hb1 : Below w.heap.size w (w.alloc (.cells (List.toArray [.int .i64 h.vNext, .int .i64 h.vDoc, .slice a2 h.vNodes.length cap2, .slice a3 h.vObjs.length cap3, .slice a4 h.vGlobals.length cap4]) 34)) := (Below.refl _ _).alloc (Nat.le_refl _) _
  have bH0 : Hid (Box (w.alloc (.cells (List.toArray [.int .i64 h.vNext, .int .i64 h.vDoc, .slice a2 h.vNodes.length cap2, .slice a3 h.vObjs.length cap3, .slice a4 h.vGlobals.length cap4]) 34)) w.heap.size [.int .i64 h.vNext, .int .i64 h.vDoc, .slice a2 h.vNodes.length cap2, .slice a3 h.vObjs.length cap3, .slice a4 h.vGlobals.length cap4] 34) := Box.new w [.int .i64 h.vNext, .int .i64 h.vDoc, .slice a2 h.vNodes.length cap2, .slice a3 h.vObjs.length cap3, .slice a4 h.vGlobals.length cap4] 34
  obtain ⟨ak, ck, rfl⟩ := hk.form
  clear hk
  go_enter Tryz.func27, Tryz.ntmps27
  go_wp2_with fail
  refine (rightBelow_any (HeapAt_stays _ _ _ lo _ _ (.of_below hb1) hh'.out) hs'.out (SeqAt.keep intAt_stays hk'.out (.of_below hb1)) hl).mono ?_
  rintro e w1 ⟨hres, hb2⟩
  have hB2 : Below w.heap.size w w1 := hb1.trans (hb2.mono hb1.size)
  rcases hres with ⟨hp, rfl⟩ | ⟨hp, v, all, o, Ts, rfl, hBA⟩
  · have HF : Hid (belowA h ids = []) := by show _ = _; simp only [belowA, hp]; rfl
    clear hp
    go_wp2_with fail
    go_ret
    exact ⟨⟨_, [], rfl, by rw [HF.out]; exact seqOwn_none _, by simp⟩, hB2⟩
  have HF : Hid (belowA h ids = belD h ids) := by show _ = _; unfold belowA; rw [if_pos hp]
  obtain ⟨e1, e2, _⟩ := there_ids hp
  obtain ⟨_, _, _, ⟨K, base', hG⟩, hown2, hsub2, hnd2, hfrom2⟩ := hBA
  have heq : Hid (sortI (all.map ThD.id) = belD h ids) := held_below e1 hs'.out e2 hnd2 hfrom2
  have hI : Hid (∀ x ∈ belD h ids, InI x) := fun x hx => (reached_in hh'.out e1 hs'.out e2 x hx).1
  have hall : Hid (all.length ≤ 1048576) := by
    show _ ≤ _
    have q := sortI_len (all.map ThD.id)
    rw [heq.out, List.length_map] at q
    have := belD_len e1 hs'.out e2
    omega
  have hbox : Hid (∀ u ∈ all, w1.cell? ⟨u.blk, 0, none⟩ = some (.int .i64 u.id)) := fun u hu => by
    obtain ⟨S2, hS2⟩ := hG
    exact (hS2.1 u (List.mem_cons_of_mem _ (hsub2 u hu))).1.cell 0 rfl
  have hown2' : Hid (w1.ownsRow (w.alloc (.cells (List.toArray [.int .i64 h.vNext, .int .i64 h.vDoc, .slice a2 h.vNodes.length cap2, .slice a3 h.vObjs.length cap3, .slice a4 h.vGlobals.length cap4]) 34)).heap.size 61 1 v all.length (all.map fun t => Value.pointer (some ⟨t.blk, 0, none⟩))) := hown2
  obtain ⟨av2, cv2, rfl⟩ := own_forms hown2
  clear hown2 hsub2 hnd2 hfrom2 hG hp e1 e2
  go_wp2_with fail
  refine (risingIds_any hown2'.out hbox.out (by have := hall.out; omega)).mono ?_
  rintro e w3 ⟨⟨v, rfl, hown⟩, hb5⟩
  have hB5 : Below w.heap.size w w3 := hB2.trans (hb5.mono hB2.size)
  rw [heq.out] at hown
  obtain ⟨fs, ho, hl2⟩ := seqOwn_of_row hown hI.out
  have hs3 := hB2.size
  have ho' : Hid (SeqOwn 1 IntOwn w3 v (belowA h ids) fs) := by rw [HF.out]; exact ho
  have hl' : Hid (∀ b ∈ fs, w.heap.size ≤ b) := fun b q => by have := hl2 b q; omega
  obtain ⟨av, capv, rfl⟩ := own_forms hown
  clear hown ho hl2
  go_wp2_with fail
  go_ret
  exact ⟨⟨_, fs, rfl, ho'.out, hl'.out⟩, hB5⟩
def cntE (l : List Int) (k : Int) : Nat := (l.filter fun a => decide (a = k)).length
theorem cntE_append (a b : List Int) (k : Int) : cntE (a ++ b) k = cntE a k + cntE b k := by simp [cntE, List.filter_append]
theorem cntE_le (l : List Int) (k : Int) : cntE l k ≤ l.length := List.length_filter_le _ _
theorem cntE_one (a k : Int) : cntE [a] k = if a = k then 1 else 0 := by
  unfold cntE
  by_cases h : a = k <;> simp [h]
theorem cntE_two {f g : Int → List Int} (k : Int) : ∀ (P : List Int), cntE (P.flatMap fun p => f p ++ g p) k = cntE (P.flatMap f) k + cntE (P.flatMap g) k := by
  intro P
  induction P with
  | nil => rfl
  | cons p P ih => simp only [List.flatMap_cons, cntE_append, ih]; omega
theorem pick_none {x y : Int} : ∀ (P : List Int), x ∉ P → (P.flatMap fun p => if x = p then [y] else []) = [] := by
  intro P
  induction P with
  | nil => intro _; rfl
  | cons p P ih =>
    intro h
    rw [List.flatMap_cons, if_neg (fun e => h (by rw [e]; exact List.mem_cons_self)), ih (fun q => h (List.mem_cons_of_mem _ q))]
    rfl
theorem pick_one {x y : Int} : ∀ (P : List Int), P.Nodup → x ∈ P → (P.flatMap fun p => if x = p then [y] else []) = [y] := by
  intro P
  induction P with
  | nil => intro _ h; simp at h
  | cons p P ih =>
    intro hn h
    rw [List.nodup_cons] at hn
    by_cases e : x = p
    · subst e
      rw [List.flatMap_cons, if_pos rfl, pick_none P hn.1]
      rfl
    · rw [List.flatMap_cons, if_neg e, ih hn.2 (by rcases List.mem_cons.1 h with q | q; exact absurd q e; exact q)]
      rfl
theorem holdsC_cons (a : Int × Int) (acc : List (Int × Int)) (p : Int) : holdsC (a :: acc) p = (if a.1 = p then [a.2] else []) ++ holdsC acc p := by
  unfold holdsC
  by_cases h : a.1 = p <;> simp [h]
theorem heldC_cons (a : Int × Int) (acc : List (Int × Int)) (k : Int) : heldC (a :: acc) k = (if a.2 = k then 1 else 0) + heldC acc k := by
  unfold heldC
  by_cases h : a.2 = k
  · simp [h]; omega
  · simp [h]
/-- who holds one is one of all -/
theorem held_cnt {P : List Int} (hn : P.Nodup) (k : Int) : ∀ (acc : List (Int × Int)), (∀ a ∈ acc, a.1 ∈ P) → ((cntE (P.flatMap (holdsC acc)) k : Nat) : Int) = heldC acc k := by
  intro acc
  induction acc with
  | nil =>
    intro _
    have e : ∀ (Q : List Int), Q.flatMap (holdsC []) = [] := by
      intro Q
      induction Q with
      | nil => rfl
      | cons x Q ih => rw [List.flatMap_cons, ih]; rfl
    rw [e]; rfl
  | cons a acc ih =>
    intro h
    have e : P.flatMap (holdsC (a :: acc)) = P.flatMap fun p => (if a.1 = p then [a.2] else []) ++ holdsC acc p := by
      congr 1
      funext p
      exact holdsC_cons a acc p
    have q := ih fun b hb => h b (List.mem_cons_of_mem _ hb)
    rw [e, cntE_two, pick_one P hn (h a List.mem_cons_self), cntE_one, heldC_cons, ← q]
    split <;> simp
theorem accG_from {h : HeapD} : ∀ a ∈ accG h, a.1 ∈ 0 :: idsD h := by
  intro a ha
  unfold accG accN accO at ha
  rcases List.mem_append.1 ha with q | q
  · refine List.mem_cons_of_mem _ (mem_idsD.2 ?_)
    unfold idsU
    rcases List.mem_append.1 q with q | q
    · obtain ⟨x, hx, r⟩ := List.mem_flatMap.1 q
      obtain ⟨k, _, rfl⟩ := List.mem_map.1 r
      exact List.mem_append_left _ (List.mem_map_of_mem hx)
    · obtain ⟨x, hx, r⟩ := List.mem_flatMap.1 q
      obtain ⟨k, _, rfl⟩ := List.mem_map.1 r
      exact List.mem_append_right _ (List.mem_map_of_mem hx)
  · obtain ⟨k, _, rfl⟩ := List.mem_map.1 q
    exact List.mem_cons_self
def heldL (h : HeapD) (j : Nat) : List Int := rootsD h ++ ((idsD h).take j).flatMap (edgesS h)
theorem heldL_zero (h : HeapD) : heldL h 0 = rootsD h := by simp [heldL]
theorem heldL_succ {h : HeapD} {j : Nat} (hj : j < (idsD h).length) : heldL h (j + 1) = heldL h j ++ edgesS h (idsD h)[j] := by
  unfold heldL
  rw [List.take_succ_eq_append_getElem hj, List.flatMap_append, List.append_assoc]
  simp
theorem heldL_full {h : HeapD} (e : specB h = true) (k : Int) : ((cntE (heldL h (idsD h).length) k : Nat) : Int) = heldC (accG h) k := by
  have e2 : implB h = true := spec_impl h ▸ e
  have hn : (0 :: idsD h).Nodup := List.nodup_cons.2 ⟨fun q => ids_ne_zero e2 0 q rfl, idsD_nodup (impl_idx e2)⟩
  rw [← held_cnt hn k (accG h) accG_from]
  unfold heldL
  rw [List.take_length, List.flatMap_cons, holds_roots e2]
  congr 3
  have : ∀ (Q : List Int), (∀ x ∈ Q, x ∈ idsD h) → Q.flatMap (edgesS h) = Q.flatMap (holdsC (accG h)) := by
    intro Q
    induction Q with
    | nil => intro _; rfl
    | cons x Q ih =>
      intro hq
      rw [List.flatMap_cons, List.flatMap_cons, ih (fun y hy => hq y (List.mem_cons_of_mem _ hy)), holds_edges e2 (ids_ne_zero e2 x (hq x List.mem_cons_self))]
  exact this _ fun _ q => q
theorem heldL_len {h : HeapD} (e : specB h = true) (hs : h.small) (j : Nat) : (heldL h j).length ≤ 36700160 := by
  have h1 : (((idsD h).take j).flatMap (edgesS h)).length ≤ ((idsD h).take j).length * 1048578 := flat_len _ fun x _ => edges_most e hs x
  have h2 : ((idsD h).take j).length ≤ 32 := by have := idsD_most e; rw [List.length_take]; omega
  have h3 : h.vGlobals.length ≤ 1048576 := hs.2.2.1.1
  simp only [heldL, List.length_append, rootsD, List.length_cons, List.length_map]
  omega
theorem heldL_in {h : HeapD} (e : specB h = true) (j : Nat) : ∀ x ∈ heldL h j, x ∈ idsD h := by
  intro x hx
  unfold heldL at hx
  rcases List.mem_append.1 hx with q | q
  · exact roots_there e x q
  · obtain ⟨y, hy, r⟩ := List.mem_flatMap.1 q
    exact edges_there e (List.mem_of_mem_take hy) x r
/-- all, rising -/
def AllInv (h : HeapD) (out : List Int) (j : Nat) : Prop := Rises out ∧ (∀ k, k ∈ out ↔ k ∈ (idsU h).take j) ∧ out.length = j
theorem AllInv.start (h : HeapD) : AllInv h [] 0 := ⟨List.Pairwise.nil, by simp, rfl⟩
theorem take_not {xs : List Int} (hn : xs.Nodup) {j : Nat} (hj : j < xs.length) : xs[j] ∉ xs.take j := fun q => by
  obtain ⟨i, hi, e⟩ := List.mem_iff_getElem.1 q
  rw [List.getElem_take] at e
  have hi' : i < j := by rw [List.length_take] at hi; omega
  have := nodup_inj hn i j (by omega) hj e
  omega
theorem AllInv.step {h : HeapD} {out : List Int} {j : Nat} (hn : (idsU h).Nodup) (hI : AllInv h out j) (hj : j < (idsU h).length) : hasB out (idsU h)[j] = false ∧ AllInv h (insR out (idsU h)[j]) (j + 1) := by
  obtain ⟨h1, h2, h3⟩ := hI
  have hno : (idsU h)[j] ∉ out := fun q => take_not hn hj ((h2 _).1 q)
  refine ⟨?_, insR_rises _ _ h1 hno, fun k => ?_, by rw [insR_len, h3]⟩
  · cases hb : hasB out (idsU h)[j]
    · rfl
    · exact absurd ((hasB_iff _ _).1 hb) hno
  · rw [insR_mem, h2, List.take_succ_eq_append_getElem hj, List.mem_append, List.mem_singleton]
    exact or_comm
theorem AllInv.done {h : HeapD} {out : List Int} (hn : (idsU h).Nodup) (hI : AllInv h out (idsU h).length) : out = idsD h := by
  obtain ⟨h1, h2, h3⟩ := hI
  obtain ⟨r1, r2⟩ := sortI_rises hn
  refine rises_same _ _ h1 r1 fun k => ?_
  rw [h2, List.take_length]
  exact (r2 k).symm
theorem idsU_node {h : HeapD} {j : Nat} (hj : j < h.vNodes.length) : ∃ hj' : j < (idsU h).length, (idsU h)[j] = h.vNodes[j].vId := by
  refine ⟨by simp [idsU]; omega, ?_⟩
  simp only [idsU]
  rw [List.getElem_append_left (by simpa using hj), List.getElem_map]
theorem idsU_obj {h : HeapD} {j : Nat} (hj : j < h.vObjs.length) : ∃ hj' : h.vNodes.length + j < (idsU h).length, (idsU h)[h.vNodes.length + j] = h.vObjs[j].vId := by
  refine ⟨by simp [idsU]; omega, ?_⟩
  simp only [idsU]
  rw [List.getElem_append_right (by simp), List.getElem_map]
  simp
set_option maxRecDepth 100000 in
set_option maxHeartbeats 2000000 in
theorem l5All_any {w : World} {lo : Nat} {cs : List Value} {h : HeapD} (hh : HeapAt w lo cs h) (hp : specB h = true) :
    Calls Tryz.prog 48 #[.agg cs.toArray] w fun e w' => (∃ v, e = .returned v ∧ w'.ownsRow w.heap.size 2 1 v (idsD h).length ((idsD h).map fun n => .int .i64 n)) ∧ Below w.heap.size w w' := by
  have hin : Hid (∀ x ∈ idsD h, InI x) := idsD_in hh
  have hnd : Hid ((idsU h).Nodup) := idsU_nodup (impl_idx (spec_impl h ▸ hp))
  have hnl : h.vNodes.length ≤ 16 := (spec_parts hp).1
  have hol' : h.vObjs.length ≤ 16 := objs_most hp
  obtain ⟨k2, k3, k4, rfl, s2, s3, s4, rNext, rDoc, _⟩ := hh
  obtain ⟨a4, cap4, rfl⟩ := s4.form
  obtain ⟨a2, cap2, rfl, hm2, hx2⟩ := s2
  obtain ⟨a3, cap3, rfl, hm3, hx3⟩ := s3
  have hx2' : Hid _ := hx2
  have hx3' : Hid _ := hx3
  clear hx2 hx3 s4 rNext rDoc hm2 hm3 hp
  have hb2 : Below w.heap.size w ((w.alloc (.cells (List.toArray [.int .i64 h.vNext, .int .i64 h.vDoc, .slice a2 h.vNodes.length cap2, .slice a3 h.vObjs.length cap3, .slice a4 h.vGlobals.length cap4]) 34)).alloc (.cells #[] 2)) := ((Below.refl _ _).alloc (Nat.le_refl _) _).alloc (by simp) _
  have bH0 : Hid (Box ((w.alloc (.cells (List.toArray [.int .i64 h.vNext, .int .i64 h.vDoc, .slice a2 h.vNodes.length cap2, .slice a3 h.vObjs.length cap3, .slice a4 h.vGlobals.length cap4]) 34)).alloc (.cells #[] 2)) w.heap.size [.int .i64 h.vNext, .int .i64 h.vDoc, .slice a2 h.vNodes.length cap2, .slice a3 h.vObjs.length cap3, .slice a4 h.vGlobals.length cap4] 34) := (Box.new w [.int .i64 h.vNext, .int .i64 h.vDoc, .slice a2 h.vNodes.length cap2, .slice a3 h.vObjs.length cap3, .slice a4 h.vGlobals.length cap4] 34).alloc _
  have hr0 : Hid (((w.alloc (.cells (List.toArray [.int .i64 h.vNext, .int .i64 h.vDoc, .slice a2 h.vNodes.length cap2, .slice a3 h.vObjs.length cap3, .slice a4 h.vGlobals.length cap4]) 34)).alloc (.cells #[] 2)).ownsRow (w.heap.size + 1) 2 1 (.slice (some ⟨w.heap.size + 1, 0, none⟩) 0 0) 0 []) := by
    have q := row_start (w := (w.alloc (.cells (List.toArray [.int .i64 h.vNext, .int .i64 h.vDoc, .slice a2 h.vNodes.length cap2, .slice a3 h.vObjs.length cap3, .slice a4 h.vGlobals.length cap4]) 34))) (B := w.heap.size + 1) (by simp)
    simpa only [World.size_alloc, Hid] using q
  go_enter Tryz.func48, Tryz.ntmps48
  go_wp2_with fail
  go_loopw [3, 4] (fun v i wr => ∃ (j : Nat) (out : List Int), j ≤ h.vNodes.length ∧ i = .int .i64 j ∧ Hid (AllInv h out (j)) ∧ Hid (wr.ownsRow (w.heap.size + 1) 2 1 v out.length (out.map fun n => .int .i64 n)) ∧ Hid (∃ a cap, v = .slice a out.length cap) ∧ Hid (Box wr w.heap.size [.int .i64 h.vNext, .int .i64 h.vDoc, .slice a2 h.vNodes.length cap2, .slice a3 h.vObjs.length cap3, .slice a4 h.vGlobals.length cap4] 34) ∧ Below w.heap.size w wr) (fun _ i _ => h.vNodes.length - (intOf i).toNat)
  case atStart => exact ⟨0, [], by omega, rfl, AllInv.start h, hr0, ⟨_, _, rfl⟩, bH0, hb2⟩
  case round =>
    clear hr0 bH0 hb2
    obtain ⟨j, out, hj, rfl, hinv, hown, hform, bHr, hbr⟩ := hrel
    obtain ⟨gv, capv, rfl⟩ := hform.out
    clear hform
    have hzr : w.heap.size + 1 ≤ wr.heap.size := bHr.out.lt
    have c2 := bHr.out.cell 2 rfl
    by_cases hlt : j < h.vNodes.length
    · obtain ⟨bf, offf, rfl, hlof, hbwf, hcf⟩ := hx2'.out (by omega)
      obtain ⟨csf, hclf, lief, hrf⟩ := hcf j hlt
      have lief1 := Lie.keep (lo := lo) (lo' := lo) lief (.of_below hbr) hlof hbwf
      obtain ⟨hj', hid⟩ := idsU_node hlt
      obtain ⟨hno, hinv2⟩ := hinv.out.step hnd.out hj'
      rw [hid] at hno hinv2
      have hno' : Hid (hasB out h.vNodes[j].vId = false) := hno
      have hinv' : Hid (AllInv h (insR out h.vNodes[j].vId) (j + 1)) := hinv2
      generalize hF : h.vNodes[j] = Fd at hrf hno' hinv'
      obtain ⟨_, _, rfl, _⟩ := hrf
      have y0 := lie_at lief1 0 rfl
      simp only [Nat.add_zero] at y0
      have hol : out.length ≤ 2097152 := by have := hinv.out.2.2; omega
      have hIo : Hid (∀ x ∈ out, InI x) := fun x hx => hin.out x (mem_idsD.2 (List.mem_of_mem_take ((hinv.out.2.1 x).1 hx)))
      have hsq : Hid (SeqAt 1 IntAt wr 0 (.slice gv out.length capv) out) := row_seq hown.out hIo.out
      have hlt' : (j : Int) < (h.vNodes.length : Int) := by omega
      clear hF lief lief1 hclf hcf hid hno hinv2
      go_wp2_with fail
      refine (l5Put_any hsq.out (by have := hinv.out.2.2; omega) hno'.out).mono ?_
      rintro e w2 ⟨⟨g2, cap2', rfl, hown2⟩, hb2⟩
      have hbr2 : Below w.heap.size w w2 := hbr.trans (hb2.mono hbr.size)
      have bH2 : Hid _ := bHr.out.below hb2 (by omega)
      have hr2 : Hid (w2.ownsRow (w.heap.size + 1) 2 1 (.slice (some ⟨g2, 0, none⟩) (out.length + 1) cap2') (insR out Fd.vId).length ((insR out Fd.vId).map fun n => .int .i64 n)) := by rw [insR_len]; exact World.ownsRow.mono hown2 (by omega)
      clear hown2 hb2
      go_wp2_with fail
      go_roundw
      case rel => exact ⟨j + 1, insR out Fd.vId, by omega, by go_num, by have q := hinv'.out; first | exact q | (rw [Nat.add_assoc] at q; exact q), hr2, ⟨_, _, by rw [insR_len]⟩, bH2, hbr2⟩
      case measure => simp [intOf]; omega
    obtain rfl : j = h.vNodes.length := by omega
    go_wp2_with fail
    go_loopw [3, 5] (fun v i wr => ∃ (j : Nat) (out : List Int), j ≤ h.vObjs.length ∧ i = .int .i64 j ∧ Hid (AllInv h out (h.vNodes.length + j)) ∧ Hid (wr.ownsRow (w.heap.size + 1) 2 1 v out.length (out.map fun n => .int .i64 n)) ∧ Hid (∃ a cap, v = .slice a out.length cap) ∧ Hid (Box wr w.heap.size [.int .i64 h.vNext, .int .i64 h.vDoc, .slice a2 h.vNodes.length cap2, .slice a3 h.vObjs.length cap3, .slice a4 h.vGlobals.length cap4] 34) ∧ Below w.heap.size w wr) (fun _ i _ => h.vObjs.length - (intOf i).toNat)
    case atStart => exact ⟨0, out, by omega, rfl, hinv, hown, ⟨_, _, rfl⟩, bHr, hbr⟩
    case round =>
      clear hinv hown bHr hbr hzr
      obtain ⟨j, out, hj, rfl, hinv, hown, hform, bHr, hbr⟩ := hrel
      obtain ⟨gv, capv, rfl⟩ := hform.out
      clear hform
      have hzr : w.heap.size + 1 ≤ wr.heap.size := bHr.out.lt
      have c3 := bHr.out.cell 3 rfl
      by_cases hlt : j < h.vObjs.length
      · obtain ⟨bf, offf, rfl, hlof, hbwf, hcf⟩ := hx3'.out (by omega)
        obtain ⟨csf, hclf, lief, hrf⟩ := hcf j hlt
        have lief1 := Lie.keep (lo := lo) (lo' := lo) lief (.of_below hbr) hlof hbwf
        obtain ⟨hj', hid⟩ := idsU_obj hlt
        obtain ⟨hno, hinv2⟩ := hinv.out.step hnd.out hj'
        rw [hid] at hno hinv2
        have hno' : Hid (hasB out h.vObjs[j].vId = false) := hno
        have hinv' : Hid (AllInv h (insR out h.vObjs[j].vId) (h.vNodes.length + j + 1)) := hinv2
        generalize hF : h.vObjs[j] = Fd at hrf hno' hinv'
        obtain ⟨_, rfl, _⟩ := hrf
        have y0 := lie_at lief1 0 rfl
        simp only [Nat.add_zero] at y0
        have hol : out.length ≤ 2097152 := by have := hinv.out.2.2; omega
        have hIo : Hid (∀ x ∈ out, InI x) := fun x hx => hin.out x (mem_idsD.2 (List.mem_of_mem_take ((hinv.out.2.1 x).1 hx)))
        have hsq : Hid (SeqAt 1 IntAt wr 0 (.slice gv out.length capv) out) := row_seq hown.out hIo.out
        have hlt' : (j : Int) < (h.vObjs.length : Int) := by omega
        clear hF lief lief1 hclf hcf hid hno hinv2
        go_wp2_with fail
        refine (l5Put_any hsq.out (by have := hinv.out.2.2; omega) hno'.out).mono ?_
        rintro e w2 ⟨⟨g2, cap2', rfl, hown2⟩, hb2⟩
        have hbr2 : Below w.heap.size w w2 := hbr.trans (hb2.mono hbr.size)
        have bH2 : Hid _ := bHr.out.below hb2 (by omega)
        have hr2 : Hid (w2.ownsRow (w.heap.size + 1) 2 1 (.slice (some ⟨g2, 0, none⟩) (out.length + 1) cap2') (insR out Fd.vId).length ((insR out Fd.vId).map fun n => .int .i64 n)) := by rw [insR_len]; exact World.ownsRow.mono hown2 (by omega)
        clear hown2 hb2
        go_wp2_with fail
        go_roundw
        case rel => exact ⟨j + 1, insR out Fd.vId, by omega, by go_num, by have q := hinv'.out; first | exact q | (rw [Nat.add_assoc] at q; exact q), hr2, ⟨_, _, by rw [insR_len]⟩, bH2, hbr2⟩
        case measure => simp [intOf]; omega
      obtain rfl : j = h.vObjs.length := by omega
      have HD : Hid (out = idsD h) := AllInv.done hnd.out (by have q := hinv.out; have e : (idsU h).length = h.vNodes.length + h.vObjs.length := by simp [idsU]
                                                              rw [e]; exact q)
      have hown9 : Hid (wr.ownsRow (w.heap.size + 1) 2 1 (.slice gv out.length capv) out.length (out.map fun n => .int .i64 n)) := hown
      clear hinv hown
      go_wp2_with fail
      go_ret
      exact ⟨⟨_, rfl, by have q := hown9.out; rw [HD.out] at q ⊢; exact World.ownsRow.mono q (by omega)⟩, hbr⟩
set_option maxRecDepth 100000 in
set_option maxHeartbeats 2000000 in
theorem l5Count_any {w : World} {lo : Nat} {k : Value} {xs : List Int} {id : Int} (hk : SeqAt 1 IntAt w lo k xs) (hl : xs.length ≤ 1099511627) :
    Calls Tryz.prog 50 #[k, .int .i64 id] w fun e w' => e = .returned (.int .i64 (cntE xs id : Nat)) ∧ w' = w := by
  obtain ⟨a, cap, rfl, hm, hx⟩ := hk
  have hx' : Hid _ := hx
  clear hx hm
  go_enter Tryz.func50, Tryz.ntmps50
  go_wp2_with fail
  go_loop [5, 6] (fun n i => ∃ (j : Nat), j ≤ xs.length ∧ i = .int .i64 j ∧ n = .int .i64 (cntE (xs.take j) id : Nat)) (fun _ i => xs.length - (intOf i).toNat)
  case atStart => exact ⟨0, by omega, rfl, by simp [cntE]⟩
  case round =>
    obtain ⟨j, hj, rfl, rfl⟩ := hrel
    have hC1 : Hid (cntE (xs.take j) id ≤ j) := by show _ ≤ _; have := cntE_le (xs.take j) id; rw [List.length_take] at this; omega
    by_cases hlt : j < xs.length
    · obtain ⟨b, off, rfl, hlo, hbw, hc⟩ := hx'.out (by omega)
      obtain ⟨cs, hcl, lie, hr⟩ := hc j hlt
      have hstep : Hid (cntE (xs.take (j + 1)) id = cntE (xs.take j) id + if xs[j] = id then 1 else 0) := by show _ = _; rw [List.take_succ_eq_append_getElem hlt, cntE_append, cntE_one]
      generalize xs[j] = X at hr hstep
      generalize hG : cntE (xs.take j) id = G at hstep hC1
      have hGj : G ≤ j := hC1.out
      obtain ⟨rfl, hI2⟩ := hr
      have z0 := lie 0 (by simp)
      simp only [List.getElem?_cons_zero, Nat.add_zero, Nat.mul_one] at z0
      have hlt' : (j : Int) < (xs.length : Int) := by omega
      clear lie hcl hx' hc hG hC1
      by_cases he : X = id
      · rw [if_pos he] at hstep
        have he' : (X == id) = true := by simpa using he
        go_wp2_with fail
        go_round
        case rel => exact ⟨j + 1, by omega, by go_num, by rw [hstep.out]; go_num⟩
        case measure => simp [intOf]; omega
      · rw [if_neg he] at hstep
        have he' : (X == id) = false := by simpa using he
        go_wp2_with fail
        go_round
        case rel => exact ⟨j + 1, by omega, by go_num, by rw [hstep.out]; rfl⟩
        case measure => simp [intOf]; omega
    obtain rfl : j = xs.length := by omega
    go_wp2_with fail
    go_ret
    exact ⟨rfl, rfl⟩
def arrV (xs : List Int) : List Value := xs.map fun n => .int .i64 n
def plC (Ts : List ThD) (ks : List Int) (p : Nat) : Nat := (ks.filter fun k => decide ((thOf Ts k).pl = (p : Int))).length
def wArr (Ts : List ThD) (ks : List Int) : List Int := (List.range 32).map fun p => ((plC Ts ks p : Nat) : Int)
theorem wArr_len (Ts : List ThD) (ks : List Int) : (wArr Ts ks).length = 32 := by simp [wArr]
theorem wArr_get (Ts : List ThD) (ks : List Int) {p : Nat} (hp : p < 32) : (wArr Ts ks)[p]? = some ((plC Ts ks p : Nat) : Int) := by simp [wArr, hp]
theorem plC_le (Ts : List ThD) (ks : List Int) (p : Nat) : plC Ts ks p ≤ ks.length := List.length_filter_le _ _
theorem wArr_snoc {Ts : List ThD} {ks : List Int} {k : Int} {q : Nat} (hq : (thOf Ts k).pl = (q : Int)) (hq32 : q < 32) : wArr Ts (ks ++ [k]) = (wArr Ts ks).set q (((plC Ts ks q : Nat) : Int) + 1) := by
  refine List.ext_getElem? fun i => ?_
  rw [List.getElem?_set, wArr_len]
  by_cases hi : i < 32
  · rw [wArr_get _ _ hi]
    by_cases e : q = i
    · subst e
      rw [if_pos rfl, if_pos hi]
      simp [plC, List.filter_append, hq]
    · rw [if_neg e, wArr_get _ _ hi]
      have : ¬ ((q : Int) = (i : Int)) := by omega
      simp [plC, List.filter_append, hq, this]
  · rw [List.getElem?_eq_none (by rw [wArr_len]; omega), if_neg (by omega), List.getElem?_eq_none (by rw [wArr_len]; omega)]
theorem wArr_nil (Ts : List ThD) : arrV (wArr Ts []) = (List.replicate 32 (Value.int .i64 0)) := by
  have : wArr Ts [] = List.replicate 32 0 := by simp [wArr, plC]; decide
  rw [this]; rfl
theorem arrV_set (xs : List Int) (q : Nat) (x : Int) : (arrV xs).set q (.int .i64 x) = arrV (xs.set q x) := by simp [arrV, List.map_set]
theorem infoArr : ((Tryz.prog.info? 131).map fun i => i.size) = some 32 := by kernel_rfl
theorem Box.range {w : World} {g : Nat} {cs : List Value} {T : TypeId} (h : Box w g cs T) : w.rangeAt g 0 cs := fun j v hv => by rw [Nat.zero_add]; exact h.cell j hv
theorem Box.there {w : World} {g n : Nat} {cs : List Value} {T : TypeId} (h : Box w g cs T) (hn : cs.length = n) : w.there g 0 n := fun j hj => by
  rw [Nat.zero_add]
  exact ⟨by rw [h.cell j (List.getElem?_eq_getElem (by omega))]; rfl, h.unfrozen j⟩
theorem Below.setCells_own {B g : Nat} {w : World} (hg : B ≤ g) : ∀ (vs : List Value) (o : Nat) (wr : World), Below B w wr → Below B w (wr.setCells g o vs)
  | [], _, _, h => h
  | v :: vs, o, wr, h => Below.setCells_own hg vs (o + 1) _ (h.setCell (by exact hg) v)
set_option maxRecDepth 100000 in
set_option maxHeartbeats 4000000 in
theorem countsWithin_any {w : World} {K : Nat → Prop} {base base' : Nat} {o : ThD} {Ts ps : List ThD} {acc : List (Int × Int)} {v : Value} (hG : GSt K base w o Ts acc) (hin : ∀ t ∈ Ts, ∀ k ∈ holdsC acc t.id, (getI ThD.id Ts k).isSome = true) (hpl : ∀ u ∈ Ts, ∃ q : Nat, u.pl = (q : Int) ∧ q < 32) (hacc : acc.length ≤ 1099511627)
    (hrow : w.ownsRow base' 61 1 v ps.length (ps.map fun t => Value.pointer (some ⟨t.blk, 0, none⟩))) (hps : ∀ t ∈ ps, t ∈ Ts) (hl : ps.length ≤ 32) :
    Calls Tryz.prog 99 #[v] w fun e w' => e = .returned (.agg (arrV (wArr Ts (ps.flatMap fun t => holdsC acc t.id))).toArray) ∧ Below w.heap.size w w' := by
  obtain ⟨S, hS⟩ := hG
  obtain ⟨av, cv, rfl⟩ := own_forms hrow
  have hrow' : Hid (w.ownsRow base' 61 1 (.slice av ps.length cv) ps.length (ps.map fun t => Value.pointer (some ⟨t.blk, 0, none⟩))) := hrow
  have hS' : Hid _ := hS
  have hin' : Hid _ := hin
  have hpl' : Hid (∀ u ∈ Ts, ∃ q : Nat, u.pl = (q : Int) ∧ q < 32) := hpl
  have hps' : Hid (∀ t ∈ ps, t ∈ Ts) := hps
  clear hrow hS hin hpl hps
  have bR0 : Hid (Box ((w.alloc (.cells (List.toArray (List.replicate 32 (Value.int .i64 0))) 131)).alloc (.cells (List.toArray (List.replicate 32 (Value.int .i64 0))) 131)) w.heap.size (List.replicate 32 (Value.int .i64 0)) 131) := (Box.new w (List.replicate 32 (Value.int .i64 0)) 131).alloc _
  have bW0 : Hid (Box ((w.alloc (.cells (List.toArray (List.replicate 32 (Value.int .i64 0))) 131)).alloc (.cells (List.toArray (List.replicate 32 (Value.int .i64 0))) 131)) (w.heap.size + 1) (List.replicate 32 (Value.int .i64 0)) 131) := by
    have q := Box.new (w.alloc (.cells (List.toArray (List.replicate 32 (Value.int .i64 0))) 131)) (List.replicate 32 (Value.int .i64 0)) 131
    rw [World.size_alloc] at q
    exact q
  have hB0 : Below w.heap.size w ((w.alloc (.cells (List.toArray (List.replicate 32 (Value.int .i64 0))) 131)).alloc (.cells (List.toArray (List.replicate 32 (Value.int .i64 0))) 131)) := ((Below.refl _ _).alloc (Nat.le_refl _) _).alloc (by simp) _
  go_enter Tryz.func99, Tryz.ntmps99
  go_wp2_with fail
  go_loopw [10] (fun i wr => ∃ (j : Nat), j ≤ ps.length ∧ i = .int .i64 j ∧ Hid (Box wr w.heap.size (List.replicate 32 (Value.int .i64 0)) 131) ∧ Hid (Box wr (w.heap.size + 1) (arrV (wArr Ts ((ps.take j).flatMap fun t => holdsC acc t.id))) 131) ∧ Below w.heap.size w wr) (fun i _ => ps.length - (intOf i).toNat)
  case atStart => exact ⟨0, by omega, rfl, bR0, by rw [List.take_zero]; show Box _ _ (arrV (wArr Ts [])) _; rw [wArr_nil]; exact bW0.out, hB0⟩
  case round =>
    clear bR0 bW0 hB0
    obtain ⟨j, hj, rfl, bR, bW, hb⟩ := hrel
    have hz := hb.size
    have hzr : w.heap.size + 1 < wr.heap.size := bW.out.lt
    by_cases hlt : j < ps.length
    · obtain ⟨g, rfl, z0⟩ := row_get hrow'.out hlt (x := .pointer (some ⟨ps[j].blk, 0, none⟩)) (by simp [hlt])
      have z0 := cell_on hb z0
      have hQT : Hid (ps[j] ∈ Ts) := hps'.out _ (List.getElem_mem hlt)
      obtain ⟨hq1, hq2, _⟩ := hS'.out.1 ps[j] (List.mem_cons_of_mem _ hQT.out)
      have z2 := cell_on hb (hq1.cell 2 rfl)
      have hstep : Hid ((ps.take (j + 1)).flatMap (fun t => holdsC acc t.id) = (ps.take j).flatMap (fun t => holdsC acc t.id) ++ holdsC acc ps[j].id) := by
        show _ = _
        rw [List.take_succ_eq_append_getElem hlt, List.flatMap_append]
        simp
      have hkin : Hid (∀ k ∈ holdsC acc ps[j].id, (getI ThD.id Ts k).isSome = true) := hin'.out _ hQT.out
      have hfl : Hid (((ps.take j).flatMap fun t => holdsC acc t.id).length ≤ 35184372064) := by
        show _ ≤ _
        have h1 := flat_len (f := fun t : ThD => holdsC acc t.id) (B := 1099511627) (ps.take j) (fun t _ => Nat.le_trans (holdsC_len acc t.id) hacc)
        have h2 : (ps.take j).length ≤ 32 := by rw [List.length_take]; omega
        have h3 : (ps.take j).length * 1099511627 ≤ 32 * 1099511627 := Nat.mul_le_mul_right _ h2
        omega
      have hHl : Hid ((holdsC acc ps[j].id).length ≤ 1099511627) := Nat.le_trans (holdsC_len acc _) hacc
      generalize hQ : ps[j] = Q at z0 z2 hstep hq2 hkin hHl
      generalize hF : ((ps.take j).flatMap fun t => holdsC acc t.id) = F at bW hstep hfl
      obtain ⟨aS, capS, hform⟩ := own_forms hq2
      rw [hform] at z2 hq2
      have hq2' : Hid (w.ownsRow base 61 1 (.slice aS (holdsC acc Q.id).length capS) (holdsC acc Q.id).length ((holdsC acc Q.id).map (ptrOf Ts))) := hq2
      generalize hHH : holdsC acc Q.id = H at z2 hstep hq2' hkin hHl
      have hFl : F.length ≤ 35184372064 := hfl.out
      have hHl' : H.length ≤ 1099511627 := hHl.out
      clear hQ hF hHH hform hq2 hq1 hfl hHl
      go_wp2_with fail
      go_loopw [19] (fun i wr => ∃ (m : Nat), m ≤ H.length ∧ i = .int .i64 m ∧ Hid (Box wr w.heap.size (List.replicate 32 (Value.int .i64 0)) 131) ∧ Hid (Box wr (w.heap.size + 1) (arrV (wArr Ts (F ++ H.take m))) 131) ∧ Below w.heap.size w wr) (fun i _ => H.length - (intOf i).toNat)
      case atStart => exact ⟨0, by omega, rfl, bR, by rw [List.take_zero, List.append_nil]; exact bW, hb⟩
      case round =>
        clear bR bW hb hz hzr z0 z2
        obtain ⟨m, hm, rfl, bR, bW, hb⟩ := hrel
        have hz := hb.size
        have hzr : w.heap.size + 1 < wr.heap.size := bW.out.lt
        by_cases hlm : m < H.length
        · have hks := hkin.out H[m] (List.getElem_mem hlm)
          obtain ⟨u1, u2, u3⟩ := thOf_is hks
          obtain ⟨g', rfl, y0⟩ := row_get hq2'.out hlm (x := .pointer (some ⟨(thOf Ts H[m]).blk, 0, none⟩)) (by rw [List.getElem?_map, List.getElem?_eq_getElem hlm, Option.map_some, u3])
          have y0 := cell_on hb y0
          obtain ⟨q, hq, hq32⟩ := hpl'.out _ u1
          obtain ⟨hv1, _⟩ := hS'.out.1 (thOf Ts H[m]) (List.mem_cons_of_mem _ u1)
          have y1 := cell_on hb (hv1.cell 1 rfl)
          rw [hq] at y1
          have hst : Hid (wArr Ts (F ++ H.take (m + 1)) = (wArr Ts (F ++ H.take m)).set q (((plC Ts (F ++ H.take m) q : Nat) : Int) + 1)) := by
            show _ = _
            rw [List.take_succ_eq_append_getElem hlm, ← List.append_assoc, wArr_snoc hq hq32]
          have y2 : wr.cell? ⟨w.heap.size + 1, q, none⟩ = some (.int .i64 ((plC Ts (F ++ H.take m) q : Nat) : Int)) := bW.out.cell q (by unfold arrV; rw [List.getElem?_map, wArr_get _ _ hq32]; rfl)
          have uf := bW.out.unfrozen q
          have hpc : plC Ts (F ++ H.take m) q ≤ 36283883691 := by
            have := plC_le Ts (F ++ H.take m) q
            rw [List.length_append, List.length_take] at this
            omega
          generalize hTh : thOf Ts H[m] = U at y0 y1
          generalize hPC : plC Ts (F ++ H.take m) q = PC at y2 hst hpc
          have bW2 : Hid (Box (wr.setCell ⟨w.heap.size + 1, q, none⟩ (.int .i64 ((PC : Int) + 1))) (w.heap.size + 1) (arrV (wArr Ts (F ++ H.take (m + 1)))) 131) := by
            rw [hst.out, ← arrV_set]
            exact bW.out.set _
          have bR2 : Hid (Box (wr.setCell ⟨w.heap.size + 1, q, none⟩ (.int .i64 ((PC : Int) + 1))) w.heap.size (List.replicate 32 (Value.int .i64 0)) 131) := bR.out.other (by omega) _
          have hb2 : Below w.heap.size w (wr.setCell ⟨w.heap.size + 1, q, none⟩ (.int .i64 ((PC : Int) + 1))) := hb.setCell (by simp) _
          have hq0 : (0 : Int) ≤ (q : Int) := by omega
          have hq1 : (q : Int) < 32 := by omega
          clear hTh hPC hks u1 u2 u3 hq hv1 hst
          go_wp2_with fail
          go_roundw
          case rel => exact ⟨m + 1, by omega, by go_num, bR2, bW2, hb2⟩
          case measure => simp [intOf]; omega
        obtain rfl : m = H.length := by omega
        have bW3 : Hid (Box wr (w.heap.size + 1) (arrV (wArr Ts ((ps.take (j + 1)).flatMap fun t => holdsC acc t.id))) 131) := by
          have q := bW.out
          rw [List.take_length] at q
          show Box _ _ _ _
          rw [hstep.out]
          exact q
        go_wp2_with fail
        go_roundw
        case rel => exact ⟨j + 1, by omega, by go_num, bR, bW3, hb⟩
        case measure => simp [intOf]; omega
    obtain rfl : j = ps.length := by omega
    have bW3 : Hid (Box wr (w.heap.size + 1) (arrV (wArr Ts (ps.flatMap fun t => holdsC acc t.id))) 131) := by
      have q := bW.out
      rw [List.take_length] at q
      exact q
    generalize hA : wArr Ts (ps.flatMap fun t => holdsC acc t.id) = A at bW3
    have hA' : Hid (wArr Ts (ps.flatMap fun t => holdsC acc t.id) = A) := hA
    have hAl : A.length = 32 := by rw [← hA, wArr_len]
    have hAv : (arrV A).length = 32 := by simp [arrV, hAl]
    have hrg := bW3.out.range
    have hni : (Tryz.prog.info? 131).map (·.size) = some (arrV A).length := by rw [hAv]; exact infoArr
    have hnj : (Tryz.prog.info? 131).map (·.size) = some (arrV A).toArray.size := by rw [List.size_toArray, hAv]; exact infoArr
    have hone : ((arrV A).toArray).all (·.oneCell') = true := all_oneCell_toArray (fun v hv => by unfold arrV at hv; obtain ⟨x, _, rfl⟩ := List.mem_map.1 hv; rfl)
    have htj : wr.there w.heap.size 0 (arrV A).toArray.size := by rw [List.size_toArray]; exact bR.out.there (by simp [hAv])
    have hth : wr.there w.heap.size 0 (arrV A).length := bR.out.there (by simp [hAv])
    have hlr : Hid ((loadVar 131 ⟨w.heap.size, 0, none⟩).run Tryz.prog (wr.setCells w.heap.size 0 (arrV A)) = .ok (.agg (arrV A).toArray) (wr.setCells w.heap.size 0 (arrV A))) := run_loadVar_mid _ _ 0 131 (arrV A) _ (World.rangeAt_setCells_same _ _ _ _ hth) Tryz.underlying131 rfl (by rw [hAv]; exact infoArr)
    have hbe : Hid (Below w.heap.size w (wr.setCells w.heap.size 0 (arrV A))) := Below.setCells_own (Nat.le_refl _) (arrV A) 0 wr hb
    have hrg' : Hid _ := hrg
    have hni' : Hid _ := hni
    have hnj' : Hid _ := hnj
    have htj' : Hid _ := htj
    have hone' : Hid _ := hone
    clear hth hone hAv hAl hA bW bW3 bR hrg hni hnj htj
    go_wp2_with (first | (refine wpList_load_mid rfl 131 _ rfl (w.heap.size + 1) 0 rfl (arrV A) _ hrg'.out Tryz.underlying131 rfl hni'.out ?_) | (refine wpList_store_mid rfl 131 _ _ rfl w.heap.size 0 (arrV A).toArray rfl rfl htj'.out hnj'.out hone'.out ?_))
    refine bodyPost_ret (v := .agg (arrV A).toArray) (by simp [results, Tryz.results99, Act.put, asAddr, hlr.out]) rfl ?_
    exact ⟨by rw [hA'.out], hbe.out⟩
def ntB (ps : List ThD) (t : ThD) : Bool := !hasB (blks ps) (t.blk : Int)
def elB (Ts : List ThD) (acc : List (Int × Int)) (ks : List Int) (t : ThD) : Bool := decide (((plC Ts ks t.pl.toNat : Nat) : Int) < heldC acc t.id)
theorem filter_step {α : Type} (p : α → Bool) {xs : List α} {j : Nat} (hj : j < xs.length) : (xs.take (j + 1)).filter p = (xs.take j).filter p ++ if p xs[j] then [xs[j]] else [] := by
  rw [List.take_succ_eq_append_getElem hj, List.filter_append]
  congr 1
  by_cases h : p xs[j] = true
  · simp [h]
  · simp [h]
theorem filter_len {α : Type} (p : α → Bool) (xs : List α) (j : Nat) : ((xs.take j).filter p).length ≤ xs.length := by
  have h1 := List.length_filter_le p (xs.take j)
  rw [List.length_take] at h1
  omega
set_option maxRecDepth 100000 in
set_option maxHeartbeats 2000000 in
theorem notAmong_any {w : World} {b1 b2 : Nat} {v1 v2 : Value} {p1 p2 : List ThD} (h1 : w.ownsRow b1 61 1 v1 p1.length (p1.map fun t => Value.pointer (some ⟨t.blk, 0, none⟩))) (h2 : w.ownsRow b2 61 1 v2 p2.length (p2.map fun t => Value.pointer (some ⟨t.blk, 0, none⟩))) (hl1 : p1.length ≤ 1048576) (hl2 : p2.length ≤ 1048576) (ht1 : ∀ u ∈ p1, ThAt w u.blk) (ht2 : ∀ u ∈ p2, ThAt w u.blk) :
    Calls Tryz.prog 54 #[v1, v2] w fun e w' => (∃ v, e = .returned v ∧ w'.ownsRow w.heap.size 61 1 v (p2.filter (ntB p1)).length ((p2.filter (ntB p1)).map fun t => Value.pointer (some ⟨t.blk, 0, none⟩))) ∧ Below w.heap.size w w' := by
  obtain ⟨iP, hiP, heP⟩ := Option.map_eq_some_iff.1 infoPtr
  simp only [Prod.mk.injEq] at heP
  have hIP : Hid _ := hiP
  have hEP : Hid _ := heP
  clear hiP heP
  obtain ⟨a1, c1, rfl⟩ := own_forms h1
  obtain ⟨a2, c2, rfl⟩ := own_forms h2
  have h1' : Hid (w.ownsRow b1 61 1 (.slice a1 p1.length c1) p1.length (p1.map fun t => Value.pointer (some ⟨t.blk, 0, none⟩))) := h1
  have h2' : Hid (w.ownsRow b2 61 1 (.slice a2 p2.length c2) p2.length (p2.map fun t => Value.pointer (some ⟨t.blk, 0, none⟩))) := h2
  have ht1' : Hid (∀ u ∈ p1, ThAt w u.blk) := ht1
  have ht2' : Hid (∀ u ∈ p2, ThAt w u.blk) := ht2
  clear h1 h2 ht1 ht2
  go_enter Tryz.func54, Tryz.ntmps54
  go_wp2_with fail
  go_loopw [5, 10] (fun v i wr => ∃ (j : Nat), j ≤ p2.length ∧ i = .int .i64 j ∧ Hid (wr.ownsRow w.heap.size 61 1 v ((p2.take j).filter (ntB p1)).length (((p2.take j).filter (ntB p1)).map fun t => Value.pointer (some ⟨t.blk, 0, none⟩))) ∧ Hid (∃ a cap, v = .slice a ((p2.take j).filter (ntB p1)).length cap) ∧ Below w.heap.size w wr) (fun _ i _ => p2.length - (intOf i).toNat)
  case atStart => exact ⟨0, by omega, rfl, World.ownsRow_nil _ _ _ _, ⟨_, _, rfl⟩, Below.refl _ _⟩
  case round =>
    obtain ⟨j, hj, rfl, hown, hform, hb⟩ := hrel
    obtain ⟨a5, cap5, rfl⟩ := hform.out
    clear hform
    have hz := hb.size
    by_cases hlt : j < p2.length
    · obtain ⟨g, rfl, z0⟩ := row_get h2'.out hlt (x := .pointer (some ⟨p2[j].blk, 0, none⟩)) (by simp [hlt])
      have z0 := cell_on hb z0
      have hst : Hid ((p2.take (j + 1)).filter (ntB p1) = (p2.take j).filter (ntB p1) ++ if ntB p1 p2[j] then [p2[j]] else []) := filter_step _ hlt
      have hQ1 : Hid (ThAt wr p2[j].blk) := by obtain ⟨cc, q⟩ := ht2'.out _ (List.getElem_mem hlt); exact ⟨cc, (hb.block _ (Array.getElem?_eq_some_iff.1 q).1).trans q⟩
      have hT1 : Hid (∀ u ∈ p1, ThAt wr u.blk) := fun u hu => by obtain ⟨cc, q⟩ := ht1'.out u hu; exact ⟨cc, (hb.block _ (Array.getElem?_eq_some_iff.1 q).1).trans q⟩
      have hr1 : Hid (wr.ownsRow b1 61 1 (.slice a1 p1.length c1) p1.length (p1.map fun t => Value.pointer (some ⟨t.blk, 0, none⟩))) := own_below h1'.out hb
      have hfl : ((p2.take j).filter (ntB p1)).length ≤ 1048576 := by have := filter_len (ntB p1) p2 j; omega
      have hnb : Hid (ntB p1 p2[j] = !hasB (blks p1) (p2[j].blk : Int)) := rfl
      generalize hQ : p2[j] = Q at z0 hst hQ1 hnb
      generalize hF : (p2.take j).filter (ntB p1) = F at hst hfl hown
      obtain ⟨L, hL⟩ : ∃ L, (F.map fun t => Value.pointer (some ⟨t.blk, 0, none⟩)) = L := ⟨_, rfl⟩
      have hownL : Hid (wr.ownsRow w.heap.size 61 1 (.slice a5 F.length cap5) F.length L) := by rw [← hL]; exact hown
      have hL' : Hid _ := hL
      clear hQ hF hL hown
      go_wp2_with fail
      refine (slContainsP_any hr1.out hl1 hT1.out hQ1.out).mono ?_
      rintro e w1' ⟨rfl, hw1⟩
      rw [hw1]
      clear hw1 w1'
      cases hhas : hasB (blks p1) (Q.blk : Int)
      · rw [hhas] at hnb
        have hst2 : Hid ((p2.take (j + 1)).filter (ntB p1) = F ++ [Q]) := by show _ = _; rw [hst.out, hnb.out]; rfl
        clear hhas hst
        go_wp2_with (at_builtin; refine wpList_append_own _ rfl _ _ 59 rfl (w.heap.size) 61 iP (.pointer none) 1 8 Tryz.underlying59 hIP.out hEP.out.1 hEP.out.2.2 hEP.out.2.1 rfl (by decide) _ (F.length) (L) rfl (hownL.out.alloc _) ⟨wr.heap.size, 0, none⟩ 1 1 [.pointer (some ⟨Q.blk, 0, none⟩)] rfl rfl (by intro q u hq; match q, hq with | 0, hq => simp at hq; subst hq; simp [Addr.add]) (by simp [Value.oneCell']) (by unfold maxLen; omega) (by omega) (by simp; omega) ?_)
        intro v' w2 hown' hgrow _
        have hb3 : Below w.heap.size w w2 := (hb.alloc hz _).grown hgrow (by simp; omega) (own_block hownL.out)
        obtain ⟨av', capv', rfl⟩ := own_forms hown'
        have hown1 : Hid (w2.ownsRow w.heap.size 61 1 (.slice av' (F.length + 1) capv') (F.length + 1) (L ++ [.pointer (some ⟨Q.blk, 0, none⟩)])) := hown'
        clear hown' hgrow
        go_wp2_with fail
        go_roundw
        case rel => exact ⟨j + 1, by omega, by go_num, by rw [hst2.out, List.length_append, List.map_append, hL'.out]; exact hown1.out, by rw [hst2.out, List.length_append]; exact ⟨_, _, rfl⟩, hb3⟩
        case measure => simp [intOf]; omega
      · rw [hhas] at hnb
        have hst2 : Hid ((p2.take (j + 1)).filter (ntB p1) = F) := by show _ = _; rw [hst.out, hnb.out]; simp
        clear hhas hst
        go_wp2_with fail
        go_roundw
        case rel => exact ⟨j + 1, by omega, by go_num, by rw [hst2.out, hL'.out]; exact hownL.out, by rw [hst2.out]; exact ⟨_, _, rfl⟩, hb⟩
        case measure => simp [intOf]; omega
    obtain rfl : j = p2.length := by omega
    have hown2 : Hid (wr.ownsRow w.heap.size 61 1 (.slice a5 ((p2.take p2.length).filter (ntB p1)).length cap5) (p2.filter (ntB p1)).length ((p2.filter (ntB p1)).map fun t => Value.pointer (some ⟨t.blk, 0, none⟩))) := by have q := hown.out; rw [List.take_length] at q ⊢; exact q
    clear hown
    go_wp2_with fail
    go_ret
    exact ⟨⟨_, rfl, hown2.out⟩, hb⟩
theorem setCells_size : ∀ (vs : List Value) (g o : Nat) (w : World), (w.setCells g o vs).heap.size = w.heap.size
  | [], _, _, _ => rfl
  | v :: vs, g, o, w => (setCells_size vs g (o + 1) _).trans (by simp [World.setCell])
set_option maxRecDepth 100000 in
set_option maxHeartbeats 4000000 in
theorem heldFromElsewhere_any {w : World} {K : Nat → Prop} {base base' : Nat} {o : ThD} {Ts ps : List ThD} {acc : List (Int × Int)} {v : Value} (hG : GSt K base w o Ts acc) (hin : ∀ t ∈ Ts, ∀ k ∈ holdsC acc t.id, (getI ThD.id Ts k).isSome = true) (hpl : ∀ u ∈ Ts, ∃ q : Nat, u.pl = (q : Int) ∧ q < 32) (hacc : acc.length ≤ 1099511627)
    (hrow : w.ownsRow base' 61 1 v ps.length (ps.map fun t => Value.pointer (some ⟨t.blk, 0, none⟩))) (hps : ∀ t ∈ ps, t ∈ Ts) (hl : ps.length ≤ 32) :
    Calls Tryz.prog 62 #[v] w fun e w' => (∃ v', e = .returned v' ∧ w'.ownsRow w.heap.size 61 1 v' (ps.filter (elB Ts acc (ps.flatMap fun t => holdsC acc t.id))).length ((ps.filter (elB Ts acc (ps.flatMap fun t => holdsC acc t.id))).map fun t => Value.pointer (some ⟨t.blk, 0, none⟩))) ∧ Below w.heap.size w w' := by
  obtain ⟨iP, hiP, heP⟩ := Option.map_eq_some_iff.1 infoPtr
  simp only [Prod.mk.injEq] at heP
  have hIP : Hid _ := hiP
  have hEP : Hid _ := heP
  clear hiP heP
  have hcw : Hid (Calls Tryz.prog 99 #[v] w fun e w' => e = .returned (.agg (arrV (wArr Ts (ps.flatMap fun t => holdsC acc t.id))).toArray) ∧ Below w.heap.size w w') := countsWithin_any hG hin hpl hacc hrow hps hl
  obtain ⟨S, hS⟩ := hG
  obtain ⟨av, cv, rfl⟩ := own_forms hrow
  have hrow' : Hid (w.ownsRow base' 61 1 (.slice av ps.length cv) ps.length (ps.map fun t => Value.pointer (some ⟨t.blk, 0, none⟩))) := hrow
  have hS' : Hid _ := hS
  have hpl' : Hid (∀ u ∈ Ts, ∃ q : Nat, u.pl = (q : Int) ∧ q < 32) := hpl
  have hps' : Hid (∀ t ∈ ps, t ∈ Ts) := hps
  generalize hFK : (ps.flatMap fun t => holdsC acc t.id) = FK at hcw
  have hA0 : Hid (∀ q, q < 32 → (wArr Ts FK)[q]? = some ((plC Ts FK q : Nat) : Int)) := fun q hq => wArr_get _ _ hq
  have hAl : (wArr Ts FK).length = 32 := wArr_len _ _
  generalize hA : wArr Ts FK = A at hcw hA0 hAl
  have hAv : (arrV A).length = 32 := by simp [arrV, hAl]
  have hone : ((arrV A).toArray).all (·.oneCell') = true := all_oneCell_toArray (fun v hv => by unfold arrV at hv; obtain ⟨x, _, rfl⟩ := List.mem_map.1 hv; rfl)
  have hone' : Hid _ := hone
  have hnj : Hid ((Tryz.prog.info? 131).map (·.size) = some (arrV A).toArray.size) := by show _ = _; rw [List.size_toArray, hAv]; exact infoArr
  clear hrow hS hin hpl hps hFK hA hone hAl
  go_enter Tryz.func62, Tryz.ntmps62
  go_wp2_with fail
  refine Calls.mono hcw.out ?_
  rintro e w1 ⟨rfl, hb1⟩
  have bZ : Box (w1.alloc (.cells #[.int .i64 0, .int .i64 0, .int .i64 0, .int .i64 0, .int .i64 0, .int .i64 0, .int .i64 0, .int .i64 0, .int .i64 0, .int .i64 0, .int .i64 0, .int .i64 0, .int .i64 0, .int .i64 0, .int .i64 0, .int .i64 0, .int .i64 0, .int .i64 0, .int .i64 0, .int .i64 0, .int .i64 0, .int .i64 0, .int .i64 0, .int .i64 0, .int .i64 0, .int .i64 0, .int .i64 0, .int .i64 0, .int .i64 0, .int .i64 0, .int .i64 0, .int .i64 0] 131)) w1.heap.size (List.replicate 32 (Value.int .i64 0)) 131 := Box.new w1 (List.replicate 32 (Value.int .i64 0)) 131
  have htj : Hid ((w1.alloc (.cells #[.int .i64 0, .int .i64 0, .int .i64 0, .int .i64 0, .int .i64 0, .int .i64 0, .int .i64 0, .int .i64 0, .int .i64 0, .int .i64 0, .int .i64 0, .int .i64 0, .int .i64 0, .int .i64 0, .int .i64 0, .int .i64 0, .int .i64 0, .int .i64 0, .int .i64 0, .int .i64 0, .int .i64 0, .int .i64 0, .int .i64 0, .int .i64 0, .int .i64 0, .int .i64 0, .int .i64 0, .int .i64 0, .int .i64 0, .int .i64 0, .int .i64 0, .int .i64 0] 131)).there w1.heap.size 0 (arrV A).toArray.size) := by rw [List.size_toArray]; exact bZ.there (by simp [hAv])
  have htk : (w1.alloc (.cells #[.int .i64 0, .int .i64 0, .int .i64 0, .int .i64 0, .int .i64 0, .int .i64 0, .int .i64 0, .int .i64 0, .int .i64 0, .int .i64 0, .int .i64 0, .int .i64 0, .int .i64 0, .int .i64 0, .int .i64 0, .int .i64 0, .int .i64 0, .int .i64 0, .int .i64 0, .int .i64 0, .int .i64 0, .int .i64 0, .int .i64 0, .int .i64 0, .int .i64 0, .int .i64 0, .int .i64 0, .int .i64 0, .int .i64 0, .int .i64 0, .int .i64 0, .int .i64 0] 131)).there w1.heap.size 0 (arrV A).length := bZ.there (by simp [hAv])
  have hrg : Hid (((w1.alloc (.cells #[.int .i64 0, .int .i64 0, .int .i64 0, .int .i64 0, .int .i64 0, .int .i64 0, .int .i64 0, .int .i64 0, .int .i64 0, .int .i64 0, .int .i64 0, .int .i64 0, .int .i64 0, .int .i64 0, .int .i64 0, .int .i64 0, .int .i64 0, .int .i64 0, .int .i64 0, .int .i64 0, .int .i64 0, .int .i64 0, .int .i64 0, .int .i64 0, .int .i64 0, .int .i64 0, .int .i64 0, .int .i64 0, .int .i64 0, .int .i64 0, .int .i64 0, .int .i64 0] 131)).setCells w1.heap.size 0 (arrV A)).rangeAt w1.heap.size 0 (arrV A)) := World.rangeAt_setCells_same _ _ _ _ htk
  have hbA : Below w.heap.size w (w1.alloc (.cells #[.int .i64 0, .int .i64 0, .int .i64 0, .int .i64 0, .int .i64 0, .int .i64 0, .int .i64 0, .int .i64 0, .int .i64 0, .int .i64 0, .int .i64 0, .int .i64 0, .int .i64 0, .int .i64 0, .int .i64 0, .int .i64 0, .int .i64 0, .int .i64 0, .int .i64 0, .int .i64 0, .int .i64 0, .int .i64 0, .int .i64 0, .int .i64 0, .int .i64 0, .int .i64 0, .int .i64 0, .int .i64 0, .int .i64 0, .int .i64 0, .int .i64 0, .int .i64 0] 131)) := hb1.alloc hb1.size _
  have hb2 : Hid (Below w.heap.size w ((w1.alloc (.cells #[.int .i64 0, .int .i64 0, .int .i64 0, .int .i64 0, .int .i64 0, .int .i64 0, .int .i64 0, .int .i64 0, .int .i64 0, .int .i64 0, .int .i64 0, .int .i64 0, .int .i64 0, .int .i64 0, .int .i64 0, .int .i64 0, .int .i64 0, .int .i64 0, .int .i64 0, .int .i64 0, .int .i64 0, .int .i64 0, .int .i64 0, .int .i64 0, .int .i64 0, .int .i64 0, .int .i64 0, .int .i64 0, .int .i64 0, .int .i64 0, .int .i64 0, .int .i64 0] 131)).setCells w1.heap.size 0 (arrV A))) := Below.setCells_own (by exact hb1.size) (arrV A) 0 _ hbA
  have hsz : Hid (((w1.alloc (.cells #[.int .i64 0, .int .i64 0, .int .i64 0, .int .i64 0, .int .i64 0, .int .i64 0, .int .i64 0, .int .i64 0, .int .i64 0, .int .i64 0, .int .i64 0, .int .i64 0, .int .i64 0, .int .i64 0, .int .i64 0, .int .i64 0, .int .i64 0, .int .i64 0, .int .i64 0, .int .i64 0, .int .i64 0, .int .i64 0, .int .i64 0, .int .i64 0, .int .i64 0, .int .i64 0, .int .i64 0, .int .i64 0, .int .i64 0, .int .i64 0, .int .i64 0, .int .i64 0] 131)).setCells w1.heap.size 0 (arrV A)).heap.size = w1.heap.size + 1) := by
    show _ = _
    have q := (Below.setCells_own (B := w1.heap.size) (g := w1.heap.size) (w := (w1.alloc (.cells #[.int .i64 0, .int .i64 0, .int .i64 0, .int .i64 0, .int .i64 0, .int .i64 0, .int .i64 0, .int .i64 0, .int .i64 0, .int .i64 0, .int .i64 0, .int .i64 0, .int .i64 0, .int .i64 0, .int .i64 0, .int .i64 0, .int .i64 0, .int .i64 0, .int .i64 0, .int .i64 0, .int .i64 0, .int .i64 0, .int .i64 0, .int .i64 0, .int .i64 0, .int .i64 0, .int .i64 0, .int .i64 0, .int .i64 0, .int .i64 0, .int .i64 0, .int .i64 0] 131))) (Nat.le_refl _) (arrV A) 0 _ (Below.refl _ _)).size
    have r := setCells_size (arrV A) w1.heap.size 0 (w1.alloc (.cells #[.int .i64 0, .int .i64 0, .int .i64 0, .int .i64 0, .int .i64 0, .int .i64 0, .int .i64 0, .int .i64 0, .int .i64 0, .int .i64 0, .int .i64 0, .int .i64 0, .int .i64 0, .int .i64 0, .int .i64 0, .int .i64 0, .int .i64 0, .int .i64 0, .int .i64 0, .int .i64 0, .int .i64 0, .int .i64 0, .int .i64 0, .int .i64 0, .int .i64 0, .int .i64 0, .int .i64 0, .int .i64 0, .int .i64 0, .int .i64 0, .int .i64 0, .int .i64 0] 131))
    rw [r, World.size_alloc]
  clear bZ htk hbA hAv
  go_wp2_with (refine wpList_store_mid rfl 131 _ _ rfl w1.heap.size 0 (arrV A).toArray rfl rfl htj.out hnj.out hone'.out ?_)
  go_loopw [4, 11] (fun v i wr => ∃ (j : Nat), j ≤ ps.length ∧ i = .int .i64 j ∧ Hid (wr.ownsRow (w1.heap.size + 1) 61 1 v ((ps.take j).filter (elB Ts acc FK)).length (((ps.take j).filter (elB Ts acc FK)).map fun t => Value.pointer (some ⟨t.blk, 0, none⟩))) ∧ Hid (∃ a cap, v = .slice a ((ps.take j).filter (elB Ts acc FK)).length cap) ∧ Hid (Below (w1.heap.size + 1) ((w1.alloc (.cells #[.int .i64 0, .int .i64 0, .int .i64 0, .int .i64 0, .int .i64 0, .int .i64 0, .int .i64 0, .int .i64 0, .int .i64 0, .int .i64 0, .int .i64 0, .int .i64 0, .int .i64 0, .int .i64 0, .int .i64 0, .int .i64 0, .int .i64 0, .int .i64 0, .int .i64 0, .int .i64 0, .int .i64 0, .int .i64 0, .int .i64 0, .int .i64 0, .int .i64 0, .int .i64 0, .int .i64 0, .int .i64 0, .int .i64 0, .int .i64 0, .int .i64 0, .int .i64 0] 131)).setCells w1.heap.size 0 (arrV A)) wr)) (fun _ i _ => ps.length - (intOf i).toNat)
  case atStart => exact ⟨0, by omega, rfl, World.ownsRow_nil _ _ _ _, ⟨_, _, rfl⟩, Below.refl _ _⟩
  case round =>
    obtain ⟨j, hj, rfl, hown, hform, hbw⟩ := hrel
    obtain ⟨a5, cap5, rfl⟩ := hform.out
    clear hform
    have hz : w1.heap.size + 1 ≤ wr.heap.size := by have := hbw.out.size; have := hsz.out; omega
    have hz1 := hb1.size
    have hbx : Hid (Below ((w1.alloc (.cells #[.int .i64 0, .int .i64 0, .int .i64 0, .int .i64 0, .int .i64 0, .int .i64 0, .int .i64 0, .int .i64 0, .int .i64 0, .int .i64 0, .int .i64 0, .int .i64 0, .int .i64 0, .int .i64 0, .int .i64 0, .int .i64 0, .int .i64 0, .int .i64 0, .int .i64 0, .int .i64 0, .int .i64 0, .int .i64 0, .int .i64 0, .int .i64 0, .int .i64 0, .int .i64 0, .int .i64 0, .int .i64 0, .int .i64 0, .int .i64 0, .int .i64 0, .int .i64 0] 131)).setCells w1.heap.size 0 (arrV A)).heap.size ((w1.alloc (.cells #[.int .i64 0, .int .i64 0, .int .i64 0, .int .i64 0, .int .i64 0, .int .i64 0, .int .i64 0, .int .i64 0, .int .i64 0, .int .i64 0, .int .i64 0, .int .i64 0, .int .i64 0, .int .i64 0, .int .i64 0, .int .i64 0, .int .i64 0, .int .i64 0, .int .i64 0, .int .i64 0, .int .i64 0, .int .i64 0, .int .i64 0, .int .i64 0, .int .i64 0, .int .i64 0, .int .i64 0, .int .i64 0, .int .i64 0, .int .i64 0, .int .i64 0, .int .i64 0] 131)).setCells w1.heap.size 0 (arrV A)) wr) := by rw [hsz.out]; exact hbw
    have hb : Hid (Below w.heap.size w wr) := hb2.out.trans (hbx.out.mono hb2.out.size)
    by_cases hlt : j < ps.length
    · obtain ⟨g, rfl, z0⟩ := row_get hrow'.out hlt (x := .pointer (some ⟨ps[j].blk, 0, none⟩)) (by simp [hlt])
      have z0 := cell_on hb.out z0
      have hQT : ps[j] ∈ Ts := hps'.out _ (List.getElem_mem hlt)
      obtain ⟨hq1, _⟩ := hS'.out.1 ps[j] (List.mem_cons_of_mem _ hQT)
      obtain ⟨q, hq, hq32⟩ := hpl'.out _ hQT
      have z1 := cell_on hb.out (hq1.cell 1 rfl)
      have z3 := cell_on hb.out (hq1.cell 3 rfl)
      rw [hq] at z1
      have hst : Hid ((ps.take (j + 1)).filter (elB Ts acc FK) = (ps.take j).filter (elB Ts acc FK) ++ if elB Ts acc FK ps[j] then [ps[j]] else []) := filter_step _ hlt
      have hel : Hid (elB Ts acc FK ps[j] = decide (((plC Ts FK q : Nat) : Int) < heldC acc ps[j].id)) := by show _ = _; unfold elB; rw [hq]; rfl
      have y0 : wr.cell? ⟨w1.heap.size, q, none⟩ = some (.int .i64 ((plC Ts FK q : Nat) : Int)) := cell_on hbx.out (by have r := hrg.out q (.int .i64 ((plC Ts FK q : Nat) : Int)) (by unfold arrV; rw [List.getElem?_map, hA0.out q hq32]; rfl); rwa [Nat.zero_add] at r)
      have hfl : ((ps.take j).filter (elB Ts acc FK)).length ≤ 32 := by have := filter_len (elB Ts acc FK) ps j; omega
      have hq0 : (0 : Int) ≤ (q : Int) := by omega
      have hq1' : (q : Int) < 32 := by omega
      generalize hHC : heldC acc ps[j].id = HC at z3 hel
      generalize hQ : ps[j] = Q at z0 z1 z3 hst hel
      generalize hF : (ps.take j).filter (elB Ts acc FK) = F at hst hfl hown
      generalize hPC : plC Ts FK q = PC at y0 hel
      obtain ⟨L, hL⟩ : ∃ L, (F.map fun t => Value.pointer (some ⟨t.blk, 0, none⟩)) = L := ⟨_, rfl⟩
      have hownL : Hid (wr.ownsRow (w1.heap.size + 1) 61 1 (.slice a5 F.length cap5) F.length L) := by rw [← hL]; exact hown
      have hL' : Hid _ := hL
      clear hQ hF hL hown hPC hHC hq1 hQT hq
      by_cases hgt : ((PC : Nat) : Int) < HC
      · have hst2 : Hid ((ps.take (j + 1)).filter (elB Ts acc FK) = F ++ [Q]) := by show _ = _; rw [hst.out, hel.out]; simp [hgt]
        clear hst hel
        go_wp2_with fail
        go_region_held3 (fun w' => w'.cell? ⟨Q.blk, 1, none⟩ = some (.int .i64 (q : Int)) ∧ w'.cell? ⟨Q.blk, 3, none⟩ = some (.int .i64 HC) ∧ w'.cell? ⟨w1.heap.size, q, none⟩ = some (.int .i64 ((PC : Nat) : Int))) (go_keep) (first | (fail))
        go_wp2_with (at_builtin; refine wpList_append_own _ rfl _ _ 59 rfl (w1.heap.size + 1) 61 iP (.pointer none) 1 8 Tryz.underlying59 hIP.out hEP.out.1 hEP.out.2.2 hEP.out.2.1 rfl (by decide) _ (F.length) (L) rfl (hownL.out.alloc _) ⟨wr.heap.size, 0, none⟩ 1 1 [.pointer (some ⟨Q.blk, 0, none⟩)] rfl rfl (by intro q u hq; match q, hq with | 0, hq => simp at hq; subst hq; simp [Addr.add]) (by simp [Value.oneCell']) (by unfold maxLen; omega) (by omega) (by simp; omega) ?_)
        intro v' w2 hown' hgrow _
        have hb3 : Hid (Below (w1.heap.size + 1) ((w1.alloc (.cells #[.int .i64 0, .int .i64 0, .int .i64 0, .int .i64 0, .int .i64 0, .int .i64 0, .int .i64 0, .int .i64 0, .int .i64 0, .int .i64 0, .int .i64 0, .int .i64 0, .int .i64 0, .int .i64 0, .int .i64 0, .int .i64 0, .int .i64 0, .int .i64 0, .int .i64 0, .int .i64 0, .int .i64 0, .int .i64 0, .int .i64 0, .int .i64 0, .int .i64 0, .int .i64 0, .int .i64 0, .int .i64 0, .int .i64 0, .int .i64 0, .int .i64 0, .int .i64 0] 131)).setCells w1.heap.size 0 (arrV A)) w2) := (hbw.out.drew.alloc (by simp; omega) _).grown hgrow (by simp; omega) (own_block hownL.out)
        obtain ⟨av', capv', rfl⟩ := own_forms hown'
        have hown1 : Hid (w2.ownsRow (w1.heap.size + 1) 61 1 (.slice av' (F.length + 1) capv') (F.length + 1) (L ++ [.pointer (some ⟨Q.blk, 0, none⟩)])) := hown'
        clear hown' hgrow
        go_wp2_with fail
        go_roundw
        case rel => exact ⟨j + 1, by omega, by go_num, by rw [hst2.out, List.length_append, List.map_append, hL'.out]; exact hown1.out, by rw [hst2.out, List.length_append]; exact ⟨_, _, rfl⟩, hb3⟩
        case measure => simp [intOf]; omega
      · have hst2 : Hid ((ps.take (j + 1)).filter (elB Ts acc FK) = F) := by show _ = _; rw [hst.out, hel.out]; simp [hgt]
        have hgt' : decide (HC > ((PC : Nat) : Int)) = false := by simpa using hgt
        clear hst hel
        go_wp2_with fail
        go_region_held3 (fun w' => w'.cell? ⟨Q.blk, 1, none⟩ = some (.int .i64 (q : Int)) ∧ w'.cell? ⟨Q.blk, 3, none⟩ = some (.int .i64 HC) ∧ w'.cell? ⟨w1.heap.size, q, none⟩ = some (.int .i64 ((PC : Nat) : Int))) (go_keep) (first | (fail))
        go_wp2_with fail
        go_roundw
        case rel => exact ⟨j + 1, by omega, by go_num, by rw [hst2.out, hL'.out]; exact hownL.out.drew, by rw [hst2.out]; exact ⟨_, _, rfl⟩, hbw.out.drew⟩
        case measure => simp [intOf]; omega
    obtain rfl : j = ps.length := by omega
    have hown2 : Hid (wr.ownsRow w.heap.size 61 1 (.slice a5 ((ps.take ps.length).filter (elB Ts acc FK)).length cap5) (ps.filter (elB Ts acc FK)).length ((ps.filter (elB Ts acc FK)).map fun t => Value.pointer (some ⟨t.blk, 0, none⟩))) := by have q := hown.out; rw [List.take_length] at q ⊢; exact World.ownsRow.mono q (by omega)
    clear hown
    go_wp2_with fail
    go_ret
    exact ⟨⟨_, rfl, by exact hown2.out⟩, hb.out⟩
def innerL (h : HeapD) (some : List Int) (j : Nat) : List Int := (((idsD h).take j).filter fun k => hasB some k).flatMap (edgesS h)
theorem innerL_zero (h : HeapD) (some : List Int) : innerL h some 0 = [] := by simp [innerL]
theorem innerL_succ {h : HeapD} {some : List Int} {j : Nat} (hj : j < (idsD h).length) : innerL h some (j + 1) = innerL h some j ++ if hasB some (idsD h)[j] then edgesS h (idsD h)[j] else [] := by
  unfold innerL
  rw [filter_step _ hj, List.flatMap_append]
  congr 1
  split <;> simp
theorem innerL_len {h : HeapD} (e : specB h = true) (hs : h.small) (some : List Int) (j : Nat) : (innerL h some j).length ≤ 36700160 := by
  have h1 : (innerL h some j).length ≤ (((idsD h).take j).filter fun k => hasB some k).length * 1048578 := flat_len _ fun x _ => edges_most e hs x
  have h2 := filter_len (fun k => hasB some k) (idsD h) j
  have h3 := idsD_most e
  have h4 : (((idsD h).take j).filter fun k => hasB some k).length * 1048578 ≤ 32 * 1048578 := Nat.mul_le_mul_right _ (by omega)
  omega
theorem innerL_in {h : HeapD} (e : specB h = true) (some : List Int) (j : Nat) : ∀ x ∈ innerL h some j, x ∈ idsD h := by
  intro x hx
  unfold innerL at hx
  obtain ⟨y, hy, r⟩ := List.mem_flatMap.1 hx
  exact edges_there e (List.mem_of_mem_take (List.mem_filter.1 hy).1) x r
def liveB (h : HeapD) (some : List Int) (k : Int) : Bool := decide (cntE (innerL h some (idsD h).length) k < cntE (heldL h (idsD h).length) k)
def liveL (h : HeapD) (some : List Int) : List Int := some.filter (liveB h some)
def trialL (h : HeapD) (ids : List Int) : List Int := (belD h ids).filter fun k => !hasB (belD h (liveL h (belD h ids))) k
def trialD (h : HeapD) (ids : List Int) : List Int := if specB h && thereB h ids then trialL h ids else []
theorem below_there {h : HeapD} (e : specB h = true) (hs : h.small) {fs : List Int} (hf : ∀ x ∈ fs, x ∈ idsD h) : ∀ x ∈ belD h fs, x ∈ idsD h := fun x hx =>
  from_closed (E := edgesS h) (fs := fs) hf (fun _ hy => edges_there e hy) x (((belD_is e hs hf).2 x).1 hx)
theorem live_there {h : HeapD} (e : specB h = true) (hs : h.small) {ids : List Int} (hf : ∀ x ∈ ids, x ∈ idsD h) : ∀ x ∈ liveL h (belD h ids), x ∈ idsD h := fun x hx =>
  below_there e hs hf x (List.mem_filter.1 hx).1
theorem trialL_len {h : HeapD} (e : specB h = true) (hs : h.small) {ids : List Int} (hf : ∀ x ∈ ids, x ∈ idsD h) : (trialL h ids).length ≤ 32 := by
  have h1 := List.length_filter_le (fun k => !hasB (belD h (liveL h (belD h ids))) k) (belD h ids)
  have h2 := belD_len e hs hf
  unfold trialL
  omega
theorem trialD_len {h : HeapD} (hs : h.small) (ids : List Int) : (trialD h ids).length ≤ 1048576 := by
  unfold trialD
  split
  · rename_i e
    obtain ⟨e1, e2, _⟩ := there_ids e
    have := trialL_len e1 hs e2
    omega
  · simp
/-- those of all that are among some are some -/
theorem inner_full {h : HeapD} (e : specB h = true) {some : List Int} (hr : Rises some) (hi : ∀ x ∈ some, x ∈ idsD h) : innerL h some (idsD h).length = some.flatMap (edgesS h) := by
  unfold innerL
  rw [List.take_length]
  congr 1
  have hn := idsU_nodup (impl_idx (spec_impl h ▸ e))
  have r0 : Rises (idsD h) := (sortI_rises hn).1
  refine rises_same _ _ (List.Pairwise.sublist List.filter_sublist r0) hr fun k => ?_
  rw [List.mem_filter]
  constructor
  · intro q; exact (hasB_iff _ _).1 q.2
  · intro q; exact ⟨hi k q, (hasB_iff _ _).2 q⟩
theorem cntE_perm {a b : List Int} (f : Int → List Int) (k : Int) (h : a.Perm b) : cntE (a.flatMap f) k = cntE (b.flatMap f) k :=
  ((h.flatMap_right f).filter _).length_eq
/-- what the places tell is what the numbers tell -/
theorem plC_cnt {Ts : List ThD} (hpl : ∀ i, (hi : i < Ts.length) → Ts[i].pl = (i : Int)) {ks : List Int} (hk : ∀ k ∈ ks, (getI ThD.id Ts k).isSome = true) {t : ThD} (ht : t ∈ Ts) (hA : ∀ t ∈ Ts, ∀ u ∈ Ts, t.id = u.id → t = u) : plC Ts ks t.pl.toNat = cntE ks t.id := by
  unfold plC cntE
  congr 1
  refine List.filter_congr fun k hkm => ?_
  obtain ⟨u1, u2, _⟩ := thOf_is (hk k hkm)
  obtain ⟨i, hi, e1⟩ := List.mem_iff_getElem.1 u1
  obtain ⟨j, hj, e2⟩ := List.mem_iff_getElem.1 ht
  have p1 := hpl i hi
  have p2 := hpl j hj
  rw [e1] at p1
  rw [e2] at p2
  have p3 : ((t.pl.toNat : Nat) : Int) = t.pl := by rw [p2]; rfl
  rw [p3]
  refine decide_eq_decide.2 ⟨fun q => ?_, fun q => ?_⟩
  · have hij : i = j := by omega
    subst hij
    rw [e1] at e2
    rw [← u2, e2]
  · have := hA _ u1 _ ht (by rw [u2, q])
    rw [this]
theorem from_mem {E : Int → List Int} {a b : List Int} (h : ∀ k, k ∈ a ↔ k ∈ b) (z : Int) : From E a z ↔ From E b z := by
  constructor
  · rintro ⟨x, hx, r⟩; exact ⟨x, (h x).1 hx, r⟩
  · rintro ⟨x, hx, r⟩; exact ⟨x, (h x).2 hx, r⟩
theorem belD_mem {h : HeapD} (e : specB h = true) (hs : h.small) {a b : List Int} (ha : ∀ x ∈ a, x ∈ idsD h) (hb : ∀ x ∈ b, x ∈ idsD h) (hm : ∀ k, k ∈ a ↔ k ∈ b) : belD h a = belD h b := by
  obtain ⟨r1, m1⟩ := belD_is e hs ha
  obtain ⟨r2, m2⟩ := belD_is e hs hb
  refine rises_same _ _ r1 r2 fun k => ?_
  rw [m1, m2]
  exact from_mem hm k
/-- the program's trial is the specification's -/
theorem trial_same {h : HeapD} (e : specB h = true) (hs : h.small) {ids : List Int} (hf : ∀ x ∈ ids, x ∈ idsD h) {o : ThD} {Ts bl st : List ThD} (hids : Ts.map ThD.id = idsD h) (hpl : ∀ i, (hi : i < Ts.length) → Ts[i].pl = (i : Int)) (hap : Apart (o :: Ts)) (hbT : ∀ t ∈ bl, t ∈ Ts) (hbn : (bl.map ThD.id).Nodup) (hbf : ∀ k, k ∈ bl.map ThD.id ↔ From (holdsC (accG h)) ids k)
    (hsT : ∀ t ∈ st, t ∈ Ts) (hsn : (st.map ThD.id).Nodup) (hsf : ∀ k, k ∈ st.map ThD.id ↔ From (holdsC (accG h)) ((bl.filter (elB Ts (accG h) (bl.flatMap fun t => holdsC (accG h) t.id))).map ThD.id) k) : sortI ((bl.filter (ntB st)).map ThD.id) = trialL h ids ∧ (bl.filter (ntB st)).length ≤ 32 := by
  have e2 : implB h = true := spec_impl h ▸ e
  have hA : ∀ t ∈ Ts, ∀ u ∈ Ts, t.id = u.id → t = u := fun t ht u hu => hap.1 t (List.mem_cons_of_mem _ ht) u (List.mem_cons_of_mem _ hu)
  have hTi : ∀ t ∈ Ts, t.id ∈ idsD h := fun t ht => by rw [← hids]; exact List.mem_map_of_mem ht
  have hT := things_there hids
  have hin : ∀ t ∈ Ts, ∀ k ∈ holdsC (accG h) t.id, (getI ThD.id Ts k).isSome = true := fun t _ k hk => (hT k).trans (holdsC_there e hk)
  have hB : sortI (bl.map ThD.id) = belD h ids := held_below e hs hf hbn hbf
  have hperm : (bl.map ThD.id).Perm (belD h ids) := by rw [← hB]; exact (List.mergeSort_perm _ _).symm
  obtain ⟨rB, mB⟩ := belD_is e hs hf
  have hfl : (bl.flatMap fun t => holdsC (accG h) t.id) = (bl.map ThD.id).flatMap (holdsC (accG h)) := by rw [List.flatMap_map]
  have hE : ∀ (Q : List Int), (∀ x ∈ Q, x ∈ idsD h) → Q.flatMap (edgesS h) = Q.flatMap (holdsC (accG h)) := by
    intro Q
    induction Q with
    | nil => intro _; rfl
    | cons x Q ih =>
      intro hq
      rw [List.flatMap_cons, List.flatMap_cons, ih (fun y hy => hq y (List.mem_cons_of_mem _ hy)), holds_edges e2 (ids_ne_zero e2 x (hq x List.mem_cons_self))]
  have hbi : ∀ x ∈ bl.map ThD.id, x ∈ idsD h := fun x hx => by
    obtain ⟨t, ht, rfl⟩ := List.mem_map.1 hx
    exact hTi t (hbT t ht)
  have hcnt : ∀ k, cntE (bl.flatMap fun t => holdsC (accG h) t.id) k = cntE (innerL h (belD h ids) (idsD h).length) k := fun k => by
    rw [hfl, ← hE _ hbi, inner_full e rB (below_there e hs hf)]
    exact cntE_perm _ _ hperm
  have hks : ∀ k ∈ (bl.flatMap fun t => holdsC (accG h) t.id), (getI ThD.id Ts k).isSome = true := fun k hk => by
    obtain ⟨t, ht, r⟩ := List.mem_flatMap.1 hk
    exact hin t (hbT t ht) k r
  have hel : ∀ t ∈ bl, elB Ts (accG h) (bl.flatMap fun t => holdsC (accG h) t.id) t = liveB h (belD h ids) t.id := fun t ht => by
    unfold elB liveB
    rw [plC_cnt hpl hks (hbT t ht) hA, hcnt, ← heldL_full e]
    exact decide_eq_decide.2 (by omega)
  have hlive : ∀ k, k ∈ ((bl.filter (elB Ts (accG h) (bl.flatMap fun t => holdsC (accG h) t.id))).map ThD.id) ↔ k ∈ liveL h (belD h ids) := fun k => by
    unfold liveL
    rw [List.mem_filter, ← hperm.mem_iff, List.mem_map]
    constructor
    · rintro ⟨t, ht, rfl⟩
      obtain ⟨q1, q2⟩ := List.mem_filter.1 ht
      exact ⟨List.mem_map_of_mem q1, by rw [← hel t q1]; exact q2⟩
    · rintro ⟨q1, q2⟩
      obtain ⟨t, ht, rfl⟩ := List.mem_map.1 q1
      exact ⟨t, List.mem_filter.2 ⟨ht, by rw [hel t ht]; exact q2⟩, rfl⟩
  have hli := live_there e hs hf
  have hei : ∀ x ∈ ((bl.filter (elB Ts (accG h) (bl.flatMap fun t => holdsC (accG h) t.id))).map ThD.id), x ∈ idsD h := fun x hx => hli x ((hlive x).1 hx)
  have hSt : sortI (st.map ThD.id) = belD h (liveL h (belD h ids)) := (held_below e hs hei hsn hsf).trans (belD_mem e hs hei hli hlive)
  have hsm : ∀ k, k ∈ st.map ThD.id ↔ k ∈ belD h (liveL h (belD h ids)) := fun k => by rw [← hSt]; exact ((sortI_rises hsn).2 k).symm
  have hnt : ∀ t ∈ bl, ntB st t = !hasB (belD h (liveL h (belD h ids))) t.id := fun t ht => by
    unfold ntB
    congr 1
    rw [Bool.eq_iff_iff, has_blk hap hsT (hbT t ht), hasB_iff]
    exact hsm t.id
  have hnr : ((bl.filter (ntB st)).map ThD.id).Nodup := (List.filter_sublist.map ThD.id).nodup hbn
  obtain ⟨r1, m1⟩ := sortI_rises hnr
  refine ⟨rises_same _ _ r1 (List.Pairwise.sublist List.filter_sublist rB) fun k => ?_, ?_⟩
  · unfold trialL
    rw [m1, List.mem_filter, ← hperm.mem_iff, List.mem_map]
    constructor
    · rintro ⟨t, ht, rfl⟩
      obtain ⟨q1, q2⟩ := List.mem_filter.1 ht
      exact ⟨List.mem_map_of_mem q1, by rw [← hnt t q1]; exact q2⟩
    · rintro ⟨q1, q2⟩
      obtain ⟨t, ht, rfl⟩ := List.mem_map.1 q1
      exact ⟨t, List.mem_filter.2 ⟨ht, by rw [hnt t ht]; exact q2⟩, rfl⟩
  · have h1 := List.length_filter_le (ntB st) bl
    have h2 := hperm.length_eq
    have h3 := belD_len e hs hf
    rw [List.length_map] at h2
    omega
end Go.Proofs.YtoifcfllboeblaaGreat
