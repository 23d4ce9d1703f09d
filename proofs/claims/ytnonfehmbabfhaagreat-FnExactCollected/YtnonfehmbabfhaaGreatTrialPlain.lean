/- How often each is held; all, rising; how often one is among others; a step of an append: plain facts and walks. -/
import Derived.Test.YtnonfehmbabfhaaGreatReachedPlain
import Derived.Test.YtnonfehmbabfhaaGreatTrialThings
import Derived.Test.YtnonfehmbabfhaaGreatBelowImpl
namespace Go.Proofs.YtnonfehmbabfhaaGreat
open Go.RowKit
def cntE (l : List Int) (k : Int) : Nat := (l.filter fun a => decide (a = k)).length
theorem cntE_append (a b : List Int) (k : Int) : cntE (a ++ b) k = cntE a k + cntE b k := by simp [cntE, List.filter_append]
theorem cntE_le (l : List Int) (k : Int) : cntE l k ≤ l.length := List.length_filter_le _ _
theorem cntE_one (a k : Int) : cntE [a] k = if a = k then 1 else 0 := by
  unfold cntE
  by_cases h : a = k <;> simp [h]
theorem cntE_two {f g : Int → List Int} (k : Int) : ∀ (P : List Int), cntE (P.flatMap fun p => f p ++ g p) k = cntE (P.flatMap f) k + cntE (P.flatMap g) k := by
  intro P
  induction P with
  | nil => rfl
  | cons p P ih => simp only [List.flatMap_cons, cntE_append, ih]; omega
theorem pick_none {x y : Int} : ∀ (P : List Int), x ∉ P → (P.flatMap fun p => if x = p then [y] else []) = [] := by
  intro P
  induction P with
  | nil => intro _; rfl
  | cons p P ih =>
    intro h
    rw [List.flatMap_cons, if_neg (fun e => h (by rw [e]; exact List.mem_cons_self)), ih (fun q => h (List.mem_cons_of_mem _ q))]
    rfl
theorem pick_one {x y : Int} : ∀ (P : List Int), P.Nodup → x ∈ P → (P.flatMap fun p => if x = p then [y] else []) = [y] := by
  intro P
  induction P with
  | nil => intro _ h; simp at h
  | cons p P ih =>
    intro hn h
    rw [List.nodup_cons] at hn
    by_cases e : x = p
    · subst e
      rw [List.flatMap_cons, if_pos rfl, pick_none P hn.1]
      rfl
    · rw [List.flatMap_cons, if_neg e, ih hn.2 (by rcases List.mem_cons.1 h with q | q; exact absurd q e; exact q)]
      rfl
theorem holdsC_cons (a : Int × Int) (acc : List (Int × Int)) (p : Int) : holdsC (a :: acc) p = (if a.1 = p then [a.2] else []) ++ holdsC acc p := by
  unfold holdsC
  by_cases h : a.1 = p <;> simp [h]
theorem heldC_cons (a : Int × Int) (acc : List (Int × Int)) (k : Int) : heldC (a :: acc) k = (if a.2 = k then 1 else 0) + heldC acc k := by
  unfold heldC
  by_cases h : a.2 = k
  · simp [h]; omega
  · simp [h]
/-- who holds one is one of all -/
theorem held_cnt {P : List Int} (hn : P.Nodup) (k : Int) : ∀ (acc : List (Int × Int)), (∀ a ∈ acc, a.1 ∈ P) → ((cntE (P.flatMap (holdsC acc)) k : Nat) : Int) = heldC acc k := by
  intro acc
  induction acc with
  | nil =>
    intro _
    have e : ∀ (Q : List Int), Q.flatMap (holdsC []) = [] := by
      intro Q
      induction Q with
      | nil => rfl
      | cons x Q ih => rw [List.flatMap_cons, ih]; rfl
    rw [e]; rfl
  | cons a acc ih =>
    intro h
    have e : P.flatMap (holdsC (a :: acc)) = P.flatMap fun p => (if a.1 = p then [a.2] else []) ++ holdsC acc p := by
      congr 1
      funext p
      exact holdsC_cons a acc p
    have q := ih fun b hb => h b (List.mem_cons_of_mem _ hb)
    rw [e, cntE_two, pick_one P hn (h a List.mem_cons_self), cntE_one, heldC_cons, ← q]
    split <;> simp
theorem accG_from {h : HeapD} : ∀ a ∈ accG h, a.1 ∈ 0 :: idsD h := by
  intro a ha
  unfold accG accN accO at ha
  rcases List.mem_append.1 ha with q | q
  · refine List.mem_cons_of_mem _ (mem_idsD.2 ?_)
    unfold idsU
    rcases List.mem_append.1 q with q | q
    · obtain ⟨x, hx, r⟩ := List.mem_flatMap.1 q
      obtain ⟨k, _, rfl⟩ := List.mem_map.1 r
      exact List.mem_append_left _ (List.mem_map_of_mem hx)
    · obtain ⟨x, hx, r⟩ := List.mem_flatMap.1 q
      obtain ⟨k, _, rfl⟩ := List.mem_map.1 r
      exact List.mem_append_right _ (List.mem_map_of_mem hx)
  · obtain ⟨k, _, rfl⟩ := List.mem_map.1 q
    exact List.mem_cons_self
def heldL (h : HeapD) (j : Nat) : List Int := rootsD h ++ ((idsD h).take j).flatMap (edgesS h)
theorem heldL_zero (h : HeapD) : heldL h 0 = rootsD h := by simp [heldL]
theorem heldL_succ {h : HeapD} {j : Nat} (hj : j < (idsD h).length) : heldL h (j + 1) = heldL h j ++ edgesS h (idsD h)[j] := by
  unfold heldL
  rw [List.take_succ_eq_append_getElem hj, List.flatMap_append, List.append_assoc]
  simp
theorem heldL_full {h : HeapD} (e : specB h = true) (k : Int) : ((cntE (heldL h (idsD h).length) k : Nat) : Int) = heldC (accG h) k := by
  have e2 : implB h = true := spec_impl h ▸ e
  have hn : (0 :: idsD h).Nodup := List.nodup_cons.2 ⟨fun q => ids_ne_zero e2 0 q rfl, idsD_nodup (impl_idx e2)⟩
  rw [← held_cnt hn k (accG h) accG_from]
  unfold heldL
  rw [List.take_length, List.flatMap_cons, holds_roots e2]
  congr 3
  have : ∀ (Q : List Int), (∀ x ∈ Q, x ∈ idsD h) → Q.flatMap (edgesS h) = Q.flatMap (holdsC (accG h)) := by
    intro Q
    induction Q with
    | nil => intro _; rfl
    | cons x Q ih =>
      intro hq
      rw [List.flatMap_cons, List.flatMap_cons, ih (fun y hy => hq y (List.mem_cons_of_mem _ hy)), holds_edges e2 (ids_ne_zero e2 x (hq x List.mem_cons_self))]
  exact this _ fun _ q => q
theorem heldL_len {h : HeapD} (e : specB h = true) (hs : h.small) (j : Nat) : (heldL h j).length ≤ 36700160 := by
  have h1 : (((idsD h).take j).flatMap (edgesS h)).length ≤ ((idsD h).take j).length * 1048578 := flat_len _ fun x _ => edges_most e hs x
  have h2 : ((idsD h).take j).length ≤ 32 := by have := idsD_most e; rw [List.length_take]; omega
  have h3 : h.vGlobals.length ≤ 1048576 := hs.2.2.1.1
  simp only [heldL, List.length_append, rootsD, List.length_cons, List.length_map]
  omega
theorem heldL_in {h : HeapD} (e : specB h = true) (j : Nat) : ∀ x ∈ heldL h j, x ∈ idsD h := by
  intro x hx
  unfold heldL at hx
  rcases List.mem_append.1 hx with q | q
  · exact roots_there e x q
  · obtain ⟨y, hy, r⟩ := List.mem_flatMap.1 q
    exact edges_there e (List.mem_of_mem_take hy) x r
/-- all, rising -/
def AllInv (h : HeapD) (out : List Int) (j : Nat) : Prop := Rises out ∧ (∀ k, k ∈ out ↔ k ∈ (idsU h).take j) ∧ out.length = j
theorem AllInv.start (h : HeapD) : AllInv h [] 0 := ⟨List.Pairwise.nil, by simp, rfl⟩
theorem take_not {xs : List Int} (hn : xs.Nodup) {j : Nat} (hj : j < xs.length) : xs[j] ∉ xs.take j := fun q => by
  obtain ⟨i, hi, e⟩ := List.mem_iff_getElem.1 q
  rw [List.getElem_take] at e
  have hi' : i < j := by rw [List.length_take] at hi; omega
  have := nodup_inj hn i j (by omega) hj e
  omega
theorem AllInv.step {h : HeapD} {out : List Int} {j : Nat} (hn : (idsU h).Nodup) (hI : AllInv h out j) (hj : j < (idsU h).length) : hasB out (idsU h)[j] = false ∧ AllInv h (insR out (idsU h)[j]) (j + 1) := by
  obtain ⟨h1, h2, h3⟩ := hI
  have hno : (idsU h)[j] ∉ out := fun q => take_not hn hj ((h2 _).1 q)
  refine ⟨?_, insR_rises _ _ h1 hno, fun k => ?_, by rw [insR_len, h3]⟩
  · cases hb : hasB out (idsU h)[j]
    · rfl
    · exact absurd ((hasB_iff _ _).1 hb) hno
  · rw [insR_mem, h2, List.take_succ_eq_append_getElem hj, List.mem_append, List.mem_singleton]
    exact or_comm
theorem AllInv.done {h : HeapD} {out : List Int} (hn : (idsU h).Nodup) (hI : AllInv h out (idsU h).length) : out = idsD h := by
  obtain ⟨h1, h2, h3⟩ := hI
  obtain ⟨r1, r2⟩ := sortI_rises hn
  refine rises_same _ _ h1 r1 fun k => ?_
  rw [h2, List.take_length]
  exact (r2 k).symm
theorem idsU_node {h : HeapD} {j : Nat} (hj : j < h.vNodes.length) : ∃ hj' : j < (idsU h).length, (idsU h)[j] = h.vNodes[j].vId := by
  refine ⟨by simp [idsU]; omega, ?_⟩
  simp only [idsU]
  rw [List.getElem_append_left (by simpa using hj), List.getElem_map]
theorem idsU_obj {h : HeapD} {j : Nat} (hj : j < h.vObjs.length) : ∃ hj' : h.vNodes.length + j < (idsU h).length, (idsU h)[h.vNodes.length + j] = h.vObjs[j].vId := by
  refine ⟨by simp [idsU]; omega, ?_⟩
  simp only [idsU]
  rw [List.getElem_append_right (by simp), List.getElem_map]
  simp
set_option maxRecDepth 100000 in
set_option maxHeartbeats 2000000 in
theorem l5All_any {w : World} {lo : Nat} {cs : List Value} {h : HeapD} (hh : HeapAt w lo cs h) (hp : specB h = true) :
    Calls Tryz.prog 55 #[.agg cs.toArray] w fun e w' => (∃ v, e = .returned v ∧ w'.ownsRow w.heap.size 2 1 v (idsD h).length ((idsD h).map fun n => .int .i64 n)) ∧ Below w.heap.size w w' := by
  have hin : Hid (∀ x ∈ idsD h, InI x) := idsD_in hh
  have hnd : Hid ((idsU h).Nodup) := idsU_nodup (impl_idx (spec_impl h ▸ hp))
  have hnl : h.vNodes.length ≤ 16 := (spec_parts hp).1
  have hol' : h.vObjs.length ≤ 16 := objs_most hp
  obtain ⟨k2, k3, k4, rfl, s2, s3, s4, rNext, rDoc, _⟩ := hh
  obtain ⟨a4, cap4, rfl⟩ := s4.form
  obtain ⟨a2, cap2, rfl, hm2, hx2⟩ := s2
  obtain ⟨a3, cap3, rfl, hm3, hx3⟩ := s3
  have hx2' : Hid _ := hx2
  have hx3' : Hid _ := hx3
  clear hx2 hx3 s4 rNext rDoc hm2 hm3 hp
  have hb2 : Below w.heap.size w ((w.alloc (.cells #[.int .i64 h.vNext, .int .i64 h.vDoc, .slice a2 h.vNodes.length cap2, .slice a3 h.vObjs.length cap3, .slice a4 h.vGlobals.length cap4] 32)).alloc (.cells #[] 2)) := ((Below.refl _ _).alloc (Nat.le_refl _) _).alloc (by simp) _
  have bH0 : Hid (Box ((w.alloc (.cells #[.int .i64 h.vNext, .int .i64 h.vDoc, .slice a2 h.vNodes.length cap2, .slice a3 h.vObjs.length cap3, .slice a4 h.vGlobals.length cap4] 32)).alloc (.cells #[] 2)) w.heap.size [.int .i64 h.vNext, .int .i64 h.vDoc, .slice a2 h.vNodes.length cap2, .slice a3 h.vObjs.length cap3, .slice a4 h.vGlobals.length cap4] 32) := (Box.new w [.int .i64 h.vNext, .int .i64 h.vDoc, .slice a2 h.vNodes.length cap2, .slice a3 h.vObjs.length cap3, .slice a4 h.vGlobals.length cap4] 32).alloc _
  have hr0 : Hid (((w.alloc (.cells #[.int .i64 h.vNext, .int .i64 h.vDoc, .slice a2 h.vNodes.length cap2, .slice a3 h.vObjs.length cap3, .slice a4 h.vGlobals.length cap4] 32)).alloc (.cells #[] 2)).ownsRow (w.heap.size + 1) 2 1 (.slice (some ⟨w.heap.size + 1, 0, none⟩) 0 0) 0 []) := by
    have q := row_start (w := (w.alloc (.cells #[.int .i64 h.vNext, .int .i64 h.vDoc, .slice a2 h.vNodes.length cap2, .slice a3 h.vObjs.length cap3, .slice a4 h.vGlobals.length cap4] 32))) (B := w.heap.size + 1) (by simp)
    simpa only [World.size_alloc, Hid] using q
  go_enter Tryz.func55, Tryz.ntmps55
  go_wp2_with fail
  go_loopw [3, 4] (fun v i wr => ∃ (j : Nat) (out : List Int), j ≤ h.vNodes.length ∧ i = .int .i64 j ∧ Hid (AllInv h out (j)) ∧ Hid (wr.ownsRow (w.heap.size + 1) 2 1 v out.length (out.map fun n => .int .i64 n)) ∧ Hid (∃ a cap, v = .slice a out.length cap) ∧ Hid (Box wr w.heap.size [.int .i64 h.vNext, .int .i64 h.vDoc, .slice a2 h.vNodes.length cap2, .slice a3 h.vObjs.length cap3, .slice a4 h.vGlobals.length cap4] 32) ∧ Below w.heap.size w wr) (fun _ i _ => h.vNodes.length - (intOf i).toNat)
  case atStart => exact ⟨0, [], by omega, rfl, AllInv.start h, hr0, ⟨_, _, rfl⟩, bH0, hb2⟩
  case round =>
    clear hr0 bH0 hb2
    obtain ⟨j, out, hj, rfl, hinv, hown, hform, bHr, hbr⟩ := hrel
    obtain ⟨gv, capv, rfl⟩ := hform.out
    clear hform
    have hzr : w.heap.size + 1 ≤ wr.heap.size := bHr.out.lt
    have c2 := bHr.out.cell 2 rfl
    by_cases hlt : j < h.vNodes.length
    · obtain ⟨bf, offf, rfl, hlof, hbwf, hcf⟩ := hx2'.out (by omega)
      obtain ⟨csf, hclf, lief, hrf⟩ := hcf j hlt
      have lief1 := Lie.keep (lo := lo) (lo' := lo) lief (.of_below hbr) hlof hbwf
      obtain ⟨hj', hid⟩ := idsU_node hlt
      obtain ⟨hno, hinv2⟩ := hinv.out.step hnd.out hj'
      rw [hid] at hno hinv2
      have hno' : Hid (hasB out h.vNodes[j].vId = false) := hno
      have hinv' : Hid (AllInv h (insR out h.vNodes[j].vId) (j + 1)) := hinv2
      generalize hF : h.vNodes[j] = Fd at hrf hno' hinv'
      obtain ⟨_, _, rfl, _⟩ := hrf
      have y0 := lie_at lief1 0 rfl
      simp only [Nat.add_zero] at y0
      have hol : out.length ≤ 2097152 := by have := hinv.out.2.2; omega
      have hIo : Hid (∀ x ∈ out, InI x) := fun x hx => hin.out x (mem_idsD.2 (List.mem_of_mem_take ((hinv.out.2.1 x).1 hx)))
      have hsq : Hid (SeqAt 1 IntAt wr 0 (.slice gv out.length capv) out) := row_seq hown.out hIo.out
      have hlt' : (j : Int) < (h.vNodes.length : Int) := by omega
      clear hF lief lief1 hclf hcf hid hno hinv2
      go_wp2_with fail
      refine (l5Put_any hsq.out (by have := hinv.out.2.2; omega) hno'.out).mono ?_
      rintro e w2 ⟨⟨g2, cap2', rfl, hown2⟩, hb2⟩
      have hbr2 : Below w.heap.size w w2 := hbr.trans (hb2.mono hbr.size)
      have bH2 : Hid _ := bHr.out.below hb2 (by omega)
      have hr2 : Hid (w2.ownsRow (w.heap.size + 1) 2 1 (.slice (some ⟨g2, 0, none⟩) (out.length + 1) cap2') (insR out Fd.vId).length ((insR out Fd.vId).map fun n => .int .i64 n)) := by rw [insR_len]; exact World.ownsRow.mono hown2 (by omega)
      clear hown2 hb2
      go_wp2_with fail
      go_roundw
      case rel => exact ⟨j + 1, insR out Fd.vId, by omega, by go_num, by have q := hinv'.out; first | exact q | (rw [Nat.add_assoc] at q; exact q), hr2, ⟨_, _, by rw [insR_len]⟩, bH2, hbr2⟩
      case measure => simp [intOf]; omega
    obtain rfl : j = h.vNodes.length := by omega
    go_wp2_with fail
    go_loopw [3, 5] (fun v i wr => ∃ (j : Nat) (out : List Int), j ≤ h.vObjs.length ∧ i = .int .i64 j ∧ Hid (AllInv h out (h.vNodes.length + j)) ∧ Hid (wr.ownsRow (w.heap.size + 1) 2 1 v out.length (out.map fun n => .int .i64 n)) ∧ Hid (∃ a cap, v = .slice a out.length cap) ∧ Hid (Box wr w.heap.size [.int .i64 h.vNext, .int .i64 h.vDoc, .slice a2 h.vNodes.length cap2, .slice a3 h.vObjs.length cap3, .slice a4 h.vGlobals.length cap4] 32) ∧ Below w.heap.size w wr) (fun _ i _ => h.vObjs.length - (intOf i).toNat)
    case atStart => exact ⟨0, out, by omega, rfl, hinv, hown, ⟨_, _, rfl⟩, bHr, hbr⟩
    case round =>
      clear hinv hown bHr hbr hzr
      obtain ⟨j, out, hj, rfl, hinv, hown, hform, bHr, hbr⟩ := hrel
      obtain ⟨gv, capv, rfl⟩ := hform.out
      clear hform
      have hzr : w.heap.size + 1 ≤ wr.heap.size := bHr.out.lt
      have c3 := bHr.out.cell 3 rfl
      by_cases hlt : j < h.vObjs.length
      · obtain ⟨bf, offf, rfl, hlof, hbwf, hcf⟩ := hx3'.out (by omega)
        obtain ⟨csf, hclf, lief, hrf⟩ := hcf j hlt
        have lief1 := Lie.keep (lo := lo) (lo' := lo) lief (.of_below hbr) hlof hbwf
        obtain ⟨hj', hid⟩ := idsU_obj hlt
        obtain ⟨hno, hinv2⟩ := hinv.out.step hnd.out hj'
        rw [hid] at hno hinv2
        have hno' : Hid (hasB out h.vObjs[j].vId = false) := hno
        have hinv' : Hid (AllInv h (insR out h.vObjs[j].vId) (h.vNodes.length + j + 1)) := hinv2
        generalize hF : h.vObjs[j] = Fd at hrf hno' hinv'
        obtain ⟨_, rfl, _⟩ := hrf
        have y0 := lie_at lief1 0 rfl
        simp only [Nat.add_zero] at y0
        have hol : out.length ≤ 2097152 := by have := hinv.out.2.2; omega
        have hIo : Hid (∀ x ∈ out, InI x) := fun x hx => hin.out x (mem_idsD.2 (List.mem_of_mem_take ((hinv.out.2.1 x).1 hx)))
        have hsq : Hid (SeqAt 1 IntAt wr 0 (.slice gv out.length capv) out) := row_seq hown.out hIo.out
        have hlt' : (j : Int) < (h.vObjs.length : Int) := by omega
        clear hF lief lief1 hclf hcf hid hno hinv2
        go_wp2_with fail
        refine (l5Put_any hsq.out (by have := hinv.out.2.2; omega) hno'.out).mono ?_
        rintro e w2 ⟨⟨g2, cap2', rfl, hown2⟩, hb2⟩
        have hbr2 : Below w.heap.size w w2 := hbr.trans (hb2.mono hbr.size)
        have bH2 : Hid _ := bHr.out.below hb2 (by omega)
        have hr2 : Hid (w2.ownsRow (w.heap.size + 1) 2 1 (.slice (some ⟨g2, 0, none⟩) (out.length + 1) cap2') (insR out Fd.vId).length ((insR out Fd.vId).map fun n => .int .i64 n)) := by rw [insR_len]; exact World.ownsRow.mono hown2 (by omega)
        clear hown2 hb2
        go_wp2_with fail
        go_roundw
        case rel => exact ⟨j + 1, insR out Fd.vId, by omega, by go_num, by have q := hinv'.out; first | exact q | (rw [Nat.add_assoc] at q; exact q), hr2, ⟨_, _, by rw [insR_len]⟩, bH2, hbr2⟩
        case measure => simp [intOf]; omega
      obtain rfl : j = h.vObjs.length := by omega
      have HD : Hid (out = idsD h) := AllInv.done hnd.out (by have q := hinv.out; have e : (idsU h).length = h.vNodes.length + h.vObjs.length := by simp [idsU]
                                                              rw [e]; exact q)
      have hown9 : Hid (wr.ownsRow (w.heap.size + 1) 2 1 (.slice gv out.length capv) out.length (out.map fun n => .int .i64 n)) := hown
      clear hinv hown
      go_wp2_with fail
      go_ret
      exact ⟨⟨_, rfl, by have q := hown9.out; rw [HD.out] at q ⊢; exact World.ownsRow.mono q (by omega)⟩, hbr⟩
set_option maxRecDepth 100000 in
set_option maxHeartbeats 2000000 in
theorem l5Count_any {w : World} {lo : Nat} {k : Value} {xs : List Int} {id : Int} (hk : SeqAt 1 IntAt w lo k xs) (hl : xs.length ≤ 1099511627) :
    Calls Tryz.prog 83 #[k, .int .i64 id] w fun e w' => e = .returned (.int .i64 (cntE xs id : Nat)) ∧ w' = w := by
  obtain ⟨a, cap, rfl, hm, hx⟩ := hk
  have hx' : Hid _ := hx
  clear hx hm
  go_enter Tryz.func83, Tryz.ntmps83
  go_wp2_with fail
  go_loop [5, 6] (fun n i => ∃ (j : Nat), j ≤ xs.length ∧ i = .int .i64 j ∧ n = .int .i64 (cntE (xs.take j) id : Nat)) (fun _ i => xs.length - (intOf i).toNat)
  case atStart => exact ⟨0, by omega, rfl, by simp [cntE]⟩
  case round =>
    obtain ⟨j, hj, rfl, rfl⟩ := hrel
    have hC1 : Hid (cntE (xs.take j) id ≤ j) := by show _ ≤ _; have := cntE_le (xs.take j) id; rw [List.length_take] at this; omega
    by_cases hlt : j < xs.length
    · obtain ⟨b, off, rfl, hlo, hbw, hc⟩ := hx'.out (by omega)
      obtain ⟨cs, hcl, lie, hr⟩ := hc j hlt
      have hstep : Hid (cntE (xs.take (j + 1)) id = cntE (xs.take j) id + if xs[j] = id then 1 else 0) := by show _ = _; rw [List.take_succ_eq_append_getElem hlt, cntE_append, cntE_one]
      generalize xs[j] = X at hr hstep
      generalize hG : cntE (xs.take j) id = G at hstep hC1
      have hGj : G ≤ j := hC1.out
      obtain ⟨rfl, hI2⟩ := hr
      have z0 := lie 0 (by simp)
      simp only [List.getElem?_cons_zero, Nat.add_zero, Nat.mul_one] at z0
      have hlt' : (j : Int) < (xs.length : Int) := by omega
      clear lie hcl hx' hc hG hC1
      by_cases he : X = id
      · rw [if_pos he] at hstep
        have he' : (X == id) = true := by simpa using he
        go_wp2_with fail
        go_round
        case rel => exact ⟨j + 1, by omega, by go_num, by rw [hstep.out]; go_num⟩
        case measure => simp [intOf]; omega
      · rw [if_neg he] at hstep
        have he' : (X == id) = false := by simpa using he
        go_wp2_with fail
        go_round
        case rel => exact ⟨j + 1, by omega, by go_num, by rw [hstep.out]; rfl⟩
        case measure => simp [intOf]; omega
    obtain rfl : j = xs.length := by omega
    go_wp2_with fail
    go_ret
    exact ⟨rfl, rfl⟩
end Go.Proofs.YtnonfehmbabfhaaGreat
namespace Go.Proofs.YtnonfehmbabfhaaGreat
open Go.RowKit
def innerL (h : HeapD) (some : List Int) (j : Nat) : List Int := (((idsD h).take j).filter fun k => hasB some k).flatMap (edgesS h)
theorem innerL_zero (h : HeapD) (some : List Int) : innerL h some 0 = [] := by simp [innerL]
theorem innerL_succ {h : HeapD} {some : List Int} {j : Nat} (hj : j < (idsD h).length) : innerL h some (j + 1) = innerL h some j ++ if hasB some (idsD h)[j] then edgesS h (idsD h)[j] else [] := by
  unfold innerL
  rw [filter_step _ hj, List.flatMap_append]
  congr 1
  split <;> simp
theorem innerL_len {h : HeapD} (e : specB h = true) (hs : h.small) (some : List Int) (j : Nat) : (innerL h some j).length ≤ 36700160 := by
  have h1 : (innerL h some j).length ≤ (((idsD h).take j).filter fun k => hasB some k).length * 1048578 := flat_len _ fun x _ => edges_most e hs x
  have h2 := filter_len (fun k => hasB some k) (idsD h) j
  have h3 := idsD_most e
  have h4 : (((idsD h).take j).filter fun k => hasB some k).length * 1048578 ≤ 32 * 1048578 := Nat.mul_le_mul_right _ (by omega)
  omega
theorem innerL_in {h : HeapD} (e : specB h = true) (some : List Int) (j : Nat) : ∀ x ∈ innerL h some j, x ∈ idsD h := by
  intro x hx
  unfold innerL at hx
  obtain ⟨y, hy, r⟩ := List.mem_flatMap.1 hx
  exact edges_there e (List.mem_of_mem_take (List.mem_filter.1 hy).1) x r
def liveB (h : HeapD) (some : List Int) (k : Int) : Bool := decide (cntE (innerL h some (idsD h).length) k < cntE (heldL h (idsD h).length) k)
def liveL (h : HeapD) (some : List Int) : List Int := some.filter (liveB h some)
def trialL (h : HeapD) (ids : List Int) : List Int := (belD h ids).filter fun k => !hasB (belD h (liveL h (belD h ids))) k
def trialD (h : HeapD) (ids : List Int) : List Int := if specB h && thereB h ids then trialL h ids else []
theorem below_there {h : HeapD} (e : specB h = true) (hs : h.small) {fs : List Int} (hf : ∀ x ∈ fs, x ∈ idsD h) : ∀ x ∈ belD h fs, x ∈ idsD h := fun x hx =>
  from_closed (E := edgesS h) (fs := fs) hf (fun _ hy => edges_there e hy) x (((belD_is e hs hf).2 x).1 hx)
theorem live_there {h : HeapD} (e : specB h = true) (hs : h.small) {ids : List Int} (hf : ∀ x ∈ ids, x ∈ idsD h) : ∀ x ∈ liveL h (belD h ids), x ∈ idsD h := fun x hx =>
  below_there e hs hf x (List.mem_filter.1 hx).1
/-- those of all that are among some are some -/
theorem inner_full {h : HeapD} (e : specB h = true) {some : List Int} (hr : Rises some) (hi : ∀ x ∈ some, x ∈ idsD h) : innerL h some (idsD h).length = some.flatMap (edgesS h) := by
  unfold innerL
  rw [List.take_length]
  congr 1
  have hn := idsU_nodup (impl_idx (spec_impl h ▸ e))
  have r0 : Rises (idsD h) := (sortI_rises hn).1
  refine rises_same _ _ (List.Pairwise.sublist List.filter_sublist r0) hr fun k => ?_
  rw [List.mem_filter]
  constructor
  · intro q; exact (hasB_iff _ _).1 q.2
  · intro q; exact ⟨hi k q, (hasB_iff _ _).2 q⟩
theorem cntE_perm {a b : List Int} (f : Int → List Int) (k : Int) (h : a.Perm b) : cntE (a.flatMap f) k = cntE (b.flatMap f) k :=
  ((h.flatMap_right f).filter _).length_eq
/-- what the places tell is what the numbers tell -/
theorem plC_cnt {Ts : List ThD} (hpl : ∀ i, (hi : i < Ts.length) → Ts[i].pl = (i : Int)) {ks : List Int} (hk : ∀ k ∈ ks, (getI ThD.id Ts k).isSome = true) {t : ThD} (ht : t ∈ Ts) (hA : ∀ t ∈ Ts, ∀ u ∈ Ts, t.id = u.id → t = u) : plC Ts ks t.pl.toNat = cntE ks t.id := by
  unfold plC cntE
  congr 1
  refine List.filter_congr fun k hkm => ?_
  obtain ⟨u1, u2, _⟩ := thOf_is (hk k hkm)
  obtain ⟨i, hi, e1⟩ := List.mem_iff_getElem.1 u1
  obtain ⟨j, hj, e2⟩ := List.mem_iff_getElem.1 ht
  have p1 := hpl i hi
  have p2 := hpl j hj
  rw [e1] at p1
  rw [e2] at p2
  have p3 : ((t.pl.toNat : Nat) : Int) = t.pl := by rw [p2]; rfl
  rw [p3]
  refine decide_eq_decide.2 ⟨fun q => ?_, fun q => ?_⟩
  · have hij : i = j := by omega
    subst hij
    rw [e1] at e2
    rw [← u2, e2]
  · have := hA _ u1 _ ht (by rw [u2, q])
    rw [this]
theorem from_mem {E : Int → List Int} {a b : List Int} (h : ∀ k, k ∈ a ↔ k ∈ b) (z : Int) : From E a z ↔ From E b z := by
  constructor
  · rintro ⟨x, hx, r⟩; exact ⟨x, (h x).1 hx, r⟩
  · rintro ⟨x, hx, r⟩; exact ⟨x, (h x).2 hx, r⟩
theorem belD_mem {h : HeapD} (e : specB h = true) (hs : h.small) {a b : List Int} (ha : ∀ x ∈ a, x ∈ idsD h) (hb : ∀ x ∈ b, x ∈ idsD h) (hm : ∀ k, k ∈ a ↔ k ∈ b) : belD h a = belD h b := by
  obtain ⟨r1, m1⟩ := belD_is e hs ha
  obtain ⟨r2, m2⟩ := belD_is e hs hb
  refine rises_same _ _ r1 r2 fun k => ?_
  rw [m1, m2]
  exact from_mem hm k
/-- the program's trial is the specification's -/
theorem trial_same {h : HeapD} (e : specB h = true) (hs : h.small) {ids : List Int} (hf : ∀ x ∈ ids, x ∈ idsD h) {o : ThD} {Ts bl st : List ThD} (hids : Ts.map ThD.id = idsD h) (hpl : ∀ i, (hi : i < Ts.length) → Ts[i].pl = (i : Int)) (hap : Apart (o :: Ts)) (hbT : ∀ t ∈ bl, t ∈ Ts) (hbn : (bl.map ThD.id).Nodup) (hbf : ∀ k, k ∈ bl.map ThD.id ↔ From (holdsC (accG h)) ids k)
    (hsT : ∀ t ∈ st, t ∈ Ts) (hsn : (st.map ThD.id).Nodup) (hsf : ∀ k, k ∈ st.map ThD.id ↔ From (holdsC (accG h)) ((bl.filter (elB Ts (accG h) (bl.flatMap fun t => holdsC (accG h) t.id))).map ThD.id) k) : sortI ((bl.filter (ntB st)).map ThD.id) = trialL h ids ∧ (bl.filter (ntB st)).length ≤ 32 := by
  have e2 : implB h = true := spec_impl h ▸ e
  have hA : ∀ t ∈ Ts, ∀ u ∈ Ts, t.id = u.id → t = u := fun t ht u hu => hap.1 t (List.mem_cons_of_mem _ ht) u (List.mem_cons_of_mem _ hu)
  have hTi : ∀ t ∈ Ts, t.id ∈ idsD h := fun t ht => by rw [← hids]; exact List.mem_map_of_mem ht
  have hT := things_there hids
  have hin : ∀ t ∈ Ts, ∀ k ∈ holdsC (accG h) t.id, (getI ThD.id Ts k).isSome = true := fun t _ k hk => (hT k).trans (holdsC_there e hk)
  have hB : sortI (bl.map ThD.id) = belD h ids := held_below e hs hf hbn hbf
  have hperm : (bl.map ThD.id).Perm (belD h ids) := by rw [← hB]; exact (List.mergeSort_perm _ _).symm
  obtain ⟨rB, mB⟩ := belD_is e hs hf
  have hfl : (bl.flatMap fun t => holdsC (accG h) t.id) = (bl.map ThD.id).flatMap (holdsC (accG h)) := by rw [List.flatMap_map]
  have hE : ∀ (Q : List Int), (∀ x ∈ Q, x ∈ idsD h) → Q.flatMap (edgesS h) = Q.flatMap (holdsC (accG h)) := by
    intro Q
    induction Q with
    | nil => intro _; rfl
    | cons x Q ih =>
      intro hq
      rw [List.flatMap_cons, List.flatMap_cons, ih (fun y hy => hq y (List.mem_cons_of_mem _ hy)), holds_edges e2 (ids_ne_zero e2 x (hq x List.mem_cons_self))]
  have hbi : ∀ x ∈ bl.map ThD.id, x ∈ idsD h := fun x hx => by
    obtain ⟨t, ht, rfl⟩ := List.mem_map.1 hx
    exact hTi t (hbT t ht)
  have hcnt : ∀ k, cntE (bl.flatMap fun t => holdsC (accG h) t.id) k = cntE (innerL h (belD h ids) (idsD h).length) k := fun k => by
    rw [hfl, ← hE _ hbi, inner_full e rB (below_there e hs hf)]
    exact cntE_perm _ _ hperm
  have hks : ∀ k ∈ (bl.flatMap fun t => holdsC (accG h) t.id), (getI ThD.id Ts k).isSome = true := fun k hk => by
    obtain ⟨t, ht, r⟩ := List.mem_flatMap.1 hk
    exact hin t (hbT t ht) k r
  have hel : ∀ t ∈ bl, elB Ts (accG h) (bl.flatMap fun t => holdsC (accG h) t.id) t = liveB h (belD h ids) t.id := fun t ht => by
    unfold elB liveB
    rw [plC_cnt hpl hks (hbT t ht) hA, hcnt, ← heldL_full e]
    exact decide_eq_decide.2 (by omega)
  have hlive : ∀ k, k ∈ ((bl.filter (elB Ts (accG h) (bl.flatMap fun t => holdsC (accG h) t.id))).map ThD.id) ↔ k ∈ liveL h (belD h ids) := fun k => by
    unfold liveL
    rw [List.mem_filter, ← hperm.mem_iff, List.mem_map]
    constructor
    · rintro ⟨t, ht, rfl⟩
      obtain ⟨q1, q2⟩ := List.mem_filter.1 ht
      exact ⟨List.mem_map_of_mem q1, by rw [← hel t q1]; exact q2⟩
    · rintro ⟨q1, q2⟩
      obtain ⟨t, ht, rfl⟩ := List.mem_map.1 q1
      exact ⟨t, List.mem_filter.2 ⟨ht, by rw [hel t ht]; exact q2⟩, rfl⟩
  have hli := live_there e hs hf
  have hei : ∀ x ∈ ((bl.filter (elB Ts (accG h) (bl.flatMap fun t => holdsC (accG h) t.id))).map ThD.id), x ∈ idsD h := fun x hx => hli x ((hlive x).1 hx)
  have hSt : sortI (st.map ThD.id) = belD h (liveL h (belD h ids)) := (held_below e hs hei hsn hsf).trans (belD_mem e hs hei hli hlive)
  have hsm : ∀ k, k ∈ st.map ThD.id ↔ k ∈ belD h (liveL h (belD h ids)) := fun k => by rw [← hSt]; exact ((sortI_rises hsn).2 k).symm
  have hnt : ∀ t ∈ bl, ntB st t = !hasB (belD h (liveL h (belD h ids))) t.id := fun t ht => by
    unfold ntB
    congr 1
    rw [Bool.eq_iff_iff, has_blk hap hsT (hbT t ht), hasB_iff]
    exact hsm t.id
  have hnr : ((bl.filter (ntB st)).map ThD.id).Nodup := (List.filter_sublist.map ThD.id).nodup hbn
  obtain ⟨r1, m1⟩ := sortI_rises hnr
  refine ⟨rises_same _ _ r1 (List.Pairwise.sublist List.filter_sublist rB) fun k => ?_, ?_⟩
  · unfold trialL
    rw [m1, List.mem_filter, ← hperm.mem_iff, List.mem_map]
    constructor
    · rintro ⟨t, ht, rfl⟩
      obtain ⟨q1, q2⟩ := List.mem_filter.1 ht
      exact ⟨List.mem_map_of_mem q1, by rw [← hnt t q1]; exact q2⟩
    · rintro ⟨q1, q2⟩
      obtain ⟨t, ht, rfl⟩ := List.mem_map.1 q1
      exact ⟨t, List.mem_filter.2 ⟨ht, by rw [hnt t ht]; exact q2⟩, rfl⟩
  · have h1 := List.length_filter_le (ntB st) bl
    have h2 := hperm.length_eq
    have h3 := belD_len e hs hf
    rw [List.length_map] at h2
    omega
end Go.Proofs.YtnonfehmbabfhaaGreat
